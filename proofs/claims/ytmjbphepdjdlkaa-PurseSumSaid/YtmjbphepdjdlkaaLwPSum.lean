/- Proved: all accounts together have what customers had, none is below nought, moves tell each balance (PurseSum), for any funds that may be, any operations. -/
import Derived.Test.YtmjbphepdjdlkaaLwPSum2
import Derived.JoinedRecord
import Derived.HandedShaped
namespace Go.Proofs.Ytmjbphepdjdlkaa.purseSum
set_option maxRecDepth 100000
open Go.ChangeShapes Go.WideShapes Go.ChangeAt Go.WideMaps Go.WideElems Go.RowKit
open Go.Sort (grow)
open Go.Proofs.Ytmjbphepdjdlkaa.Pk (Rb adr_block one_at one_free one_set lt_some grown_set grown_trans below_grown grown_refl u8s own_form)
open Go.Proofs.Ytmjbphepdjdlkaa.Pu
open Go.Proofs.Ytmjbphepdjdlkaa.Wt (Opn mayOp)


/-- Reserved, takings, and the first customers'. -/
def ps (p : S) : Nat → Int
  | 0 => p.a 4 + p.a 5
  | n + 1 => ps p n + p.a (n : Int)
theorem ps_bds {p : S} (h : Ok p) {n : Nat} (hn : n ≤ 4) : 0 ≤ ps p n ∧ ps p n ≤ 4398046511104 := by
  have b0 := h.bds (k := 0) (by omega) (by omega)
  have b1 := h.bds (k := 1) (by omega) (by omega)
  have b2 := h.bds (k := 2) (by omega) (by omega)
  have b3 := h.bds (k := 3) (by omega) (by omega)
  have b4 := h.bds (k := 4) (by omega) (by omega)
  have b5 := h.bds (k := 5) (by omega) (by omega)
  have s := h.sum
  rcases (by omega : n = 0 ∨ n = 1 ∨ n = 2 ∨ n = 3 ∨ n = 4) with rfl | rfl | rfl | rfl | rfl <;> (simp [ps]; omega)
theorem ps_4 (p : S) : ps p 4 = tot p := by simp [ps, tot]; omega
def SuAt (B : Nat) (w2 : World) (q : Nat) (f0 : Ac) (T : Int) (i : Value) (wr : World) : Prop := ∃ (j : Nat) (p : S), i = .int .i64 j ∧ j ≤ 80 ∧ Ow B (fun g => g < B) w2 wr q p ∧ His f0 p ∧ tot p = T
def PsAt (w : World) (p : S) (t i : Value) (wr : World) : Prop := ∃ c : Nat, i = .int .i64 c ∧ t = .int .i64 (ps p c) ∧ c ≤ 4 ∧ wr = w
set_option maxHeartbeats 6400000 in
theorem walk (w : World) (a b c d : Int) (hI : ∀ z ∈ [a, b, c, d], Cs.I z) (A : Option Addr) (n cc : Nat) (l : List Opn) (R : Ops w w.heap.size A n l) (hn : n ≤ 9223372036854775807) :
    Calls Try.prog 4 #[.agg #[.int .i64 a, .int .i64 b, .int .i64 c, .int .i64 d], .slice A n cc] w fun e w' => e = .returned (.bool true) ∧ Below w.heap.size w w' := by
  obtain ⟨fb, hfb⟩ : ∃ x, x = w.heap.size := ⟨_, rfl⟩
  obtain ⟨w1, hw1⟩ : ∃ x, x = w.alloc (.cells #[.int .i64 a, .int .i64 b, .int .i64 c, .int .i64 d] 22) := ⟨_, rfl⟩
  have B1 : Hid (Below w.heap.size w w1) := by rw [hw1]; exact (Below.refl _ _).alloc (Nat.le_refl _) _
  have G1 : Hid (w1.heap[fb]? = some (.cells (fcs a b c d) 22 (0, 0))) := by rw [hw1, hfb]; exact heap_alloc_new _ _
  have c0 : w1.cell? ⟨fb, 0, none⟩ = some (.int .i64 a) := one_at (i := 0) G1.out
  have c1 : w1.cell? ⟨fb, 1, none⟩ = some (.int .i64 b) := one_at (i := 1) G1.out
  have c2 : w1.cell? ⟨fb, 2, none⟩ = some (.int .i64 c) := one_at (i := 2) G1.out
  have c3 : w1.cell? ⟨fb, 3, none⟩ = some (.int .i64 d) := one_at (i := 3) G1.out
  have MF := Lib.hid (refMayFunds_any w1 a b c d)
  have hI' := Lib.hid hI
  replace hw1 := Lib.hid hw1
  replace hfb := Lib.hid hfb
  replace R := Lib.hid R
  clear hI
  cases hm : mayF a b c d with
  | false =>
    rw [hm] at MF
    clear hm
    go_enter Try.func4, Try.ntmps4
    go_upto_region 1 with fail
    rw [← hw1.out, ← hfb.out]
    go_wp2_with fail
    refine MF.out.mono ?_
    rintro e w2 ⟨rfl, hb2⟩
    have TA := Lib.hid (told_any w2)
    have B2 : Hid (Below w.heap.size w w2) := B1.out.trans (hb2.mono B1.out.size)
    clear MF hb2 c0 c1 c2 c3
    go_wp2_with fail
    refine TA.out.mono ?_
    rintro e w3 ⟨rfl, hb3⟩
    have B3 : Hid (Below w.heap.size w w3) := B2.out.trans (hb3.mono B2.out.size)
    clear TA hb3
    go_wp2
    go_ret
    exact ⟨rfl, B3.out⟩
  | true =>
    rw [hm] at MF
    have hm' := Lib.hid hm
    obtain ⟨ha, hb, hc, hd⟩ := mayF_iff.1 hm
    obtain ⟨a0, a1⟩ := ha
    obtain ⟨b0, b1⟩ := hb
    obtain ⟨e0, e1⟩ := hc
    obtain ⟨d0, d1⟩ := hd
    obtain ⟨T, hT⟩ : ∃ T, T = a + b + c + d := ⟨_, rfl⟩
    clear hm
    go_enter Try.func4, Try.ntmps4
    go_upto_region 1 with fail
    rw [← hw1.out, ← hfb.out]
    go_wp2_with fail
    refine MF.out.mono ?_
    rintro e w2 ⟨rfl, hb2⟩
    have B2 : Hid (Below w.heap.size w w2) := B1.out.trans (hb2.mono B1.out.size)
    have G2 : Hid (w2.heap[fb]? = some (.cells (fcs a b c d) 22 (0, 0))) := (hb2.block _ (lt_some G1.out)).trans G1.out
    have FB : Hid (∀ k : Nat, k ≤ 3 → w2.cell? ⟨fb, k, none⟩ = some (.int .i64 ((new a b c d).a (k : Int)))) := fun k hk => by
      rw [← fcs_at a b c d hk]
      exact one_at G2.out
    have fbx : Hid (fb < w2.heap.size) := lt_some G2.out
    clear MF hb2 c0 c1 c2 c3
    have c0 : w2.cell? ⟨fb, 0, none⟩ = some (.int .i64 a) := one_at (i := 0) G2.out
    have c1 : w2.cell? ⟨fb, 1, none⟩ = some (.int .i64 b) := one_at (i := 1) G2.out
    have c2 : w2.cell? ⟨fb, 2, none⟩ = some (.int .i64 c) := one_at (i := 2) G2.out
    have c3 : w2.cell? ⟨fb, 3, none⟩ = some (.int .i64 d) := one_at (i := 3) G2.out
    have N := Lib.hid (ow_new w2 a b c d hI'.out hm'.out)
    replace hT := Lib.hid hT
    go_wp2_with fail
    refine N.out.mono ?_
    rintro e w3 ⟨q, rfl, O⟩
    have g0 : w3.cell? ⟨fb, 0, none⟩ = some (.int .i64 a) := one_at (i := 0) ((O.be.block _ fbx.out).trans G2.out)
    have g1 : w3.cell? ⟨fb, 1, none⟩ = some (.int .i64 b) := one_at (i := 1) ((O.be.block _ fbx.out).trans G2.out)
    have g2 : w3.cell? ⟨fb, 2, none⟩ = some (.int .i64 c) := one_at (i := 2) ((O.be.block _ fbx.out).trans G2.out)
    have g3 : w3.cell? ⟨fb, 3, none⟩ = some (.int .i64 d) := one_at (i := 3) ((O.be.block _ fbx.out).trans G2.out)
    have st : Hid (SuAt w2.heap.size w2 q (new a b c d).a T (.int .i64 0) w3) := ⟨0, _, rfl, by omega, O, his_new hm'.out, by rw [hT.out]; show a + b + c + d + 0 + 0 = _; omega⟩
    clear N O c0 c1 c2 c3
    go_upto_region 7 with fail
    rw [← hT.out]
    clear g0 g1 g2 g3
    go_wp2_with fail
    clear a0 a1 b0 b1 e0 e1 d0 d1
    go_loopw [8] (fun i wr => SuAt w2.heap.size w2 q (new a b c d).a T i wr) (fun i _ => 80 - (intOf i).toNat)
    case atStart => exact st.out
    case round =>
      clear st
      obtain ⟨j, p, rfl, hj, O, H, hp⟩ := hrel
      by_cases hjn : j < n
      · by_cases h80 : j < 80
        · obtain ⟨s, hs⟩ : ∃ s, l[j]? = some s := ⟨_, List.getElem?_eq_getElem (by have := R.out.len; omega)⟩
          obtain ⟨ad, rfl, hab, hat⟩ := R.out.at_ (by omega)
          obtain ⟨x1, x2, x3, x4, x5⟩ := ((hat j s hs).same (B2.out.block _ hab)).same (O.be.block _ (Nat.lt_of_lt_of_le hab B2.out.size))
          have i1 : (j : Int) < 80 := by omega
          have D := Lib.hid (ow_do O s)
          unfold opv at D
          have H2 := Lib.hid (his_step H (dstp_ok O.ok s) (step_dstp O.ok s))
          have hp2 := (tot_step (step_dstp O.ok s)).trans hp
          replace hs := Lib.hid hs
          replace hat := Lib.hid hat
          obtain ⟨p2, hp2'⟩ : ∃ p2, p2 = (dstp p s).1 := ⟨_, rfl⟩
          rw [← hp2'] at H2 hp2 D
          replace hp2 := Lib.hid hp2
          clear O H hp hp2'
          go_wp2_with fail
          refine D.out.mono ?_
          rintro e w4 ⟨rfl, O2, _⟩
          have RE := ow_res O2
          have TK := ow_tak O2
          have nn4 := O2.ok.bds (k := 4) (by omega) (by omega)
          have nn5 := O2.ok.bds (k := 5) (by omega) (by omega)
          have p0 : Hid (ps p2 0 = p2.a 4 + p2.a 5) := rfl
          obtain ⟨r4, hr4⟩ : ∃ x, x = p2.a 4 := ⟨_, rfl⟩
          obtain ⟨r5, hr5⟩ : ∃ x, x = p2.a 5 := ⟨_, rfl⟩
          rw [← hr4] at RE nn4 p0
          rw [← hr5] at TK nn5 p0
          obtain ⟨n1, n2⟩ := nn4
          obtain ⟨n3, n4⟩ := nn5
          have st2 : Hid (PsAt w4 p2 (.int .i64 (r4 + r5)) (.int .i64 0) w4) := ⟨0, rfl, by rw [p0.out], by omega, rfl⟩
          have nx : Hid (SuAt w2.heap.size w2 q (new a b c d).a T (.int .i64 ((j + 1 : Nat) : Int)) w4) := ⟨j + 1, p2, rfl, by omega, O2, H2.out, hp2.out⟩
          have OK2 := Lib.hid O2.ok
          have BL : Hid (∀ k : Int, Calls Try.prog 19 #[.pointer (some ⟨q, 0, none⟩), .int .i64 k] w4 fun e w' => e = .returned (.int .i64 (bal p2 k)) ∧ w4 = w') := fun k => ow_bal O2 k
          clear D O2 hr4 hr5 x1 x2 x3 x4 x5
          go_wp2_with (first
            | (go_at_call 17; (with_reducible refine RE.mono ?_); rintro e w' ⟨rfl, rfl⟩)
            | (go_at_call 18; (with_reducible refine TK.mono ?_); rintro e w' ⟨rfl, rfl⟩))
          clear RE TK n1 n2 n3 n4 p0
          go_loopw [9, 10] (fun t i wr => PsAt w4 p2 t i wr) (fun _ i _ => 4 - (intOf i).toNat)
          case atStart => exact st2.out
          case round =>
            clear st2
            obtain ⟨k, rfl, rfl, hk, rfl⟩ := hrel
            obtain ⟨P0, P1⟩ := ps_bds OK2.out hk
            by_cases h4 : k < 4
            · have BA := BL.out (k : Int)
              rw [show bal p2 (k : Int) = p2.a (k : Int) from if_pos (by omega)] at BA
              obtain ⟨y0, y1⟩ := OK2.out.bds (k := (k : Int)) (by omega) (by omega)
              obtain ⟨y, hy⟩ : ∃ y, y = p2.a (k : Int) := ⟨_, rfl⟩
              obtain ⟨P, hP⟩ : ∃ P, P = ps p2 k := ⟨_, rfl⟩
              rw [← hy] at BA y0 y1
              rw [← hP] at P0 P1 ⊢
              have nx2 : Hid (PsAt wr p2 (.int .i64 (P + y)) (.int .i64 ((k + 1 : Nat) : Int)) wr) := ⟨k + 1, rfl, by rw [hP, hy]; rfl, by omega, rfl⟩
              have i1' : (k : Int) < 4 := by omega
              have i0' : (0 : Int) ≤ (k : Int) := by omega
              clear hy hP
              go_wp2_with (go_at_call 19; (with_reducible refine BA.mono ?_); rintro e w' ⟨rfl, rfl⟩)
              exact ⟨nx2.out, by simp [intOf]; omega⟩
            · obtain rfl : k = 4 := by omega
              have e4 := (ps_4 p2).trans hp2.out
              rw [e4]
              clear e4 P0 P1
              go_wp2
              exact ⟨nx.out, by simp [intOf]; omega⟩
        · have i1 : ¬ (j : Int) < 80 := by omega
          rename_i K1 h1
          replace h1 := Lib.hid h1
          replace O := Lib.hid O
          replace H := Lib.hid H
          clear hp
          go_wp2
          exact h1.out _ _ (part _ _ _ _ _ _ _ _ _ _ _ _ _ _ _ _ _ _ _ _ _ _ _ _ _ _ _ _ _ _ _ _ _ _ _ _ _ _ _ _ _ _ _ _ _ _ _ _ _ _ _ _ _ _ _ _ _ _ _ _ _ _ _ _ _ _ _ _ _ _ _ _ _ _ _ _ _ _ _ _ _ _ _ _ _ _ _ _ _ _ _ _ _ _ _ _ _ _ _ _ _ _ _ _ _ _ _ _ _ _ _ _ _ _ _ _ _ _ _ _ _ _ _ _ _ _ _ _ _ _ _ _ _ _ _ _ _ _ _ _ _ _ _ _ _ _ _ _ _ _ _ _ _ _ _ _ _ _ _ _ _ _ _ _ _ _ _ _ _ _ _ _ _ _ _ _ _ _ _ _ _ _ _ _ _ _ _ _ _ _ _ _ _ _ _ _ _ _ _ _ _ _ _ _ _ _ _ _ _ _ _ _ _ _ _ _ _ w w2 wr fb q a b c d p O.out H.out fbx.out FB.out B2.out)
      · have i1 : ¬ (j : Int) < (n : Int) := by omega
        rename_i K1 h1
        replace h1 := Lib.hid h1
        replace O := Lib.hid O
        replace H := Lib.hid H
        clear hp
        go_wp2
        exact h1.out _ _ (part _ _ _ _ _ _ _ _ _ _ _ _ _ _ _ _ _ _ _ _ _ _ _ _ _ _ _ _ _ _ _ _ _ _ _ _ _ _ _ _ _ _ _ _ _ _ _ _ _ _ _ _ _ _ _ _ _ _ _ _ _ _ _ _ _ _ _ _ _ _ _ _ _ _ _ _ _ _ _ _ _ _ _ _ _ _ _ _ _ _ _ _ _ _ _ _ _ _ _ _ _ _ _ _ _ _ _ _ _ _ _ _ _ _ _ _ _ _ _ _ _ _ _ _ _ _ _ _ _ _ _ _ _ _ _ _ _ _ _ _ _ _ _ _ _ _ _ _ _ _ _ _ _ _ _ _ _ _ _ _ _ _ _ _ _ _ _ _ _ _ _ _ _ _ _ _ _ _ _ _ _ _ _ _ _ _ _ _ _ _ _ _ _ _ _ _ _ _ _ _ _ _ _ _ _ _ _ _ _ _ _ _ _ _ _ _ _ w w2 wr fb q a b c d p O.out H.out fbx.out FB.out B2.out)
theorem walkd (x : Four) (hI : ∀ z ∈ [x.a, x.b, x.c, x.d], Cs.I z) (v1 : Value) (a1 : List Opn) {W : World} (w1 : Osrc W v1 a1) (W' : World) (hW : W' = W) :
    Calls Try.prog 4 #[x.v, v1] W' fun e w' => e = .returned (.bool true) ∧ Below W'.heap.size W' w' := by
  subst hW
  obtain ⟨A, n, c, rfl, h1, h2, R⟩ := w1
  exact walk W' x.a x.b x.c x.d hI A n c a1 R (by omega)


/-! The row: every input. -/
set_option linter.unusedVariables false
set_option maxRecDepth 100000 in
theorem lifted (os : Os) (started : os.Started) (H : Type) (enc : TypeId × Value → H) :
    ReturnsInHanded {} Try.checked os 4 .any (Rows.purseSumSpec.pre6 enc Try.prog Try.f4 Rows.purseSumRow.domain false) (Rows.purseSumSpec.post enc Try.prog Try.f4 false true false false) := by
  refine returnsInHanded_of_change (C := Try.checked) own started (by kernel_rfl) Try.func4
    (ChangeSpec.witness6 (enc := enc) (C := Try.checked) false ⟨#[], #[.agg #[.int .i64 0, .int .i64 0, .int .i64 0, .int .i64 0], .slice none 0 0], []⟩ 8 (by kernel_rfl) (by kernel_rfl) (by kernel_rfl) (by kernel_rfl)) ?_
  intro W base args ds gs before hval0 hW _ _
  have hval : ∀ (j : Nat) t v, Try.f4.params[j]? = some t → args[j]? = some v → Value.okWide Try.prog W .any base t v := hval0
  have hW' := hW
  obtain ⟨p, q, hA0, hV, rfl, hfz, hnd⟩ := hW
  have hA : DataW.TrodAll enc Try.prog W 0 (fun _ => true) true Try.f4.params.toList args.toList ds p := hA0
  rw [Try.params4] at hA hval
  obtain ⟨v0, vs0, d0, ds0, p0, q0, hargs, rfl, rfl, h0, r0⟩ := trodAll_cons hA
  obtain ⟨v1, vs1, d1, ds1, p1, q1, rfl, rfl, rfl, h1, r1⟩ := trodAll_cons r0
  obtain ⟨rfl, rfl, rfl⟩ := trodAll_nil r1
  obtain rfl : args = #[v0, v1] := by cases args; simp_all
  obtain ⟨rfl, rfl⟩ := trodVars_none hV
  obtain ⟨x0, rfl, w0⟩ := view_four (hval 0 22 v0 rfl rfl) h0
  obtain ⟨a1, w1⟩ := view_aops (hval 1 23 v1 rfl rfl) h1
  clear hA0 hval0
  simp only [List.append_nil] at hW'
  refine (walkd x0 w0 v1 a1 w1 W rfl).mono fun e W' ⟨he, hb⟩ => ?_
  subst he
  exact ⟨_, rfl, post_below (pa := p0 ++ (p1 ++ [])) (pv := []) hW' (fun _ _ _ => (trodAll_cons_mk (shut_bool Try.underlying4 _) trodAll_mk0)) (fun sp hsp => (trodAll_cons_mk (Trod_stays laidOut (by kernel_rfl) (of_decide_eq_true (by kernel_rfl)) h0 (fun x hx => hb.same (hW'.lt x (by simp [hx]))) (fun x hx => hsp x (by simp [hx]))) (trodAll_cons_mk (Trod_stays laidOut (by kernel_rfl) (of_decide_eq_true (by kernel_rfl)) h1 (fun x hx => hb.same (hW'.lt x (by simp [hx]))) (fun x hx => hsp x (by simp [hx]))) trodAll_mk0))) (fun _ _ => rfl) (by simp)
    hb (ok_one (by kernel_rfl) rfl (okWide_bool_mk Try.underlying4 _))⟩

theorem proved : Rows.PurseSumSaid :=
  OpenClaim.holds_of_wide 4 Try.f4 rfl rfl rfl rfl rfl rfl rfl ⟨rfl, rfl, rfl, rfl, rfl⟩ rfl rfl rfl rfl rfl (by kernel_rfl) Try.func4 (by kernel_rfl)
    (of_decide_eq_true (by kernel_rfl)) (by unfold Func.isWrapper; first | (rw [if_pos (by decide +kernel)]; kernel_rfl) | (rw [if_neg (by decide +kernel)]; exact ⟨rfl, rfl⟩))
    (fun os started H enc _ => lifted os started H enc)
#print axioms proved

end Go.Proofs.Ytmjbphepdjdlkaa.purseSum
