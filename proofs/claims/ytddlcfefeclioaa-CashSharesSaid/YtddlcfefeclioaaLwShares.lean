/- Proved: shares are what the document's own function answers (CashShares), for any number and any parts that come in. -/
import Derived.Test.YtddlcfefeclioaaCsY
import Derived.Test.YtddlcfefeclioaaCsV
namespace Go.Proofs.Ytddlcfefeclioaa.cashShares
open Go.ChangeShapes Go.WideShapes Go.ChangeAt Go.WideElems Go.RowKit
open Go.Proofs.Ytddlcfefeclioaa.Cs

set_option maxHeartbeats 3200000 in
set_option maxRecDepth 100000 in
theorem walk (all : Int) (A : Option Addr) (n c : Nat) (zs : List Int) (w : World) (R : Ri w w.heap.size A n zs) (hn : n ≤ 9223372036854775807) :
    Calls Try.prog 5 #[.int .i64 all, .slice A n c] w fun e w' => e = .returned (.bool true) ∧ Below w.heap.size w w' := by
  by_cases h110 : 110 < n
  · have Q := Lib.hid (told_any w)
    clear R
    go_enter Try.func5, Try.ntmps5
    go_wp2_with fail
    refine Q.out.mono ?_
    rintro e w' ⟨rfl, hb⟩
    go_wp2
    go_ret
    exact ⟨rfl, hb⟩
  by_cases hM : May all zs
  · have C1 := Lib.hid (share_yes all A n c zs w R hM)
    have hl := Lib.hid R.len
    replace R := Lib.hid R
    replace hM := Lib.hid hM
    go_enter Try.func5, Try.ntmps5
    go_wp2_with fail
    refine C1.out.mono ?_
    rintro e w1 ⟨g1, c1, rfl, ho1, b1⟩
    have be1 : Hid (Below w.heap.size w w1) := b1
    have R1 : Hid (Ri w1 w1.heap.size (some ⟨g1, 0, none⟩) zs.length (lst zs.length (share all zs))) := ri_own ho1 (share_I hM.out _)
    have C2 := Lib.hid (rshare_yes all A n c zs w1 (ri_of R.out be1.out) hM.out)
    clear b1 ho1 C1
    go_wp2_with fail
    refine C2.out.mono ?_
    rintro e w2 ⟨g2, c2, rfl, ho2, b2⟩
    have be2 : Hid (Below w.heap.size w w2) := be1.out.trans (b2.mono be1.out.size)
    have R2 : Hid (Ri w2 w2.heap.size (some ⟨g2, 0, none⟩) zs.length (lst zs.length (share all zs))) := ri_own ho2 (share_I hM.out _)
    have R1' : Hid (Ri w2 w2.heap.size (some ⟨g1, 0, none⟩) zs.length (lst zs.length (share all zs))) := ri_of R1.out b2
    clear b2 ho2 C2 R1 be1
    have st : Hid (GoAt w2 zs.length (.int .i64 0) w2) := ⟨0, rfl, Nat.zero_le _, Below.refl _ _⟩
    have hm : Hid (zs.length ≤ 110) := by have := hl.out; show _ ≤ _; omega
    obtain ⟨m, hme⟩ : ∃ m, m = zs.length := ⟨_, rfl⟩
    rw [← hme] at R1' R2 st hm ⊢
    clear hme
    go_wp2_with fail
    go_loopw [9] (fun i wr => GoAt w2 m i wr) (fun i _ => m - (intOf i).toNat)
    case atStart => exact st.out
    case round =>
      obtain ⟨k, rfl, hk, hb⟩ := hrel
      replace hb := Lib.hid hb
      have hm2 := hm.out
      by_cases hlt : k < m
      · have q1 := ri_cell (ri_of R1'.out hb.out) hlt (lst_get hlt)
        have q2 := ri_cell (ri_of R2.out hb.out) hlt (lst_get hlt)
        obtain ⟨x, hx⟩ : ∃ x, x = share all zs k := ⟨_, rfl⟩
        rw [← hx] at q1 q2
        clear hx
        go_wp2_with fail
        go_quiet (fail)
        have nx : Hid (GoAt w2 m (.int .i64 ((k : Int) + 1)) (wr.drewN nq)) := ⟨k + 1, rfl, hlt, hb.out.trans (below_drewN wr nq hb.out.size)⟩
        go_wp2
        exact ⟨nx.out, by simp [intOf]; omega⟩
      · go_wp2_with fail
        refine (told_any wr).mono ?_
        rintro e w5 ⟨rfl, b5⟩
        have be5 : Hid (Below w.heap.size w w5) := be2.out.trans ((hb.out.mono be2.out.size).trans (b5.mono (Nat.le_trans be2.out.size hb.out.size)))
        clear b5
        go_wp2
        go_ret
        exact ⟨rfl, be5.out⟩
  · have C1 := Lib.hid (share_no all A n c zs w R hn hM)
    have C2 := Lib.hid (rshare_no all A n c zs w R (by omega) hM)
    have C3 := Lib.hid (told_any w)
    clear R hM
    go_enter Try.func5, Try.ntmps5
    go_wp2_with fail
    refine C1.out.mono ?_
    rintro e w' ⟨rfl, rfl⟩
    go_wp2_with fail
    refine C2.out.mono ?_
    rintro e w' ⟨rfl, rfl⟩
    go_wp2_with fail
    go_loop [9] (fun i => i = .int .i64 0) (fun _ => 0)
    case atStart => rfl
    case round =>
      subst hrel
      go_wp2_with fail
      refine C3.out.mono ?_
      rintro e w5 ⟨rfl, b5⟩
      go_wp2
      go_ret
      exact ⟨rfl, b5⟩

theorem walkd (a0 : Int) (_w0 : (Lit.int .i64 a0).wf = true) (v1 : Value) (a1 : List Int) {W : World} (w1 : Src W v1 a1) (W' : World) (hW : W' = W) :
    Calls Try.prog 5 #[.int .i64 a0, v1] W' fun e w' => e = .returned (.bool true) ∧ Below W'.heap.size W' w' := by
  subst hW
  obtain ⟨A, n, c, rfl, _, _, R⟩ := w1
  exact walk a0 A n c a1 _ R (by omega)

/-! The row: every input. -/
set_option linter.unusedVariables false
set_option maxRecDepth 100000 in
theorem lifted (os : Os) (started : os.Started) (H : Type) (enc : TypeId × Value → H) :
    ReturnsInHanded {} Try.checked os 5 .any (Rows.cashSharesSpec.pre6 enc Try.prog Try.f5 Rows.cashSharesRow.domain false) (Rows.cashSharesSpec.post enc Try.prog Try.f5 false true false false) := by
  refine returnsInHanded_of_change (C := Try.checked) own started (by kernel_rfl) Try.func5
    (ChangeSpec.witness6 (enc := enc) (C := Try.checked) false ⟨#[], #[.int .i64 0, .slice none 0 0], []⟩ 8 (by kernel_rfl) (by kernel_rfl) (by kernel_rfl) (by kernel_rfl)) ?_
  intro W base args ds gs before hval0 hW _ _
  have hval : ∀ (j : Nat) t v, Try.f5.params[j]? = some t → args[j]? = some v → Value.okWide Try.prog W .any base t v := hval0
  have hW' := hW
  obtain ⟨p, q, hA0, hV, rfl, hfz, hnd⟩ := hW
  have hA : DataW.TrodAll enc Try.prog W 0 (fun _ => true) true Try.f5.params.toList args.toList ds p := hA0
  rw [Try.params5] at hA hval
  obtain ⟨v0, vs0, d0, ds0, p0, q0, hargs, rfl, rfl, h0, r0⟩ := trodAll_cons hA
  obtain ⟨v1, vs1, d1, ds1, p1, q1, rfl, rfl, rfl, h1, r1⟩ := trodAll_cons r0
  obtain ⟨rfl, rfl, rfl⟩ := trodAll_nil r1
  obtain rfl : args = #[v0, v1] := by cases args; simp_all
  obtain ⟨rfl, rfl⟩ := trodVars_none hV
  obtain ⟨a0, rfl, rfl, rfl, w0⟩ := open_int Try.underlying2 (hval 0 2 v0 rfl rfl) h0
  obtain ⟨a1, w1⟩ := view_ints (hval 1 22 v1 rfl rfl) h1
  clear hA0 hval0
  simp only [List.append_nil] at hW'
  refine (walkd a0 w0 v1 a1 w1 W rfl).mono fun e W' ⟨he, hb⟩ => ?_
  subst he
  exact ⟨_, rfl, post_below (pa := [] ++ (p1 ++ [])) (pv := []) hW' (fun _ _ _ => (trodAll_cons_mk (shut_bool Try.underlying4 _) trodAll_mk0)) (fun sp hsp => (trodAll_cons_mk (shut_int Try.underlying2 w0) (trodAll_cons_mk (Trod_stays laidOut (by kernel_rfl) (of_decide_eq_true (by kernel_rfl)) h1 (fun x hx => hb.same (hW'.lt x (by simp [hx]))) (fun x hx => hsp x (by simp [hx]))) trodAll_mk0))) (fun _ _ => rfl) (by simp)
    hb (ok_one (by kernel_rfl) rfl (okWide_bool_mk Try.underlying4 _))⟩

theorem proved : Rows.CashSharesSaid :=
  OpenClaim.holds_of_wide 5 Try.f5 rfl rfl rfl rfl rfl rfl rfl ⟨rfl, rfl, rfl, rfl, rfl⟩ rfl rfl rfl rfl rfl (by kernel_rfl) Try.func5 (by kernel_rfl)
    (of_decide_eq_true (by kernel_rfl)) (by unfold Func.isWrapper; first | (rw [if_pos (by decide +kernel)]; kernel_rfl) | (rw [if_neg (by decide +kernel)]; exact ⟨rfl, rfl⟩))
    (fun os started H enc _ => lifted os started H enc)
#print axioms proved

end Go.Proofs.Ytddlcfefeclioaa.cashShares
