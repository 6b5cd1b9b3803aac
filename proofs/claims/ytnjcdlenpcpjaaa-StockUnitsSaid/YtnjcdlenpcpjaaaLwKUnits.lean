/- Proved: free, held and confirmed units are all there are, and none is below nought (StockUnits), for any inventory, any steps. -/
import Derived.Test.YtnjcdlenpcpjaaaStS
import Derived.JoinedRecord
import Derived.HandedShaped
namespace Go.Proofs.Ytnjcdlenpcpjaaa.stockUnits
set_option maxRecDepth 100000
open Go.ChangeShapes Go.WideShapes Go.ChangeAt Go.WideMaps Go.WideElems Go.RowKit
open Go.Sort (grow)
open Go.Proofs.Ytnjcdlenpcpjaaa.Pk (Rb adr_block one_at one_free one_set lt_some grown_set grown_trans below_grown grown_refl u8s own_form)
open Go.Proofs.Ytnjcdlenpcpjaaa.St
open Go.Proofs.Ytnjcdlenpcpjaaa.Wt (Opn mayOp)


def UnAt (W : World) (q : Nat) (cap over : Int) (vn i : Value) (wr : World) : Prop := ∃ (j : Nat) (nw : Int) (f : F), i = .int .i64 j ∧ vn = .int .i64 nw ∧ j ≤ 80 ∧ 0 ≤ nw ∧ nw ≤ 40 * j ∧ Ow W.heap.size (fun g => g < W.heap.size) W wr q cap over f
def UmAt (W : World) (q : Nat) (cap over : Int) (f : F) (v1 v2 i : Value) (wr : World) : Prop := ∃ k : Nat, i = .int .i64 ((k : Int) + 1) ∧ k ≤ 12 ∧ v1 = .int .i64 (St.part (fun x => St.hu 1 (f x)) k) ∧ v2 = .int .i64 (St.part (fun x => St.hu 2 (f x)) k) ∧ Ow W.heap.size (fun g => g < W.heap.size) W wr q cap over f
theorem part_bds {cap over : Int} {f : F} (O : Ok cap over f) (k : Nat) (hk : k ≤ 200) (s : Int) (hs : s = 1 ∨ s = 2) : 0 ≤ St.part (fun x => St.hu s (f x)) k ∧ St.part (fun x => St.hu s (f x)) k ≤ uni s f ∧ uni s f ≤ 2000000 := by
  have h0 : ∀ x, 0 ≤ St.hu s (f x) := fun x => ((O.shp x).hu0 (s := s)).1
  refine ⟨part_nonneg h0 k, part_mono h0 hk, ?_⟩
  have := O.bds
  rcases hs with rfl | rfl <;> omega
set_option maxHeartbeats 6400000 in
theorem walk (w : World) (cap over : Int) (A : Option Addr) (n c : Nat) (l : List Stp) (R : Ops w w.heap.size A n l) (hn : n ≤ 9223372036854775807) :
    Calls Try.prog 5 #[.agg #[.int .i64 cap, .int .i64 over], .slice A n c] w fun e w' => e = .returned (.bool true) ∧ Below w.heap.size w w' := by
  obtain ⟨W0, hW0⟩ : ∃ W, W = w.alloc (.cells #[.int .i64 cap, .int .i64 over] 27) := ⟨_, rfl⟩
  have B0 : Hid (Below w.heap.size w W0) := by rw [hW0]; exact (Below.refl _ _).alloc (Nat.le_refl _) _
  have h0 : Hid (W0.heap[w.heap.size]? = some (.cells #[.int .i64 cap, .int .i64 over] 27 (0, 0))) := by rw [hW0]; exact heap_alloc_new _ _
  have MS := Lib.hid (refMayStock_any W0 cap over)
  replace hW0 := Lib.hid hW0
  replace R := Lib.hid R
  cases hms : mayS cap over with
  | false =>
    rw [hms] at MS
    clear hms
    go_enter Try.func5, Try.ntmps5
    go_wp2_with fail
    rw [← hW0.out]
    refine MS.out.mono ?_
    rintro e w1 ⟨rfl, b1⟩
    have B1 : Hid (Below w.heap.size w w1) := B0.out.trans (b1.mono B0.out.size)
    have TA := Lib.hid (told_any w1)
    clear MS b1
    go_wp2_with fail
    refine TA.out.mono ?_
    rintro e w2 ⟨rfl, b2⟩
    have B2 : Hid (Below w.heap.size w w2) := B1.out.trans (b2.mono B1.out.size)
    clear TA b2
    go_wp2
    go_ret
    exact ⟨rfl, B2.out⟩
  | true =>
    rw [hms] at MS
    obtain ⟨⟨ca0, ca1⟩, ov0, ov1⟩ := mayS_iff.1 hms
    go_enter Try.func5, Try.ntmps5
    go_wp2_with fail
    rw [← hW0.out]
    refine MS.out.mono ?_
    rintro e W ⟨rfl, b1⟩
    have BW : Hid (Below w.heap.size w W) := B0.out.trans (b1.mono B0.out.size)
    have hP : Hid (W.heap[w.heap.size]? = some (.cells #[.int .i64 cap, .int .i64 over] 27 (0, 0))) := (b1.block _ (lt_some h0.out)).trans h0.out
    have N := Lib.hid (ow_new W cap over hms)
    have HC : Hid (∀ w', Below W.heap.size W w' → w'.cell? ⟨w.heap.size, 0, none⟩ = some (.int .i64 cap) ∧ w'.cell? ⟨w.heap.size, 1, none⟩ = some (.int .i64 over)) := fun w' hb =>
      ⟨one_at (i := 0) ((hb.block _ (lt_some hP.out)).trans hP.out), one_at (i := 1) ((hb.block _ (lt_some hP.out)).trans hP.out)⟩
    obtain ⟨p0, p1⟩ := HC.out W (Below.refl _ _)
    obtain ⟨co, hco⟩ : ∃ x, x = cap + over := ⟨_, rfl⟩
    have eco : IntKind.i64.wrap (cap + over) = co := by rw [IntKind.wrap_i64]; omega
    replace hco := Lib.hid hco
    clear MS b1 hms hW0 B0 h0
    go_wp2_with fail
    refine N.out.mono ?_
    rintro e w1 ⟨q, rfl, O1⟩
    have st : Hid (UnAt W q cap over (.int .i64 0) (.int .i64 0) w1) := ⟨0, 0, fz, rfl, rfl, by omega, by omega, by omega, O1⟩
    clear N O1 p0 p1
    go_wp2_with fail
    go_loopw [7, 8] (fun vn i wr => UnAt W q cap over vn i wr) (fun _ i _ => 80 - (intOf i).toNat)
    case atStart => exact st.out
    case round =>
      clear st
      obtain ⟨j, nw, f, rfl, rfl, hj, n0, n1, O⟩ := hrel
      by_cases hjn : j < n
      · by_cases h80 : j < 80
        · obtain ⟨s, hs⟩ : ∃ s, l[j]? = some s := ⟨_, List.getElem?_eq_getElem (by have := R.out.len; omega)⟩
          obtain ⟨ad, rfl, hab, hat⟩ := R.out.at_ (by omega)
          have bw : Below w.heap.size w wr := BW.out.trans (O.be.mono BW.out.size)
          obtain ⟨c0, c1, c2, c3, c4, c5, c6, c7, c8⟩ := (hat j s hs).same (bw.block _ hab)
          have i1 : (j : Int) < 80 := by omega
          obtain ⟨d', hd'⟩ : ∃ k, k = usm s.d 40 := ⟨_, rfl⟩
          have d1' : d' < 40 := by rw [hd']; exact usm_lt _ (by omega)
          have uz : wrap64 ((IntKind.u64.wrap s.d).tmod 40) = (d' : Int) := by rw [hd']; exact usm_slot s.d (n := 40) (by omega) (by omega)
          obtain ⟨nw2, hnw⟩ : ∃ x : Int, x = nw + (d' : Int) := ⟨_, rfl⟩
          have m0 : 0 ≤ nw2 := by omega
          have m1 : nw2 ≤ 40 * ((j + 1 : Nat) : Int) := by omega
          replace hs := Lib.hid hs
          replace hat := Lib.hid hat
          replace hd' := Lib.hid hd'
          obtain ⟨W5, hW5⟩ : ∃ X, X = wr.alloc (.cells #[.int .i64 s.kind, .int .i64 s.o.kind, .int .i64 s.o.book, .int .i64 s.o.units, .int .i64 s.o.cust, .int .i64 s.o.amount, .int .i64 s.d, .int .i64 s.now, .bool s.raw] 32) := ⟨_, rfl⟩
          have b5 : Below wr.heap.size wr W5 := by rw [hW5]; exact (Below.refl _ _).alloc (Nat.le_refl _) _
          have h5 : Hid (W5.heap[wr.heap.size]? = some (.cells #[.int .i64 s.kind, .int .i64 s.o.kind, .int .i64 s.o.book, .int .i64 s.o.units, .int .i64 s.o.cust, .int .i64 s.o.amount, .int .i64 s.d, .int .i64 s.now, .bool s.raw] 32 (0, 0))) := by rw [hW5]; exact heap_alloc_new _ _
          have O5 := O.below b5
          have SW := Lib.hid (ow_sweep O5 nw2)
          have DO := Lib.hid (ow_do O5 s.o nw2)
          unfold opv at DO
          clear O O5 b5 bw hs hat
          go_upto_region 12 with fail
          rw [uz, ← hnw]
          clear uz
          replace hnw := Lib.hid hnw
          go_upto_if 55 with fail
          replace hW5 := Lib.hid hW5
          rw [← hW5.out]
          go_cut [7] from 54 to 63 (fun s7 wx => s7 = .int .i64 nw2 ∧ ∃ f', Ow W.heap.size (fun g => g < W.heap.size) W wx q cap over f')
          case first =>
            by_cases hk : s.kind = 1
            · have gk : (s.kind == 1) = true := by simpa using hk
              clear hk
              go_wp2_with fail
              refine SW.out.mono ?_
              rintro e w6 ⟨v, rfl, hr, O6, _⟩
              replace O6 := Lib.hid O6
              clear SW hr DO
              go_wp2
              go_meet
              case rel => exact ⟨rfl, _, O6.out⟩
            · have gk : (s.kind == 1) = false := by simpa using hk
              have d1 : W5.cell? ⟨wr.heap.size, 1, none⟩ = some (.int .i64 s.o.kind) := one_at (i := 1) h5.out
              have d2 : W5.cell? ⟨wr.heap.size, 2, none⟩ = some (.int .i64 s.o.book) := one_at (i := 2) h5.out
              have d3 : W5.cell? ⟨wr.heap.size, 3, none⟩ = some (.int .i64 s.o.units) := one_at (i := 3) h5.out
              have d4 : W5.cell? ⟨wr.heap.size, 4, none⟩ = some (.int .i64 s.o.cust) := one_at (i := 4) h5.out
              have d5 : W5.cell? ⟨wr.heap.size, 5, none⟩ = some (.int .i64 s.o.amount) := one_at (i := 5) h5.out
              clear hk
              go_wp2_with fail
              refine DO.out.mono ?_
              rintro e w6 ⟨rfl, O6, _⟩
              replace O6 := Lib.hid O6
              clear SW DO
              go_wp2
              go_meet
              case rel => exact ⟨rfl, _, O6.out⟩
          case rest =>
            obtain ⟨rfl, f', O6⟩ := hcut
            clear SW DO c0 c1 c2 c3 c4 c5 c6 c7 c8 hW5 h5
            have bd := O6.ok.bds
            have rdef : room cap over f' = co - uni 1 f' - uni 2 f' := by rw [hco.out]; rfl
            obtain ⟨rm, hrm⟩ : ∃ x, x = room cap over f' := ⟨_, rfl⟩
            obtain ⟨h1, hh1⟩ : ∃ x, x = uni 1 f' := ⟨_, rfl⟩
            obtain ⟨h2, hh2⟩ : ∃ x, x = uni 2 f' := ⟨_, rfl⟩
            have FR := ow_free O6
            rw [← hrm] at FR rdef bd
            rw [← hh1, ← hh2] at rdef bd
            obtain ⟨y0, y1, y2, y3, y4, y5⟩ := bd
            replace FR := Lib.hid FR
            replace O6 := Lib.hid O6
            replace hrm := Lib.hid hrm
            replace hh1 := Lib.hid hh1
            replace hh2 := Lib.hid hh2
            replace rdef := Lib.hid rdef
            go_wp2_with fail
            refine FR.out.mono ?_
            rintro e w7 ⟨rfl, b7⟩
            have O7 := Lib.hid (O6.out.below b7)
            have HE := ow_held O7.out
            rw [← hh1.out] at HE
            replace HE := Lib.hid HE
            clear FR b7 O6
            go_wp2_with fail
            refine HE.out.mono ?_
            rintro e w8 ⟨rfl, b8⟩
            have O8 := Lib.hid (O7.out.below b8)
            have CO := ow_conf O8.out
            rw [← hh2.out] at CO
            replace CO := Lib.hid CO
            clear HE b8 O7
            go_wp2_with fail
            refine CO.out.mono ?_
            rintro e w9 ⟨rfl, b9⟩
            have O9 := Lib.hid (O8.out.below b9)
            obtain ⟨p0, p1⟩ := HC.out w9 O9.out.be
            obtain ⟨s1, hs1⟩ : ∃ x, x = rm + h1 := ⟨_, rfl⟩
            have es1 : IntKind.i64.wrap (rm + h1) = s1 := by have := rdef.out; rw [IntKind.wrap_i64]; omega
            have es2 : IntKind.i64.wrap (s1 + h2) = co := by have := rdef.out; have := hco.out; rw [IntKind.wrap_i64]; omega
            have q1 : decide (rm < 0) = false := decide_eq_false (by omega)
            have q2 : decide (h1 < 0) = false := decide_eq_false (by omega)
            have q3 : decide (h2 < 0) = false := decide_eq_false (by omega)
            have q4 : (co != co) = false := by simp
            have st2 : Hid (UmAt W q cap over f' (.int .i64 0) (.int .i64 0) (.int .i64 1) w9) := ⟨0, rfl, by omega, rfl, rfl, O9.out⟩
            replace hs1 := Lib.hid hs1
            clear CO b9 O8 O9
            go_wp2_with fail
            go_loopw [13, 14, 15] (fun v1 v2 i wr => UmAt W q cap over f' v1 v2 i wr) (fun _ _ i _ => 13 - (intOf i).toNat)
            case atStart => exact st2.out
            case round =>
              clear st2 p0 p1
              obtain ⟨k, rfl, hk, rfl, rfl, O⟩ := hrel
              obtain ⟨A1, hA1⟩ : ∃ x, x = St.part (fun x => St.hu 1 (f' x)) k := ⟨_, rfl⟩
              obtain ⟨A2, hA2⟩ : ∃ x, x = St.part (fun x => St.hu 2 (f' x)) k := ⟨_, rfl⟩
              have P1 := part_bds O.ok k (by omega) 1 (.inl rfl)
              have P2 := part_bds O.ok k (by omega) 2 (.inr rfl)
              rw [← hA1, ← hh1.out] at P1
              rw [← hA2, ← hh2.out] at P2
              rw [← hA1, ← hA2]
              obtain ⟨u0, u1, -⟩ := P1
              obtain ⟨v0, v1, -⟩ := P2
              by_cases hk12 : k < 12
              · have i2 : (k : Int) + 1 ≤ 12 := by omega
                have EN := ow_entry O ((k : Int) + 1) ⟨by omega, by omega⟩
                have hsh := (O.ok.shp ((k : Int) + 1)).bds
                obtain ⟨e1, he1⟩ : ∃ x, x = (f' ((k : Int) + 1)).st := ⟨_, rfl⟩
                obtain ⟨e2, he2⟩ : ∃ x, x = (f' ((k : Int) + 1)).un := ⟨_, rfl⟩
                obtain ⟨e3, he3⟩ : ∃ x, x = (f' ((k : Int) + 1)).ut := ⟨_, rfl⟩
                unfold cell at EN
                rw [← he1, ← he2, ← he3] at EN
                rw [← he2] at hsh
                obtain ⟨-, -, x0, x1, -, -⟩ := hsh
                have s1' : Hid (St.part (fun x => St.hu 1 (f' x)) (k + 1) = A1 + if e1 = 1 then e2 else 0) := by show _ = _; rw [hA1, he1, he2]; rfl
                have s2' : Hid (St.part (fun x => St.hu 2 (f' x)) (k + 1) = A2 + if e1 = 2 then e2 else 0) := by show _ = _; rw [hA2, he1, he2]; rfl
                replace EN := Lib.hid EN
                replace O := Lib.hid O
                replace hA1 := Lib.hid hA1
                replace hA2 := Lib.hid hA2
                clear he1 he2 he3
                go_wp2_with fail
                refine EN.out.mono ?_
                rintro e w10 ⟨rfl, b10⟩
                have O10 : Hid (∀ o, Ow W.heap.size (fun g => g < W.heap.size) W (w10.alloc o) q cap over f') := fun o => (O.out.below b10).below ((Below.refl _ _).alloc (Nat.le_refl _) _)
                clear EN b10 O
                by_cases g1 : e1 = 1
                · have nx : Hid (∀ o, UmAt W q cap over f' (.int .i64 (A1 + e2)) (.int .i64 A2) (.int .i64 (((k + 1 : Nat) : Int) + 1)) (w10.alloc o)) := fun o => ⟨k + 1, rfl, by omega, by rw [s1'.out, if_pos g1], by rw [s2'.out, if_neg (by omega), Int.add_zero], O10.out o⟩
                  subst g1
                  go_wp2
                  exact ⟨nx.out _, by simp [intOf]; omega⟩
                · have gb1 : (e1 == 1) = false := by simpa using g1
                  by_cases g2 : e1 = 2
                  · have nx : Hid (∀ o, UmAt W q cap over f' (.int .i64 A1) (.int .i64 (A2 + e2)) (.int .i64 (((k + 1 : Nat) : Int) + 1)) (w10.alloc o)) := fun o => ⟨k + 1, rfl, by omega, by rw [s1'.out, if_neg g1, Int.add_zero], by rw [s2'.out, if_pos g2], O10.out o⟩
                    subst g2
                    clear gb1 g1
                    go_wp2
                    exact ⟨nx.out _, by simp [intOf]; omega⟩
                  · have gb2 : (e1 == 2) = false := by simpa using g2
                    have nx : Hid (∀ o, UmAt W q cap over f' (.int .i64 A1) (.int .i64 A2) (.int .i64 (((k + 1 : Nat) : Int) + 1)) (w10.alloc o)) := fun o => ⟨k + 1, rfl, by omega, by rw [s1'.out, if_neg g1, Int.add_zero], by rw [s2'.out, if_neg g2, Int.add_zero], O10.out o⟩
                    clear g1 g2
                    go_wp2
                    exact ⟨nx.out _, by simp [intOf]; omega⟩
              · have i2 : ¬ (k : Int) + 1 ≤ 12 := by omega
                have r1 : decide (h1 < A1) = false := decide_eq_false (by omega)
                have r2 : decide (h2 < A2) = false := decide_eq_false (by omega)
                have nx : Hid (UnAt W q cap over (.int .i64 nw2) (.int .i64 ((j + 1 : Nat) : Int)) wr) := ⟨j + 1, nw2, f', rfl, rfl, by omega, m0, m1, O⟩
                clear O
                go_wp2
                exact ⟨nx.out, by simp [intOf]; omega⟩
        · have i1 : ¬ (j : Int) < 80 := by omega
          have TA := Lib.hid (told_any wr)
          replace O := Lib.hid O
          go_wp2_with fail
          refine TA.out.mono ?_
          rintro e w8 ⟨rfl, b8⟩
          have E : Hid (Below w.heap.size w w8) := BW.out.trans (((O.out.below b8).be).mono BW.out.size)
          clear TA b8 O
          go_wp2
          go_ret
          exact ⟨rfl, E.out⟩
      · have i1 : ¬ (j : Int) < (n : Int) := by omega
        have TA := Lib.hid (told_any wr)
        replace O := Lib.hid O
        go_wp2_with fail
        refine TA.out.mono ?_
        rintro e w8 ⟨rfl, b8⟩
        have E : Hid (Below w.heap.size w w8) := BW.out.trans (((O.out.below b8).be).mono BW.out.size)
        clear TA b8 O
        go_wp2
        go_ret
        exact ⟨rfl, E.out⟩
theorem walkd (x0 : Int × Int) (v1 : Value) (a1 : List Stp) {W : World} (w1 : Osrc W v1 a1) (W' : World) (hW : W' = W) :
    Calls Try.prog 5 #[.agg #[.int .i64 x0.1, .int .i64 x0.2], v1] W' fun e w' => e = .returned (.bool true) ∧ Below W'.heap.size W' w' := by
  subst hW
  obtain ⟨A, n, c, rfl, h1, h2, R⟩ := w1
  exact walk W' x0.1 x0.2 A n c a1 R (by omega)


/-! The row: every input. -/
set_option linter.unusedVariables false
set_option maxRecDepth 100000 in
theorem lifted (os : Os) (started : os.Started) (H : Type) (enc : TypeId × Value → H) :
    ReturnsInHanded {} Try.checked os 5 .any (Rows.stockUnitsSpec.pre6 enc Try.prog Try.f5 Rows.stockUnitsRow.domain false) (Rows.stockUnitsSpec.post enc Try.prog Try.f5 false true false false) := by
  refine returnsInHanded_of_change (C := Try.checked) own started (by kernel_rfl) Try.func5
    (ChangeSpec.witness6 (enc := enc) (C := Try.checked) false ⟨#[], #[.agg #[.int .i64 0, .int .i64 0], .slice none 0 0], []⟩ 8 (by kernel_rfl) (by kernel_rfl) (by kernel_rfl) (by kernel_rfl)) ?_
  intro W base args ds gs before hval0 hW _ _
  have hval : ∀ (j : Nat) t v, Try.f5.params[j]? = some t → args[j]? = some v → Value.okWide Try.prog W .any base t v := hval0
  have hW' := hW
  obtain ⟨p, q, hA0, hV, rfl, hfz, hnd⟩ := hW
  have hA : DataW.TrodAll enc Try.prog W 0 (fun _ => true) true Try.f5.params.toList args.toList ds p := hA0
  rw [Try.params5] at hA hval
  obtain ⟨v0, vs0, d0, ds0, p0, q0, hargs, rfl, rfl, h0, r0⟩ := trodAll_cons hA
  obtain ⟨v1, vs1, d1, ds1, p1, q1, rfl, rfl, rfl, h1, r1⟩ := trodAll_cons r0
  obtain ⟨rfl, rfl, rfl⟩ := trodAll_nil r1
  obtain rfl : args = #[v0, v1] := by cases args; simp_all
  obtain ⟨rfl, rfl⟩ := trodVars_none hV
  obtain ⟨x0, rfl⟩ := view_stock (hval 0 27 v0 rfl rfl) h0
  obtain ⟨a1, w1⟩ := view_sops (hval 1 22 v1 rfl rfl) h1
  clear hA0 hval0
  simp only [List.append_nil] at hW'
  refine (walkd x0 v1 a1 w1 W rfl).mono fun e W' ⟨he, hb⟩ => ?_
  subst he
  exact ⟨_, rfl, post_below (pa := p0 ++ (p1 ++ [])) (pv := []) hW' (fun _ _ _ => (trodAll_cons_mk (shut_bool Try.underlying4 _) trodAll_mk0)) (fun sp hsp => (trodAll_cons_mk (Trod_stays laidOut (by kernel_rfl) (of_decide_eq_true (by kernel_rfl)) h0 (fun x hx => hb.same (hW'.lt x (by simp [hx]))) (fun x hx => hsp x (by simp [hx]))) (trodAll_cons_mk (Trod_stays laidOut (by kernel_rfl) (of_decide_eq_true (by kernel_rfl)) h1 (fun x hx => hb.same (hW'.lt x (by simp [hx]))) (fun x hx => hsp x (by simp [hx]))) trodAll_mk0))) (fun _ _ => rfl) (by simp)
    hb (ok_one (by kernel_rfl) rfl (okWide_bool_mk Try.underlying4 _))⟩

theorem proved : Rows.StockUnitsSaid :=
  OpenClaim.holds_of_wide 5 Try.f5 rfl rfl rfl rfl rfl rfl rfl ⟨rfl, rfl, rfl, rfl, rfl⟩ rfl rfl rfl rfl rfl (by kernel_rfl) Try.func5 (by kernel_rfl)
    (of_decide_eq_true (by kernel_rfl)) (by unfold Func.isWrapper; first | (rw [if_pos (by decide +kernel)]; kernel_rfl) | (rw [if_neg (by decide +kernel)]; exact ⟨rfl, rfl⟩))
    (fun os started H enc _ => lifted os started H enc)
#print axioms proved

end Go.Proofs.Ytnjcdlenpcpjaaa.stockUnits
