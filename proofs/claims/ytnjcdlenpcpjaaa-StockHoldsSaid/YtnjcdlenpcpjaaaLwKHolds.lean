/- Proved: a hold can be confirmed as long as it lasts, not behind that, and what is confirmed lasts for good (StockHolds), for any time, any later one. -/
import Derived.Test.YtnjcdlenpcpjaaaStP
import Derived.JoinedRecord
import Derived.HandedShaped
namespace Go.Proofs.Ytnjcdlenpcpjaaa.stockHolds
set_option maxRecDepth 100000
open Go.ChangeShapes Go.WideShapes Go.ChangeAt Go.WideMaps Go.WideElems Go.RowKit
open Go.Sort (grow)
open Go.Proofs.Ytnjcdlenpcpjaaa.Pk (Rb adr_block one_at one_free one_set lt_some grown_set grown_trans below_grown grown_refl u8s own_form)
open Go.Proofs.Ytnjcdlenpcpjaaa.St
open Go.Proofs.Ytnjcdlenpcpjaaa.Wt (Opn mayOp)
open Go.Proofs.Ytnjcdlenpcpjaaa.St

set_option maxHeartbeats 6400000 in
theorem walkd (a0 : Int) (_w0 : (Lit.int .i64 a0).wf = true) (a1 : Int) (_w1 : (Lit.int .i64 a1).wf = true) (sweep : Bool) (w : World) :
    Calls Try.prog 7 #[.int .i64 a0, .int .i64 a1, .bool sweep] w fun e w' => e = .returned (.bool true) ∧ Below w.heap.size w w' := by
  obtain ⟨t', ht'⟩ : ∃ k, k = usm a0 1001 := ⟨_, rfl⟩
  obtain ⟨d', hd'⟩ : ∃ k, k = usm a1 120 := ⟨_, rfl⟩
  have t1' : t' < 1001 := by rw [ht']; exact usm_lt _ (by omega)
  have d1' : d' < 120 := by rw [hd']; exact usm_lt _ (by omega)
  have ux : wrap64 ((IntKind.u64.wrap a0).tmod 1001) = (t' : Int) := by rw [ht']; exact usm_slot a0 (n := 1001) (by omega) (by omega)
  have uy : wrap64 ((IntKind.u64.wrap a1).tmod 120) = (d' : Int) := by rw [hd']; exact usm_slot a1 (n := 120) (by omega) (by omega)
  obtain ⟨t, ht⟩ : ∃ t : Int, t = t' := ⟨_, rfl⟩
  obtain ⟨d, hd⟩ : ∃ t : Int, t = d' := ⟨_, rfl⟩
  rw [← ht] at ux
  rw [← hd] at uy
  have t0 : 0 ≤ t := by omega
  have t1 : t ≤ 1000 := by omega
  have d0 : 0 ≤ d := by omega
  have d1 : d < 120 := by omega
  have N := ow_new w 5 0 (by decide)
  have UT : ∀ w, (Instr.field 41 (.agg #[.int .i64 1, .int .i64 3, .int .i64 (t + 60), .int .i64 0, .int .i64 0]) 2).run Try.prog w = .ok (.int .i64 (t + 60)) w := fun w => by kernel_rfl
  have S1 : Hid (dstp 5 0 fz ⟨1, 7, 3, 0, 0⟩ t = (upd fz 7 ⟨1, 3, t + 60⟩, 1)) := d_hold_yes (by omega) (by omega) (by omega) (by omega) (tick_of t0 (by omega)) rfl (by rw [room_z]; omega)
  clear ht' hd' t1' d1' ht hd
  go_enter Try.func7, Try.ntmps7
  go_wp2_with fail
  refine N.mono ?_
  rintro e w1 ⟨q, rfl, O1⟩
  clear N
  go_upto_region 5 with fail
  rw [ux, uy]
  clear ux uy
  have D : Calls Try.prog 12 #[.pointer (some ⟨q, 0, none⟩), .agg #[.int .i64 1, .int .i64 7, .int .i64 3, .int .i64 0, .int .i64 0], .int .i64 t] w1 fun e w' => e = .returned (.int .i64 1) ∧ OwTo w.heap.size (fun g => g < w.heap.size) w w1 q 5 0 (upd fz 7 ⟨1, 3, t + 60⟩) w' := by
    have := ow_do O1 ⟨1, 7, 3, 0, 0⟩ t
    rw [S1.out] at this
    exact this
  replace D := Lib.hid D
  clear O1
  go_wp2_with fail
  refine D.out.mono ?_
  rintro e w2 ⟨rfl, O2, _⟩
  have EN := ow_entry O2 7 ⟨by decide, by decide⟩
  rw [upd_same] at EN
  unfold cell at EN
  simp only at EN
  replace EN := Lib.hid EN
  replace O2 := Lib.hid O2
  clear D
  go_wp2_with fail
  refine EN.out.mono ?_
  rintro e w3 ⟨rfl, b3⟩
  have O3 := Lib.hid (O2.out.below b3)
  clear EN O2 b3 S1
  by_cases hd : d < 60
  · have g1 : decide ((60 : Int) ≤ d) = false := decide_eq_false (by omega)
    have g2 : decide (d < 60) = true := decide_eq_true hd
    have ovd : ovr (t + d) ⟨1, 3, t + 60⟩ = false := by unfold ovr; simp; omega
    cases sweep with
    | true =>
      have SW := ow_sweep O3.out (t + d)
      rw [swl_one (by omega) (by omega) _ (tick_of (by omega) (by omega)), swf_one _ (tick_of (by omega) (by omega)), ovd, if_neg (by decide), if_neg (by decide)] at SW
      replace SW := Lib.hid SW
      clear O3
      go_wp2_with fail
      refine SW.out.mono ?_
      rintro e w4 ⟨v, rfl, hr, O4, _⟩
      obtain ⟨A, c, rfl, -, -, -⟩ := ri_form hr
      replace O4 := Lib.hid O4
      clear SW hr
      have D : Calls Try.prog 12 #[.pointer (some ⟨q, 0, none⟩), .agg #[.int .i64 2, .int .i64 7, .int .i64 0, .int .i64 0, .int .i64 0], .int .i64 (t + d)] w4 fun e w' => e = .returned (.int .i64 1) ∧ OwTo w.heap.size (fun g => g < w.heap.size) w w4 q 5 0 (upd fz 7 ⟨2, 3, 0⟩) w' := by
        have := ow_do O4.out ⟨2, 7, 0, 0, 0⟩ (t + d)
        rw [d_conf_yes (by omega) (by omega) (tick_of (by omega) (by omega)) (by rw [upd_same]) (by rw [upd_same]; show t + d < t + 60; omega), upd_same, upd_upd] at this
        exact this
      replace D := Lib.hid D
      clear O4
      go_wp2_with fail
      refine D.out.mono ?_
      rintro e w5 ⟨rfl, O5, _⟩
      have SW := ow_sweep O5 (t + d + 5000)
      rw [swl_one (by omega) (by omega) _ (tick_of (by omega) (by omega)), swf_one _ (tick_of (by omega) (by omega)), show ∀ n, ovr n ⟨2, 3, 0⟩ = false from fun n => rfl, if_neg (by decide), if_neg (by decide)] at SW
      replace SW := Lib.hid SW
      clear O5 D
      go_wp2_with fail
      refine SW.out.mono ?_
      rintro e w6 ⟨v2, rfl, hr, O6, _⟩
      obtain ⟨A2, c2, rfl, -, -, -⟩ := ri_form hr
      have FR := ow_free O6
      have rm : room 5 0 (upd fz 7 ⟨2, 3, 0⟩) = 2 := by unfold room; rw [uni_one (by omega) (by omega), uni_one (by omega) (by omega)]; rfl
      rw [rm] at FR
      replace FR := Lib.hid FR
      replace O6 := Lib.hid O6
      clear SW hr rm
      go_wp2_with fail
      refine FR.out.mono ?_
      rintro e w7 ⟨rfl, b7⟩
      have O7 := Lib.hid (O6.out.below b7)
      have TA := Lib.hid (told_any w7)
      clear FR O6 b7
      go_wp2_with fail
      refine TA.out.mono ?_
      rintro e w8 ⟨rfl, b8⟩
      have O8 := Lib.hid (O7.out.below b8)
      have D : Calls Try.prog 12 #[.pointer (some ⟨q, 0, none⟩), .agg #[.int .i64 2, .int .i64 7, .int .i64 0, .int .i64 0, .int .i64 0], .int .i64 (t + d + 5000)] w8 fun e w' => e = .returned (.int .i64 1) ∧ OwTo w.heap.size (fun g => g < w.heap.size) w w8 q 5 0 (upd fz 7 ⟨2, 3, 0⟩) w' := by
        have := ow_do O8.out ⟨2, 7, 0, 0, 0⟩ (t + d + 5000)
        rw [d_conf_have (by omega) (by omega) (tick_of (by omega) (by omega)) (by rw [upd_same])] at this
        exact this
      replace D := Lib.hid D
      clear TA O7 b8 O8
      go_wp2_with fail
      refine D.out.mono ?_
      rintro e w9 ⟨rfl, O9, _⟩
      replace O9 := Lib.hid O9
      clear D
      go_wp2
      go_ret
      exact ⟨rfl, O9.out.be⟩
    | false =>
      obtain ⟨w4, hw4⟩ : ∃ x, x = w3 := ⟨_, rfl⟩
      subst hw4
      have O4 := O3
      have D : Calls Try.prog 12 #[.pointer (some ⟨q, 0, none⟩), .agg #[.int .i64 2, .int .i64 7, .int .i64 0, .int .i64 0, .int .i64 0], .int .i64 (t + d)] w4 fun e w' => e = .returned (.int .i64 1) ∧ OwTo w.heap.size (fun g => g < w.heap.size) w w4 q 5 0 (upd fz 7 ⟨2, 3, 0⟩) w' := by
        have := ow_do O4.out ⟨2, 7, 0, 0, 0⟩ (t + d)
        rw [d_conf_yes (by omega) (by omega) (tick_of (by omega) (by omega)) (by rw [upd_same]) (by rw [upd_same]; show t + d < t + 60; omega), upd_same, upd_upd] at this
        exact this
      replace D := Lib.hid D
      clear O4
      go_wp2_with fail
      refine D.out.mono ?_
      rintro e w5 ⟨rfl, O5, _⟩
      have SW := ow_sweep O5 (t + d + 5000)
      rw [swl_one (by omega) (by omega) _ (tick_of (by omega) (by omega)), swf_one _ (tick_of (by omega) (by omega)), show ∀ n, ovr n ⟨2, 3, 0⟩ = false from fun n => rfl, if_neg (by decide), if_neg (by decide)] at SW
      replace SW := Lib.hid SW
      clear O5 D
      go_wp2_with fail
      refine SW.out.mono ?_
      rintro e w6 ⟨v2, rfl, hr, O6, _⟩
      obtain ⟨A2, c2, rfl, -, -, -⟩ := ri_form hr
      have FR := ow_free O6
      have rm : room 5 0 (upd fz 7 ⟨2, 3, 0⟩) = 2 := by unfold room; rw [uni_one (by omega) (by omega), uni_one (by omega) (by omega)]; rfl
      rw [rm] at FR
      replace FR := Lib.hid FR
      replace O6 := Lib.hid O6
      clear SW hr rm
      go_wp2_with fail
      refine FR.out.mono ?_
      rintro e w7 ⟨rfl, b7⟩
      have O7 := Lib.hid (O6.out.below b7)
      have TA := Lib.hid (told_any w7)
      clear FR O6 b7
      go_wp2_with fail
      refine TA.out.mono ?_
      rintro e w8 ⟨rfl, b8⟩
      have O8 := Lib.hid (O7.out.below b8)
      have D : Calls Try.prog 12 #[.pointer (some ⟨q, 0, none⟩), .agg #[.int .i64 2, .int .i64 7, .int .i64 0, .int .i64 0, .int .i64 0], .int .i64 (t + d + 5000)] w8 fun e w' => e = .returned (.int .i64 1) ∧ OwTo w.heap.size (fun g => g < w.heap.size) w w8 q 5 0 (upd fz 7 ⟨2, 3, 0⟩) w' := by
        have := ow_do O8.out ⟨2, 7, 0, 0, 0⟩ (t + d + 5000)
        rw [d_conf_have (by omega) (by omega) (tick_of (by omega) (by omega)) (by rw [upd_same])] at this
        exact this
      replace D := Lib.hid D
      clear TA O7 b8 O8
      go_wp2_with fail
      refine D.out.mono ?_
      rintro e w9 ⟨rfl, O9, _⟩
      replace O9 := Lib.hid O9
      clear D
      go_wp2
      go_ret
      exact ⟨rfl, O9.out.be⟩
  · have g1 : decide ((60 : Int) ≤ d) = true := decide_eq_true (by omega)
    have g2 : decide (d < 60) = false := decide_eq_false hd
    have ovd : ovr (t + d) ⟨1, 3, t + 60⟩ = true := by unfold ovr; simp; omega
    cases sweep with
    | true =>
      have SW := ow_sweep O3.out (t + d)
      rw [swl_one (by omega) (by omega) _ (tick_of (by omega) (by omega)), swf_one _ (tick_of (by omega) (by omega)), ovd, if_pos rfl, if_pos rfl] at SW
      replace SW := Lib.hid SW
      clear O3
      go_wp2_with fail
      refine SW.out.mono ?_
      rintro e w4 ⟨v, rfl, hr, O4, _⟩
      obtain ⟨A, c, rfl, -, -, -⟩ := ri_form hr
      replace O4 := Lib.hid O4
      clear SW hr
      have D : Calls Try.prog 12 #[.pointer (some ⟨q, 0, none⟩), .agg #[.int .i64 2, .int .i64 7, .int .i64 0, .int .i64 0, .int .i64 0], .int .i64 (t + d)] w4 fun e w' => e = .returned (.int .i64 2) ∧ OwTo w.heap.size (fun g => g < w.heap.size) w w4 q 5 0 (upd fz 7 eg) w' := by
        have := ow_do O4.out ⟨2, 7, 0, 0, 0⟩ (t + d)
        rw [d_conf_no (by omega) (by omega) (tick_of (by omega) (by omega)) (by rw [upd_same]; simp [eg]) (by rw [upd_same]; show ¬ ((3 : Int) = 1 ∧ _); omega), upd_upd] at this
        exact this
      replace D := Lib.hid D
      clear O4
      go_wp2_with fail
      refine D.out.mono ?_
      rintro e w5 ⟨rfl, O5, _⟩
      have SW := ow_sweep O5 (t + d + 5000)
      rw [swl_one (by omega) (by omega) _ (tick_of (by omega) (by omega)), swf_one _ (tick_of (by omega) (by omega)), show ∀ n, ovr n eg = false from fun n => rfl, if_neg (by decide), if_neg (by decide)] at SW
      replace SW := Lib.hid SW
      clear O5 D
      go_wp2_with fail
      refine SW.out.mono ?_
      rintro e w6 ⟨v2, rfl, hr, O6, _⟩
      obtain ⟨A2, c2, rfl, -, -, -⟩ := ri_form hr
      have FR := ow_free O6
      have rm : room 5 0 (upd fz 7 eg) = 5 := by unfold room; rw [uni_one (by omega) (by omega), uni_one (by omega) (by omega)]; rfl
      rw [rm] at FR
      replace FR := Lib.hid FR
      replace O6 := Lib.hid O6
      clear SW hr rm
      go_wp2_with fail
      refine FR.out.mono ?_
      rintro e w7 ⟨rfl, b7⟩
      have O7 := Lib.hid (O6.out.below b7)
      have TA := Lib.hid (told_any w7)
      clear FR O6 b7
      go_wp2_with fail
      refine TA.out.mono ?_
      rintro e w8 ⟨rfl, b8⟩
      have O8 := Lib.hid (O7.out.below b8)
      have D : Calls Try.prog 12 #[.pointer (some ⟨q, 0, none⟩), .agg #[.int .i64 2, .int .i64 7, .int .i64 0, .int .i64 0, .int .i64 0], .int .i64 (t + d + 5000)] w8 fun e w' => e = .returned (.int .i64 2) ∧ OwTo w.heap.size (fun g => g < w.heap.size) w w8 q 5 0 (upd fz 7 eg) w' := by
        have := ow_do O8.out ⟨2, 7, 0, 0, 0⟩ (t + d + 5000)
        rw [d_conf_no (by omega) (by omega) (tick_of (by omega) (by omega)) (by rw [upd_same]; simp [eg]) (by rw [upd_same]; show ¬ ((3 : Int) = 1 ∧ _); omega), upd_upd] at this
        exact this
      replace D := Lib.hid D
      clear TA O7 b8 O8
      go_wp2_with fail
      refine D.out.mono ?_
      rintro e w9 ⟨rfl, O9, _⟩
      replace O9 := Lib.hid O9
      clear D
      go_wp2
      go_ret
      exact ⟨rfl, O9.out.be⟩
    | false =>
      obtain ⟨w4, hw4⟩ : ∃ x, x = w3 := ⟨_, rfl⟩
      subst hw4
      have O4 := O3
      have D : Calls Try.prog 12 #[.pointer (some ⟨q, 0, none⟩), .agg #[.int .i64 2, .int .i64 7, .int .i64 0, .int .i64 0, .int .i64 0], .int .i64 (t + d)] w4 fun e w' => e = .returned (.int .i64 2) ∧ OwTo w.heap.size (fun g => g < w.heap.size) w w4 q 5 0 (upd fz 7 eg) w' := by
        have := ow_do O4.out ⟨2, 7, 0, 0, 0⟩ (t + d)
        rw [d_conf_no (by omega) (by omega) (tick_of (by omega) (by omega)) (by rw [upd_same]; simp) (by rw [upd_same]; show ¬ (_ ∧ t + d < t + 60); omega), upd_upd] at this
        exact this
      replace D := Lib.hid D
      clear O4
      go_wp2_with fail
      refine D.out.mono ?_
      rintro e w5 ⟨rfl, O5, _⟩
      have SW := ow_sweep O5 (t + d + 5000)
      rw [swl_one (by omega) (by omega) _ (tick_of (by omega) (by omega)), swf_one _ (tick_of (by omega) (by omega)), show ∀ n, ovr n eg = false from fun n => rfl, if_neg (by decide), if_neg (by decide)] at SW
      replace SW := Lib.hid SW
      clear O5 D
      go_wp2_with fail
      refine SW.out.mono ?_
      rintro e w6 ⟨v2, rfl, hr, O6, _⟩
      obtain ⟨A2, c2, rfl, -, -, -⟩ := ri_form hr
      have FR := ow_free O6
      have rm : room 5 0 (upd fz 7 eg) = 5 := by unfold room; rw [uni_one (by omega) (by omega), uni_one (by omega) (by omega)]; rfl
      rw [rm] at FR
      replace FR := Lib.hid FR
      replace O6 := Lib.hid O6
      clear SW hr rm
      go_wp2_with fail
      refine FR.out.mono ?_
      rintro e w7 ⟨rfl, b7⟩
      have O7 := Lib.hid (O6.out.below b7)
      have TA := Lib.hid (told_any w7)
      clear FR O6 b7
      go_wp2_with fail
      refine TA.out.mono ?_
      rintro e w8 ⟨rfl, b8⟩
      have O8 := Lib.hid (O7.out.below b8)
      have D : Calls Try.prog 12 #[.pointer (some ⟨q, 0, none⟩), .agg #[.int .i64 2, .int .i64 7, .int .i64 0, .int .i64 0, .int .i64 0], .int .i64 (t + d + 5000)] w8 fun e w' => e = .returned (.int .i64 2) ∧ OwTo w.heap.size (fun g => g < w.heap.size) w w8 q 5 0 (upd fz 7 eg) w' := by
        have := ow_do O8.out ⟨2, 7, 0, 0, 0⟩ (t + d + 5000)
        rw [d_conf_no (by omega) (by omega) (tick_of (by omega) (by omega)) (by rw [upd_same]; simp [eg]) (by rw [upd_same]; show ¬ ((3 : Int) = 1 ∧ _); omega), upd_upd] at this
        exact this
      replace D := Lib.hid D
      clear TA O7 b8 O8
      go_wp2_with fail
      refine D.out.mono ?_
      rintro e w9 ⟨rfl, O9, _⟩
      replace O9 := Lib.hid O9
      clear D
      go_wp2
      go_ret
      exact ⟨rfl, O9.out.be⟩


/-! The row: every input. -/
set_option linter.unusedVariables false
set_option maxRecDepth 100000 in
theorem lifted (os : Os) (started : os.Started) (H : Type) (enc : TypeId × Value → H) :
    ReturnsInHanded {} Try.checked os 7 .any (Rows.stockHoldsSpec.pre6 enc Try.prog Try.f7 Rows.stockHoldsRow.domain false) (Rows.stockHoldsSpec.post enc Try.prog Try.f7 false true false false) := by
  refine returnsInHanded_of_change (C := Try.checked) own started (by kernel_rfl) Try.func7
    (ChangeSpec.witness6 (enc := enc) (C := Try.checked) false ⟨#[], #[.int .i64 0, .int .i64 0, .bool false], []⟩ 8 (by kernel_rfl) (by kernel_rfl) (by kernel_rfl) (by kernel_rfl)) ?_
  intro W base args ds gs before hval0 hW _ _
  have hval : ∀ (j : Nat) t v, Try.f7.params[j]? = some t → args[j]? = some v → Value.okWide Try.prog W .any base t v := hval0
  have hW' := hW
  obtain ⟨p, q, hA0, hV, rfl, hfz, hnd⟩ := hW
  have hA : DataW.TrodAll enc Try.prog W 0 (fun _ => true) true Try.f7.params.toList args.toList ds p := hA0
  rw [Try.params7] at hA hval
  obtain ⟨v0, vs0, d0, ds0, p0, q0, hargs, rfl, rfl, h0, r0⟩ := trodAll_cons hA
  obtain ⟨v1, vs1, d1, ds1, p1, q1, rfl, rfl, rfl, h1, r1⟩ := trodAll_cons r0
  obtain ⟨v2, vs2, d2, ds2, p2, q2, rfl, rfl, rfl, h2, r2⟩ := trodAll_cons r1
  obtain ⟨rfl, rfl, rfl⟩ := trodAll_nil r2
  obtain rfl : args = #[v0, v1, v2] := by cases args; simp_all
  obtain ⟨rfl, rfl⟩ := trodVars_none hV
  obtain ⟨a0, rfl, rfl, rfl, w0⟩ := open_int Try.underlying3 (hval 0 3 v0 rfl rfl) h0
  obtain ⟨a1, rfl, rfl, rfl, w1⟩ := open_int Try.underlying3 (hval 1 3 v1 rfl rfl) h1
  obtain ⟨a2, rfl, rfl, rfl⟩ := open_bool Try.underlying4 (hval 2 4 v2 rfl rfl) h2
  clear hA0 hval0
  simp only [List.append_nil] at hW'
  refine (walkd a0 w0 a1 w1 a2 W).mono fun e W' ⟨he, hb⟩ => ?_
  subst he
  exact ⟨_, rfl, post_below (pa := []) (pv := []) hW' (fun _ _ _ => (trodAll_cons_mk (shut_bool Try.underlying4 _) trodAll_mk0)) (fun sp hsp => (trodAll_cons_mk (shut_int Try.underlying3 w0) (trodAll_cons_mk (shut_int Try.underlying3 w1) (trodAll_cons_mk (shut_bool Try.underlying4 _) trodAll_mk0)))) (fun _ _ => rfl) (by simp)
    hb (ok_one (by kernel_rfl) rfl (okWide_bool_mk Try.underlying4 _))⟩

theorem proved : Rows.StockHoldsSaid :=
  OpenClaim.holds_of_wide 7 Try.f7 rfl rfl rfl rfl rfl rfl rfl ⟨rfl, rfl, rfl, rfl, rfl⟩ rfl rfl rfl rfl rfl (by kernel_rfl) Try.func7 (by kernel_rfl)
    (of_decide_eq_true (by kernel_rfl)) (by unfold Func.isWrapper; first | (rw [if_pos (by decide +kernel)]; kernel_rfl) | (rw [if_neg (by decide +kernel)]; exact ⟨rfl, rfl⟩))
    (fun os started H enc _ => lifted os started H enc)
#print axioms proved

end Go.Proofs.Ytnjcdlenpcpjaaa.stockHolds
