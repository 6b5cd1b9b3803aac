/- Proved: the first tries come at four, twelve, twenty-eight, sixty ticks behind the first, each thirty-two more from then on (BackSteps), for any number. -/
import Derived.Test.YtpafghbphcbflaaBkO
import Derived.Lib.QuietBelow
import Derived.Deep.CutBlock
import Derived.Deep.CutRange
namespace Go.Proofs.Ytpafghbphcbflaa.backSteps
open Go.ChangeShapes Go.WideShapes Go.ChangeAt Go.WideMaps Go.WideElems Go.RowKit
open Go.Proofs.Ytpafghbphcbflaa.Bk

set_option maxHeartbeats 6400000 in
set_option maxRecDepth 100000 in
theorem walkd (x : Int) (_h1 : (Lit.int .i64 x).wf = true) (w : World) :
    Calls Try.prog 4 #[.int .i64 x] w fun e w' => e = .returned (.bool true) ∧ Below w.heap.size w w' := by
  have TA := Lib.hid told_any
  obtain ⟨u, hu⟩ : ∃ u, u = usm x 1000 := ⟨_, rfl⟩
  have u1 : u < 1000 := by rw [hu]; exact usm_lt _ (by omega)
  have ux : wrap64 ((IntKind.u64.wrap x).tmod 1000) = (u : Int) := by rw [hu]; exact usm_slot x (n := 1000) (by omega) (by omega)
  replace hu := Lib.hid hu
  go_enter Try.func4, Try.ntmps4
  go_upto_region 3 with fail
  obtain ⟨W, hW⟩ : ∃ W, W = w.alloc (.cells #[.int .i64 4, .int .i64 12, .int .i64 28, .int .i64 60] 3) := ⟨_, rfl⟩
  have B0 : W.heap[w.heap.size]? = some (.cells #[.int .i64 4, .int .i64 12, .int .i64 28, .int .i64 60] 3 (0, 0)) := by rw [hW]; exact heap_alloc_new _ _
  have be : Hid (Below w.heap.size w W) := by rw [hW]; exact (Below.refl _ w).alloc (Nat.le_refl _) _
  rw [← hW]
  clear hW
  obtain ⟨n, hn⟩ : ∃ n : Int, n = 1 + (u : Int) := ⟨_, rfl⟩
  rw [← hn]
  have n1 : 1 ≤ n := by omega
  have n2 : n ≤ 1000 := by omega
  clear hn u1 ux
  have CW := Lib.hid (wait_any n (by unfold I; omega))
  have CM := Lib.hid (most_any n (by unfold I; omega))
  have CN := Lib.hid (most_any (1000 + n) (by unfold I; omega))
  have CO := Lib.hid (most_any 1000 (by unfold I; omega))
  rw [mo_over (by omega)] at CN
  have c0 : W.cell? ⟨w.heap.size, 0, none⟩ = some (.int .i64 4) := by simp [World.cell?, B0]
  have c1 : W.cell? ⟨w.heap.size, 1, none⟩ = some (.int .i64 12) := by simp [World.cell?, B0]
  have c2 : W.cell? ⟨w.heap.size, 2, none⟩ = some (.int .i64 28) := by simp [World.cell?, B0]
  have c3 : W.cell? ⟨w.heap.size, 3, none⟩ = some (.int .i64 60) := by simp [World.cell?, B0]
  replace B0 := Lib.hid B0
  obtain ⟨a, ha⟩ : ∃ a, a = mo 1000 := ⟨_, rfl⟩
  have ha2 := mo_bd 1000
  rw [← ha] at CN CO ha2
  clear ha
  by_cases k : n ≤ 4
  · have h4 : n = 1 ∨ n = 2 ∨ n = 3 ∨ n = 4 := by omega
    clear n1 n2 k
    have m0 : min (0 : Int) 3 = 0 := by omega
    have m1 : min (1 : Int) 3 = 1 := by omega
    have m2 : min (2 : Int) 3 = 2 := by omega
    rcases h4 with rfl | rfl | rfl | rfl
    all_goals
      simp only [show mo 1 = 4 by decide, show mo 2 = 12 by decide, show mo 3 = 28 by decide, show mo 4 = 60 by decide] at CM
      simp only [show wt 1 = 4 by decide, show wt 2 = 8 by decide, show wt 3 = 16 by decide, show wt 4 = 32 by decide] at CW
      go_wp2_with fail
      refine (TA.out _).mono ?_
      rintro e w3 ⟨rfl, rfl⟩
      go_wp2_with fail
      refine (CM.out _).mono ?_
      rintro e w3 ⟨rfl, rfl⟩
      go_wp2_with fail
      refine (CN.out _).mono ?_
      rintro e w3 ⟨rfl, rfl⟩
      go_wp2_with fail
      refine (CO.out _).mono ?_
      rintro e w3 ⟨rfl, rfl⟩
      go_wp2_with fail
      refine (CW.out _).mono ?_
      rintro e w3 ⟨rfl, rfl⟩
      go_wp2
      go_ret
      exact ⟨rfl, be.out⟩
  · rw [mo_four (by omega) n2] at CM
    rw [show wt n = 32 by unfold wt; repeat (split <;> try omega)] at CW
    have m3 : min (n - 1) 3 = 3 := by omega
    go_wp2_with fail
    refine (TA.out _).mono ?_
    rintro e w3 ⟨rfl, rfl⟩
    go_wp2_with fail
    refine (CM.out _).mono ?_
    rintro e w3 ⟨rfl, rfl⟩
    go_wp2_with fail
    refine (CN.out _).mono ?_
    rintro e w3 ⟨rfl, rfl⟩
    go_wp2_with fail
    refine (CO.out _).mono ?_
    rintro e w3 ⟨rfl, rfl⟩
    go_wp2_with fail
    refine (CW.out _).mono ?_
    rintro e w3 ⟨rfl, rfl⟩
    go_wp2
    go_ret
    exact ⟨rfl, be.out⟩

/-! The row: every input. -/
set_option linter.unusedVariables false
set_option maxRecDepth 100000 in
theorem lifted (os : Os) (started : os.Started) (H : Type) (enc : TypeId × Value → H) :
    ReturnsInHanded {} Try.checked os 4 .any (Rows.backStepsSpec.pre6 enc Try.prog Try.f4 Rows.backStepsRow.domain false) (Rows.backStepsSpec.post enc Try.prog Try.f4 false true false false) := by
  refine returnsInHanded_of_change (C := Try.checked) own started (by kernel_rfl) Try.func4
    (ChangeSpec.witness6 (enc := enc) (C := Try.checked) false ⟨#[], #[.int .i64 0], []⟩ 8 (by kernel_rfl) (by kernel_rfl) (by kernel_rfl) (by kernel_rfl)) ?_
  intro W base args ds gs before hval0 hW _ _
  have hval : ∀ (j : Nat) t v, Try.f4.params[j]? = some t → args[j]? = some v → Value.okWide Try.prog W .any base t v := hval0
  have hW' := hW
  obtain ⟨p, q, hA0, hV, rfl, hfz, hnd⟩ := hW
  have hA : DataW.TrodAll enc Try.prog W 0 (fun _ => true) true Try.f4.params.toList args.toList ds p := hA0
  rw [Try.params4] at hA hval
  obtain ⟨v0, vs0, d0, ds0, p0, q0, hargs, rfl, rfl, h0, r0⟩ := trodAll_cons hA
  obtain ⟨rfl, rfl, rfl⟩ := trodAll_nil r0
  obtain rfl : args = #[v0] := by cases args; simp_all
  obtain ⟨rfl, rfl⟩ := trodVars_none hV
  obtain ⟨a0, rfl, rfl, rfl, w0⟩ := open_int Try.underlying3 (hval 0 3 v0 rfl rfl) h0
  clear hA0 hval0
  simp only [List.append_nil] at hW'
  refine (walkd a0 w0 W).mono fun e W' ⟨he, hb⟩ => ?_
  subst he
  exact ⟨_, rfl, post_below (pa := []) (pv := []) hW' (fun _ _ _ => (trodAll_cons_mk (shut_bool Try.underlying4 _) trodAll_mk0)) (fun sp hsp => (trodAll_cons_mk (shut_int Try.underlying3 w0) trodAll_mk0)) (fun _ _ => rfl) (by simp)
    hb (ok_one (by kernel_rfl) rfl (okWide_bool_mk Try.underlying4 _))⟩

theorem proved : Rows.BackStepsSaid :=
  OpenClaim.holds_of_wide 4 Try.f4 rfl rfl rfl rfl rfl rfl rfl ⟨rfl, rfl, rfl, rfl, rfl⟩ rfl rfl rfl rfl rfl (by kernel_rfl) Try.func4 (by kernel_rfl)
    (of_decide_eq_true (by kernel_rfl)) (by unfold Func.isWrapper; first | (rw [if_pos (by decide +kernel)]; kernel_rfl) | (rw [if_neg (by decide +kernel)]; exact ⟨rfl, rfl⟩))
    (fun os started H enc _ => lifted os started H enc)
#print axioms proved
end Go.Proofs.Ytpafghbphcbflaa.backSteps
