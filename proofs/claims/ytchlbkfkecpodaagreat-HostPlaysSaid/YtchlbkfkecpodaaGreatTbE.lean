/- Two keys are compared. -/
import Derived.Test.YtchlbkfkecpodaaGreatTbB
import Derived.Test.YtchlbkfkecpodaaGreatTbI
namespace Go.Proofs.YtchlbkfkecpodaaGreat
set_option maxRecDepth 100000
open Go.RowKit
open Go.Sort (grow)
open Go.Proofs.YtchlbkfkecpodaaGreat.Pk (one_at one_free one_set lt_some grown_set grown_trans below_grown grown_refl)
namespace Tb
open Wt (Opn mayOp)

set_option maxHeartbeats 400000 in
theorem nan_any (w : World) (x : Int) : Calls Tryz.prog 91 #[.int .i64 x] w fun e w' => e = .returned (.bool false) ∧ w = w' := by
  go_enter Tryz.func91, Tryz.ntmps91
  go_wp2
  go_ret
  exact ⟨rfl, rfl⟩
set_option maxHeartbeats 400000 in
theorem cmp_any (w : World) (x y : Int) : Calls Tryz.prog 85 #[.int .i64 x, .int .i64 y] w fun e w' => e = .returned (.int .i64 (Lib.compareInt x y)) ∧ w = w' := by
  have N := fun w x => nan_any w x
  have E : Hid (Lib.compareInt x y = if x < y then -1 else if y < x then 1 else 0) := by
    unfold Hid Lib.compareInt
    rfl
  by_cases h1 : x < y
  · go_enter Tryz.func85, Tryz.ntmps85
    go_wp2_with (go_at_call 91; refine (N _ _).mono ?_; rintro e w' ⟨rfl, rfl⟩)
    go_ret
    rw [E.out, if_pos h1]
    exact ⟨rfl, rfl⟩
  · by_cases h2 : y < x
    · go_enter Tryz.func85, Tryz.ntmps85
      go_wp2_with (go_at_call 91; refine (N _ _).mono ?_; rintro e w' ⟨rfl, rfl⟩)
      go_ret
      rw [E.out, if_neg (by omega), if_pos h2]
      exact ⟨rfl, rfl⟩
    · go_enter Tryz.func85, Tryz.ntmps85
      go_wp2_with (go_at_call 91; refine (N _ _).mono ?_; rintro e w' ⟨rfl, rfl⟩)
      go_ret
      rw [E.out, if_neg (by omega), if_neg (by omega)]
      exact ⟨rfl, rfl⟩
/-- How two keys are compared. -/
def cf (p q : Int × Int) : Int := if Lib.compareInt p.1 q.1 = 0 then Lib.compareInt p.2 q.2 else Lib.compareInt p.1 q.1
theorem cmpI_lt {x y : Int} : Lib.compareInt x y < 0 ↔ x < y := by
  unfold Lib.compareInt
  by_cases h : x < y
  · simp [h]
  · by_cases h2 : x > y <;> simp [h, h2]
theorem cmpI_z {x y : Int} : Lib.compareInt x y = 0 ↔ x = y := by
  unfold Lib.compareInt
  by_cases h : x < y
  · simp [h]; omega
  · by_cases h2 : x > y
    · simp [h, h2]; omega
    · simp [h, h2]; omega
theorem cf_lt (p q : Int × Int) : ltOf cf p q = lkB p q := by
  unfold ltOf lkB
  rw [decide_eq_decide]
  unfold cf lk
  by_cases h : p.1 = q.1
  · rw [if_pos (cmpI_z.2 h), cmpI_lt]
    omega
  · rw [if_neg (fun e => h (cmpI_z.1 e)), cmpI_lt]
    omega
theorem lkB_yes {p q : Int × Int} : lkB p q = true ↔ (p.1 < q.1 ∨ p.1 = q.1 ∧ p.2 < q.2) := by
  show decide (lk p q) = true ↔ lk p q
  rw [decide_eq_true_iff]
theorem lkB_no {p q : Int × Int} : lkB p q = false ↔ ¬ (p.1 < q.1 ∨ p.1 = q.1 ∧ p.2 < q.2) := by
  show decide (lk p q) = false ↔ ¬ lk p q
  rw [decide_eq_false_iff_not]
theorem cf_swo : Sort.SWO (ltOf cf) where
  irrefl x := by rw [cf_lt, lkB_no]; omega
  trans x y z h1 h2 := by
    rw [cf_lt, lkB_yes] at *
    omega
  ntrans x y z h1 h2 := by
    rw [cf_lt, lkB_no] at *
    omega
theorem cf_tot (x y : Int × Int) (h1 : ltOf cf x y = false) (h2 : ltOf cf y x = false) : x = y := by
  rw [cf_lt, lkB_no] at h1 h2
  exact Prod.ext (by omega) (by omega)
set_option maxHeartbeats 1600000 in
theorem compare_any (w : World) (g h : Nat) (a b c d : Int) (a0 : w.cell? ⟨g, 0, none⟩ = some (.int .i64 a)) (b0 : w.cell? ⟨g, 1, none⟩ = some (.int .i64 b)) (c0 : w.cell? ⟨h, 0, none⟩ = some (.int .i64 c)) (d0 : w.cell? ⟨h, 1, none⟩ = some (.int .i64 d)) :
    Calls Tryz.prog 72 #[.slice (some ⟨g, 0, none⟩) 2 2, .slice (some ⟨h, 0, none⟩) 2 2] w fun e w' => e = .returned (.int .i64 (cf (a, b) (c, d))) ∧ w = w' := by
  have C1 := cmp_any w a c
  have C2 := cmp_any w b d
  have E : Hid (cf (a, b) (c, d) = if Lib.compareInt a c = 0 then Lib.compareInt b d else Lib.compareInt a c) := rfl
  by_cases z1 : Lib.compareInt a c = 0
  · rw [E.out, if_pos z1]
    rw [z1] at C1
    by_cases z2 : Lib.compareInt b d = 0
    · rw [z2] at C2 ⊢
      clear E z1 z2
      go_enter Tryz.func72, Tryz.ntmps72
      go_wp2_with fail
      refine wp_loop_rounds 3 ?_
      rw [rounds_succ]
      go_wp2_with (go_at_call 85; with_reducible refine C1.mono ?_; rintro e w' ⟨rfl, rfl⟩)
      rw [rounds_succ]
      go_wp2_with (go_at_call 85; with_reducible refine C2.mono ?_; rintro e w' ⟨rfl, rfl⟩)
      rw [rounds_succ]
      go_wp2
      go_ret
      exact ⟨rfl, rfl⟩
    · generalize Lib.compareInt b d = r at *
      clear E z1
      go_enter Tryz.func72, Tryz.ntmps72
      go_wp2_with fail
      refine wp_loop_rounds 2 ?_
      rw [rounds_succ]
      go_wp2_with (go_at_call 85; with_reducible refine C1.mono ?_; rintro e w' ⟨rfl, rfl⟩)
      rw [rounds_succ]
      go_wp2_with (go_at_call 85; with_reducible refine C2.mono ?_; rintro e w' ⟨rfl, rfl⟩)
      go_ret
      exact ⟨rfl, rfl⟩
  · rw [E.out, if_neg z1]
    generalize Lib.compareInt a c = r at *
    clear E C2
    go_enter Tryz.func72, Tryz.ntmps72
    go_wp2_with fail
    refine wp_loop_rounds 1 ?_
    rw [rounds_succ]
    go_wp2_with (go_at_call 85; with_reducible refine C1.mono ?_; rintro e w' ⟨rfl, rfl⟩)
    go_ret
    exact ⟨rfl, rfl⟩
def encP (p : Int × Int) : List Value := [.int .i64 p.1, .int .i64 p.2]
set_option maxHeartbeats 1600000 in
theorem closure_any (x y : Int × Int) (w : World) : Calls Tryz.prog 71 #[.agg #[.int .i64 x.1, .int .i64 x.2], .agg #[.int .i64 y.1, .int .i64 y.2]] w fun e w' => e = .returned (.int .i64 (cf x y)) ∧ ∃ n os', w' = grow (w.drewN n) os' := by
  obtain ⟨a, b⟩ := x
  obtain ⟨c, d⟩ := y
  simp only
  have N0 : ((w.alloc (.cells #[.int .i64 a, .int .i64 b] 95)).alloc (.cells #[.int .i64 c, .int .i64 d] 95)).heap[w.heap.size]? = some (.cells #[.int .i64 a, .int .i64 b] 95 (0, 0)) := heap_alloc2_old _ _ _
  have N1 : ((w.alloc (.cells #[.int .i64 a, .int .i64 b] 95)).alloc (.cells #[.int .i64 c, .int .i64 d] 95)).heap[w.heap.size + 1]? = some (.cells #[.int .i64 c, .int .i64 d] 95 (0, 0)) := by
    have := heap_alloc_new (w.alloc (.cells #[.int .i64 a, .int .i64 b] 95)) (.cells #[.int .i64 c, .int .i64 d] 95)
    rwa [show (w.alloc (.cells #[.int .i64 a, .int .i64 b] 95)).heap.size = w.heap.size + 1 by simp] at this
  have C := fun n => (compare_any (((w.alloc (.cells #[.int .i64 a, .int .i64 b] 95)).alloc (.cells #[.int .i64 c, .int .i64 d] 95)).drewN n) w.heap.size (w.heap.size + 1) a b c d
    (one_at (i := 0) N0) (one_at (i := 1) N0) (one_at (i := 0) N1) (one_at (i := 1) N1)).mono (R' := fun e w'' => e = .returned (.int .i64 (cf (a, b) (c, d))) ∧ ∃ m, w'' = ((w.alloc (.cells #[.int .i64 a, .int .i64 b] 95)).alloc (.cells #[.int .i64 c, .int .i64 d] 95)).drewN m) fun _ _ h => ⟨h.1, n, h.2.symm⟩
  have HG : Hid (∀ n, ∃ m os', (((w.alloc (.cells #[.int .i64 a, .int .i64 b] 95)).alloc (.cells #[.int .i64 c, .int .i64 d] 95)).drewN n) = grow (w.drewN m) os') := fun n => ⟨n, _, by rw [Sort.alloc_eq_grow, Sort.alloc_eq_grow, Sort.grow_grow]; rfl⟩
  generalize cf (a, b) (c, d) = r at *
  go_enter Tryz.func71, Tryz.ntmps71
  go_wp2_with fail
  go_quiet (with_reducible exact C _)
  go_wp2
  go_ret
  exact ⟨rfl, HG.out _⟩
theorem cmpLays (blk off size : Nat) (w : World) : CmpLays Tryz.prog 71 #[] encP 2 cf blk off size w :=
  fun _ _ _ _ x y => closure_any x y _
end Tb
end Go.Proofs.YtchlbkfkecpodaaGreat
