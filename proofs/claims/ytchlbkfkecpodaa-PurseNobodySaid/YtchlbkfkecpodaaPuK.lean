/- told: what the program tells of a few. -/
import Derived.Test.YtchlbkfkecpodaaPuJ
namespace Go.Proofs.Ytchlbkfkecpodaa
set_option maxRecDepth 100000
open Go.RowKit
open Go.Sort (grow)
open Go.Proofs.Ytchlbkfkecpodaa.Pk (one_at one_free one_set lt_some grown_set grown_trans below_grown grown_refl)
namespace Pu
open Wt (Opn mayOp)

def tp0 : S := new 5 9 0 0
def tp1 : S := (dstp tp0 ⟨4, 1, 0, 0, 6⟩).1
def tp2 : S := (dstp tp1 ⟨4, 2, 0, 1, 6⟩).1
def tp3 : S := (dstp tp2 ⟨5, 2, 0, 0, 0⟩).1
def tp4 : S := (dstp tp3 ⟨6, 3, 0, 0, 0⟩).1
theorem ta1 : (dstp tp0 ⟨4, 1, 0, 0, 6⟩).2 = 2 := by kernel_rfl
theorem ta2 : (dstp tp1 ⟨4, 2, 0, 1, 6⟩).2 = 1 := by kernel_rfl
theorem ta3 : (dstp tp2 ⟨5, 2, 0, 0, 0⟩).2 = 1 := by kernel_rfl
theorem ta4 : (dstp tp3 ⟨6, 3, 0, 0, 0⟩).2 = 1 := by kernel_rfl
theorem tb4 : bal tp4 1 = 3 := by kernel_rfl
theorem tt4 : tp4.a 5 = 6 := by kernel_rfl
theorem tr4 : tp4.a 4 = 0 := by kernel_rfl
theorem tl4 : tp4.l = [⟨2, 1, 4, 6⟩, ⟨2, 4, 5, 6⟩] := by kernel_rfl
theorem te1 : tp4.f 1 = eg := by kernel_rfl
theorem te3 : tp4.f 3 = eg := by kernel_rfl
set_option maxHeartbeats 3200000 in
theorem told_any (w : World) : Calls Try.prog 28 #[] w fun e w' => e = .returned (.bool true) ∧ Below w.heap.size w w' := by
  have N := ow_new w 5 9 0 0 (by unfold Cs.I; simp) (by decide)
  have GR := fun w => state_run eg w
  have EQ := fun w => eq_lin_run w 2 1 4 6 2 1 4 6
  rw [decide_eq_true (rfl : (⟨2, 1, 4, 6⟩ : Ln) = ⟨2, 1, 4, 6⟩)] at EQ
  unfold cell eg at GR
  go_enter Try.func28, Try.ntmps28
  go_wp2_with fail
  refine N.mono ?_
  rintro e w1 ⟨q, rfl, O1⟩
  clear N
  change Ow _ _ _ _ _ tp0 at O1
  have D : Calls Try.prog 30 #[.pointer (some ⟨q, 0, none⟩), .agg #[.int .i64 4, .int .i64 1, .int .i64 0, .int .i64 0, .int .i64 6]] w1 fun e w' => e = .returned (.int .i64 2) ∧ OwTo w.heap.size (fun g => g < w.heap.size) w w1 q tp1 w' := by
    have := ow_do O1 ⟨4, 1, 0, 0, 6⟩
    rw [ta1] at this
    exact this
  clear O1
  go_wp2_with fail
  refine D.mono ?_
  rintro e w2 ⟨rfl, O2, _⟩
  clear D
  have D : Calls Try.prog 30 #[.pointer (some ⟨q, 0, none⟩), .agg #[.int .i64 4, .int .i64 2, .int .i64 0, .int .i64 1, .int .i64 6]] w2 fun e w' => e = .returned (.int .i64 1) ∧ OwTo w.heap.size (fun g => g < w.heap.size) w w2 q tp2 w' := by
    have := ow_do O2 ⟨4, 2, 0, 1, 6⟩
    rw [ta2] at this
    exact this
  clear O2
  go_wp2_with fail
  refine D.mono ?_
  rintro e w3 ⟨rfl, O3, _⟩
  clear D
  have D : Calls Try.prog 30 #[.pointer (some ⟨q, 0, none⟩), .agg #[.int .i64 5, .int .i64 2, .int .i64 0, .int .i64 0, .int .i64 0]] w3 fun e w' => e = .returned (.int .i64 1) ∧ OwTo w.heap.size (fun g => g < w.heap.size) w w3 q tp3 w' := by
    have := ow_do O3 ⟨5, 2, 0, 0, 0⟩
    rw [ta3] at this
    exact this
  clear O3
  go_wp2_with fail
  refine D.mono ?_
  rintro e w4 ⟨rfl, O4, _⟩
  clear D
  have D : Calls Try.prog 30 #[.pointer (some ⟨q, 0, none⟩), .agg #[.int .i64 6, .int .i64 3, .int .i64 0, .int .i64 0, .int .i64 0]] w4 fun e w' => e = .returned (.int .i64 1) ∧ OwTo w.heap.size (fun g => g < w.heap.size) w w4 q tp4 w' := by
    have := ow_do O4 ⟨6, 3, 0, 0, 0⟩
    rw [ta4] at this
    exact this
  clear O4
  go_wp2_with fail
  refine D.mono ?_
  rintro e w5 ⟨rfl, O5, _⟩
  clear D
  have D := ow_lines O5
  rw [tl4] at D
  go_wp2_with fail
  refine D.mono ?_
  rintro e w6 ⟨v, rfl, hr, hb⟩
  have O6 := Lib.hid (O5.below hb)
  clear D O5
  obtain ⟨A, c, rfl, hc1, hc2, hc3⟩ := rt_form hr
  obtain ⟨g, rfl, r0, r1, r2, r3⟩ := rt_cell hr (k := 0) rfl
  obtain ⟨g', e, s0, s1, s2, s3⟩ := rt_cell hr (k := 1) rfl
  injection e with e
  injection e with e _ _
  subst e
  have BA := ow_bal O6.out 1
  have TA := ow_tak O6.out
  have RE := ow_res O6.out
  have E1 := ow_entry O6.out 1
  have E3 : Hid (∀ w7, Below w6.heap.size w6 w7 → Calls Try.prog 34 #[.pointer (some ⟨q, 0, none⟩), .int .i64 3] w7 fun e w' => e = .returned (cell eg) ∧ Below w7.heap.size w7 w') := fun w7 h7 => by
    have := ow_entry (O6.out.below h7) 3
    rw [te3] at this
    exact this
  rw [tb4] at BA
  rw [tt4] at TA
  rw [tr4] at RE
  rw [te1] at E1
  unfold cell eg at E1 E3
  clear hr hb
  go_wp2_with (first
    | (go_at_call 35; (with_reducible refine BA.mono ?_); rintro e w' ⟨rfl, rfl⟩)
    | (go_at_call 37; (with_reducible refine TA.mono ?_); rintro e w' ⟨rfl, rfl⟩)
    | (go_at_call 36; (with_reducible refine RE.mono ?_); rintro e w' ⟨rfl, rfl⟩))
  refine E1.mono ?_
  rintro e w7 ⟨rfl, h7⟩
  have E4 := E3.out w7 h7
  have B7 : Hid (Below w.heap.size w w7) := (O6.out.below h7).be
  have s7 : Hid (w.heap.size ≤ w7.heap.size) := (O6.out.below h7).bs
  clear E1 E3 h7
  go_wp2_with fail
  refine E4.mono ?_
  rintro e w8 ⟨rfl, h8⟩
  have B8 : Hid (Below w.heap.size w w8) := B7.out.trans (h8.mono s7.out)
  clear E4 h8
  go_wp2
  go_ret
  exact ⟨rfl, B8.out⟩
end Pu
end Go.Proofs.Ytchlbkfkecpodaa
