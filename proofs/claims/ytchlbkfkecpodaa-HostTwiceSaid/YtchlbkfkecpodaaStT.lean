/- told: what the program tells of a few. -/
import Derived.Test.YtchlbkfkecpodaaStK
namespace Go.Proofs.Ytchlbkfkecpodaa
set_option maxRecDepth 100000
open Go.RowKit
open Go.Sort (grow)
open Go.Proofs.Ytchlbkfkecpodaa.Pk (one_at one_free one_set lt_some grown_set grown_trans below_grown grown_refl u8s adr_block own_form)
namespace St
open Wt (Opn mayOp)

def tf1 : F := (dstp 2 1 fz ⟨1, 1, 2, 0, 0⟩ 5).1
def tf2 : F := (dstp 2 1 tf1 ⟨1, 2, 2, 0, 0⟩ 5).1
def tf3 : F := (dstp 2 1 tf2 ⟨2, 1, 0, 0, 0⟩ 64).1
def tf4 : F := (dstp 2 1 tf3 ⟨1, 3, 1, 0, 0⟩ 7).1
def tf5 : F := swF tf4 67
def tf6 : F := (dstp 2 1 tf5 ⟨3, 9, 0, 0, 0⟩ 70).1
theorem ta1 : (dstp 2 1 fz ⟨1, 1, 2, 0, 0⟩ 5).2 = 1 := by kernel_rfl
theorem ta2 : (dstp 2 1 tf1 ⟨1, 2, 2, 0, 0⟩ 5).2 = 2 := by kernel_rfl
theorem ta3 : (dstp 2 1 tf2 ⟨2, 1, 0, 0, 0⟩ 64).2 = 1 := by kernel_rfl
theorem ta4 : (dstp 2 1 tf3 ⟨1, 3, 1, 0, 0⟩ 7).2 = 1 := by kernel_rfl
theorem tl5 : swL tf4 67 = [3] := by kernel_rfl
theorem tr5 : room 2 1 tf5 = 1 := by kernel_rfl
theorem tu1 : uni 1 tf5 = 0 := by kernel_rfl
theorem tu2 : uni 2 tf5 = 2 := by kernel_rfl
theorem te2 : tf5 2 = eg := by kernel_rfl
theorem ta6 : (dstp 2 1 tf5 ⟨3, 9, 0, 0, 0⟩ 70).2 = 1 := by kernel_rfl
theorem te9 : tf6 9 = eg := by kernel_rfl
theorem gone_run (w : World) : (Instr.field 41 (.agg #[.int .i64 3, .int .i64 0, .int .i64 0, .int .i64 0, .int .i64 0]) 0).run Try.prog w = .ok (.int .i64 3) w := by kernel_rfl
set_option maxHeartbeats 3200000 in
theorem told_any (w : World) : Calls Try.prog 16 #[] w fun e w' => e = .returned (.bool true) ∧ Below w.heap.size w w' := by
  have N := ow_new w 2 1 (by decide)
  have GR := gone_run
  go_enter Try.func16, Try.ntmps16
  go_wp2_with fail
  refine N.mono ?_
  rintro e w1 ⟨q, rfl, O1⟩
  clear N
  have D : Calls Try.prog 12 #[.pointer (some ⟨q, 0, none⟩), .agg #[.int .i64 1, .int .i64 1, .int .i64 2, .int .i64 0, .int .i64 0], .int .i64 5] w1 fun e w' => e = .returned (.int .i64 1) ∧ OwTo w.heap.size (fun g => g < w.heap.size) w w1 q 2 1 tf1 w' := by
    have := ow_do O1 ⟨1, 1, 2, 0, 0⟩ 5
    rw [ta1] at this
    exact this
  clear O1
  go_wp2_with fail
  refine D.mono ?_
  rintro e w2 ⟨rfl, O2, _⟩
  clear D
  have D : Calls Try.prog 12 #[.pointer (some ⟨q, 0, none⟩), .agg #[.int .i64 1, .int .i64 2, .int .i64 2, .int .i64 0, .int .i64 0], .int .i64 5] w2 fun e w' => e = .returned (.int .i64 2) ∧ OwTo w.heap.size (fun g => g < w.heap.size) w w2 q 2 1 tf2 w' := by
    have := ow_do O2 ⟨1, 2, 2, 0, 0⟩ 5
    rw [ta2] at this
    exact this
  clear O2
  go_wp2_with fail
  refine D.mono ?_
  rintro e w3 ⟨rfl, O3, _⟩
  clear D
  have D : Calls Try.prog 12 #[.pointer (some ⟨q, 0, none⟩), .agg #[.int .i64 2, .int .i64 1, .int .i64 0, .int .i64 0, .int .i64 0], .int .i64 64] w3 fun e w' => e = .returned (.int .i64 1) ∧ OwTo w.heap.size (fun g => g < w.heap.size) w w3 q 2 1 tf3 w' := by
    have := ow_do O3 ⟨2, 1, 0, 0, 0⟩ 64
    rw [ta3] at this
    exact this
  clear O3
  go_wp2_with fail
  refine D.mono ?_
  rintro e w4 ⟨rfl, O4, _⟩
  clear D
  have D : Calls Try.prog 12 #[.pointer (some ⟨q, 0, none⟩), .agg #[.int .i64 1, .int .i64 3, .int .i64 1, .int .i64 0, .int .i64 0], .int .i64 7] w4 fun e w' => e = .returned (.int .i64 1) ∧ OwTo w.heap.size (fun g => g < w.heap.size) w w4 q 2 1 tf4 w' := by
    have := ow_do O4 ⟨1, 3, 1, 0, 0⟩ 7
    rw [ta4] at this
    exact this
  clear O4
  go_wp2_with fail
  refine D.mono ?_
  rintro e w5 ⟨rfl, O5, _⟩
  clear D
  have D := ow_sweep O5 67
  rw [tl5] at D
  clear O5
  go_wp2_with fail
  refine D.mono ?_
  rintro e w6 ⟨v, rfl, hr, O6, _⟩
  change Ow _ _ _ _ _ _ _ tf5 at O6
  obtain ⟨A, c, rfl, hc1, hc2, hc3⟩ := ri_form hr
  have NZ : Hid (Nz w6 A [3]) := Nz.of_row hr rfl
  obtain ⟨ad, rfl, -, -, hz⟩ := NZ.out 0 3 rfl
  rw [Addr.add_zero'] at hz
  have FR := ow_free O6
  rw [tr5] at FR
  have hql : Hid (w.heap.size ≤ w6.heap.size) := O6.bs
  replace O6 := Lib.hid O6
  clear D NZ hr
  go_wp2_with fail
  refine FR.mono ?_
  rintro e w7 ⟨rfl, b7⟩
  have O7 := Lib.hid (O6.out.below b7)
  have CO := ow_conf O7.out
  rw [tu2] at CO
  clear FR b7 O6 hz
  go_wp2_with fail
  refine CO.mono ?_
  rintro e w8 ⟨rfl, b8⟩
  have O8 := Lib.hid (O7.out.below b8)
  have HE := ow_held O8.out
  rw [tu1] at HE
  clear CO b8 O7
  go_wp2_with fail
  refine HE.mono ?_
  rintro e w9 ⟨rfl, b9⟩
  have O9 := Lib.hid (O8.out.below b9)
  have EN := ow_entry O9.out 2 ⟨by decide, by decide⟩
  rw [te2] at EN
  unfold cell eg at EN
  simp only at EN
  clear HE b9 O8
  go_wp2_with fail
  refine EN.mono ?_
  rintro e w10 ⟨rfl, b10⟩
  have O10 := Lib.hid (O9.out.below b10)
  have D : Calls Try.prog 12 #[.pointer (some ⟨q, 0, none⟩), .agg #[.int .i64 3, .int .i64 9, .int .i64 0, .int .i64 0, .int .i64 0], .int .i64 70] w10 fun e w' => e = .returned (.int .i64 1) ∧ OwTo w.heap.size (fun g => g < w.heap.size) w w10 q 2 1 tf6 w' := by
    have := ow_do O10.out ⟨3, 9, 0, 0, 0⟩ 70
    rw [ta6] at this
    exact this
  clear EN b10 O9 O10
  go_wp2_with fail
  refine D.mono ?_
  rintro e w11 ⟨rfl, O11, _⟩
  replace O11 := Lib.hid O11
  have EN := ow_entry O11.out 9 ⟨by decide, by decide⟩
  rw [te9] at EN
  unfold cell eg at EN
  simp only at EN
  clear D
  go_wp2_with fail
  refine EN.mono ?_
  rintro e w12 ⟨rfl, b12⟩
  have O12 := Lib.hid (O11.out.below b12)
  clear EN b12 O11
  go_wp2
  go_ret
  exact ⟨rfl, O12.out.be⟩
end St
end Go.Proofs.Ytchlbkfkecpodaa
