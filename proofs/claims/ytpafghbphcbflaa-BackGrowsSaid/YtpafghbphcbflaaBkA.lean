/- The program's Wait, Due, Most; what is told. -/
import Derived.Test.YtpafghbphcbflaaRows
import Derived.WalkKit
import Derived.Lib.Hide
import Derived.Lib.MinMax
namespace Go.Proofs.Ytpafghbphcbflaa
set_option maxRecDepth 100000
open Go.RowKit
namespace Bk

/-- A number of a machine's word. -/
def I (z : Int) : Prop := -9223372036854775808 ≤ z ∧ z ≤ 9223372036854775807
/-- What is waited behind the try of that number. -/
def wt (n : Int) : Int := if n < 1 then 0 else if n < 2 then 4 else if n < 3 then 8 else if n < 4 then 16 else 32
/-- What so many tries take. -/
def mo (n : Int) : Int := if n < 1 then 0 else if n < 2 then 4 else if n < 3 then 12 else if n < 4 then 28 else 28 + 32 * (min n 1000 - 3)

theorem wt_low {n : Int} (h : n < 1) : wt n = 0 := by unfold wt; rw [if_pos h]
theorem wt_pow {n : Int} {m : Nat} (h : 1 ≤ n) (hm : (m : Int) = min (n - 1) 8) : min (4 * 2 ^ m : Int) 32 = wt n := by
  unfold wt
  match m, hm with
  | 0, hm => simp; split <;> omega
  | 1, hm => simp; repeat (split <;> try omega)
  | 2, hm => simp; repeat (split <;> try omega)
  | 3, hm => simp; repeat (split <;> try omega)
  | 4, hm => simp; repeat (split <;> try omega)
  | 5, hm => simp; repeat (split <;> try omega)
  | 6, hm => simp; repeat (split <;> try omega)
  | 7, hm => simp; repeat (split <;> try omega)
  | 8, hm => simp; repeat (split <;> try omega)
  | m + 9, hm => omega
theorem wt_bd (n : Int) : 0 ≤ wt n ∧ wt n ≤ 32 := by unfold wt; repeat (split <;> try omega)
theorem mo_0 : mo 0 = 0 := by decide
theorem mo_low {n : Int} (h : n < 1) : mo n = 0 := by unfold mo; rw [if_pos h]
theorem mo_next {n : Int} (h : 0 ≤ n) (h2 : n < 1000) : mo (n + 1) = mo n + wt (n + 1) := by
  unfold mo wt
  repeat (split <;> try omega)
theorem mo_cut (n : Int) : mo (min n 1000) = mo n := by
  unfold mo
  repeat (split <;> try omega)
theorem mo_bd (n : Int) : 0 ≤ mo n ∧ mo n ≤ 32000 := by
  unfold mo
  repeat (split <;> try omega)
theorem pow_bd {k m : Nat} (h : k < m) (hm : m ≤ 8) : (1 : Int) ≤ 2 ^ k ∧ (2 : Int) ^ k ≤ 128 := by
  match k, (by omega : k < 8) with
  | 0, _ | 1, _ | 2, _ | 3, _ | 4, _ | 5, _ | 6, _ | 7, _ => decide

/-- Between two rounds of Wait. -/
def WtAt (m : Nat) (x i : Value) : Prop := ∃ k : Nat, i = .int .i64 k ∧ k ≤ m ∧ x = .int .i64 (4 * 2 ^ k)

set_option maxHeartbeats 1600000 in
theorem wait_any (n : Int) (hI : I n) (w : World) : Calls Try.prog 5 #[.int .i64 n] w fun e w' => e = .returned (.int .i64 (wt n)) ∧ w' = w := by
  have hI' := Lib.hid hI
  by_cases h1 : n < 1
  · have hw := Lib.hid (wt_low h1)
    clear hI
    go_enter Try.func5, Try.ntmps5
    go_wp2
    go_ret
    exact ⟨by rw [hw.out]; rfl, rfl⟩
  · have h1' : ¬ (n < 1) := h1
    have e1 : wrap64 (n - 1) = n - 1 := by unfold I at hI; unfold wrap64; omega
    obtain ⟨m, hm⟩ : ∃ m : Nat, (m : Int) = min (n - 1) 8 := ⟨(min (n - 1) 8).toNat, by omega⟩
    have hm8 : m ≤ 8 := by omega
    have hw := Lib.hid (wt_pow (by omega) hm)
    replace hm := Lib.hid hm
    clear hI
    go_enter Try.func5, Try.ntmps5
    go_wp2
    rw [← hm.out]
    go_loopw [3, 9] (fun x i wr => WtAt m x i ∧ wr = w) (fun _ i _ => m - (intOf i).toNat)
    case atStart => exact ⟨⟨0, rfl, Nat.zero_le _, rfl⟩, rfl⟩
    case round =>
      obtain ⟨⟨k, rfl, hk, rfl⟩, rfl⟩ := hrel
      by_cases hlt : k < m
      · have hp := pow_bd hlt hm8
        have nx : Hid (WtAt m (.int .i64 (4 * 2 ^ k * 2)) (.int .i64 ((k : Int) + 1))) := ⟨k + 1, rfl, hlt, by rw [Int.pow_succ, Int.mul_assoc]⟩
        go_wp2
        exact ⟨⟨nx.out, trivial⟩, by simp [intOf]; omega⟩
      · obtain rfl : k = m := by omega
        go_wp2
        go_ret
        exact ⟨by rw [hw.out]; rfl, rfl⟩

/-- Between two rounds of Most. -/
def MoAt (m : Nat) (x i : Value) : Prop := ∃ k : Nat, i = .int .i64 k ∧ k ≤ m ∧ x = .int .i64 (mo k)

set_option maxHeartbeats 1600000 in
theorem most_any (n : Int) (hI : I n) (w : World) : Calls Try.prog 6 #[.int .i64 n] w fun e w' => e = .returned (.int .i64 (mo n)) ∧ w' = w := by
  have _ := hI
  by_cases h0 : n < 1
  · have hm := Lib.hid (mo_low h0)
    have hlt : ¬ 0 < min n 1000 := by omega
    replace hlt := Lib.hid hlt
    go_enter Try.func6, Try.ntmps6
    go_wp2
    go_loopw [3, 7] (fun x i wr => x = .int .i64 0 ∧ i = .int .i64 0 ∧ wr = w) (fun _ _ _ => 0)
    case atStart => exact ⟨rfl, rfl, rfl⟩
    case round =>
      obtain ⟨rfl, rfl, rfl⟩ := hrel
      have hlt' := hlt.out
      go_wp2
      go_ret
      exact ⟨by rw [hm.out]; rfl, rfl⟩
  · obtain ⟨m, hm⟩ : ∃ m : Nat, (m : Int) = min n 1000 := ⟨(min n 1000).toNat, by omega⟩
    have hm1 : m ≤ 1000 := by omega
    have he : Hid (mo m = mo n) := by rw [hm]; exact mo_cut n
    replace hm := Lib.hid hm
    clear h0
    go_enter Try.func6, Try.ntmps6
    go_wp2
    rw [← hm.out]
    go_loopw [3, 7] (fun x i wr => MoAt m x i ∧ wr = w) (fun _ i _ => m - (intOf i).toNat)
    case atStart => exact ⟨⟨0, rfl, Nat.zero_le _, rfl⟩, rfl⟩
    case round =>
      obtain ⟨⟨k, rfl, hk, rfl⟩, rfl⟩ := hrel
      by_cases hlt : k < m
      · have nx : Hid (MoAt m (.int .i64 (mo k + wt ((k : Int) + 1))) (.int .i64 ((k : Int) + 1))) := ⟨k + 1, rfl, hlt, by rw [← mo_next (by omega) (by omega)]; rfl⟩
        have hb := mo_bd k
        have hb2 := wt_bd ((k : Int) + 1)
        have CW := Lib.hid (wait_any ((k : Int) + 1) (by unfold I; omega))
        obtain ⟨a, ha⟩ : ∃ a, a = mo k := ⟨_, rfl⟩
        obtain ⟨b, hb'⟩ : ∃ b, b = wt ((k : Int) + 1) := ⟨_, rfl⟩
        rw [← ha, ← hb'] at nx
        rw [← hb'] at CW hb2
        rw [← ha] at hb ⊢
        clear ha hb'
        go_wp2_with fail
        refine (CW.out _).mono ?_
        rintro e w1 ⟨rfl, rfl⟩
        go_wp2
        exact ⟨⟨nx.out, trivial⟩, by simp [intOf]; omega⟩
      · obtain rfl : k = m := by omega
        go_wp2
        go_ret
        exact ⟨by rw [he.out]; rfl, rfl⟩

/-- Is it due? -/
def due (now sent n : Int) : Bool := decide (0 ≤ now) && (decide (0 ≤ sent) && decide (wt n ≤ now - sent))
set_option maxHeartbeats 1600000 in
theorem due_any (now sent n : Int) (h1 : I now) (h2 : I sent) (hI : I n) (w : World) :
    Calls Try.prog 8 #[.int .i64 now, .int .i64 sent, .int .i64 n] w fun e w' => e = .returned (.bool (due now sent n)) ∧ w' = w := by
  have CW := Lib.hid (wait_any n hI)
  have hb := wt_bd n
  unfold due
  obtain ⟨b, hb'⟩ : ∃ b, b = wt n := ⟨_, rfl⟩
  rw [← hb'] at CW hb ⊢
  clear hb' hI
  unfold I at h1 h2
  by_cases c1 : 0 ≤ now
  · by_cases c2 : 0 ≤ sent
    · go_enter Try.func8, Try.ntmps8
      go_wp2_with fail
      refine (CW.out _).mono ?_
      rintro e w1 ⟨rfl, rfl⟩
      go_wp2
      go_ret
      exact ⟨by simp [c1, c2], rfl⟩
    · go_enter Try.func8, Try.ntmps8
      go_wp2
      go_ret
      exact ⟨by simp; omega, rfl⟩
  · go_enter Try.func8, Try.ntmps8
    go_wp2
    go_ret
    exact ⟨by simp; omega, rfl⟩
set_option maxHeartbeats 1600000 in
theorem told_any (w : World) : Calls Try.prog 7 #[] w fun e w' => e = .returned (.bool true) ∧ w' = w := by
  have A1 := Lib.hid (wait_any 1 (by unfold I; omega))
  have A2 := Lib.hid (wait_any 2 (by unfold I; omega))
  have A9 := Lib.hid (wait_any 9 (by unfold I; omega))
  have A0 := Lib.hid (wait_any 0 (by unfold I; omega))
  have D1 := Lib.hid (due_any 14 10 1 (by unfold I; omega) (by unfold I; omega) (by unfold I; omega))
  have D2 := Lib.hid (due_any 13 10 1 (by unfold I; omega) (by unfold I; omega) (by unfold I; omega))
  have M3 := Lib.hid (most_any 3 (by unfold I; omega))
  have M0 := Lib.hid (most_any (-1) (by unfold I; omega))
  rw [show wt 1 = 4 by decide] at A1
  rw [show wt 2 = 8 by decide] at A2
  rw [show wt 9 = 32 by decide] at A9
  rw [show wt 0 = 0 by decide] at A0
  rw [show due 14 10 1 = true by decide] at D1
  rw [show due 13 10 1 = false by decide] at D2
  rw [show mo 3 = 28 by decide] at M3
  rw [show mo (-1) = 0 by decide] at M0
  go_enter Try.func7, Try.ntmps7
  go_wp2_with fail
  refine (A1.out _).mono ?_
  rintro e w1 ⟨rfl, rfl⟩
  go_wp2_with fail
  refine (A2.out _).mono ?_
  rintro e w1 ⟨rfl, rfl⟩
  go_wp2_with fail
  refine (A9.out _).mono ?_
  rintro e w1 ⟨rfl, rfl⟩
  go_wp2_with fail
  refine (A0.out _).mono ?_
  rintro e w1 ⟨rfl, rfl⟩
  go_wp2_with fail
  refine (D1.out _).mono ?_
  rintro e w1 ⟨rfl, rfl⟩
  go_wp2_with fail
  refine (D2.out _).mono ?_
  rintro e w1 ⟨rfl, rfl⟩
  go_wp2_with fail
  refine (M3.out _).mono ?_
  rintro e w1 ⟨rfl, rfl⟩
  go_wp2_with fail
  refine (M0.out _).mono ?_
  rintro e w1 ⟨rfl, rfl⟩
  go_wp2
  go_ret
  exact ⟨rfl, rfl⟩
end Bk
end Go.Proofs.Ytpafghbphcbflaa
