/- The check sum bit by bit, and four bits at a time: plain arithmetic. -/
import Derived.Test.YtbolcapgocjgcaaGreatDoorPk8
namespace Go.Proofs.YtbolcapgocjgcaaGreatDoor
namespace Pk

def bit (c : Nat) : Nat := if c % 2 = 1 then (c / 2) ^^^ 3988292384 else c / 2
def bitN : Nat → Nat → Nat
  | 0, x => x
  | j + 1, x => bit (bitN j x)
theorem bit_xor (a b : Nat) : bit (a ^^^ b) = bit a ^^^ bit b := by
  have hm : (a ^^^ b) % 2 = (a + b) % 2 := by
    have h := Nat.testBit_xor a b 0
    simp only [Nat.testBit_zero] at h
    rcases Nat.mod_two_eq_zero_or_one a with ha | ha <;> rcases Nat.mod_two_eq_zero_or_one b with hb | hb
    · have := of_decide_eq_false (show decide ((a ^^^ b) % 2 = 1) = false by rw [h, decide_eq_false (by omega), decide_eq_false (by omega)]; rfl)
      omega
    · have := of_decide_eq_true (show decide ((a ^^^ b) % 2 = 1) = true by rw [h, decide_eq_false (by omega), decide_eq_true (by omega)]; rfl)
      omega
    · have := of_decide_eq_true (show decide ((a ^^^ b) % 2 = 1) = true by rw [h, decide_eq_true (by omega), decide_eq_false (by omega)]; rfl)
      omega
    · have := of_decide_eq_false (show decide ((a ^^^ b) % 2 = 1) = false by rw [h, decide_eq_true (by omega), decide_eq_true (by omega)]; rfl)
      omega
  have hd : (a ^^^ b) / 2 = a / 2 ^^^ b / 2 := Nat.xor_div_two
  unfold bit
  rw [hm, hd]
  rcases Nat.mod_two_eq_zero_or_one a with ha | ha <;> rcases Nat.mod_two_eq_zero_or_one b with hb | hb
  · rw [if_neg (by omega), if_neg (by omega), if_neg (by omega)]
  · rw [if_pos (by omega), if_neg (by omega), if_pos (by omega), Nat.xor_assoc]
  · rw [if_pos (by omega), if_pos (by omega), if_neg (by omega), Nat.xor_assoc, Nat.xor_assoc, Nat.xor_comm 3988292384]
  · rw [if_neg (by omega), if_pos (by omega), if_pos (by omega)]
    rw [Nat.xor_assoc, ← Nat.xor_assoc 3988292384, Nat.xor_comm 3988292384, Nat.xor_assoc, Nat.xor_self, Nat.xor_zero]
theorem bit_even (m : Nat) : bit (2 * m) = m := by unfold bit; rw [if_neg (by omega)]; omega
theorem split16 (x : Nat) : (2 ^ 4 * (x / 16)) ^^^ (x % 16) = x := by
  apply Nat.eq_of_testBit_eq
  intro j
  have hx : x = 2 ^ 4 * (x / 16) + x % 16 := by omega
  rw [Nat.testBit_xor]
  conv => rhs; rw [hx]
  rw [Nat.testBit_two_pow_mul_add _ (by omega), Nat.testBit_two_pow_mul]
  by_cases hj : j < 4
  · rw [if_pos hj]
    have : ¬ j ≥ 4 := by omega
    simp [this]
  · rw [if_neg hj]
    have h2 : (x % 16).testBit j = false := Nat.testBit_lt_two_pow (Nat.lt_of_lt_of_le (Nat.mod_lt _ (by omega)) (show 16 ≤ 2 ^ j from by
      have : (2 : Nat) ^ 4 ≤ 2 ^ j := Nat.pow_le_pow_right (by omega) (by omega)
      omega))
    have : j ≥ 4 := by omega
    simp [this, h2]
theorem nib_bit (x : Nat) : nib x = bit (bit (bit (bit x))) := by
  have e : bit (bit (bit (bit (2 ^ 4 * (x / 16))))) = x / 16 := by
    rw [show 2 ^ 4 * (x / 16) = 2 * (2 * (2 * (2 * (x / 16)))) by omega, bit_even, bit_even, bit_even, bit_even]
  have t : ∀ l : Fin 16, bit (bit (bit (bit l.val))) = tab l.val := by decide +kernel
  have t2 := t ⟨x % 16, by omega⟩
  conv => rhs; rw [← split16 x, bit_xor, bit_xor, bit_xor, bit_xor, e]
  rw [show bit (bit (bit (bit (x % 16)))) = tab (x % 16) from t2]
  rfl
theorem byt_bit (s : Nat) (c : UInt8) : byt s c = bitN 8 (s ^^^ c.toNat) := by
  unfold byt
  rw [nib_bit, nib_bit]
  rfl
theorem bit_lt (x : Nat) (h : x < 4294967296) : bit x < 4294967296 := by
  unfold bit
  split
  · exact Nat.xor_lt_two_pow (n := 32) (by omega) (by omega)
  · omega
theorem bitN_lt (x : Nat) (h : x < 4294967296) : ∀ j, bitN j x < 4294967296 := by
  intro j
  induction j with
  | zero => exact h
  | succ j ih => exact bit_lt _ ih
theorem bit_top (x : Nat) (h : x < 4294967296) : (bit x).testBit 31 = decide (x % 2 = 1) := by
  have hlo : (x / 2).testBit 31 = false := Nat.testBit_lt_two_pow (by omega)
  have hp : (3988292384 : Nat).testBit 31 = true := by decide +kernel
  unfold bit
  split
  · rename_i h1
    rw [Nat.testBit_xor, hlo, hp]; simp [h1]
  · rename_i h1
    rw [hlo]; simp [h1]
theorem bit_inj {x y : Nat} (hx : x < 4294967296) (hy : y < 4294967296) (h : bit x = bit y) : x = y := by
  have ht : decide (x % 2 = 1) = decide (y % 2 = 1) := by rw [← bit_top x hx, ← bit_top y hy, h]
  rw [decide_eq_decide] at ht
  unfold bit at h
  by_cases h1 : x % 2 = 1
  · rw [if_pos h1, if_pos (ht.1 h1)] at h
    have h2 : x / 2 = y / 2 := by
      have := congrArg (· ^^^ 3988292384) h
      simpa [Nat.xor_assoc] using this
    omega
  · rw [if_neg h1, if_neg (fun e => h1 (ht.2 e))] at h
    omega
theorem bitN_inj {x y : Nat} (hx : x < 4294967296) (hy : y < 4294967296) : ∀ j, bitN j x = bitN j y → x = y := by
  intro j
  induction j with
  | zero => exact fun h => h
  | succ j ih => exact fun h => ih (bit_inj (bitN_lt x hx j) (bitN_lt y hy j) h)
theorem xor_lt32 {s : Nat} (h : s < 4294967296) (c : UInt8) : s ^^^ c.toNat < 4294967296 := Nat.xor_lt_two_pow (n := 32) (by omega) (by have := c.toNat_lt; omega)
theorem byt_inj {s s' : Nat} (c : UInt8) (h : s < 4294967296) (h' : s' < 4294967296) (e : byt s c = byt s' c) : s = s' := by
  rw [byt_bit, byt_bit] at e
  have := bitN_inj (xor_lt32 h c) (xor_lt32 h' c) 8 e
  have := congrArg (· ^^^ c.toNat) this
  simpa [Nat.xor_assoc] using this
theorem byt_inj2 {s : Nat} {c c' : UInt8} (h : s < 4294967296) (e : byt s c = byt s c') : c = c' := by
  rw [byt_bit, byt_bit] at e
  have := bitN_inj (xor_lt32 h c) (xor_lt32 h c') 8 e
  have := congrArg (s ^^^ ·) this
  simp only [← Nat.xor_assoc, Nat.xor_self, Nat.zero_xor] at this
  exact UInt8.toNat_inj.1 this
theorem run_inj (l : List UInt8) : ∀ s s', s < 4294967296 → s' < 4294967296 → run s l = run s' l → s = s' := by
  induction l with
  | nil => exact fun s s' _ _ h => h
  | cons c t ih => exact fun s s' h h' e => byt_inj c h h' (ih _ _ (byt_lt s c h) (byt_lt s' c h') e)
theorem run_app (s : Nat) (a b : List UInt8) : run s (a ++ b) = run (run s a) b := by simp [run]
theorem sum_turn {bs : List UInt8} {k : Nat} {y z : UInt8} (hk : bs[k]? = some y) : (sumOf bs = sumOf (bs.set k z)) ↔ y = z := by
  obtain ⟨hl, rfl⟩ := List.getElem?_eq_some_iff.1 hk
  have e1 : bs = bs.take k ++ bs[k] :: bs.drop (k + 1) := by rw [← List.drop_eq_getElem_cons hl, List.take_append_drop]
  have e2 : bs.set k z = bs.take k ++ z :: bs.drop (k + 1) := List.set_eq_take_append_cons_drop.trans (by rw [if_pos hl])
  have hr := run_lt (bs.take k) 4294967295 (by omega)
  constructor
  · intro h
    have h1 := run_lt bs 4294967295 (by omega)
    have h2 := run_lt (bs.set k z) 4294967295 (by omega)
    unfold sumOf at h
    have h3 : run 4294967295 bs = run 4294967295 (bs.set k z) := by omega
    rw [e2, run_app] at h3
    conv at h3 => lhs; rw [e1, run_app]
    have h4 := run_inj _ _ _ (byt_lt _ _ hr) (byt_lt _ _ hr) (show run (byt (run 4294967295 (bs.take k)) bs[k]) (bs.drop (k + 1)) = run (byt (run 4294967295 (bs.take k)) z) (bs.drop (k + 1)) from h3)
    exact byt_inj2 hr h4
  · intro h
    rw [← h, List.set_getElem_self]
end Pk
end Go.Proofs.YtbolcapgocjgcaaGreatDoor
