/- The Reader's numbers: groups of seven bits, one form, within their bounds. -/
import Derived.Test.YtchlbkfkecpodaaGreatPk1
import Derived.Laws.DeepNot64
namespace Go.Proofs.YtchlbkfkecpodaaGreat
open Go.RowKit
namespace Pk

theorem wrap64_small (x : Int) (h1 : -9223372036854775808 ≤ x) (h2 : x ≤ 9223372036854775807) : wrap64 x = x := IntWalk.wrap64_in x ⟨h1, h2⟩
theorem xor_i64_zero (x : Nat) (h : x < 9223372036854775808) : bits .xor .i64 (x : Int) 0 = x := by
  have h1 : (BitVec.ofInt 64 (x : Int)).toNat = x := by rw [BitVec.ofInt_natCast, BitVec.toNat_ofNat]; exact Nat.mod_eq_of_lt (by omega)
  show IntKind.i64.wrap ((BitVec.ofInt 64 (x : Int) ^^^ BitVec.ofInt 64 0).toNat : Int) = _
  rw [BitVec.toNat_xor, h1, show (BitVec.ofInt 64 0).toNat = 0 from rfl, Nat.xor_zero, IntKind.wrap_i64]
  omega
theorem unfold_eq (u : Nat) (h : u < 18446744073709551616) : bits .xor .i64 ((u : Int) / 2) (wrap64 (-wrap64 (bits .and .u64 (u : Int) 1))) = uz u := by
  have e1 : bits .and .u64 (u : Int) 1 = ((u % 2 : Nat) : Int) := by
    have := u64_and_nat u 1 h (by omega)
    rw [Nat.and_one_is_mod] at this
    exact this
  rw [e1, wrap64_small ((u % 2 : Nat) : Int) (by omega) (by omega), wrap64_small (-((u % 2 : Nat) : Int)) (by omega) (by omega)]
  unfold uz
  rcases Nat.mod_two_eq_zero_or_one u with e | e
  · rw [e, if_pos rfl]
    have := xor_i64_zero (u / 2) (by omega)
    simpa using this
  · rw [e, if_neg (by omega)]
    have := i64_not (u / 2) (by omega)
    have hc : bits .xor .i64 ((u : Int) / 2) (-1) = bits .xor .i64 (-1) ((u : Int) / 2) := by simp only [bits, BitVec.xor_comm]
    show bits .xor .i64 ((u : Int) / 2) (-1) = _
    rw [hc]
    have d : ((u : Int) / 2) = ((u / 2 : Nat) : Int) := by omega
    rw [d, this]; omega

theorem ret_i64 {a b : Int} (h : a = b) : Ending.returned (.int .i64 a) = .returned (.int .i64 b) := by rw [h]
theorem and127 (c : UInt8) : bits .and .u8 (c.toNat : Int) 127 = ((c.toNat % 128 : Nat) : Int) := by
  have h := u8_and_nat c.toNat 127 (c.toNat_lt) (by omega)
  have e : c.toNat &&& 127 = c.toNat % 128 := Nat.and_two_pow_sub_one_eq_mod c.toNat 7
  rw [e] at h
  exact h
theorem pow_le9 {k : Nat} (hk : k ≤ 9) : 128 ^ k ≤ 9223372036854775808 := by
  have h : (128 : Nat) ^ k ≤ 128 ^ 9 := Nat.pow_le_pow_right (by omega) hk
  have p9 : (128 : Nat) ^ 9 = 9223372036854775808 := by decide
  omega
theorem or_join (k x y : Nat) (hk : k ≤ 9) (hx : x < 128 ^ k) (hb : y * 128 ^ k < 18446744073709551616) : bits .or .u64 (x : Int) ((y * 128 ^ k : Nat) : Int) = ((x + y * 128 ^ k : Nat) : Int) := by
  have p7 : (128 : Nat) ^ k = 2 ^ (7 * k) := by rw [Nat.pow_mul]
  have h9 := pow_le9 hk
  rw [u64_or_nat x _ (by omega) hb]
  have := Nat.two_pow_add_eq_or_of_lt (i := 7 * k) (b := x) (by rw [← p7]; exact hx) y
  rw [p7, Nat.mul_comm y, Nat.or_comm, ← this, Nat.add_comm]
theorem step_bd {k x y : Nat} (hk : k ≤ 9) (hx : x < 128 ^ k) (hy : y < 128) (h9 : ¬ (k = 9 ∧ 1 < y)) : x + y * 128 ^ k < 18446744073709551616 := by
  by_cases e : k = 9
  · subst e
    have p9 : (128 : Nat) ^ 9 = 9223372036854775808 := by decide
    rw [p9] at hx ⊢; omega
  · have h8 : (128 : Nat) ^ k ≤ 128 ^ 8 := Nat.pow_le_pow_right (by omega) (by omega)
    have p8 : (128 : Nat) ^ 8 = 72057594037927936 := by decide
    have : y * 128 ^ k ≤ 127 * 128 ^ k := Nat.mul_le_mul_right _ (by omega)
    omega
theorem wrap_u64_nat {n : Nat} (h : n < 18446744073709551616) : IntKind.u64.wrap (n : Int) = (n : Int) := by rw [IntKind.wrap_u64]; omega
theorem wrap_and (c : UInt8) : IntKind.u64.wrap (bits .and .u8 (c.toNat : Int) 127) = ((c.toNat % 128 : Nat) : Int) := by rw [and127, wrap_u64_nat (by omega)]
theorem grp_at (k x : Nat) (c : UInt8) (hk : k ≤ 9) (hx : x < 128 ^ k) (h9 : ¬ (k = 9 ∧ 1 < c.toNat % 128)) :
    bits .or .u64 (x : Int) (IntKind.u64.wrap (IntKind.u64.wrap (bits .and .u8 (c.toNat : Int) 127) * 2 ^ (7 * k))) = ((x + c.toNat % 128 * 128 ^ k : Nat) : Int) := by
  have hb := step_bd (y := c.toNat % 128) hk hx (by omega) h9
  have p7 : (2 : Int) ^ (7 * k) = ((128 ^ k : Nat) : Int) := by
    have : (128 : Nat) ^ k = 2 ^ (7 * k) := by rw [Nat.pow_mul]
    rw [this]; norm_cast
  rw [wrap_and, p7, show ((c.toNat % 128 : Nat) : Int) * ((128 ^ k : Nat) : Int) = ((c.toNat % 128 * 128 ^ k : Nat) : Int) by norm_cast, wrap_u64_nat (by omega), or_join k x _ hk hx (by omega)]
theorem grp_at0 (x : Nat) (c : UInt8) (hx : x < 128 ^ 0) :
    bits .or .u64 (x : Int) (IntKind.u64.wrap (IntKind.u64.wrap (bits .and .u8 (c.toNat : Int) 127))) = ((x + c.toNat % 128 * 128 ^ 0 : Nat) : Int) := by
  have := grp_at 0 x c (by omega) hx (by omega)
  simpa using this
theorem grp_at9 (x : Nat) (c : UInt8) (hx : x < 128 ^ 9) (h9 : ¬ 1 < c.toNat % 128) :
    bits .or .u64 (x : Int) (IntKind.u64.wrap (IntKind.u64.wrap (bits .and .u8 (c.toNat : Int) 127) * 9223372036854775808)) = ((x + c.toNat % 128 * 128 ^ 9 : Nat) : Int) := by
  have := grp_at 9 x c (by omega) hx (by omega)
  exact this
theorem u8_ne0 (c : UInt8) : ((c.toNat : Int) != 0) = !decide (c.toNat = 0) := by rw [Bool.eq_iff_iff]; simp
end Pk
end Go.Proofs.YtchlbkfkecpodaaGreat
