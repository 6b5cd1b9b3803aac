/- The Writer's calls that the document lists: what each puts (chapter 1, promise 1.1). -/
import Derived.Test.YtchlbkfkecpodaaGreatPk6
namespace Go.Proofs.YtchlbkfkecpodaaGreat
open Go.RowKit
namespace Pk

theorem xor_u64_zero (x : Nat) (h : x < 18446744073709551616) : bits .xor .u64 (x : Int) 0 = x := by
  have := u64_xor_nat x 0 h (by omega)
  rwa [Nat.xor_zero] at this
theorem xor_u64_ones (x : Nat) (h : x < 18446744073709551616) : bits .xor .u64 (x : Int) 18446744073709551615 = ((18446744073709551615 - x : Nat) : Int) := by
  have h1 : BitVec.ofInt 64 18446744073709551615 = BitVec.allOnes 64 := by decide
  have h2 : (BitVec.ofInt 64 (x : Int)).toNat = x := by rw [BitVec.ofInt_natCast, BitVec.toNat_ofNat]; exact Nat.mod_eq_of_lt (by omega)
  show IntKind.u64.wrap ((BitVec.ofInt 64 (x : Int) ^^^ BitVec.ofInt 64 18446744073709551615).toNat : Int) = _
  rw [h1, BitVec.xor_allOnes, BitVec.toNat_not, h2, IntKind.wrap_u64]
  omega
theorem fold_eq (v : Int) (h1 : -9223372036854775808 ≤ v) (h2 : v ≤ 9223372036854775807) :
    bits .xor .u64 (IntKind.u64.wrap (IntKind.u64.wrap v * 2)) (IntKind.u64.wrap (v / 9223372036854775808)) = ((zz v : Nat) : Int) := by
  by_cases h : 0 ≤ v
  · have e1 : IntKind.u64.wrap (IntKind.u64.wrap v * 2) = ((zz v : Nat) : Int) := by rw [IntKind.wrap_u64, IntKind.wrap_u64]; unfold zz; rw [if_pos h]; omega
    have e2 : IntKind.u64.wrap (v / 9223372036854775808) = 0 := by rw [IntKind.wrap_u64]; omega
    rw [e1, e2, xor_u64_zero _ (zz_lt v h1 h2)]
  · have e1 : IntKind.u64.wrap (IntKind.u64.wrap v * 2) = (((2 * v + 18446744073709551616).toNat : Nat) : Int) := by rw [IntKind.wrap_u64, IntKind.wrap_u64]; omega
    have e2 : IntKind.u64.wrap (v / 9223372036854775808) = 18446744073709551615 := by rw [IntKind.wrap_u64]; omega
    rw [e1, e2, xor_u64_ones _ (by omega)]
    unfold zz
    rw [if_neg h]; omega
theorem ret_u64 {a b : Int} (h : a = b) : Ending.returned (.int .u64 a) = .returned (.int .u64 b) := by rw [h]
theorem byte_lo (x : Nat) (h : x < 128) : (x : Int) = ((UInt8.ofNat x).toNat : Int) := by rw [ofNat_toNat (by omega)]
set_option maxRecDepth 10000 in
theorem or128 : ∀ n : Fin 256, (n.val ||| 128) = n.val % 128 + 128 := by decide
theorem byte_hi (x : Nat) : bits .or .u8 ((x : Int) % 256) 128 = ((UInt8.ofNat (x % 128 + 128)).toNat : Int) := by
  rw [ofNat_toNat (by omega)]
  have e : ((x : Int) % 256) = ((x % 256 : Nat) : Int) := by omega
  have h := u8_or_nat (x % 256) 128 (by omega) (by omega)
  rw [e]
  have d' := or128 ⟨x % 256, by omega⟩
  simp only at d'
  rw [d'] at h
  rw [show ((128 : Nat) : Int) = 128 from rfl] at h
  rw [h]; omega
theorem byte_any (v : Int) : v % 256 = ((UInt8.ofNat (v % 256).toNat).toNat : Int) := by rw [ofNat_toNat (by omega)]; omega

theorem rb_one (W : World) (v : Int) (c : UInt8) (h : v = (c.toNat : Int)) : Rb (W.alloc (.cells #[.int .u8 v] 5)) (fun g => g = W.heap.size) (some ⟨W.heap.size, 0, none⟩) 1 [c] :=
  ⟨rfl, fun _ => ⟨_, rfl, rfl, fun j x hj => by
    match j, hj with
    | 0, hj =>
      simp at hj
      subst hj
      rw [Addr.add_zero', h]
      exact one_at (heap_alloc_new _ _)⟩⟩
theorem str_size (ys : List UInt8) : (str ys).size = ys.length := by simp [str, ByteArray.size]
theorem rb_str (W : World) (ys : List UInt8) (c : Nat) (fr : Nat × Nat) : Rb (W.alloc (.cells (bytesRow (str ys) c) 5 fr)) (fun g => g = W.heap.size) (some ⟨W.heap.size, 0, none⟩) ys.length ys :=
  ⟨rfl, fun _ => ⟨_, rfl, rfl, fun j x hj => by
    rw [Addr.add_lit, Nat.zero_add, World.cell?_alloc_mark]
    have hl : j < ys.length := (List.getElem?_eq_some_iff.1 hj).1
    unfold bytesRow
    rw [Array.getElem?_append_left (by simp [str]; omega)]
    simp [str, hj]⟩⟩

end Pk
end Go.Proofs.YtchlbkfkecpodaaGreat
