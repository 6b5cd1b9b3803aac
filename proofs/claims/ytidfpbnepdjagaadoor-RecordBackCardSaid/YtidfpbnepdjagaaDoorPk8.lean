/- Sum (chapter 1, promise 1.3): by a table, four bits at a time. -/
import Derived.Test.YtidfpbnepdjagaaDoorPk7
namespace Go.Proofs.YtidfpbnepdjagaaDoor
open Go.RowKit
namespace Pk

def tabs : List Nat := [0, 498536548, 997073096, 651767980, 1994146192, 1802195444, 1303535960, 1342533948, 3988292384, 4027552580, 3604390888, 3412177804, 2607071920, 2262029012, 2685067896, 3183342108]
def tab (i : Nat) : Nat := tabs.getD i 0
def nib (x : Nat) : Nat := (x / 16) ^^^ tab (x % 16)
def byt (s : Nat) (c : UInt8) : Nat := nib (nib (s ^^^ c.toNat))
def run (s : Nat) (bs : List UInt8) : Nat := bs.foldl byt s
def sumOf (bs : List UInt8) : Nat := 4294967295 - run 4294967295 bs
theorem tab_lt (i : Nat) : tab i < 4294967296 := by
  by_cases h : i < 16
  · have d : ∀ k : Fin 16, tab k.val < 4294967296 := by decide
    exact d ⟨i, h⟩
  · have e : tab i = 0 := by
      unfold tab
      rw [List.getD_eq_getElem?_getD, List.getElem?_eq_none (by have : tabs.length = 16 := rfl
                                                                omega)]
      rfl
    omega
theorem nib_lt (x : Nat) (h : x < 4294967296) : nib x < 4294967296 := Nat.xor_lt_two_pow (n := 32) (by omega) (by have := tab_lt (x % 16); omega)
theorem byt_lt (s : Nat) (c : UInt8) (h : s < 4294967296) : byt s c < 4294967296 :=
  nib_lt _ (nib_lt _ (Nat.xor_lt_two_pow (n := 32) (by omega) (by have := c.toNat_lt; omega)))
theorem run_lt (bs : List UInt8) : ∀ s, s < 4294967296 → run s bs < 4294967296 := by
  induction bs with
  | nil => intro s h; exact h
  | cons c t ih => intro s h; exact ih _ (byt_lt s c h)
theorem run_snoc (s : Nat) (bs : List UInt8) (c : UInt8) : run s (bs ++ [c]) = byt (run s bs) c := by simp [run]

/-- The table as the program's text lays it. -/
def Tab (w : World) : Prop := ∀ i, i < 16 → w.cell? ⟨0, i, none⟩ = some (.int .u32 (tab i : Nat))
theorem Tab.lt {w : World} (h : Tab w) : 0 < w.heap.size := block_lt_of_cell (a := ⟨0, 0, none⟩) (h 0 (by omega))
theorem Tab.below {w w' : World} (h : Tab w) (hb : Below w.heap.size w w') : Tab w' := fun i hi => (hb.cell (p := ⟨0, i, none⟩) h.lt).trans (h i hi)

theorem and15 (a : Nat) (h : a < 4294967296) : bits .and .u32 (a : Int) 15 = ((a % 16 : Nat) : Int) := by
  have r := u32_and_nat a 15 h (by omega)
  rw [Nat.and_two_pow_sub_one_eq_mod a 4] at r
  exact r
theorem xor_nib (a : Nat) (h : a < 4294967296) : bits .xor .u32 ((a : Int) / 16) ((tab (a % 16) : Nat) : Int) = ((nib a : Nat) : Int) := by
  rw [show (a : Int) / 16 = ((a / 16 : Nat) : Int) by omega]
  exact u32_xor_nat _ _ (by omega) (tab_lt _)
theorem u32_not (x : Nat) (h : x < 4294967296) : bits .xor .u32 IntKind.u32.max (x : Int) = ((4294967295 - x : Nat) : Int) := by
  have h1 : BitVec.ofInt 32 IntKind.u32.max = BitVec.allOnes 32 := by decide
  have h2 : (BitVec.ofInt 32 (x : Int)).toNat = x := by rw [BitVec.ofInt_natCast, BitVec.toNat_ofNat]; exact Nat.mod_eq_of_lt (by omega)
  show IntKind.u32.wrap ((BitVec.ofInt 32 IntKind.u32.max ^^^ BitVec.ofInt 32 (x : Int)).toNat : Int) = _
  rw [h1, BitVec.allOnes_xor, BitVec.toNat_not, h2, IntKind.wrap_u32']
  omega
theorem ret_u32 {a b : Int} (h : a = b) : Ending.returned (.int .u32 a) = .returned (.int .u32 b) := by rw [h]

def SumAt (bs : List UInt8) (s i : Value) : Prop := ∃ k : Nat, k ≤ bs.length ∧ i = .int .i64 k ∧ s = .int .u32 (run 4294967295 (bs.take k) : Nat)
/-- The example of the document: Sum("123456789") is CBF43926. -/
theorem sum_nine : sumOf [49, 50, 51, 52, 53, 54, 55, 56, 57] = 3421780262 := by decide +kernel
end Pk
end Go.Proofs.YtidfpbnepdjagaaDoor
