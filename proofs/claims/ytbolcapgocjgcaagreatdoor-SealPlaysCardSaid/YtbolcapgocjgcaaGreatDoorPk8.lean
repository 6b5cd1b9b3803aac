/- Sum (chapter 1, promise 1.3): by a table, four bits at a time. -/
import Derived.Test.YtbolcapgocjgcaaGreatDoorPk7
namespace Go.Proofs.YtbolcapgocjgcaaGreatDoor
open Go.RowKit
namespace Pk

def tabs : List Nat := [0, 498536548, 997073096, 651767980, 1994146192, 1802195444, 1303535960, 1342533948, 3988292384, 4027552580, 3604390888, 3412177804, 2607071920, 2262029012, 2685067896, 3183342108]
def tab (i : Nat) : Nat := tabs.getD i 0
def nib (x : Nat) : Nat := (x / 16) ^^^ tab (x % 16)
def byt (s : Nat) (c : UInt8) : Nat := nib (nib (s ^^^ c.toNat))
def run (s : Nat) (bs : List UInt8) : Nat := bs.foldl byt s
def sumOf (bs : List UInt8) : Nat := 4294967295 - run 4294967295 bs
theorem tab_lt (i : Nat) : tab i < 4294967296 := by
  by_cases h : i < 16
  · have d : ∀ k : Fin 16, tab k.val < 4294967296 := by decide
    exact d ⟨i, h⟩
  · have e : tab i = 0 := by
      unfold tab
      rw [List.getD_eq_getElem?_getD, List.getElem?_eq_none (by have : tabs.length = 16 := rfl
                                                                omega)]
      rfl
    omega
theorem nib_lt (x : Nat) (h : x < 4294967296) : nib x < 4294967296 := Nat.xor_lt_two_pow (n := 32) (by omega) (by have := tab_lt (x % 16); omega)
theorem byt_lt (s : Nat) (c : UInt8) (h : s < 4294967296) : byt s c < 4294967296 :=
  nib_lt _ (nib_lt _ (Nat.xor_lt_two_pow (n := 32) (by omega) (by have := c.toNat_lt; omega)))
theorem run_lt (bs : List UInt8) : ∀ s, s < 4294967296 → run s bs < 4294967296 := by
  induction bs with
  | nil => intro s h; exact h
  | cons c t ih => intro s h; exact ih _ (byt_lt s c h)
theorem run_snoc (s : Nat) (bs : List UInt8) (c : UInt8) : run s (bs ++ [c]) = byt (run s bs) c := by simp [run]

/-- The table as the program's text lays it. -/
def Tab (w : World) : Prop := ∀ i, i < 16 → w.cell? ⟨0, i, none⟩ = some (.int .u32 (tab i : Nat))
theorem Tab.lt {w : World} (h : Tab w) : 0 < w.heap.size := block_lt_of_cell (a := ⟨0, 0, none⟩) (h 0 (by omega))
theorem Tab.below {w w' : World} (h : Tab w) (hb : Below w.heap.size w w') : Tab w' := fun i hi => (hb.cell (p := ⟨0, i, none⟩) h.lt).trans (h i hi)

theorem and15 (a : Nat) (h : a < 4294967296) : bits .and .u32 (a : Int) 15 = ((a % 16 : Nat) : Int) := by
  have r := u32_and_nat a 15 h (by omega)
  rw [Nat.and_two_pow_sub_one_eq_mod a 4] at r
  exact r
theorem xor_nib (a : Nat) (h : a < 4294967296) : bits .xor .u32 ((a : Int) / 16) ((tab (a % 16) : Nat) : Int) = ((nib a : Nat) : Int) := by
  rw [show (a : Int) / 16 = ((a / 16 : Nat) : Int) by omega]
  exact u32_xor_nat _ _ (by omega) (tab_lt _)
theorem u32_not (x : Nat) (h : x < 4294967296) : bits .xor .u32 IntKind.u32.max (x : Int) = ((4294967295 - x : Nat) : Int) := by
  have h1 : BitVec.ofInt 32 IntKind.u32.max = BitVec.allOnes 32 := by decide
  have h2 : (BitVec.ofInt 32 (x : Int)).toNat = x := by rw [BitVec.ofInt_natCast, BitVec.toNat_ofNat]; exact Nat.mod_eq_of_lt (by omega)
  show IntKind.u32.wrap ((BitVec.ofInt 32 IntKind.u32.max ^^^ BitVec.ofInt 32 (x : Int)).toNat : Int) = _
  rw [h1, BitVec.allOnes_xor, BitVec.toNat_not, h2, IntKind.wrap_u32']
  omega
theorem ret_u32 {a b : Int} (h : a = b) : Ending.returned (.int .u32 a) = .returned (.int .u32 b) := by rw [h]

def SumAt (bs : List UInt8) (s i : Value) : Prop := ∃ k : Nat, k ≤ bs.length ∧ i = .int .i64 k ∧ s = .int .u32 (run 4294967295 (bs.take k) : Nat)
set_option maxHeartbeats 800000 in
theorem sum_some (w : World) (ad : Addr) (c : Nat) (bs : List UInt8) (hb : ∀ j x, bs[j]? = some x → w.cell? (ad.add j) = some (.int .u8 (x.toNat : Int))) (ht : Tab w) (hn : bs.length ≤ 9223372036854775807) :
    Calls Tryz.prog 59 #[.slice (some ad) bs.length c] w fun e w' => e = .returned (.int .u32 (sumOf bs : Nat)) ∧ w = w' := by
  replace ht := Lib.hid ht
  replace hb := Lib.hid hb
  go_enter Tryz.func59, Tryz.ntmps59
  go_wp2
  go_loop [3, 8] (fun s i => SumAt bs s i) (fun _ i => bs.length - (intOf i).toNat)
  case atStart => exact ⟨0, Nat.zero_le _, rfl, rfl⟩
  case round =>
    obtain ⟨k, hk, rfl, rfl⟩ := hrel
    by_cases hlt : k < bs.length
    · obtain ⟨x, hx⟩ : ∃ x, bs[k]? = some x := ⟨_, List.getElem?_eq_getElem hlt⟩
      have hc := hb.out k x hx
      obtain ⟨s, hs⟩ : ∃ s, s = run 4294967295 (bs.take k) := ⟨_, rfl⟩
      have hs2 : s < 4294967296 := by rw [hs]; exact run_lt _ _ (by omega)
      rw [← hs]
      have hnext : Hid (run 4294967295 (bs.take (k + 1)) = byt s x) := by
        unfold Hid
        rw [List.take_add_one, hx, hs]
        exact run_snoc _ _ _
      have hxb := x.toNat_lt
      obtain ⟨a, ha⟩ : ∃ a, a = s ^^^ x.toNat := ⟨_, rfl⟩
      have ha2 : a < 4294967296 := by rw [ha]; exact Nat.xor_lt_two_pow (n := 32) (by omega) (by omega)
      have r1 : bits .xor .u32 (s : Int) (x.toNat : Int) = (a : Int) := by rw [ha]; exact u32_xor_nat _ _ hs2 (by omega)
      obtain ⟨b, hb1⟩ : ∃ b, b = nib a := ⟨_, rfl⟩
      obtain ⟨d, hd1⟩ : ∃ d, d = nib b := ⟨_, rfl⟩
      have hb2 : b < 4294967296 := by rw [hb1]; exact nib_lt _ ha2
      obtain ⟨t1, q1⟩ : ∃ t1, t1 = tab (a % 16) := ⟨_, rfl⟩
      obtain ⟨t2, q2⟩ : ∃ t2, t2 = tab (b % 16) := ⟨_, rfl⟩
      have r2 : bits .and .u32 (a : Int) 15 = ((a % 16 : Nat) : Int) := and15 a ha2
      have r3 : bits .xor .u32 ((a : Int) / 16) (t1 : Int) = (b : Int) := by rw [q1, hb1]; exact xor_nib a ha2
      have r4 : bits .and .u32 (b : Int) 15 = ((b % 16 : Nat) : Int) := and15 b hb2
      have r5 : bits .xor .u32 ((b : Int) / 16) (t2 : Int) = (d : Int) := by rw [q2, hd1]; exact xor_nib b hb2
      have l1 : a % 16 < 16 := Nat.mod_lt _ (by omega)
      have l2 : b % 16 < 16 := Nat.mod_lt _ (by omega)
      have c1 : w.cell? ⟨0, a % 16, none⟩ = some (.int .u32 (t1 : Int)) := by rw [q1]; exact ht.out _ l1
      have c2 : w.cell? ⟨0, b % 16, none⟩ = some (.int .u32 (t2 : Int)) := by rw [q2]; exact ht.out _ l2
      have hd : Hid (byt s x = d) := by unfold Hid; rw [hd1, hb1, ha]; rfl
      clear hx hs ha hb1 hd1 q1 q2
      go_wp2
      go_round
      case rel => exact ⟨k + 1, by omega, by go_num, by rw [hnext.out, hd.out]⟩
      case measure => simp [intOf]; omega
    · have hd : Hid (run 4294967295 (bs.take k) = run 4294967295 bs) := by unfold Hid; rw [List.take_of_length_le (by omega)]
      obtain ⟨s, hs⟩ : ∃ s, s = run 4294967295 (bs.take k) := ⟨_, rfl⟩
      have hs2 : s < 4294967296 := by rw [hs]; exact run_lt _ _ (by omega)
      rw [← hs]
      rw [← hs] at hd
      clear hs
      go_wp2
      go_ret
      exact ⟨ret_u32 (by rw [u32_not s hs2]; unfold sumOf; rw [← hd.out]), rfl⟩

set_option maxHeartbeats 400000 in
theorem sum_empty (w : World) (A : Option Addr) (c : Nat) :
    Calls Tryz.prog 59 #[.slice A 0 c] w fun e w' => e = .returned (.int .u32 (sumOf [] : Nat)) ∧ w = w' := by
  have hq0 := Lib.hid (u32_not 4294967295 (by omega))
  go_enter Tryz.func59, Tryz.ntmps59
  go_wp2
  refine wp_loop_rounds 1 ?_
  rw [rounds_succ]
  go_wp2
  go_ret
  exact ⟨ret_u32 hq0.out, rfl⟩

theorem sum_any (w : World) {T : Nat → Prop} (A : Option Addr) (n c : Nat) (bs : List UInt8) (h : Rb w T A n bs) (ht : Tab w) (hn : n ≤ 9223372036854775807) :
    Calls Tryz.prog 59 #[.slice A n c] w fun e w' => e = .returned (.int .u32 (sumOf bs : Nat)) ∧ w = w' := by
  obtain rfl := h.len
  rcases Nat.eq_zero_or_pos bs.length with e | e
  · obtain rfl := List.eq_nil_of_length_eq_zero e
    exact sum_empty w A c
  · obtain ⟨ad, rfl, _, hc⟩ := h.at_ e
    exact sum_some w ad c bs hc ht hn

/-- The example of the document: Sum("123456789") is CBF43926. -/
theorem sum_nine : sumOf [49, 50, 51, 52, 53, 54, 55, 56, 57] = 3421780262 := by decide +kernel
end Pk
end Go.Proofs.YtbolcapgocjgcaaGreatDoor
