/- The document's own answers (sojournref1): Sum, Frame. -/
import Derived.Test.YthadgeihkeggfaaDoorFrT
import Derived.Lib.QuietBelow
namespace Go.Proofs.YthadgeihkeggfaaDoor
open Go.RowKit
open Go.Sort
open Go.Proofs.YthadgeihkeggfaaDoor.Pk
namespace Fr

def OutAt (bs : List UInt8) (c i : Value) : Prop := ∃ k : Nat, i = .int .i64 k ∧ k ≤ bs.length ∧ c = .int .u32 (run 4294967295 (bs.take k) : Nat)
def InAt (x : Nat) (c j : Value) : Prop := ∃ k : Nat, j = .int .i64 k ∧ k ≤ 8 ∧ c = .int .u32 (bitN k x : Nat)

theorem and1_32 (a : Nat) (h : a < 4294967296) : bits .and .u32 (a : Int) 1 = ((a % 2 : Nat) : Int) := by
  have r := u32_and_nat a 1 h (by omega)
  rw [Nat.and_one_is_mod] at r
  exact r
theorem xor_poly (a : Nat) (h : a < 4294967296) : bits .xor .u32 ((a : Int) / 2) 3988292384 = (((a / 2) ^^^ 3988292384 : Nat) : Int) := by
  rw [show (a : Int) / 2 = ((a / 2 : Nat) : Int) by omega]
  exact u32_xor_nat _ 3988292384 (by omega) (by omega)

set_option maxHeartbeats 1600000 in
set_option maxRecDepth 100000 in
theorem rsum (w : World) (bs : List UInt8) (hn : bs.length ≤ 9223372036854775807) :
    Calls Tryd.prog 19 #[.string (str bs)] w fun e w' => e = .returned (.int .u32 (sumOf bs : Nat)) ∧ w = w' := by
  have hsz := str_size bs
  obtain ⟨s, hs⟩ : ∃ s, s = str bs := ⟨_, rfl⟩
  rw [← hs] at hsz ⊢
  have hget : Hid (∀ k (h : k < s.size), bs[k]? = some s[k]) := by
    intro k h
    subst hs
    have : k < bs.length := by omega
    rw [List.getElem?_eq_getElem this]
    rfl
  have hsn : s.size ≤ 9223372036854775807 := by omega
  replace hsz := Lib.hid hsz
  clear hs hn
  go_enter Tryd.func19, Tryd.ntmps19
  go_wp2
  go_loop [3, 4] (fun c i => OutAt bs c i) (fun _ i => s.size - (intOf i).toNat)
  case atStart => exact ⟨0, rfl, Nat.zero_le _, rfl⟩
  case round =>
    obtain ⟨k, rfl, hk, rfl⟩ := hrel
    have hks : k ≤ s.size := by have := hsz.out; omega
    clear hk
    obtain ⟨q, hq⟩ : ∃ q, q = run 4294967295 (bs.take k) := ⟨_, rfl⟩
    have hq2 : q < 4294967296 := by rw [hq]; exact run_lt _ _ (by omega)
    rw [← hq]
    by_cases hlt : k < s.size
    · obtain ⟨x, hx⟩ : ∃ x, x = s[k] := ⟨_, rfl⟩
      have hxk : Hid (bs[k]? = some x) := by rw [hx]; exact hget.out k hlt
      obtain ⟨a, ha⟩ : ∃ a, a = q ^^^ x.toNat := ⟨_, rfl⟩
      have ha2 : a < 4294967296 := by rw [ha]; exact xor_lt32 hq2 x
      have r1 : bits .xor .u32 (q : Int) ((s[k].toNat : Int) % 4294967296) = (a : Int) := by
        rw [ha, ← hx, show ((x.toNat : Int) % 4294967296) = (x.toNat : Int) by have := x.toNat_lt; omega]
        exact u32_xor_nat _ _ hq2 (by have := x.toNat_lt; omega)
      have hnext : Hid (run 4294967295 (bs.take (k + 1)) = bitN 8 a) := by
        unfold Hid
        rw [List.take_add_one, hxk.out, ha, ← byt_bit, hq]
        exact run_snoc _ _ _
      clear hx hq ha
      replace r1 := r1
      go_wp2_with fail
      go_loop [3, 5] (fun c j => InAt a c j) (fun _ j => 8 - (intOf j).toNat)
      case atStart => exact ⟨0, rfl, Nat.zero_le _, rfl⟩
      case round =>
        obtain ⟨j, rfl, hj, rfl⟩ := hrel
        by_cases hj8 : j < 8
        · obtain ⟨y, hy⟩ : ∃ y, y = bitN j a := ⟨_, rfl⟩
          have hy2 : y < 4294967296 := by rw [hy]; exact bitN_lt a ha2 j
          have hn2 : Hid (bitN (j + 1) a = bit y) := by unfold Hid; rw [hy]; rfl
          rw [← hy]
          clear hy
          by_cases hp : y % 2 = 1
          · have r2 : bits .and .u32 (y : Int) 1 = 1 := by rw [and1_32 y hy2, hp]; rfl
            obtain ⟨z, hz⟩ : ∃ z, z = (y / 2) ^^^ 3988292384 := ⟨_, rfl⟩
            have r3 : bits .xor .u32 ((y : Int) / 2) 3988292384 = (z : Int) := by rw [hz]; exact xor_poly y hy2
            have hb : Hid (bit y = z) := by unfold Hid bit; rw [if_pos hp, hz]
            replace hp := Lib.hid hp
            clear hz
            go_wp2
            exact ⟨⟨j + 1, by go_num, by omega, by rw [hn2.out, hb.out]⟩, by simp [intOf]; omega⟩
          · have r2 : bits .and .u32 (y : Int) 1 = 0 := by rw [and1_32 y hy2, show y % 2 = 0 by omega]; rfl
            have hb : Hid (bit y = y / 2) := by unfold Hid bit; rw [if_neg hp]
            replace hp := Lib.hid hp
            go_wp2
            exact ⟨⟨j + 1, by go_num, by omega, by rw [hn2.out, hb.out]; simp⟩, by simp [intOf]; omega⟩
        · obtain rfl : j = 8 := by omega
          have hlen : Hid (k + 1 ≤ bs.length) := by have := hsz.out; show _ ≤ _; omega
          go_wp2
          exact ⟨⟨k + 1, by go_num, hlen.out, by rw [hnext.out]⟩, by simp [intOf]; omega⟩
    · have hd : Hid (q = run 4294967295 bs) := by unfold Hid; rw [hq, List.take_of_length_le (by have := hsz.out; omega)]
      clear hq
      go_wp2
      go_ret
      exact ⟨ret_u32 (by rw [u32_not q hq2]; unfold sumOf; rw [← hd.out]), rfl⟩

theorem str_drop (bs : List UInt8) (k : Nat) : (str bs).extract k (str bs).size = str (bs.drop k) := by
  apply ByteArray.ext
  apply Array.toList_inj.1
  simp [str, ByteArray.size]
  exact List.take_of_length_le (by simp)
theorem str_take (bs : List UInt8) (k : Nat) : (str bs).extract 0 k = str (bs.take k) := by
  apply ByteArray.ext
  apply Array.toList_inj.1
  simp [str]

theorem str_cat (a b : List UInt8) : str a ++ str b = str (a ++ b) := by unfold str; rw [ByteArray.mk_append_mk]
theorem str_add (a b : List UInt8) (h : a.length + b.length ≤ 9223372036854775807) (w : World) : (Op.stringOp .add (str a) (str b)).run Tryd.prog w = .ok (.string (str (a ++ b))) w := by
  rw [run_string_add_sum w _ _ (by rw [str_size, str_size]; exact h), str_cat]


theorem rb_cells (W : World) (xs : Array Value) (fr : Nat × Nat) (bs : List UInt8) (h : xs.toList = u8s bs) : Rb (W.alloc (.cells xs 5 fr)) (fun g => g = W.heap.size) (some ⟨W.heap.size, 0, none⟩) bs.length bs :=
  ⟨rfl, fun _ => ⟨_, rfl, rfl, fun j z hj => by
    rw [Addr.add_lit, Nat.zero_add, World.cell?_alloc_mark, ← Array.getElem?_toList, h, u8s, List.getElem?_map, hj]
    rfl⟩⟩
theorem head_cells (y n : Nat) (hy : y < 4294967296) (hn : n ≤ 1000) : (#[.int .u8 ((y : Int) % 256), .int .u8 ((y : Int) / 256 % 256), .int .u8 ((y : Int) / 65536 % 256), .int .u8 ((y : Int) / 16777216), .int .u8 ((n : Int) % 256), .int .u8 ((n : Int) / 256)] : Array Value).toList = u8s (le 4 y ++ le 2 n) := by
  simp only [le, u8s, List.cons_append, List.nil_append, List.map_cons, List.map_nil]
  rw [ofNat_toNat (by omega), ofNat_toNat (by omega), ofNat_toNat (by omega), ofNat_toNat (by omega), ofNat_toNat (by omega), ofNat_toNat (by omega)]
  rw [show (y : Int) % 256 = ((y % 256 : Nat) : Int) by omega, show (y : Int) / 256 % 256 = ((y / 256 % 256 : Nat) : Int) by omega, show (y : Int) / 65536 % 256 = ((y / 256 / 256 % 256 : Nat) : Int) by omega, show (y : Int) / 16777216 = ((y / 256 / 256 / 256 % 256 : Nat) : Int) by omega, show (n : Int) % 256 = ((n % 256 : Nat) : Int) by omega, show (n : Int) / 256 = ((n / 256 % 256 : Nat) : Int) by omega]

set_option maxHeartbeats 1600000 in
set_option maxRecDepth 100000 in
theorem rframe (w : World) (bs : List UInt8) (h1 : 1 ≤ bs.length) (h2 : bs.length ≤ 1000) :
    Calls Tryd.prog 10 #[.string (str bs)] w fun e w' => e = .returned (.string (str (frame bs))) ∧ RowKit.Below w.heap.size w w' := by
  have S := rsum w bs (by omega)
  obtain ⟨y, hy⟩ : ∃ y, y = sumOf bs := ⟨_, rfl⟩
  rw [← hy] at S
  have hy2 : y < 4294967296 := by rw [hy]; exact sum_lt bs
  replace S := Lib.hid S
  obtain ⟨n, hn⟩ : ∃ n, n = bs.length := ⟨_, rfl⟩
  obtain ⟨s, hs⟩ : ∃ s, s = str bs := ⟨_, rfl⟩
  have hsz : (s.size : Int) = (n : Int) := by rw [hs, str_size, hn]
  rw [← hs] at S ⊢
  rw [← hn] at h1 h2
  replace hs := Lib.hid hs
  replace hn := Lib.hid hn
  replace hy := Lib.hid hy
  go_enter Tryd.func10, Tryd.ntmps10
  go_wp2_with fail
  refine S.out.mono ?_
  rintro e w' ⟨rfl, rfl⟩
  obtain ⟨hd, hhd⟩ : ∃ hd, hd = le 4 y ++ le 2 n := ⟨_, rfl⟩
  have hl6 : hd.length = 6 := by rw [hhd, List.length_append, le_len, le_len]
  have R := rb_cells w _ (0, 0) _ (head_cells y n hy2 h2)
  rw [← hhd] at R
  have s26 := str_run (c := 6) R
  rw [hl6] at s26
  have hcat : str hd ++ s = str (hd ++ bs) := by rw [hs.out]; exact str_cat hd bs
  have hadd : ∀ w, (Op.stringOp .add (str hd) s).run Tryd.prog w = .ok (.string (str (hd ++ bs))) w := fun w => by rw [hs.out]; exact str_add hd bs (by rw [hl6, ← hn.out]; omega) w
  have hdz : (str hd).size = 6 := by rw [str_size, hl6]
  have hq1 : ¬ (str hd).size + s.size > 9223372036854775807 := by rw [hdz]; omega
  have hfin : Hid (hd ++ bs = frame bs) := by
    unfold Hid frame
    rw [← hy.out, ← hn.out, hhd, List.append_assoc]
  clear hhd R hl6 S
  go_wp2
  go_ret
  rw [← hfin.out]
  exact ⟨rfl, (RowKit.Below.refl _ _).alloc (Nat.le_refl _) _⟩
end Fr
end Go.Proofs.YthadgeihkeggfaaDoor
