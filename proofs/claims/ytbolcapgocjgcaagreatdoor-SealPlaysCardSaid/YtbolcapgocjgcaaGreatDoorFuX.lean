/- The document's own Read. -/
import Derived.Test.YtbolcapgocjgcaaGreatDoorFrT
import Derived.Lib.QuietBelow
import Derived.Test.YtbolcapgocjgcaaGreatDoorFrN
namespace Go.Proofs.YtbolcapgocjgcaaGreatDoor
open Go.RowKit
open Go.Sort
open Go.Proofs.YtbolcapgocjgcaaGreatDoor.Pk
namespace Fr

def OutAt (bs : List UInt8) (c i : Value) : Prop := ∃ k : Nat, i = .int .i64 k ∧ k ≤ bs.length ∧ c = .int .u32 (run 4294967295 (bs.take k) : Nat)
def InAt (x : Nat) (c j : Value) : Prop := ∃ k : Nat, j = .int .i64 k ∧ k ≤ 8 ∧ c = .int .u32 (bitN k x : Nat)

theorem and1_32 (a : Nat) (h : a < 4294967296) : bits .and .u32 (a : Int) 1 = ((a % 2 : Nat) : Int) := by
  have r := u32_and_nat a 1 h (by omega)
  rw [Nat.and_one_is_mod] at r
  exact r
theorem xor_poly (a : Nat) (h : a < 4294967296) : bits .xor .u32 ((a : Int) / 2) 3988292384 = (((a / 2) ^^^ 3988292384 : Nat) : Int) := by
  rw [show (a : Int) / 2 = ((a / 2 : Nat) : Int) by omega]
  exact u32_xor_nat _ 3988292384 (by omega) (by omega)

set_option maxHeartbeats 1600000 in
set_option maxRecDepth 100000 in
theorem rsum (w : World) (bs : List UInt8) (hn : bs.length ≤ 9223372036854775807) :
    Calls Tryz.prog 64 #[.string (str bs)] w fun e w' => e = .returned (.int .u32 (sumOf bs : Nat)) ∧ w = w' := by
  have hsz := str_size bs
  obtain ⟨s, hs⟩ : ∃ s, s = str bs := ⟨_, rfl⟩
  rw [← hs] at hsz ⊢
  have hget : Hid (∀ k (h : k < s.size), bs[k]? = some s[k]) := by
    intro k h
    subst hs
    have : k < bs.length := by omega
    rw [List.getElem?_eq_getElem this]
    rfl
  have hsn : s.size ≤ 9223372036854775807 := by omega
  replace hsz := Lib.hid hsz
  clear hs hn
  go_enter Tryz.func64, Tryz.ntmps64
  go_wp2
  go_loop [3, 4] (fun c i => OutAt bs c i) (fun _ i => s.size - (intOf i).toNat)
  case atStart => exact ⟨0, rfl, Nat.zero_le _, rfl⟩
  case round =>
    obtain ⟨k, rfl, hk, rfl⟩ := hrel
    have hks : k ≤ s.size := by have := hsz.out; omega
    clear hk
    obtain ⟨q, hq⟩ : ∃ q, q = run 4294967295 (bs.take k) := ⟨_, rfl⟩
    have hq2 : q < 4294967296 := by rw [hq]; exact run_lt _ _ (by omega)
    rw [← hq]
    by_cases hlt : k < s.size
    · obtain ⟨x, hx⟩ : ∃ x, x = s[k] := ⟨_, rfl⟩
      have hxk : Hid (bs[k]? = some x) := by rw [hx]; exact hget.out k hlt
      obtain ⟨a, ha⟩ : ∃ a, a = q ^^^ x.toNat := ⟨_, rfl⟩
      have ha2 : a < 4294967296 := by rw [ha]; exact xor_lt32 hq2 x
      have r1 : bits .xor .u32 (q : Int) ((s[k].toNat : Int) % 4294967296) = (a : Int) := by
        rw [ha, ← hx, show ((x.toNat : Int) % 4294967296) = (x.toNat : Int) by have := x.toNat_lt; omega]
        exact u32_xor_nat _ _ hq2 (by have := x.toNat_lt; omega)
      have hnext : Hid (run 4294967295 (bs.take (k + 1)) = bitN 8 a) := by
        unfold Hid
        rw [List.take_add_one, hxk.out, ha, ← byt_bit, hq]
        exact run_snoc _ _ _
      clear hx hq ha
      replace r1 := r1
      go_wp2_with fail
      go_loop [3, 5] (fun c j => InAt a c j) (fun _ j => 8 - (intOf j).toNat)
      case atStart => exact ⟨0, rfl, Nat.zero_le _, rfl⟩
      case round =>
        obtain ⟨j, rfl, hj, rfl⟩ := hrel
        by_cases hj8 : j < 8
        · obtain ⟨y, hy⟩ : ∃ y, y = bitN j a := ⟨_, rfl⟩
          have hy2 : y < 4294967296 := by rw [hy]; exact bitN_lt a ha2 j
          have hn2 : Hid (bitN (j + 1) a = bit y) := by unfold Hid; rw [hy]; rfl
          rw [← hy]
          clear hy
          by_cases hp : y % 2 = 1
          · have r2 : bits .and .u32 (y : Int) 1 = 1 := by rw [and1_32 y hy2, hp]; rfl
            obtain ⟨z, hz⟩ : ∃ z, z = (y / 2) ^^^ 3988292384 := ⟨_, rfl⟩
            have r3 : bits .xor .u32 ((y : Int) / 2) 3988292384 = (z : Int) := by rw [hz]; exact xor_poly y hy2
            have hb : Hid (bit y = z) := by unfold Hid bit; rw [if_pos hp, hz]
            replace hp := Lib.hid hp
            clear hz
            go_wp2
            exact ⟨⟨j + 1, by go_num, by omega, by rw [hn2.out, hb.out]⟩, by simp [intOf]; omega⟩
          · have r2 : bits .and .u32 (y : Int) 1 = 0 := by rw [and1_32 y hy2, show y % 2 = 0 by omega]; rfl
            have hb : Hid (bit y = y / 2) := by unfold Hid bit; rw [if_neg hp]
            replace hp := Lib.hid hp
            go_wp2
            exact ⟨⟨j + 1, by go_num, by omega, by rw [hn2.out, hb.out]; simp⟩, by simp [intOf]; omega⟩
        · obtain rfl : j = 8 := by omega
          have hlen : Hid (k + 1 ≤ bs.length) := by have := hsz.out; show _ ≤ _; omega
          go_wp2
          exact ⟨⟨k + 1, by go_num, hlen.out, by rw [hnext.out]⟩, by simp [intOf]; omega⟩
    · have hd : Hid (q = run 4294967295 bs) := by unfold Hid; rw [hq, List.take_of_length_le (by have := hsz.out; omega)]
      clear hq
      go_wp2
      go_ret
      exact ⟨ret_u32 (by rw [u32_not q hq2]; unfold sumOf; rw [← hd.out]), rfl⟩

theorem str_drop (bs : List UInt8) (k : Nat) : (str bs).extract k (str bs).size = str (bs.drop k) := by
  apply ByteArray.ext
  apply Array.toList_inj.1
  simp [str, ByteArray.size]
  exact List.take_of_length_le (by simp)
theorem str_take (bs : List UInt8) (k : Nat) : (str bs).extract 0 k = str (bs.take k) := by
  apply ByteArray.ext
  apply Array.toList_inj.1
  simp [str]

theorem str_cat (a b : List UInt8) : str a ++ str b = str (a ++ b) := by unfold str; rw [ByteArray.mk_append_mk]
theorem str_add (a b : List UInt8) (h : a.length + b.length ≤ 9223372036854775807) (w : World) : (Op.stringOp .add (str a) (str b)).run Tryz.prog w = .ok (.string (str (a ++ b))) w := by
  rw [run_string_add_sum w _ _ (by rw [str_size, str_size]; exact h), str_cat]


theorem rb_cells (W : World) (xs : Array Value) (fr : Nat × Nat) (bs : List UInt8) (h : xs.toList = u8s bs) : Rb (W.alloc (.cells xs 5 fr)) (fun g => g = W.heap.size) (some ⟨W.heap.size, 0, none⟩) bs.length bs :=
  ⟨rfl, fun _ => ⟨_, rfl, rfl, fun j z hj => by
    rw [Addr.add_lit, Nat.zero_add, World.cell?_alloc_mark, ← Array.getElem?_toList, h, u8s, List.getElem?_map, hj]
    rfl⟩⟩
theorem head_cells (y n : Nat) (hy : y < 4294967296) (hn : n ≤ 1000) : (#[.int .u8 ((y : Int) % 256), .int .u8 ((y : Int) / 256 % 256), .int .u8 ((y : Int) / 65536 % 256), .int .u8 ((y : Int) / 16777216), .int .u8 ((n : Int) % 256), .int .u8 ((n : Int) / 256)] : Array Value).toList = u8s (le 4 y ++ le 2 n) := by
  simp only [le, u8s, List.cons_append, List.nil_append, List.map_cons, List.map_nil]
  rw [ofNat_toNat (by omega), ofNat_toNat (by omega), ofNat_toNat (by omega), ofNat_toNat (by omega), ofNat_toNat (by omega), ofNat_toNat (by omega)]
  rw [show (y : Int) % 256 = ((y % 256 : Nat) : Int) by omega, show (y : Int) / 256 % 256 = ((y / 256 % 256 : Nat) : Int) by omega, show (y : Int) / 65536 % 256 = ((y / 256 / 256 % 256 : Nat) : Int) by omega, show (y : Int) / 16777216 = ((y / 256 / 256 / 256 % 256 : Nat) : Int) by omega, show (n : Int) % 256 = ((n % 256 : Nat) : Int) by omega, show (n : Int) / 256 = ((n / 256 % 256 : Nat) : Int) by omega]

set_option maxHeartbeats 1600000 in
set_option maxRecDepth 100000 in
theorem rframe (w : World) (bs : List UInt8) (h1 : 1 ≤ bs.length) (h2 : bs.length ≤ 1000) :
    Calls Tryz.prog 37 #[.string (str bs)] w fun e w' => e = .returned (.string (str (frame bs))) ∧ RowKit.Below w.heap.size w w' := by
  have S := rsum w bs (by omega)
  obtain ⟨y, hy⟩ : ∃ y, y = sumOf bs := ⟨_, rfl⟩
  rw [← hy] at S
  have hy2 : y < 4294967296 := by rw [hy]; exact sum_lt bs
  replace S := Lib.hid S
  obtain ⟨n, hn⟩ : ∃ n, n = bs.length := ⟨_, rfl⟩
  obtain ⟨s, hs⟩ : ∃ s, s = str bs := ⟨_, rfl⟩
  have hsz : (s.size : Int) = (n : Int) := by rw [hs, str_size, hn]
  rw [← hs] at S ⊢
  rw [← hn] at h1 h2
  replace hs := Lib.hid hs
  replace hn := Lib.hid hn
  replace hy := Lib.hid hy
  go_enter Tryz.func37, Tryz.ntmps37
  go_wp2_with fail
  refine S.out.mono ?_
  rintro e w' ⟨rfl, rfl⟩
  obtain ⟨hd, hhd⟩ : ∃ hd, hd = le 4 y ++ le 2 n := ⟨_, rfl⟩
  have hl6 : hd.length = 6 := by rw [hhd, List.length_append, le_len, le_len]
  have R := rb_cells w _ (0, 0) _ (head_cells y n hy2 h2)
  rw [← hhd] at R
  have s26 := str_run (c := 6) R
  rw [hl6] at s26
  have hcat : str hd ++ s = str (hd ++ bs) := by rw [hs.out]; exact str_cat hd bs
  have hadd : ∀ w, (Op.stringOp .add (str hd) s).run Tryz.prog w = .ok (.string (str (hd ++ bs))) w := fun w => by rw [hs.out]; exact str_add hd bs (by rw [hl6, ← hn.out]; omega) w
  have hdz : (str hd).size = 6 := by rw [str_size, hl6]
  have hq1 : ¬ (str hd).size + s.size > 9223372036854775807 := by rw [hdz]; omega
  have hfin : Hid (hd ++ bs = frame bs) := by
    unfold Hid frame
    rw [← hy.out, ← hn.out, hhd, List.append_assoc]
  clear hhd R hl6 S
  go_wp2
  go_ret
  rw [← hfin.out]
  exact ⟨rfl, (RowKit.Below.refl _ _).alloc (Nat.le_refl _) _⟩
end Fr
end Go.Proofs.YtbolcapgocjgcaaGreatDoor

namespace Go.Proofs.YtbolcapgocjgcaaGreatDoor
open Go.RowKit
open Go.Sort
open Go.Proofs.YtbolcapgocjgcaaGreatDoor.Pk
namespace Fr

theorem i64_or_nat (a b : Nat) (ha : a < 9223372036854775808) (hb : b < 9223372036854775808) (hab : a ||| b < 9223372036854775808) : bits .or .i64 (a : Int) (b : Int) = ((a ||| b : Nat) : Int) := by
  have h1 : (BitVec.ofInt 64 (a : Int)).toNat = a := by rw [BitVec.ofInt_natCast, BitVec.toNat_ofNat]; exact Nat.mod_eq_of_lt (by omega)
  have h2 : (BitVec.ofInt 64 (b : Int)).toNat = b := by rw [BitVec.ofInt_natCast, BitVec.toNat_ofNat]; exact Nat.mod_eq_of_lt (by omega)
  show IntKind.i64.wrap ((BitVec.ofInt 64 (a : Int) ||| BitVec.ofInt 64 (b : Int)).toNat : Int) = _
  rw [BitVec.toNat_or, h1, h2, IntKind.wrap_i64]
  omega
theorem or_two (c d : UInt8) : bits .or .i64 (c.toNat : Int) ((d.toNat : Int) * 256) = ((num [c, d] : Nat) : Int) := by
  have hc := c.toNat_lt
  have hd := d.toNat_lt
  have e : (d.toNat : Int) * 256 = ((d.toNat * 256 : Nat) : Int) := by omega
  have hj : c.toNat ||| d.toNat * 256 = c.toNat + d.toNat * 256 := by
    have := Nat.two_pow_add_eq_or_of_lt (i := 8) (b := c.toNat) hc d.toNat
    rw [Nat.or_comm, Nat.mul_comm d.toNat 256, ← this, Nat.add_comm]
  rw [e, i64_or_nat _ _ (by omega) (by omega) (by rw [hj]; omega), hj]
  show _ = ((c.toNat + 256 * (d.toNat + 256 * 0) : Nat) : Int)
  omega
theorem str_mid (bs : List UInt8) (a b : Nat) : (str bs).extract a b = str ((bs.drop a).take (b - a)) := by
  apply ByteArray.ext
  apply Array.toList_inj.1
  simp [str]

theorem rone_low (w : World) (bs : List UInt8) (at_ : Int) (h : at_ < 0) : Calls Tryz.prog 54 #[.string (str bs), .int .i64 at_] w fun e w' => e = .returned (.tuple #[.string (str []), .int .i64 (-1)]) ∧ w = w' := by
  have es : str [] = ⟨#[]⟩ := rfl
  go_enter Tryz.func54, Tryz.ntmps54
  go_wp2
  go_ret2
  exact ⟨rfl, rfl⟩
theorem rone_high (w : World) (bs : List UInt8) (at_ : Int) (h0 : 0 ≤ at_) (_hx : at_ ≤ 9223372036854775807) (_hn : bs.length ≤ 9223372036854775807) (h : (bs.length : Int) - at_ < 6) : Calls Tryz.prog 54 #[.string (str bs), .int .i64 at_] w fun e w' => e = .returned (.tuple #[.string (str []), .int .i64 (-1)]) ∧ w = w' := by
  obtain ⟨S, hS⟩ : ∃ S, S = str bs := ⟨_, rfl⟩
  have hsz : S.size = bs.length := by rw [hS, str_size]
  rw [← hsz] at h _hn
  rw [← hS]
  clear hS hsz
  by_cases hq : (S.size : Int) < at_
  · go_enter Tryz.func54, Tryz.ntmps54
    go_wp2
    go_ret2
    exact ⟨rfl, rfl⟩
  · have d : decide ((S.size : Int) - at_ < 6) = true := by simpa using h
    go_enter Tryz.func54, Tryz.ntmps54
    go_wp2
    go_ret2
    exact ⟨rfl, rfl⟩

set_option maxHeartbeats 1600000 in
set_option maxRecDepth 100000 in
theorem rone_mid (w : World) (bs : List UInt8) (p : Nat) (h6 : p + 6 ≤ bs.length) (hn : bs.length ≤ 1000000) :
    Calls Tryz.prog 54 #[.string (str bs), .int .i64 p] w fun e w' => RowKit.Below w.heap.size w w' ∧ ((one (bs.drop p) = none ∧ e = .returned (.tuple #[.string (str []), .int .i64 (-1)])) ∨ (∃ r, one (bs.drop p) = some r ∧ e = .returned (.tuple #[.string (str r), .int .i64 ((p : Int) + 6 + (r.length : Int))]))) := by
  obtain ⟨S, hS⟩ : ∃ S, S = str bs := ⟨_, rfl⟩
  have hsz : S.size = bs.length := by rw [hS, str_size]
  rw [← hsz] at h6 hn
  rw [← hS]
  have i4 : p + 4 < S.size := by omega
  have i5 : p + 5 < S.size := by omega
  obtain ⟨c4, hc4⟩ : ∃ c, c = S[p + 4] := ⟨_, rfl⟩
  obtain ⟨c5, hc5⟩ : ∃ c, c = S[p + 5] := ⟨_, rfl⟩
  have b4 := c4.toNat_lt
  have b5 := c5.toNat_lt
  have g4 : ((S[p + 4]).toNat : Int) = (c4.toNat : Int) := by rw [← hc4]
  have g5 : ((S[p + 5]).toNat : Int) = (c5.toNat : Int) := by rw [← hc5]
  have ho := or_two c4 c5
  replace hS := Lib.hid hS
  replace hsz := Lib.hid hsz
  replace hc4 := Lib.hid hc4
  replace hc5 := Lib.hid hc5
  have j4 : (p : Int) + 4 < (S.size : Int) := by omega
  have j5 : (p : Int) + 5 < (S.size : Int) := by omega
  have k4 : 0 ≤ (p : Int) + 4 := by omega
  have k5 : 0 ≤ (p : Int) + 5 := by omega
  go_enter Tryz.func54, Tryz.ntmps54
  go_wp2_with fail
  go_quiet (fail)
  have b1 : Hid (RowKit.Below w.heap.size w (w.drewN nq)) := ⟨rfl, rfl, rfl, Nat.le_refl _, fun _ _ => rfl⟩
  generalize w.drewN nq = w1 at *
  obtain ⟨L, hL⟩ : ∃ L, L = num [c4, c5] := ⟨_, rfl⟩
  rw [← hL]
  have hL2 : L < 65536 := by rw [hL]; exact num_lt [c4, c5]
  have hL3 : Hid (L = num ((bs.drop (p + 4)).take 2)) := by
    have e : (bs.drop (p + 4)).take 2 = [c4, c5] := by
      have hl : bs.length = S.size := hsz.out.symm
      have e4 : bs[p + 4]? = some c4 := by rw [hc4.out]; have := hS.out; subst this; rw [List.getElem?_eq_getElem (by omega)]; rfl
      have e5 : bs[p + 5]? = some c5 := by rw [hc5.out]; have := hS.out; subst this; rw [List.getElem?_eq_getElem (by omega)]; rfl
      obtain ⟨l4, q4⟩ := List.getElem?_eq_some_iff.1 e4
      obtain ⟨l5, q5⟩ := List.getElem?_eq_some_iff.1 e5
      rw [List.drop_eq_getElem_cons l4, List.drop_eq_getElem_cons l5, q4, q5]
      rfl
    show L = _
    rw [e]; exact hL
  clear hL g4 g5 ho hc4 hc5 b4 b5
  have e0 : Hid (str [] = ⟨#[]⟩) := rfl
  have B : Hid (L < 1 ∨ 1000 < L ∨ S.size - (p + 6) < L → one (bs.drop p) = none) := fun hq => one_bad hsz.out.symm hL3.out hq
  by_cases q1 : L < 1
  · have b := Lib.hid (B.out (.inl q1))
    go_wp2
    go_ret2
    exact ⟨b1.out, .inl ⟨b.out, rfl⟩⟩
  by_cases q2 : 1000 < L
  · have b := Lib.hid (B.out (.inr (.inl q2)))
    go_wp2
    go_ret2
    exact ⟨b1.out, .inl ⟨b.out, rfl⟩⟩
  by_cases q3 : S.size - (p + 6) < L
  · have b := Lib.hid (B.out (.inr (.inr q3)))
    have d : decide ((S.size : Int) - p - 6 < L) = true := by simpa using (show (S.size : Int) - p - 6 < L by omega)
    go_wp2
    go_ret2
    exact ⟨b1.out, .inl ⟨b.out, rfl⟩⟩
  obtain ⟨r, hr⟩ : ∃ r, r = (bs.drop (p + 6)).take L := ⟨_, rfl⟩
  obtain ⟨f, hf⟩ : ∃ f, f = (bs.drop p).take (6 + L) := ⟨_, rfl⟩
  have d : decide ((S.size : Int) - p - 6 < L) = false := by simpa using (show ¬ (S.size : Int) - p - 6 < L by omega)
  have x1 : S.extract (p + 6) (p + 6 + L) = str r := by rw [hS.out, str_mid bs _ _, hr]; congr 2; omega
  have x2 : S.extract p (p + 6 + L) = str f := by rw [hS.out, str_mid bs _ _, hf]; congr 2; omega
  obtain ⟨s1, s2, s3⟩ := one_sum (s := num ((bs.drop p).take 4)) hsz.out.symm h6 rfl hL3.out hr (by omega) (by omega) (by omega)
  have hfr : Hid (frame r = f ↔ sumOf r = num ((bs.drop p).take 4)) := by
    constructor
    · intro e
      have e4 : (bs.drop p).take 4 = le 4 (sumOf r) := by
        have : f.take 4 = (bs.drop p).take 4 := by rw [hf, List.take_take, Nat.min_eq_left (by omega)]
        rw [← this, ← e]
        unfold frame
        rw [List.take_left' (le_len 4 _)]
      rw [e4, num_le 4 _ (by have := sum_lt r; omega)]
    · intro e
      have h1 := one_is (s2 e)
      rw [hf, h1, List.take_left' (by rw [frame_len, s3]; omega)]
  have s3' : Hid (r.length = L) := s3
  have hr1 : 1 ≤ r.length := by rw [s3]; omega
  have hr2 : r.length ≤ 1000 := by rw [s3]; omega
  have Q : Hid (∀ w2, Calls Tryz.prog 37 #[.string (str r)] w2 fun e w' => e = .returned (.string (str (frame r))) ∧ RowKit.Below w2.heap.size w2 w') := fun w2 => rframe w2 r hr1 hr2
  clear hr hf s3 hr1 hr2 B hL3
  by_cases q4 : frame r = f
  · have s2' := Lib.hid (s2 (hfr.out.1 q4))
    rw [q4] at Q
    have cF : ∀ d os, Calls Tryz.prog 37 #[.string (str r)] (grow (redrawn w1 d) os) fun e w'' => e = .returned (.string (str f)) ∧ ∃ q : Regrown, w'' = grow (redrawn w1 q.d) q.os := fun d os => Calls.regrown_of (Q.out _)
    clear s1 s2 q4 Q
    go_wp2_with fail
    refine wp_region_quiet_below (by kernel_rfl) (by kernel_rfl) ?_
    repeat (go_big_quiet_step (with_reducible exact cF _ _))
    refine wpQuiet_nil ?_
    intro w2 hw'
    obtain ⟨⟨dq, osq⟩, hw2⟩ := hw'
    have b2 : Hid (RowKit.Below w.heap.size w w2) := by rw [hw2]; exact b1.out.trans ((below_regrown w1 dq osq).mono b1.out.size)
    clear hw2 cF
    go_wp2
    go_ret2
    exact ⟨b2.out, .inr ⟨r, s2'.out, by rw [s3'.out, ← x1]; rfl⟩⟩
  · have s1' := Lib.hid (s1 (fun e => q4 (hfr.out.2 e)))
    have hne : ((str (frame r)).toList == (str f).toList) = false := by rw [str_toList, str_toList]; simpa using q4
    have cF : ∀ d os, Calls Tryz.prog 37 #[.string (str r)] (grow (redrawn w1 d) os) fun e w'' => e = .returned (.string (str (frame r))) ∧ ∃ q : Regrown, w'' = grow (redrawn w1 q.d) q.os := fun d os => Calls.regrown_of (Q.out _)
    clear s1 s2 q4 Q
    go_wp2_with fail
    refine wp_region_quiet_below (by kernel_rfl) (by kernel_rfl) ?_
    repeat (go_big_quiet_step (with_reducible exact cF _ _))
    refine wpQuiet_nil ?_
    intro w2 hw'
    obtain ⟨⟨dq, osq⟩, hw2⟩ := hw'
    have b2 : Hid (RowKit.Below w.heap.size w w2) := by rw [hw2]; exact b1.out.trans ((below_regrown w1 dq osq).mono b1.out.size)
    clear hw2 cF
    go_wp2
    go_ret2
    exact ⟨b2.out, .inl ⟨s1'.out, rfl⟩⟩

/-- What the document's One does. -/
theorem rone_any (w : World) (bs : List UInt8) (at_ : Int) (hx : at_ ≤ 9223372036854775807) (hn : bs.length ≤ 1000000) :
    Calls Tryz.prog 54 #[.string (str bs), .int .i64 at_] w fun e w' => RowKit.Below w.heap.size w w' ∧ ((oneAt bs at_ = none ∧ e = .returned (.tuple #[.string (str []), .int .i64 (-1)])) ∨ (∃ r, oneAt bs at_ = some r ∧ e = .returned (.tuple #[.string (str r), .int .i64 (at_ + 6 + (r.length : Int))]))) := by
  by_cases h0 : at_ < 0
  · exact (rone_low w bs at_ h0).mono fun e w' ⟨h1, h2⟩ => ⟨by rw [← h2]; exact RowKit.Below.refl _ _, .inl ⟨oneAt_out (.inl h0), h1⟩⟩
  · by_cases h6 : (bs.length : Int) - at_ < 6
    · exact (rone_high w bs at_ (by omega) hx (by omega) h6).mono fun e w' ⟨h1, h2⟩ => ⟨by rw [← h2]; exact RowKit.Below.refl _ _, .inl ⟨oneAt_out (.inr h6), h1⟩⟩
    · obtain ⟨p, rfl⟩ := Int.eq_ofNat_of_zero_le (show 0 ≤ at_ by omega)
      have e := oneAt_nat (bs := bs) (p := p) (by omega)
      rw [e]
      exact rone_mid w bs p (by omega) hn
end Fr
end Go.Proofs.YtbolcapgocjgcaaGreatDoor

namespace Go.Proofs.YtbolcapgocjgcaaGreatDoor
open Go.RowKit
open Go.Sort
open Go.Proofs.YtbolcapgocjgcaaGreatDoor.Pk
namespace Fr

def RrAt (w : World) (bs : List UInt8) (v a : Value) (wr : World) : Prop :=
  ∃ l q, a = .int .i64 (q : Nat) ∧ Goes bs 0 l q ∧ q ≤ bs.length ∧ wr.ownsRow w.heap.size 9 1 v l.length (strs l) ∧ RowKit.Below w.heap.size w wr
set_option maxHeartbeats 1600000 in
set_option maxRecDepth 100000 in
theorem rread_any (w : World) (bs : List UInt8) (hn : bs.length ≤ 1000000) :
    Calls Tryz.prog 28 #[.string (str bs)] w fun e w' => ∃ v l q, e = .returned (.tuple #[v, .int .i64 (q : Nat)]) ∧ Got bs l q ∧ w'.ownsRow w.heap.size 9 1 v l.length (strs l) ∧ RowKit.Below w.heap.size w w' := by
  have st : Hid (RrAt w bs (.slice none 0 0) (.int .i64 0) w) := ⟨[], 0, rfl, rfl, Nat.zero_le _, World.ownsRow_nil _ _ _ _, RowKit.Below.refl _ _⟩
  have O : Hid (∀ w' (q : Nat), q ≤ bs.length → Calls Tryz.prog 54 #[.string (str bs), .int .i64 q] w' fun e w'' => RowKit.Below w'.heap.size w' w'' ∧ ((oneAt bs q = none ∧ e = .returned (.tuple #[.string (str []), .int .i64 (-1)])) ∨ (∃ r, oneAt bs q = some r ∧ e = .returned (.tuple #[.string (str r), .int .i64 ((q : Int) + 6 + (r.length : Int))])))) := fun w' q hq => rone_any w' bs q (by omega) hn
  obtain ⟨S, hS⟩ : ∃ S, S = str bs := ⟨_, rfl⟩
  rw [← hS] at O ⊢
  clear hS
  obtain ⟨N, hN⟩ : ∃ N, N = bs.length := ⟨_, rfl⟩
  rw [← hN] at hn
  replace hN := Lib.hid hN
  go_enter Tryz.func28, Tryz.ntmps28
  go_wp2_with fail
  go_loopw [4, 5] (fun v a wr => RrAt w bs v a wr) (fun _ a _ => N + 1 - (intOf a).toNat)
  case atStart => exact st.out
  case round =>
    obtain ⟨l, q, rfl, hgo, hq, ho, hb⟩ := hrel
    rw [← hN.out] at hq
    replace hgo := Lib.hid hgo
    replace ho := Lib.hid ho
    replace hb := Lib.hid hb
    have C := Lib.hid (O.out wr q (by rw [← hN.out]; exact hq))
    have ea := oneAt_nat (bs := bs) (p := q) (by rw [← hN.out]; exact hq)
    replace ea := Lib.hid ea
    go_wp2_with fail
    refine C.out.mono ?_
    rintro e w1 ⟨b1, ⟨h1, rfl⟩ | ⟨r, h1, rfl⟩⟩
    · have F : Hid (Got bs l q) := ⟨hgo.out, ea.out.symm.trans h1⟩
      have O1 := Lib.hid (Fr.own_below ho.out b1)
      have be1 : Hid (RowKit.Below w.heap.size w w1) := hb.out.trans (b1.mono hb.out.size)
      clear b1 h1 ho hb C
      go_wp2
      go_ret2
      exact ⟨_, l, q, rfl, F.out, O1.out, be1.out⟩
    · have h2 : one (bs.drop q) = some r := ea.out.symm.trans h1
      have hl := one_len h2
      rw [List.length_drop, ← hN.out] at hl
      have hgl := goes_le hgo.out
      have G : Hid (Goes bs 0 (l ++ [r]) (q + (6 + r.length))) := goes_snoc hgo.out h2
      obtain ⟨j, hj⟩ : ∃ j, j = l.length := ⟨_, rfl⟩
      have hj2 : j ≤ 1000000 := by omega
      obtain ⟨xs, hxs⟩ : ∃ xs, xs = strs l := ⟨_, rfl⟩
      rw [← hj, ← hxs] at ho
      have O1 := Lib.hid (Fr.own_below ho.out b1)
      have be1 : Hid (RowKit.Below w.heap.size w w1) := hb.out.trans (b1.mono hb.out.size)
      have z1 : w.heap.size ≤ w1.heap.size := be1.out.size
      obtain ⟨m, hm⟩ : ∃ m, m = r.length := ⟨_, rfl⟩
      rw [← hm] at hl G ⊢
      obtain ⟨hl1, hl2, hl3⟩ := hl
      have hp : q + (6 + m) ≤ N := by omega
      replace hm := Lib.hid hm
      replace hj := Lib.hid hj
      replace hxs := Lib.hid hxs
      obtain ⟨i0, hi, hz0, hz1, hz2⟩ := info_parts s_info
      replace hi := Lib.hid hi
      replace hz0 := Lib.hid hz0
      replace hz1 := Lib.hid hz1
      replace hz2 := Lib.hid hz2
      have hmx : m + 6 ≤ N - q := by omega
      have hnot : ¬ (q : Int) + 6 + (m : Int) < 0 := by omega
      clear b1 h1 h2 ho hb C hgl hl1
      go_wp2_with (at_builtin; go_loud (refine wpList_append_1 w1 rfl (.tmp 18) (.tmp 20) 36 rfl w.heap.size 9 i0 (.string ByteArray.empty) 16 Tryz.underlying36 hi.out hz0.out hz1.out hz2.out rfl _ j xs (.string (str r)) rfl O1.out rfl rfl (by unfold maxLen; omega) (by omega) z1 ?_); intro v6 w6 h6 g6; have nx : Hid (RrAt w bs v6 (.int .i64 ((q : Int) + 6 + m)) w6) := ⟨l ++ [r], q + (6 + m), by congr 1; omega, G.out, by rw [← hN.out]; exact hp, by rw [strs_app, List.length_append, ← hj.out, ← hxs.out]; exact h6, (be1.out.alloc z1 _).grown g6 (by simp; omega) (fun g hg => (O1.out.lt g hg).1)⟩; clear h6 g6)
      exact ⟨nx.out, by simp [intOf]; omega⟩
end Fr
end Go.Proofs.YtbolcapgocjgcaaGreatDoor
