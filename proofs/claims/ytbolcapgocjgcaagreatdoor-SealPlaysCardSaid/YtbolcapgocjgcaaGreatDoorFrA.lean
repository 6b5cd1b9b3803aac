/- The small functions of frame: what may stand, a number put, a number read. -/
import Derived.Test.YtbolcapgocjgcaaGreatDoorFrM
import Derived.Test.YtbolcapgocjgcaaGreatDoorPkO
import Derived.Laws.DeepNot64
import Derived.Laws.OwnMore
namespace Go.Proofs.YtbolcapgocjgcaaGreatDoor
set_option maxRecDepth 100000
open Go.RowKit
open Go.Proofs.YtbolcapgocjgcaaGreatDoor.Pk
namespace Fr

theorem may_lo (n : Int) (h : n < 1) (w : World) : Calls Tryz.prog 57 #[.int .i64 n] w fun e w' => e = .returned (.bool false) ∧ w = w' := by
  go_enter Tryz.func57, Tryz.ntmps57
  go_wp2
  go_ret
  exact ⟨rfl, rfl⟩
theorem may_hi (n : Int) (h : 1000 < n) (w : World) : Calls Tryz.prog 57 #[.int .i64 n] w fun e w' => e = .returned (.bool false) ∧ w = w' := by
  have d : decide (n ≤ 1000) = false := by simpa using h
  go_enter Tryz.func57, Tryz.ntmps57
  go_wp2
  go_ret
  exact ⟨rfl, rfl⟩
theorem may_yes (n : Int) (h1 : 1 ≤ n) (h2 : n ≤ 1000) (w : World) : Calls Tryz.prog 57 #[.int .i64 n] w fun e w' => e = .returned (.bool true) ∧ w = w' := by
  go_enter Tryz.func57, Tryz.ntmps57
  go_wp2
  go_ret
  exact ⟨rfl, rfl⟩
theorem may_no (n : Int) (h : n < 1 ∨ 1000 < n) (w : World) : Calls Tryz.prog 57 #[.int .i64 n] w fun e w' => e = .returned (.bool false) ∧ w = w' := by
  rcases h with h | h
  · exact may_lo n h w
  · exact may_hi n h w

def PutAt (w : World) (base n0 : Nat) (xs : List UInt8) (n count : Nat) (v i : Value) (wr : World) : Prop :=
  ∃ k : Nat, k ≤ count ∧ i = .int .i64 k ∧ wr.ownsRow base 5 1 v (n0 + k) (u8s (xs ++ le k n)) ∧ Below base w wr
theorem put_next {w wr w6 : World} {base n0 k n : Nat} {xs : List UInt8} {A : Option Addr} {c : Nat} {v6 : Value} {b : Int} {x : UInt8} (hx : x = UInt8.ofNat (n / 256 ^ k % 256)) (hB : base ≤ wr.heap.size) (hb : Below base w wr)
    (ho : wr.ownsRow base 5 1 (.slice A (n0 + k) c) (n0 + k) (u8s (xs ++ le k n))) (h6 : w6.ownsRow base 5 1 v6 (n0 + k + 1) (u8s ((xs ++ le k n) ++ [x]))) (hg6 : (wr.alloc (.cells #[.int .u8 b] 5)).grownBy w6 (Value.slice A (n0 + k) c).ownBlock) :
    w6.ownsRow base 5 1 v6 (n0 + (k + 1)) (u8s (xs ++ le (k + 1) n)) ∧ Below base w w6 := by
  refine ⟨?_, (hb.alloc hB _).grown hg6 (by simp; omega) (fun i hi => (ho.lt i hi).1)⟩
  rw [le_snoc, ← hx, ← List.append_assoc]; exact h6
theorem shr_at (n k : Nat) : ((n : Int) / 2 ^ (8 * k)) % 256 = ((UInt8.ofNat (n / 256 ^ k % 256)).toNat : Int) := by
  rw [ofNat_toNat (by omega)]
  have p8 : (2 : Int) ^ (8 * k) = ((256 ^ k : Nat) : Int) := by
    have : (256 : Nat) ^ k = 2 ^ (8 * k) := by rw [Nat.pow_mul]
    rw [this]; norm_cast
  rw [p8]
  clear p8
  generalize 256 ^ k = m
  rfl

set_option maxHeartbeats 800000 in
set_option maxRecDepth 100000 in
theorem putn (w : World) (base n0 : Nat) (v : Value) (xs : List UInt8) (n count : Nat) (hc : count ≤ 4) (h0 : n0 ≤ 100000) (hB : base ≤ w.heap.size) (ho : w.ownsRow base 5 1 v n0 (u8s xs)) :
    Calls Tryz.prog 58 #[v, .int .u64 n, .int .i64 count] w fun e w' => ∃ v', e = .returned v' ∧ w'.ownsRow base 5 1 v' (n0 + count) (u8s (xs ++ le count n)) ∧ Below base w w' := by
  have st : Hid (PutAt w base n0 xs n count v (.int .i64 0) w) := ⟨0, Nat.zero_le _, rfl, by simpa [le] using ho, Below.refl _ _⟩
  clear ho
  go_enter Tryz.func58, Tryz.ntmps58
  go_wp2
  go_loopw [0, 9] (fun v i wr => PutAt w base n0 xs n count v i wr) (fun _ i _ => count - (intOf i).toNat)
  case atStart => exact st.out
  case round =>
    obtain ⟨k, hk, rfl, ho, hb⟩ := hrel
    obtain ⟨A, c, rfl⟩ := own_form ho
    have hsz : Hid (base ≤ wr.heap.size) := Nat.le_trans hB hb.size
    replace ho := Lib.hid ho
    replace hb := Lib.hid hb
    by_cases hlt : k < count
    · have hs : Hid _ := shr_at n k
      obtain ⟨x, hx⟩ : ∃ x, x = UInt8.ofNat (n / 256 ^ k % 256) := ⟨_, rfl⟩
      rw [← hx] at hs
      have Rn : Hid _ := rb_one wr _ x hs.out
      have On : Hid _ := ho.out.alloc (.cells #[.int .u8 ((n : Int) / 2 ^ (8 * k) % 256)] 5)
      have hnb : n0 + k + 1 ≤ 140737488355328 := by omega
      go_wp2_with (at_builtin; refine wpList_append_b _ rfl (.tmp 12) (.tmp 18) rfl base (.slice A (n0 + k) c) (n0 + k) (xs ++ le k n) rfl On.out rfl Rn.out hnb (by have := hsz.out; simp; omega) ?_; intro v6 w6 hown6 hg6 _; have st6 : Hid (PutAt w base n0 xs n count v6 (.int .i64 ((k : Int) + 1)) w6) := (fun hq => ⟨k + 1, hlt, by simp, hq.1, hq.2⟩) (put_next hx hsz.out hb.out ho.out hown6 hg6); clear hown6 hg6)
      go_roundw
      case rel => exact st6.out
      case measure => simp [intOf]; omega
    · obtain rfl : k = count := by omega
      go_wp2
      go_ret
      exact ⟨_, rfl, ho.out, hb.out⟩

/-- What a read number is so far. -/
def NumAt (bs : List UInt8) (v i : Value) : Prop := ∃ k : Nat, k ≤ bs.length ∧ i = .int .i64 k ∧ v = .int .u64 (num (bs.take k) : Nat)
theorem or_byte (k x : Nat) (c : UInt8) (hk : k < 4) (hx : x < 256 ^ k) : bits .or .u64 (x : Int) (IntKind.u64.wrap ((c.toNat : Int) * 2 ^ (8 * k))) = ((x + 256 ^ k * c.toNat : Nat) : Int) := by
  have hc := c.toNat_lt
  have p8 : (256 : Nat) ^ k = 2 ^ (8 * k) := by rw [Nat.pow_mul]
  have hm : 256 ^ k ≤ 256 ^ 3 := Nat.pow_le_pow_right (by omega) (by omega)
  have hm3 : (256 : Nat) ^ 3 = 16777216 := by decide
  have hb : 256 ^ k * c.toNat < 4294967296 := by
    have : 256 ^ k * c.toNat ≤ 16777216 * 255 := Nat.mul_le_mul (by omega) (by omega)
    omega
  have e : (c.toNat : Int) * 2 ^ (8 * k) = ((256 ^ k * c.toNat : Nat) : Int) := by
    have : (2 : Int) ^ (8 * k) = ((256 ^ k : Nat) : Int) := by rw [p8]; norm_cast
    rw [this, Int.mul_comm]; rfl
  rw [e, wrap_u64_nat (by omega), u64_or_nat x _ (by omega) (by omega)]
  have := Nat.two_pow_add_eq_or_of_lt (i := 8 * k) (b := x) (by rw [← p8]; exact hx) c.toNat
  rw [p8, Nat.or_comm, ← this, Nat.add_comm]

set_option maxHeartbeats 800000 in
set_option maxRecDepth 100000 in
theorem number_any (w : World) {T : Nat → Prop} (ad : Addr) (n c : Nat) (bs : List UInt8) (h : Rb w T (some ad) n bs) (h1 : 1 ≤ n) (h4 : n ≤ 4) :
    Calls Tryz.prog 86 #[.slice (some ad) n c] w fun e w' => e = .returned (.int .u64 (num bs : Nat)) ∧ w = w' := by
  obtain rfl := h.len
  have hc : Hid (∀ j x, bs[j]? = some x → w.cell? (ad.add j) = some (.int .u8 (x.toNat : Int))) := by
    obtain ⟨ad', e, _, hc⟩ := h.at_ h1
    injection e with e
    subst e
    exact hc
  have st : Hid (NumAt bs (.int .u64 0) (.int .i64 0)) := ⟨0, Nat.zero_le _, rfl, rfl⟩
  clear h
  go_enter Tryz.func86, Tryz.ntmps86
  go_wp2
  go_loop [3, 8] (fun v i => NumAt bs v i) (fun _ i => bs.length - (intOf i).toNat)
  case atStart => exact st.out
  case round =>
    obtain ⟨k, hk, rfl, rfl⟩ := hrel
    obtain ⟨s, hs⟩ : ∃ s, s = num (bs.take k) := ⟨_, rfl⟩
    rw [← hs]
    by_cases hlt : k < bs.length
    · obtain ⟨x, hx⟩ : ∃ x, bs[k]? = some x := ⟨_, List.getElem?_eq_getElem hlt⟩
      have hcx := hc.out k x hx
      have hl : s < 256 ^ k := by rw [hs]; have := num_lt (bs.take k); rwa [List.length_take, Nat.min_eq_left hk] at this
      have ho : Hid _ := or_byte k s x (by omega) hl
      have hn : Hid (num (bs.take (k + 1)) = s + 256 ^ k * x.toNat) := by
        unfold Hid
        rw [List.take_add_one, hx, hs]
        show num (bs.take k ++ [x]) = _
        rw [num_snoc, List.length_take, Nat.min_eq_left hk]
      have hxb := x.toNat_lt
      clear hs hl hx
      go_wp2
      exact ⟨⟨k + 1, hlt, by simp, by rw [hn.out, ho.out]⟩, by simp [intOf]; omega⟩
    · have hd : Hid (s = num bs) := by unfold Hid; rw [hs, List.take_of_length_le (by omega)]
      obtain rfl : k = bs.length := by omega
      obtain rfl := hd.out
      clear hs
      go_wp2
      go_ret
      exact ⟨rfl, rfl⟩
end Fr
end Go.Proofs.YtbolcapgocjgcaaGreatDoor
