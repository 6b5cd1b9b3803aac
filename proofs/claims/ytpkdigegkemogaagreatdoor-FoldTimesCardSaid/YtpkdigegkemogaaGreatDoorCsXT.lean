/- Parts of the claim: CsM, CsA, CsW, CsS -/
import GoSem.Claim
import Derived.RowKit
import Derived.Test.YtpkdigegkemogaaGreatDoorRows
import Derived.WalkKit
import Derived.Lib.Hide
import Derived.Lib.Mul64
import Derived.Laws.Bits64b
import Derived.Laws.Externs
import Derived.Laws.EntriesVeiled
import Derived.Shelf.Bits.Mul64
import Derived.Shelf.Spec.BitsCarry
import Derived.Deep.Draws
import Derived.RegionTactic
import Derived.OwnWalk
import Derived.LoopTactic
import Derived.Lib.MinMax
import Derived.Laws.OwnMore
import Derived.Carry
namespace Go.Proofs.YtpkdigegkemogaaGreatDoor
namespace Cs

def M : Int := 18446744073709551616
def I (x : Int) : Prop := -9223372036854775808 ≤ x ∧ x ≤ 9223372036854775807
instance (x : Int) : Decidable (I x) := by unfold I; infer_instance
def U (x : Int) : Prop := 0 ≤ x ∧ x < 18446744073709551616
def sgu (v : Int) : Int := if v < 0 then 18446744073709551615 else 0
def u64 (v : Int) : Int := v % 18446744073709551616
def s64 (v : Int) : Int := (v + 9223372036854775808) % 18446744073709551616 - 9223372036854775808
def okv (x : Int) : Int := if I x then x else 0
def oke (x : Int) : Int := if I x then 0 else 3
theorem okv_in {x : Int} (h : I x) : okv x = x := if_pos h
theorem oke_in {x : Int} (h : I x) : oke x = 0 := if_pos h
theorem okv_out {x : Int} (h : ¬ I x) : okv x = 0 := if_neg h
theorem oke_out {x : Int} (h : ¬ I x) : oke x = 3 := if_neg h
theorem sgu_U (v : Int) : U (sgu v) := by unfold sgu U; split <;> omega
theorem u64_U (v : Int) : U (u64 v) := by unfold u64 U; omega
theorem s64_I (v : Int) : I (s64 v) := by unfold s64 I; omega

theorem halves (x h l : Int) (hx : -85070591730234615865843651857942052864 ≤ x ∧ x ≤ 85070591730234615865843651857942052864) (hh : h = (x / 18446744073709551616) % 18446744073709551616) (hl : l = x % 18446744073709551616) :
    (h = sgu (s64 l) ↔ I x) ∧ (I x → s64 l = x) := by
  subst hh; subst hl
  unfold sgu s64 I
  constructor
  · split <;> constructor <;> intro h <;> omega
  · intro h; omega

theorem add_parts (a b : Int) (ha : I a) (hb : I b) :
    let low := (u64 a + u64 b) % 18446744073709551616
    let c := (u64 a + u64 b) / 18446744073709551616
    (sgu a + sgu b + c) % 18446744073709551616 = ((a + b) / 18446744073709551616) % 18446744073709551616 ∧ low = (a + b) % 18446744073709551616 ∧ 0 ≤ c ∧ c ≤ 1 := by
  unfold I at ha hb
  unfold u64 sgu
  simp only
  split <;> split <;> omega
def bor (x y : Int) : Int := if x < y then 1 else 0
theorem bor_two (x y : Int) : 0 ≤ bor x y ∧ bor x y ≤ 1 := by unfold bor; split <;> omega
theorem sub_parts (a b : Int) (ha : I a) (hb : I b) :
    (sgu a - sgu b - bor (u64 a) (u64 b)) % 18446744073709551616 = ((a - b) / 18446744073709551616) % 18446744073709551616 ∧ (u64 a - u64 b) % 18446744073709551616 = (a - b) % 18446744073709551616 := by
  unfold I at ha hb
  unfold bor u64 sgu
  split <;> split <;> split <;> omega

def sel (a b : Int) : Int := if a < 0 then u64 b else 0
theorem take_snoc {α : Type} {l : List α} {k : Nat} {x : α} (h : l[k]? = some x) : l.take (k + 1) = l.take k ++ [x] := by rw [List.take_add_one, h]; rfl
end Cs
end Go.Proofs.YtpkdigegkemogaaGreatDoor
namespace Go.Proofs.YtpkdigegkemogaaGreatDoor
open Go.RowKit
namespace Cs

theorem run_add64x (x y : Int) (hx : 0 ≤ x) (hy : 0 ≤ y) (w : World) : (callFunc 169 #[.int .u64 x, .int .u64 y, .int .u64 0]).run Tryz.prog w =
    .ok (.value (.tuple #[.int .u64 ((x + y) % 18446744073709551616), .int .u64 ((x + y) / 18446744073709551616)])) w := by
  rw [run_callFunc_extern Tryz.func169 (by kernel_rfl) (by kernel_rfl) (by kernel_rfl) (e := add64Entry) (by kernel_rfl), run_add64 x y 0 hx hy (by omega) (by omega)]
  simp only [Result.andThen, Int.add_zero]
theorem run_sub64x (x y : Int) (hx : 0 ≤ x) (hy : 0 ≤ y) (hy' : y < 18446744073709551616) (w : World) : (callFunc 166 #[.int .u64 x, .int .u64 y, .int .u64 0]).run Tryz.prog w =
    .ok (.value (.tuple #[.int .u64 ((x - y) % 18446744073709551616), .int .u64 (bor x y)])) w := by
  obtain ⟨x, rfl⟩ := Int.eq_ofNat_of_zero_le hx
  obtain ⟨y, rfl⟩ := Int.eq_ofNat_of_zero_le hy
  have h0 := run_sub64 (P := Tryz.prog) x y 0 (by omega) w
  rw [run_callFunc_extern Tryz.func166 (by kernel_rfl) (by kernel_rfl) (by kernel_rfl) (e := sub64Entry) (by kernel_rfl)]
  rw [show (Value.int .u64 0) = .int .u64 ((0 : Nat) : Int) from rfl, h0]
  simp only [Result.andThen]
  have e1 : (((x + 18446744073709551616 - y - 0) % 18446744073709551616 : Nat) : Int) = ((x : Int) - y) % 18446744073709551616 := by omega
  have e2 : ((if x < y + 0 then 1 else 0 : Nat) : Int) = bor x y := by unfold bor; split <;> split <;> omega
  rw [e1, e2]

theorem sh63 (v : Int) (h : I v) : IntKind.u64.wrap (v / 9223372036854775808) = sgu v := by
  unfold I at h; unfold sgu; rw [IntKind.wrap_u64]; split <;> omega
set_option maxHeartbeats 400000 in
theorem signs_any (v : Int) (h : I v) (w : World) : Calls Tryz.prog 168 #[.int .i64 v] w fun e w' => e = .returned (.int .u64 (sgu v)) ∧ w = w' := by
  have h' := Lib.hid h
  clear h
  go_enter Tryz.func168, Tryz.ntmps168
  go_wp2
  go_ret
  exact ⟨congrArg (fun x => Ending.returned (.int .u64 x)) (by first | rfl | exact sh63 v h'.out), rfl⟩

def NumTo (x : Int) (w : World) (e : Ending) (w' : World) : Prop := e = .returned (.tuple #[.int .i64 (okv x), .int .i64 (oke x)]) ∧ Below w.heap.size w w'
set_option maxHeartbeats 1000000 in
theorem number_in (h l x : Int) (hx : h = sgu (s64 l)) (hI : I x) (hv : s64 l = x) (w : World) : Calls Tryz.prog 167 #[.int .u64 h, .int .u64 l] w (NumTo x w) := by
  have e1 : wrap64 l = x := by rw [← hv]; unfold s64 wrap64; rfl
  subst hx
  rw [hv]
  obtain ⟨g, hg⟩ : ∃ g, g = sgu x := ⟨_, rfl⟩
  have C := Lib.hid (fun w => signs_any x hI w)
  rw [← hg] at C ⊢
  clear hv hg
  have hI' := Lib.hid hI
  clear hI
  go_enter Tryz.func167, Tryz.ntmps167
  go_wp2_with (first | (go_at_call 168; ((with_reducible refine (C.out _).mono ?_); rintro e w' ⟨rfl, rfl⟩)) | go_in)
  go_ret2
  exact ⟨by rw [okv_in hI'.out, oke_in hI'.out]; exact congrArg (fun z => Ending.returned (.tuple #[.int .i64 z, .int .i64 0])) e1, (Below.refl _ _).alloc (Nat.le_refl _) _⟩
set_option maxHeartbeats 1000000 in
theorem number_out (h l x : Int) (hx : ¬ h = sgu (s64 l)) (hI : ¬ I x) (w : World) : Calls Tryz.prog 167 #[.int .u64 h, .int .u64 l] w (NumTo x w) := by
  obtain ⟨y, hy⟩ : ∃ y, y = s64 l := ⟨_, rfl⟩
  have e1 : wrap64 l = y := by rw [hy]; unfold s64 wrap64; rfl
  have hyI : I y := hy ▸ s64_I l
  rw [← hy] at hx
  obtain ⟨g, hg⟩ : ∃ g, g = sgu y := ⟨_, rfl⟩
  have C := Lib.hid (fun w => signs_any y hyI w)
  rw [← hg] at C hx
  clear hy hg hyI
  have hI' := Lib.hid hI
  have hq : (h == g) = false := by simpa using hx
  clear hI hx
  go_enter Tryz.func167, Tryz.ntmps167
  go_wp2_with (first | (go_at_call 168; ((with_reducible refine (C.out _).mono ?_); rintro e w' ⟨rfl, rfl⟩)) | go_in)
  go_ret2
  exact ⟨by rw [okv_out hI'.out, oke_out hI'.out]; rfl, (Below.refl _ _).alloc (Nat.le_refl _) _⟩
theorem number_any (h l x : Int) (hx : -85070591730234615865843651857942052864 ≤ x ∧ x ≤ 85070591730234615865843651857942052864) (hh : h = (x / 18446744073709551616) % 18446744073709551616) (hl : l = x % 18446744073709551616) (w : World) :
    Calls Tryz.prog 167 #[.int .u64 h, .int .u64 l] w (NumTo x w) := by
  obtain ⟨h1, h2⟩ := halves x h l hx hh hl
  by_cases hI : I x
  · exact number_in h l x (h1.2 hI) hI (h2 hI) w
  · exact number_out h l x (fun e => hI (h1.1 e)) hI w

theorem wrap_u (x : Int) : IntKind.u64.wrap x = u64 x := IntKind.wrap_u64 x
set_option maxHeartbeats 1000000 in
theorem add_any (a b : Int) (ha : I a) (hb : I b) (w : World) : Calls Tryz.prog 147 #[.int .i64 a, .int .i64 b] w (NumTo (a + b) w) := by
  have P := add_parts a b ha hb
  have n0 := (u64_U a).1
  have n1 := (u64_U b).1
  have ea := wrap_u a
  have eb := wrap_u b
  obtain ⟨ua, hua⟩ : ∃ z, z = u64 a := ⟨_, rfl⟩
  obtain ⟨ub, hub⟩ : ∃ z, z = u64 b := ⟨_, rfl⟩
  rw [← hua] at P n0 ea
  rw [← hub] at P n1 eb
  have A1 := run_add64x ua ub n0 n1
  obtain ⟨lo, hlo⟩ : ∃ z, z = (ua + ub) % 18446744073709551616 := ⟨_, rfl⟩
  obtain ⟨cy, hcy⟩ : ∃ z, z = (ua + ub) / 18446744073709551616 := ⟨_, rfl⟩
  simp only [← hlo, ← hcy] at P A1
  obtain ⟨p1, p2, p3, p4⟩ := P
  have S1 := Lib.hid (fun w => signs_any a ha w)
  have S2 := Lib.hid (fun w => signs_any b hb w)
  have g0 := sgu_U a
  have g1 := sgu_U b
  obtain ⟨sa, hsa⟩ : ∃ z, z = sgu a := ⟨_, rfl⟩
  obtain ⟨sb, hsb⟩ : ∃ z, z = sgu b := ⟨_, rfl⟩
  rw [← hsa] at p1 S1 g0
  rw [← hsb] at p1 S2 g1
  have N := Lib.hid (fun w => number_any (u64 (u64 (sa + sb) + cy)) lo (a + b) (by unfold I at ha hb; omega) (by rw [← p1]; unfold u64; omega) p2 w)
  have q1 := wrap_u (sa + sb)
  have q2 := wrap_u (u64 (sa + sb) + cy)
  obtain ⟨z1, hz1⟩ : ∃ z, z = u64 (sa + sb) := ⟨_, rfl⟩
  rw [← hz1] at q1 q2 N
  obtain ⟨z2, hz2⟩ : ∃ z, z = u64 (z1 + cy) := ⟨_, rfl⟩
  rw [← hz2] at q2 N
  clear hz1 hz2 hsa hsb hua hub hlo hcy p1 p2 p3 p4 g0 g1 n0 n1 ha hb
  go_enter Tryz.func147, Tryz.ntmps147
  go_wp2_with fail
  refine (S1.out _).mono ?_
  rintro e w' ⟨rfl, rfl⟩
  go_wp2_with fail
  refine (S2.out _).mono ?_
  rintro e w' ⟨rfl, rfl⟩
  go_wp2_with fail
  refine (N.out _).mono ?_
  rintro e w' ⟨rfl, hb⟩
  go_wp2
  go_ret2
  exact ⟨rfl, hb⟩
set_option maxHeartbeats 1000000 in
theorem sub_any (a b : Int) (ha : I a) (hb : I b) (w : World) : Calls Tryz.prog 146 #[.int .i64 a, .int .i64 b] w (NumTo (a - b) w) := by
  have P := sub_parts a b ha hb
  have n0 := (u64_U a).1
  have n1 := u64_U b
  have ea := wrap_u a
  have eb := wrap_u b
  obtain ⟨ua, hua⟩ : ∃ z, z = u64 a := ⟨_, rfl⟩
  obtain ⟨ub, hub⟩ : ∃ z, z = u64 b := ⟨_, rfl⟩
  rw [← hua] at P n0 ea
  rw [← hub] at P n1 eb
  have A1 := run_sub64x ua ub n0 n1.1 n1.2
  have c2 := bor_two ua ub
  obtain ⟨lo, hlo⟩ : ∃ z, z = (ua - ub) % 18446744073709551616 := ⟨_, rfl⟩
  obtain ⟨cy, hcy⟩ : ∃ z, z = bor ua ub := ⟨_, rfl⟩
  simp only [← hlo, ← hcy] at P A1 c2
  obtain ⟨p1, p2⟩ := P
  have S1 := Lib.hid (fun w => signs_any a ha w)
  have S2 := Lib.hid (fun w => signs_any b hb w)
  have g0 := sgu_U a
  have g1 := sgu_U b
  obtain ⟨sa, hsa⟩ : ∃ z, z = sgu a := ⟨_, rfl⟩
  obtain ⟨sb, hsb⟩ : ∃ z, z = sgu b := ⟨_, rfl⟩
  rw [← hsa] at p1 S1 g0
  rw [← hsb] at p1 S2 g1
  have N := Lib.hid (fun w => number_any (u64 (u64 (sa - sb) - cy)) lo (a - b) (by unfold I at ha hb; omega) (by rw [← p1]; unfold u64; omega) p2 w)
  have q1 := wrap_u (sa - sb)
  have q2 := wrap_u (u64 (sa - sb) - cy)
  obtain ⟨z1, hz1⟩ : ∃ z, z = u64 (sa - sb) := ⟨_, rfl⟩
  rw [← hz1] at q1 q2 N
  obtain ⟨z2, hz2⟩ : ∃ z, z = u64 (z1 - cy) := ⟨_, rfl⟩
  rw [← hz2] at q2 N
  clear hz1 hz2 hsa hsb hua hub hlo hcy p1 p2 g0 g1 n0 n1 ha hb c2
  go_enter Tryz.func146, Tryz.ntmps146
  go_wp2_with fail
  refine (S1.out _).mono ?_
  rintro e w' ⟨rfl, rfl⟩
  go_wp2_with fail
  refine (S2.out _).mono ?_
  rintro e w' ⟨rfl, rfl⟩
  go_wp2_with fail
  refine (N.out _).mono ?_
  rintro e w' ⟨rfl, hb⟩
  go_wp2
  go_ret2
  exact ⟨rfl, hb⟩

end Cs
end Go.Proofs.YtpkdigegkemogaaGreatDoor
namespace Go.Proofs.YtpkdigegkemogaaGreatDoor
open Go.RowKit
namespace Cs

theorem adr_block (a : Addr) (n : Nat) : (a.add n).block = a.block := by unfold Addr.add; split <;> rfl
structure Ri (w : World) (B : Nat) (A : Option Addr) (n : Nat) (zs : List Int) : Prop where
  len : zs.length = n
  at_ : 0 < n → ∃ ad, A = some ad ∧ ad.block < B ∧ ∀ j z, zs[j]? = some z → w.cell? (ad.add j) = some (.int .i64 z)
  in_ : ∀ z ∈ zs, I z
variable {w w' : World} {B : Nat} {A : Option Addr} {n : Nat} {zs : List Int}
end Cs
end Go.Proofs.YtpkdigegkemogaaGreatDoor
namespace Go.Proofs.YtpkdigegkemogaaGreatDoor
open Go.RowKit
namespace Cs

def MinTo (zs : List Int) (w : World) (e : Ending) (w' : World) : Prop := ∃ m, e = .returned (.int .i64 m) ∧ m ∈ zs ∧ (∀ z ∈ zs, m ≤ z) ∧ w = w'
def MaxTo (zs : List Int) (w : World) (e : Ending) (w' : World) : Prop := ∃ m, e = .returned (.int .i64 m) ∧ m ∈ zs ∧ (∀ z ∈ zs, z ≤ m) ∧ w = w'
def MinAt (zs : List Int) (m i : Value) : Prop := ∃ (k : Nat) (v : Int), i = .int .i64 k ∧ k ≤ zs.length ∧ 0 < k ∧ m = .int .i64 v ∧ v ∈ zs.take k ∧ ∀ z ∈ zs.take k, v ≤ z
def MaxAt (zs : List Int) (m i : Value) : Prop := ∃ (k : Nat) (v : Int), i = .int .i64 k ∧ k ≤ zs.length ∧ 0 < k ∧ m = .int .i64 v ∧ v ∈ zs.take k ∧ ∀ z ∈ zs.take k, z ≤ v
theorem mem_snoc {zs : List Int} {k : Nat} {z x : Int} (h : zs[k]? = some z) : x ∈ zs.take (k + 1) ↔ x ∈ zs.take k ∨ x = z := by rw [take_snoc h]; simp
theorem min_next {zs : List Int} {k : Nat} {z v : Int} (h : zs[k]? = some z) (h1 : v ∈ zs.take k) (h2 : ∀ x ∈ zs.take k, v ≤ x) : MinAt zs (.int .i64 (min v z)) (.int .i64 ((k : Int) + 1)) := by
  refine ⟨k + 1, min v z, rfl, (List.getElem?_eq_some_iff.1 h).1, by omega, rfl, ?_, fun x hx => ?_⟩
  · rw [mem_snoc h]
    rcases Int.le_total v z with e | e
    · rw [Int.min_eq_left e]; exact .inl h1
    · rw [Int.min_eq_right e]; exact .inr rfl
  · rcases (mem_snoc h).1 hx with h3 | rfl
    · have := h2 x h3; omega
    · omega
theorem max_next {zs : List Int} {k : Nat} {z v : Int} (h : zs[k]? = some z) (h1 : v ∈ zs.take k) (h2 : ∀ x ∈ zs.take k, x ≤ v) : MaxAt zs (.int .i64 (max v z)) (.int .i64 ((k : Int) + 1)) := by
  refine ⟨k + 1, max v z, rfl, (List.getElem?_eq_some_iff.1 h).1, by omega, rfl, ?_, fun x hx => ?_⟩
  · rw [mem_snoc h]
    rcases Int.le_total v z with e | e
    · rw [Int.max_eq_right e]; exact .inr rfl
    · rw [Int.max_eq_left e]; exact .inl h1
  · rcases (mem_snoc h).1 hx with h3 | rfl
    · have := h2 x h3; omega
    · omega

set_option maxHeartbeats 1600000 in
theorem min_any (ad : Addr) (n c : Nat) (zs : List Int) (w : World) (R : Ri w w.heap.size (some ad) n zs) (h0 : 0 < n) (hn : n ≤ 9223372036854775807) :
    Calls Tryz.prog 115 #[.slice (some ad) n c] w (MinTo zs w) := by
  have hl := Lib.hid R.len
  obtain ⟨ad', e, hB, hc⟩ := R.at_ h0
  injection e with e
  subst e
  obtain ⟨z0, hz0⟩ : ∃ z, zs[0]? = some z := ⟨_, List.getElem?_eq_getElem (by have := hl.out; omega)⟩
  have q0 := hc 0 z0 hz0
  rw [show ad.add 0 = ad from rfl] at q0
  have st : Hid (MinAt zs (.int .i64 z0) (.int .i64 1)) := by
    have e1 : zs.take 1 = [z0] := by have := take_snoc hz0; simpa using this
    exact ⟨1, z0, rfl, by have := hl.out; omega, by omega, rfl, by rw [e1]; simp, fun z hz => by rw [e1] at hz; simp at hz; omega⟩
  replace hc := Lib.hid hc
  replace hz0 := Lib.hid hz0
  clear R
  go_enter Tryz.func115, Tryz.ntmps115
  go_wp2
  go_loop [3, 4] (fun m i => MinAt zs m i) (fun _ i => n - (intOf i).toNat)
  case atStart => exact st.out
  case round =>
    obtain ⟨k, v, rfl, hk, hk0, rfl, h1, h2⟩ := hrel
    have hkn : k ≤ n := by have := hl.out; omega
    clear hk q0
    replace h1 := Lib.hid h1
    replace h2 := Lib.hid h2
    by_cases hlt : k < n
    · obtain ⟨z, hz⟩ : ∃ z, zs[k]? = some z := ⟨_, List.getElem?_eq_getElem (by have := hl.out; omega)⟩
      have q1 := hc.out k z hz
      have nx := Lib.hid (min_next hz h1.out h2.out)
      replace hz := Lib.hid hz
      go_wp2
      go_round
      case rel => exact nx.out
      case measure => simp [intOf]; omega
    · have hkn2 : k = n := by omega
      have Q : Hid (MinTo zs w (.returned (.int .i64 v)) w) := by
        have e1 : zs.take k = zs := List.take_of_length_le (by have := hl.out; omega)
        exact ⟨v, rfl, by rw [← e1]; exact h1.out, by have := h2.out; rw [e1] at this; exact this, rfl⟩
      clear hkn2
      go_wp2
      go_ret
      exact Q.out
set_option maxHeartbeats 1600000 in
theorem max_any (ad : Addr) (n c : Nat) (zs : List Int) (w : World) (R : Ri w w.heap.size (some ad) n zs) (h0 : 0 < n) (hn : n ≤ 9223372036854775807) :
    Calls Tryz.prog 116 #[.slice (some ad) n c] w (MaxTo zs w) := by
  have hl := Lib.hid R.len
  obtain ⟨ad', e, hB, hc⟩ := R.at_ h0
  injection e with e
  subst e
  obtain ⟨z0, hz0⟩ : ∃ z, zs[0]? = some z := ⟨_, List.getElem?_eq_getElem (by have := hl.out; omega)⟩
  have q0 := hc 0 z0 hz0
  rw [show ad.add 0 = ad from rfl] at q0
  have st : Hid (MaxAt zs (.int .i64 z0) (.int .i64 1)) := by
    have e1 : zs.take 1 = [z0] := by have := take_snoc hz0; simpa using this
    exact ⟨1, z0, rfl, by have := hl.out; omega, by omega, rfl, by rw [e1]; simp, fun z hz => by rw [e1] at hz; simp at hz; omega⟩
  replace hc := Lib.hid hc
  replace hz0 := Lib.hid hz0
  clear R
  go_enter Tryz.func116, Tryz.ntmps116
  go_wp2
  go_loop [3, 4] (fun m i => MaxAt zs m i) (fun _ i => n - (intOf i).toNat)
  case atStart => exact st.out
  case round =>
    obtain ⟨k, v, rfl, hk, hk0, rfl, h1, h2⟩ := hrel
    have hkn : k ≤ n := by have := hl.out; omega
    clear hk q0
    replace h1 := Lib.hid h1
    replace h2 := Lib.hid h2
    by_cases hlt : k < n
    · obtain ⟨z, hz⟩ : ∃ z, zs[k]? = some z := ⟨_, List.getElem?_eq_getElem (by have := hl.out; omega)⟩
      have q1 := hc.out k z hz
      have nx := Lib.hid (max_next hz h1.out h2.out)
      replace hz := Lib.hid hz
      go_wp2
      go_round
      case rel => exact nx.out
      case measure => simp [intOf]; omega
    · have hkn2 : k = n := by omega
      have Q : Hid (MaxTo zs w (.returned (.int .i64 v)) w) := by
        have e1 : zs.take k = zs := List.take_of_length_le (by have := hl.out; omega)
        exact ⟨v, rfl, by rw [← e1]; exact h1.out, by have := h2.out; rw [e1] at this; exact this, rfl⟩
      clear hkn2
      go_wp2
      go_ret
      exact Q.out

end Cs
end Go.Proofs.YtpkdigegkemogaaGreatDoor
