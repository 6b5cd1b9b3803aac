/- The program's numbers: signs, overflow, number, Add, Sub, Mul; the document's own. -/
import Derived.Test.YtchlbkfkecpodaaRows
import Derived.Test.YtchlbkfkecpodaaCsM
import Derived.WalkKit
import Derived.Lib.Hide
import Derived.Lib.Mul64
import Derived.Laws.Bits64b
import Derived.Laws.Externs
import Derived.Laws.EntriesVeiled
import Derived.Shelf.Bits.Mul64
import Derived.Shelf.Spec.BitsCarry
namespace Go.Proofs.Ytchlbkfkecpodaa
open Go.RowKit
namespace Cs

theorem run_add64x (x y : Int) (hx : 0 ≤ x) (hy : 0 ≤ y) (w : World) : (callFunc 131 #[.int .u64 x, .int .u64 y, .int .u64 0]).run Try.prog w =
    .ok (.value (.tuple #[.int .u64 ((x + y) % 18446744073709551616), .int .u64 ((x + y) / 18446744073709551616)])) w := by
  rw [run_callFunc_extern Try.func131 (by kernel_rfl) (by kernel_rfl) (by kernel_rfl) (e := add64Entry) (by kernel_rfl), run_add64 x y 0 hx hy (by omega) (by omega)]
  simp only [Result.andThen, Int.add_zero]
theorem run_sub64x (x y : Int) (hx : 0 ≤ x) (hy : 0 ≤ y) (hy' : y < 18446744073709551616) (w : World) : (callFunc 128 #[.int .u64 x, .int .u64 y, .int .u64 0]).run Try.prog w =
    .ok (.value (.tuple #[.int .u64 ((x - y) % 18446744073709551616), .int .u64 (bor x y)])) w := by
  obtain ⟨x, rfl⟩ := Int.eq_ofNat_of_zero_le hx
  obtain ⟨y, rfl⟩ := Int.eq_ofNat_of_zero_le hy
  have h0 := run_sub64 (P := Try.prog) x y 0 (by omega) w
  rw [run_callFunc_extern Try.func128 (by kernel_rfl) (by kernel_rfl) (by kernel_rfl) (e := sub64Entry) (by kernel_rfl)]
  rw [show (Value.int .u64 0) = .int .u64 ((0 : Nat) : Int) from rfl, h0]
  simp only [Result.andThen]
  have e1 : (((x + 18446744073709551616 - y - 0) % 18446744073709551616 : Nat) : Int) = ((x : Int) - y) % 18446744073709551616 := by omega
  have e2 : ((if x < y + 0 then 1 else 0 : Nat) : Int) = bor x y := by unfold bor; split <;> split <;> omega
  rw [e1, e2]

theorem sh63 (v : Int) (h : I v) : IntKind.u64.wrap (v / 9223372036854775808) = sgu v := by
  unfold I at h; unfold sgu; rw [IntKind.wrap_u64]; split <;> omega
set_option maxHeartbeats 400000 in
theorem signs_any (v : Int) (h : I v) (w : World) : Calls Try.prog 130 #[.int .i64 v] w fun e w' => e = .returned (.int .u64 (sgu v)) ∧ w = w' := by
  have h' := Lib.hid h
  clear h
  go_enter Try.func130, Try.ntmps130
  go_wp2
  go_ret
  exact ⟨congrArg (fun x => Ending.returned (.int .u64 x)) (by first | rfl | exact sh63 v h'.out), rfl⟩

/-- What an operation whose exact result is x leaves: its answer, and nothing that was there turned. -/
def NumTo (x : Int) (w : World) (e : Ending) (w' : World) : Prop := e = .returned (.tuple #[.int .i64 (okv x), .int .i64 (oke x)]) ∧ Below w.heap.size w w'
set_option maxHeartbeats 1000000 in
theorem number_in (h l x : Int) (hx : h = sgu (s64 l)) (hI : I x) (hv : s64 l = x) (w : World) : Calls Try.prog 129 #[.int .u64 h, .int .u64 l] w (NumTo x w) := by
  have e1 : wrap64 l = x := by rw [← hv]; unfold s64 wrap64; rfl
  subst hx
  rw [hv]
  obtain ⟨g, hg⟩ : ∃ g, g = sgu x := ⟨_, rfl⟩
  have C := Lib.hid (fun w => signs_any x hI w)
  rw [← hg] at C ⊢
  clear hv hg
  have hI' := Lib.hid hI
  clear hI
  go_enter Try.func129, Try.ntmps129
  go_wp2_with (first | (go_at_call 130; ((with_reducible refine (C.out _).mono ?_); rintro e w' ⟨rfl, rfl⟩)) | go_in)
  go_ret2
  exact ⟨by rw [okv_in hI'.out, oke_in hI'.out]; exact congrArg (fun z => Ending.returned (.tuple #[.int .i64 z, .int .i64 0])) e1, (Below.refl _ _).alloc (Nat.le_refl _) _⟩
set_option maxHeartbeats 1000000 in
theorem number_out (h l x : Int) (hx : ¬ h = sgu (s64 l)) (hI : ¬ I x) (w : World) : Calls Try.prog 129 #[.int .u64 h, .int .u64 l] w (NumTo x w) := by
  obtain ⟨y, hy⟩ : ∃ y, y = s64 l := ⟨_, rfl⟩
  have e1 : wrap64 l = y := by rw [hy]; unfold s64 wrap64; rfl
  have hyI : I y := hy ▸ s64_I l
  rw [← hy] at hx
  obtain ⟨g, hg⟩ : ∃ g, g = sgu y := ⟨_, rfl⟩
  have C := Lib.hid (fun w => signs_any y hyI w)
  rw [← hg] at C hx
  clear hy hg hyI
  have hI' := Lib.hid hI
  have hq : (h == g) = false := by simpa using hx
  clear hI hx
  go_enter Try.func129, Try.ntmps129
  go_wp2_with (first | (go_at_call 130; ((with_reducible refine (C.out _).mono ?_); rintro e w' ⟨rfl, rfl⟩)) | go_in)
  go_ret2
  exact ⟨by rw [okv_out hI'.out, oke_out hI'.out]; rfl, (Below.refl _ _).alloc (Nat.le_refl _) _⟩
theorem number_any (h l x : Int) (hx : -85070591730234615865843651857942052864 ≤ x ∧ x ≤ 85070591730234615865843651857942052864) (hh : h = (x / 18446744073709551616) % 18446744073709551616) (hl : l = x % 18446744073709551616) (w : World) :
    Calls Try.prog 129 #[.int .u64 h, .int .u64 l] w (NumTo x w) := by
  obtain ⟨h1, h2⟩ := halves x h l hx hh hl
  by_cases hI : I x
  · exact number_in h l x (h1.2 hI) hI (h2 hI) w
  · exact number_out h l x (fun e => hI (h1.1 e)) hI w

theorem wrap_u (x : Int) : IntKind.u64.wrap x = u64 x := IntKind.wrap_u64 x
set_option maxHeartbeats 1000000 in
theorem add_any (a b : Int) (ha : I a) (hb : I b) (w : World) : Calls Try.prog 110 #[.int .i64 a, .int .i64 b] w (NumTo (a + b) w) := by
  have P := add_parts a b ha hb
  have n0 := (u64_U a).1
  have n1 := (u64_U b).1
  have ea := wrap_u a
  have eb := wrap_u b
  obtain ⟨ua, hua⟩ : ∃ z, z = u64 a := ⟨_, rfl⟩
  obtain ⟨ub, hub⟩ : ∃ z, z = u64 b := ⟨_, rfl⟩
  rw [← hua] at P n0 ea
  rw [← hub] at P n1 eb
  have A1 := run_add64x ua ub n0 n1
  obtain ⟨lo, hlo⟩ : ∃ z, z = (ua + ub) % 18446744073709551616 := ⟨_, rfl⟩
  obtain ⟨cy, hcy⟩ : ∃ z, z = (ua + ub) / 18446744073709551616 := ⟨_, rfl⟩
  simp only [← hlo, ← hcy] at P A1
  obtain ⟨p1, p2, p3, p4⟩ := P
  have S1 := Lib.hid (fun w => signs_any a ha w)
  have S2 := Lib.hid (fun w => signs_any b hb w)
  have g0 := sgu_U a
  have g1 := sgu_U b
  obtain ⟨sa, hsa⟩ : ∃ z, z = sgu a := ⟨_, rfl⟩
  obtain ⟨sb, hsb⟩ : ∃ z, z = sgu b := ⟨_, rfl⟩
  rw [← hsa] at p1 S1 g0
  rw [← hsb] at p1 S2 g1
  have N := Lib.hid (fun w => number_any (u64 (u64 (sa + sb) + cy)) lo (a + b) (by unfold I at ha hb; omega) (by rw [← p1]; unfold u64; omega) p2 w)
  have q1 := wrap_u (sa + sb)
  have q2 := wrap_u (u64 (sa + sb) + cy)
  obtain ⟨z1, hz1⟩ : ∃ z, z = u64 (sa + sb) := ⟨_, rfl⟩
  rw [← hz1] at q1 q2 N
  obtain ⟨z2, hz2⟩ : ∃ z, z = u64 (z1 + cy) := ⟨_, rfl⟩
  rw [← hz2] at q2 N
  clear hz1 hz2 hsa hsb hua hub hlo hcy p1 p2 p3 p4 g0 g1 n0 n1 ha hb
  go_enter Try.func110, Try.ntmps110
  go_wp2_with fail
  refine (S1.out _).mono ?_
  rintro e w' ⟨rfl, rfl⟩
  go_wp2_with fail
  refine (S2.out _).mono ?_
  rintro e w' ⟨rfl, rfl⟩
  go_wp2_with fail
  refine (N.out _).mono ?_
  rintro e w' ⟨rfl, hb⟩
  go_wp2
  go_ret2
  exact ⟨rfl, hb⟩
set_option maxHeartbeats 1000000 in
theorem sub_any (a b : Int) (ha : I a) (hb : I b) (w : World) : Calls Try.prog 109 #[.int .i64 a, .int .i64 b] w (NumTo (a - b) w) := by
  have P := sub_parts a b ha hb
  have n0 := (u64_U a).1
  have n1 := u64_U b
  have ea := wrap_u a
  have eb := wrap_u b
  obtain ⟨ua, hua⟩ : ∃ z, z = u64 a := ⟨_, rfl⟩
  obtain ⟨ub, hub⟩ : ∃ z, z = u64 b := ⟨_, rfl⟩
  rw [← hua] at P n0 ea
  rw [← hub] at P n1 eb
  have A1 := run_sub64x ua ub n0 n1.1 n1.2
  have c2 := bor_two ua ub
  obtain ⟨lo, hlo⟩ : ∃ z, z = (ua - ub) % 18446744073709551616 := ⟨_, rfl⟩
  obtain ⟨cy, hcy⟩ : ∃ z, z = bor ua ub := ⟨_, rfl⟩
  simp only [← hlo, ← hcy] at P A1 c2
  obtain ⟨p1, p2⟩ := P
  have S1 := Lib.hid (fun w => signs_any a ha w)
  have S2 := Lib.hid (fun w => signs_any b hb w)
  have g0 := sgu_U a
  have g1 := sgu_U b
  obtain ⟨sa, hsa⟩ : ∃ z, z = sgu a := ⟨_, rfl⟩
  obtain ⟨sb, hsb⟩ : ∃ z, z = sgu b := ⟨_, rfl⟩
  rw [← hsa] at p1 S1 g0
  rw [← hsb] at p1 S2 g1
  have N := Lib.hid (fun w => number_any (u64 (u64 (sa - sb) - cy)) lo (a - b) (by unfold I at ha hb; omega) (by rw [← p1]; unfold u64; omega) p2 w)
  have q1 := wrap_u (sa - sb)
  have q2 := wrap_u (u64 (sa - sb) - cy)
  obtain ⟨z1, hz1⟩ : ∃ z, z = u64 (sa - sb) := ⟨_, rfl⟩
  rw [← hz1] at q1 q2 N
  obtain ⟨z2, hz2⟩ : ∃ z, z = u64 (z1 - cy) := ⟨_, rfl⟩
  rw [← hz2] at q2 N
  clear hz1 hz2 hsa hsb hua hub hlo hcy p1 p2 g0 g1 n0 n1 ha hb c2
  go_enter Try.func109, Try.ntmps109
  go_wp2_with fail
  refine (S1.out _).mono ?_
  rintro e w' ⟨rfl, rfl⟩
  go_wp2_with fail
  refine (S2.out _).mono ?_
  rintro e w' ⟨rfl, rfl⟩
  go_wp2_with fail
  refine (N.out _).mono ?_
  rintro e w' ⟨rfl, hb⟩
  go_wp2
  go_ret2
  exact ⟨rfl, hb⟩

end Cs
end Go.Proofs.Ytchlbkfkecpodaa
