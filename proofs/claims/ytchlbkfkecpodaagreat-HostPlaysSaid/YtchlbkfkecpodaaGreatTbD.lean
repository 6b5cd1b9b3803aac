/- Put. -/
import Derived.Test.YtchlbkfkecpodaaGreatTbC
import Derived.Deep.RegionWith
namespace Go.Proofs.YtchlbkfkecpodaaGreat
set_option maxRecDepth 100000
open Go.RowKit
open Go.Sort (grow)
open Go.Proofs.YtchlbkfkecpodaaGreat.Pk (one_at one_free one_set lt_some grown_set grown_trans below_grown grown_refl)
namespace Tb
open Wt (Opn mayOp)

set_option maxHeartbeats 800000 in
theorem put_nil (w : World) (o : Opn) (a : Int) : Calls Tryz.prog 49 #[.pointer none, opv o, .int .i64 a] w fun e w' => e = .returned (.bool false) ∧ Below w.heap.size w w' := by
  have HB : Hid (∀ o, Below w.heap.size w (w.alloc o)) := fun o => (Below.refl _ _).alloc (Nat.le_refl _) _
  go_enter Tryz.func49, Tryz.ntmps49
  go_wp2
  go_ret
  exact ⟨rfl, HB.out _⟩
set_option maxHeartbeats 800000 in
theorem put_no (w : World) (q z : Nat) (o : Opn) (a : Int) (h : (mayOp o && mayA a) = false) : Calls Tryz.prog 49 #[.pointer (some ⟨q, z, none⟩), opv o, .int .i64 a] w fun e w' => e = .returned (.bool false) ∧ Below w.heap.size w w' := by
  have HB : Hid (∀ o, Below w.heap.size w (w.alloc o)) := fun o => (Below.refl _ _).alloc (Nat.le_refl _) _
  have M1 := fun w => Wt.mayop_any w o
  have M2 := fun w => maya_any w a
  cases h1 : mayOp o with
  | false =>
    rw [h1] at M1
    obtain ⟨k, b, u, c, m⟩ := o
    simp only at M1
    clear h h1 M2
    go_enter Tryz.func49, Tryz.ntmps49
    go_wp2_with fail
    refine (M1 _).mono ?_
    rintro e w1 ⟨rfl, b1⟩
    have B1 : Hid (Below w.heap.size w w1) := (HB.out _).trans (b1.mono (by simp))
    clear M1 b1
    go_wp2
    go_ret
    exact ⟨rfl, B1.out⟩
  | true =>
    rw [h1, Bool.true_and] at h
    rw [h1] at M1
    rw [h] at M2
    obtain ⟨k, b, u, c, m⟩ := o
    simp only at M1
    clear h h1
    go_enter Tryz.func49, Tryz.ntmps49
    go_wp2_with fail
    refine (M1 _).mono ?_
    rintro e w1 ⟨rfl, b1⟩
    have B1 : Hid (Below w.heap.size w w1) := (HB.out _).trans (b1.mono (by simp))
    clear M1 b1
    go_wp2_with fail
    refine (M2 _).mono ?_
    rintro e w2 ⟨rfl, rfl⟩
    clear M2
    go_wp2
    go_ret
    exact ⟨rfl, B1.out⟩
theorem add_at (w w6 : World) (q z : Nat) (f : F) (fp : Nat → Prop) (L : Tab w q z f fp) (b k a : Int) (hb : 1 ≤ b ∧ b ≤ 200) (hk : 1 ≤ k ∧ k ≤ 6) (ha : a = 1 ∨ a = 2) (h6 : Below w.heap.size w w6) :
    Calls Tryz.prog 64 #[.pointer (some ⟨q, z, none⟩), .agg #[.int .i64 b, .int .i64 k], .int .i64 a] w6 fun e w' => e = .returned (.bool (f b k == 0)) ∧ LTo w q z fp (if f b k = 0 then upd f b k a else f) w' := by
  have K := LTo.of_below L h6
  refine (add_any w6 q z b k a f (grq fp w w6) K.1 hb hk ha).mono ?_
  rintro e w' ⟨rfl, h⟩
  exact ⟨rfl, K.trans h⟩
set_option maxHeartbeats 1600000 in
theorem put_any (w : World) (q z : Nat) (f : F) (fp : Nat → Prop) (L : Tab w q z f fp) (o : Opn) (a : Int) :
    Calls Tryz.prog 49 #[.pointer (some ⟨q, z, none⟩), opv o, .int .i64 a] w fun e w' => e = .returned (.bool (put? f o a)) ∧ LTo w q z fp (putF f o a) w' := by
  cases h : (mayOp o && mayA a) with
  | false =>
    refine (put_no w q z o a h).mono ?_
    rintro e w' ⟨rfl, hb⟩
    have e : put? f o a = false := by unfold put?; rw [h]; rfl
    unfold putF
    rw [e]
    exact ⟨rfl, LTo.of_below L hb⟩
  | true =>
    obtain ⟨h1, h2⟩ := (Bool.and_eq_true _ _).mp h
    have HB : Hid (∀ o, Below w.heap.size w (w.alloc o)) := fun o => (Below.refl _ _).alloc (Nat.le_refl _) _
    have M1 := fun w => Wt.mayop_any w o
    have M2 := fun w => maya_any w a
    rw [h1] at M1
    rw [h2] at M2
    obtain ⟨b1, b2⟩ := mayop_bds h1
    have A := Lib.hid (fun w6 (h6 : Below w.heap.size w w6) => add_at w w6 q z f fp L o.book o.kind a b1 b2 (maya_iff.1 h2) h6)
    have e : Hid (put? f o a = (f o.book o.kind == 0) ∧ putF f o a = if f o.book o.kind = 0 then upd f o.book o.kind a else f) := by
      have e1 : put? f o a = (f o.book o.kind == 0) := by unfold put?; rw [h, Bool.true_and]
      refine ⟨e1, ?_⟩
      unfold putF
      rw [e1]
      by_cases h0 : f o.book o.kind = 0
      · rw [if_pos h0, if_pos (by rw [h0]; rfl)]
      · rw [if_neg h0, if_neg (by rw [beq_iff_eq]; exact h0)]
    rw [e.out.1, e.out.2]
    have KO := Lib.hid (fun w => keyof_any w o)
    obtain ⟨k, b, u, c, m⟩ := o
    unfold kv at KO
    simp only at M1 A KO ⊢
    generalize (if f b k = 0 then upd f b k a else f) = f' at *
    generalize (f b k == 0) = r at *
    clear h h1 h2 b1 b2 L e
    go_enter Tryz.func49, Tryz.ntmps49
    go_wp2_with fail
    refine (M1 _).mono ?_
    rintro e w1 ⟨rfl, b1⟩
    have N1 := (b1.block w.heap.size (by simp)).trans (heap_alloc_new w _)
    have z0 := one_at (i := 0) N1
    have z1 := one_at (i := 1) N1
    have z2 := one_at (i := 2) N1
    have z3 := one_at (i := 3) N1
    have z4 := one_at (i := 4) N1
    have B1 : Hid (Below w.heap.size w w1) := (HB.out _).trans (b1.mono (by simp))
    clear M1 b1 N1
    go_wp2_with fail
    refine (M2 _).mono ?_
    rintro e w2 ⟨rfl, rfl⟩
    clear M2
    go_wp2_with fail
    go_region_with (first
      | (go_at_call 62; refine (KO.out _).mono ?_; rintro e w6 ⟨rfl, h6⟩; have B6 : Hid (Below w.heap.size w w6) := (below_drew B1.out).trans (h6.mono B1.out.size); clear h6)
      | (go_at_call 64; refine (A.out _ B6.out).mono ?_; rintro e w7 ⟨rfl, h7⟩; replace h7 := Lib.hid h7))
    go_wp2
    go_ret
    exact ⟨rfl, h7.out⟩
end Tb
end Go.Proofs.YtchlbkfkecpodaaGreat
