/- The document's Find. -/
import Derived.Test.YtiplhdeomlmpkaaDtA
namespace Go.Proofs.Ytiplhdeomlmpkaa
set_option maxRecDepth 100000
open Go.RowKit
open Go.Sort (grow)
open Go.Proofs.Ytiplhdeomlmpkaa.Pk (one_at one_free one_set lt_some grown_set grown_trans below_grown grown_refl)
namespace Tb
open Wt (Opn mayOp)

set_option maxHeartbeats 1600000 in
theorem reffind_out (w : World) (d : Nat) (o : Opn) (h : o.book < 1 ∨ 200 < o.book ∨ o.kind < 1 ∨ 6 < o.kind) :
    Calls Try.prog 11 #[.pointer (some ⟨d, 0, none⟩), opv o] w fun e w' => e = .returned (.tuple #[.int .i64 0, .bool false]) ∧ Below w.heap.size w w' := by
  have HB : Hid (∀ x n, Below w.heap.size w ((w.alloc x).drewN n)) := fun x n => (Below.refl _ _).alloc (Nat.le_refl _) _ |>.trans (Tb.below_drewN _ n)
  obtain ⟨k, b, u, c, a⟩ := o
  simp only at h
  rcases Int.lt_or_le b 1 with h1 | h1
  · have g1 : decide (b < 1) = true := decide_eq_true h1
    clear h
    go_enter Try.func11, Try.ntmps11
    go_wp2_with fail
    go_quiet (fail)
    go_wp2
    go_ret2
    exact ⟨rfl, HB.out _ _⟩
  have g1 : decide (b < 1) = false := decide_eq_false (by omega)
  have g1' : ¬ b < 1 := by omega
  rcases Int.lt_or_le 200 b with h2 | h2
  · have g2 : decide (200 < b) = true := decide_eq_true h2
    clear h h1
    go_enter Try.func11, Try.ntmps11
    go_wp2_with fail
    go_quiet (fail)
    go_wp2
    go_ret2
    exact ⟨rfl, HB.out _ _⟩
  have g2 : decide (200 < b) = false := decide_eq_false (by omega)
  have g2' : ¬ 200 < b := by omega
  rcases Int.lt_or_le k 1 with h3 | h3
  · have g3 : decide (k < 1) = true := decide_eq_true h3
    clear h h1 h2
    go_enter Try.func11, Try.ntmps11
    go_wp2_with fail
    go_quiet (fail)
    go_wp2
    go_ret2
    exact ⟨rfl, HB.out _ _⟩
  · have h4 : 6 < k := by omega
    have g3 : decide (k < 1) = false := decide_eq_false (by omega)
    have g3' : ¬ k < 1 := by omega
    have g4 : decide (6 < k) = true := decide_eq_true h4
    clear h h1 h2 h3
    go_enter Try.func11, Try.ntmps11
    go_wp2_with fail
    go_quiet (fail)
    go_wp2
    go_ret2
    exact ⟨rfl, HB.out _ _⟩
set_option maxHeartbeats 1600000 in
theorem reffind_in (w : World) (d : Nat) (f : F) (n : Int) (D : Dm w d f n) (k b : Nat) (u c a : Int) (b1 : 1 ≤ b) (b2 : b ≤ 200) (k1 : 1 ≤ k) (k2 : k ≤ 6) :
    Calls Try.prog 11 #[.pointer (some ⟨d, 0, none⟩), .agg #[.int .i64 (k : Int), .int .i64 (b : Int), .int .i64 u, .int .i64 c, .int .i64 a]] w fun e w' => e = .returned (.tuple #[.int .i64 (f b k), .bool (ne0 (f b k))]) ∧ Below w.heap.size w w' := by
  have HB : Hid (∀ x n, Below w.heap.size w ((w.alloc x).drewN n)) := fun x n => (Below.refl _ _).alloc (Nat.le_refl _) _ |>.trans (Tb.below_drewN _ n)
  have cc : ∀ x, (w.alloc x).cell? ⟨d, b * 7 + k, none⟩ = some (.int .i64 (f b k)) := fun x => (D.below ((Below.refl _ _).alloc (Nat.le_refl _) x)).at_ b k b2 k2
  have c1 := cc (.cells #[.int .i64 (k : Int), .int .i64 (b : Int), .int .i64 u, .int .i64 c, .int .i64 a] 32)
  obtain ⟨x, hx⟩ : ∃ x, x = f b k := ⟨_, rfl⟩
  rw [← hx] at c1 ⊢
  have i1 : ¬ (b : Int) < 1 := by omega
  have i2 : ¬ 200 < (b : Int) := by omega
  have i3 : ¬ (k : Int) < 1 := by omega
  have i4 : ¬ 6 < (k : Int) := by omega
  have e1 : decide ((b : Int) < 1) = false := decide_eq_false i1
  have e2 : decide (200 < (b : Int)) = false := decide_eq_false i2
  have e3 : decide ((k : Int) < 1) = false := decide_eq_false i3
  have e4 : decide (6 < (k : Int)) = false := decide_eq_false i4
  have j1 : (b : Int) < 201 := by omega
  have j2 : (k : Int) < 7 := by omega
  clear cc hx D
  by_cases h0 : x = 0
  · subst h0
    rw [show ne0 0 = false from rfl]
    go_enter Try.func11, Try.ntmps11
    go_wp2_with fail
    go_quiet (fail)
    go_wp2
    go_ret2
    exact ⟨rfl, HB.out _ _⟩
  · rw [ne0_iff.2 h0]
    have g0 : (x == 0) = false := beq_eq_false_iff_ne.2 h0
    go_enter Try.func11, Try.ntmps11
    go_wp2_with fail
    go_quiet (fail)
    go_wp2_with fail
    go_quiet (fail)
    go_wp2
    go_ret2
    exact ⟨rfl, (HB.out _ _).trans (Tb.below_drewN _ _)⟩
theorem reffind_any (w : World) (d : Nat) (f : F) (n : Int) (D : Dm w d f n) (O : Ok f) (o : Opn) :
    Calls Try.prog 11 #[.pointer (some ⟨d, 0, none⟩), opv o] w fun e w' => e = .returned (.tuple #[.int .i64 (f o.book o.kind), .bool (ne0 (f o.book o.kind))]) ∧ Below w.heap.size w w' := by
  by_cases h : o.book < 1 ∨ 200 < o.book ∨ o.kind < 1 ∨ 6 < o.kind
  · have e : f o.book o.kind = 0 := Decidable.byContradiction fun h0 => by
      have := O.inn _ _ h0
      omega
    rw [e]
    exact reffind_out w d o h
  · obtain ⟨k, b, u, c, a⟩ := o
    simp only at h ⊢
    obtain ⟨k', rfl⟩ := Int.eq_ofNat_of_zero_le (a := k) (by omega)
    obtain ⟨b', rfl⟩ := Int.eq_ofNat_of_zero_le (a := b) (by omega)
    exact reffind_in w d f n D k' b' u c a (by omega) (by omega) (by omega) (by omega)
end Tb
end Go.Proofs.Ytiplhdeomlmpkaa
