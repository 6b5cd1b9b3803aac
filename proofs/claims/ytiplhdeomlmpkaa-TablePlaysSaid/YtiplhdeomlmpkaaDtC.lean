/- The document's Put. -/
import Derived.Test.YtiplhdeomlmpkaaDtB
import Derived.Test.YtiplhdeomlmpkaaWtC
namespace Go.Proofs.Ytiplhdeomlmpkaa
set_option maxRecDepth 100000
open Go.RowKit
open Go.Sort (grow)
open Go.Proofs.Ytiplhdeomlmpkaa.Pk (one_at one_free one_set lt_some grown_set grown_trans below_grown grown_refl)
namespace Tb
open Wt (Opn mayOp)

/-- What a call on it leaves. -/
def DTo (w : World) (d : Nat) (f : F) (w' : World) : Prop := Dm w' d f (cnt f : Nat) ∧ Kq (fun g => g = d) w w'
theorem DTo.of_below {w w' : World} {d : Nat} {f : F} (D : Dm w d f (cnt f : Nat)) (hb : Below w.heap.size w w') : DTo w d f w' := ⟨D.below hb, .of_below hb⟩
set_option maxHeartbeats 3200000 in
theorem refput_no (w : World) (d : Nat) (o : Opn) (a : Int) (h : (mayOp o && mayA a) = false) :
    Calls Try.prog 8 #[.pointer (some ⟨d, 0, none⟩), opv o, .int .i64 a] w fun e w' => e = .returned (.bool false) ∧ Below w.heap.size w w' := by
  obtain ⟨W, hW⟩ : ∃ W, W = w.alloc (.cells #[.int .i64 o.kind, .int .i64 o.book, .int .i64 o.units, .int .i64 o.cust, .int .i64 o.amount] 32) := ⟨_, rfl⟩
  have HB : Hid (Below w.heap.size w W) := by rw [hW]; exact (Below.refl _ _).alloc (Nat.le_refl _) _
  have Q := fun d os => Calls.regrown_of (Wt.refmayop_any (grow (redrawn W d) os) o)
  have N0 : W.heap[w.heap.size]? = some (.cells #[.int .i64 o.kind, .int .i64 o.book, .int .i64 o.units, .int .i64 o.cust, .int .i64 o.amount] 32 (0, 0)) := by rw [hW]; exact heap_alloc_new _ _
  obtain ⟨k, b, u, c, m⟩ := o
  simp only at Q N0 hW
  have z0 := cell_regrown (one_at (i := 0) N0)
  have z1 := cell_regrown (one_at (i := 1) N0)
  have z2 := cell_regrown (one_at (i := 2) N0)
  have z3 := cell_regrown (one_at (i := 3) N0)
  have z4 := cell_regrown (one_at (i := 4) N0)
  replace hW := Lib.hid hW
  clear N0
  cases h1 : mayOp ⟨k, b, u, c, m⟩ with
  | false =>
    rw [h1] at Q
    clear h h1
    go_enter Try.func8, Try.ntmps8
    go_wp2_with fail
    rw [← hW.out]
    refine wp_region_quiet_below (by kernel_rfl) (by kernel_rfl) ?_
    repeat (go_big_quiet_step (with_reducible exact Q _ _))
    refine wpQuiet_nil ?_
    intro w7 hw'
    obtain ⟨⟨dq, osq⟩, hw7⟩ := hw'
    have B7 : Hid (Below w.heap.size w w7) := by rw [hw7]; exact HB.out.trans ((below_regrown W dq osq).mono HB.out.size)
    clear hw7
    go_wp2
    go_ret
    exact ⟨rfl, B7.out⟩
  | true =>
    rw [h1, Bool.true_and] at h
    rw [h1] at Q
    have g1 : (a == 1) = false := by unfold mayA at h; rw [Bool.or_eq_false_iff] at h; exact h.1
    have g2 : (a == 2) = false := by unfold mayA at h; rw [Bool.or_eq_false_iff] at h; exact h.2
    have e1 : (a != 1) = true := by simp only [bne, g1]; rfl
    have e2 : (a != 2) = true := by simp only [bne, g2]; rfl
    have n1 : ¬ a = 1 := beq_eq_false_iff_ne.1 g1
    have n2 : ¬ a = 2 := beq_eq_false_iff_ne.1 g2
    clear h h1
    go_enter Try.func8, Try.ntmps8
    go_wp2_with fail
    rw [← hW.out]
    refine wp_region_quiet_below (by kernel_rfl) (by kernel_rfl) ?_
    repeat (go_big_quiet_step (with_reducible exact Q _ _))
    refine wpQuiet_nil ?_
    intro w7 hw'
    obtain ⟨⟨dq, osq⟩, hw7⟩ := hw'
    have B7 : Hid (Below w.heap.size w w7) := by rw [hw7]; exact HB.out.trans ((below_regrown W dq osq).mono HB.out.size)
    clear hw7
    go_wp2
    go_ret
    exact ⟨rfl, B7.out⟩
set_option maxHeartbeats 3200000 in
theorem refput_is (w : World) (d : Nat) (f : F) (n : Int) (D : Dm w d f n) (k b : Nat) (u c m a : Int) (b2 : b ≤ 200) (k2 : k ≤ 6) (hm : mayOp ⟨k, b, u, c, m⟩ = true) (ha : a = 1 ∨ a = 2) (h0 : f b k ≠ 0) :
    Calls Try.prog 8 #[.pointer (some ⟨d, 0, none⟩), .agg #[.int .i64 (k : Int), .int .i64 (b : Int), .int .i64 u, .int .i64 c, .int .i64 m], .int .i64 a] w fun e w' => e = .returned (.bool false) ∧ Below w.heap.size w w' := by
  obtain ⟨W, hW⟩ : ∃ W, W = w.alloc (.cells #[.int .i64 (k : Int), .int .i64 (b : Int), .int .i64 u, .int .i64 c, .int .i64 m] 32) := ⟨_, rfl⟩
  have HB : Hid (Below w.heap.size w W) := by rw [hW]; exact (Below.refl _ _).alloc (Nat.le_refl _) _
  have Q := fun d os => Calls.regrown_of (Wt.refmayop_any (grow (redrawn W d) os) ⟨k, b, u, c, m⟩)
  rw [hm] at Q
  have N0 : W.heap[w.heap.size]? = some (.cells #[.int .i64 (k : Int), .int .i64 (b : Int), .int .i64 u, .int .i64 c, .int .i64 m] 32 (0, 0)) := by rw [hW]; exact heap_alloc_new _ _
  simp only at Q
  have z0 := cell_regrown (one_at (i := 0) N0)
  have z1 := cell_regrown (one_at (i := 1) N0)
  have z2 := cell_regrown (one_at (i := 2) N0)
  have z3 := cell_regrown (one_at (i := 3) N0)
  have z4 := cell_regrown (one_at (i := 4) N0)
  have zc := cell_regrown ((D.below HB.out).at_ b k b2 k2)
  have x0 : (f b k == 0) = false := beq_eq_false_iff_ne.2 h0
  have x1 : (f b k != 0) = true := by simp only [bne, x0]; rfl
  have j1 : (b : Int) < 201 := by omega
  have j2 : (k : Int) < 7 := by omega
  generalize f b k = x at *
  replace hW := Lib.hid hW
  clear N0 D hm
  rcases ha with rfl | rfl
  all_goals
    go_enter Try.func8, Try.ntmps8
    go_wp2_with fail
    rw [← hW.out]
    refine wp_region_quiet_below (by kernel_rfl) (by kernel_rfl) ?_
    repeat (go_big_quiet_step (with_reducible exact Q _ _))
    refine wpQuiet_nil ?_
    intro w7 hw'
    obtain ⟨⟨dq, osq⟩, hw7⟩ := hw'
    have B7 : Hid (Below w.heap.size w w7) := by rw [hw7]; exact HB.out.trans ((below_regrown W dq osq).mono HB.out.size)
    clear hw7
    go_wp2
    go_ret
    exact ⟨rfl, B7.out⟩
set_option maxHeartbeats 3200000 in
theorem refput_yes (w : World) (d : Nat) (f : F) (D : Dm w d f (cnt f : Nat)) (k b : Nat) (u c m a : Int) (b1 : 1 ≤ b) (b2 : b ≤ 200) (k1 : 1 ≤ k) (k2 : k ≤ 6) (hm : mayOp ⟨k, b, u, c, m⟩ = true) (ha : a = 1 ∨ a = 2) (h0 : f b k = 0) :
    Calls Try.prog 8 #[.pointer (some ⟨d, 0, none⟩), .agg #[.int .i64 (k : Int), .int .i64 (b : Int), .int .i64 u, .int .i64 c, .int .i64 m], .int .i64 a] w fun e w' => e = .returned (.bool true) ∧ DTo w d (upd f b k a) w' := by
  obtain ⟨W, hW⟩ : ∃ W, W = w.alloc (.cells #[.int .i64 (k : Int), .int .i64 (b : Int), .int .i64 u, .int .i64 c, .int .i64 m] 32) := ⟨_, rfl⟩
  have HB : Hid (Below w.heap.size w W) := by rw [hW]; exact (Below.refl _ _).alloc (Nat.le_refl _) _
  have Q := fun d os => Calls.regrown_of (Wt.refmayop_any (grow (redrawn W d) os) ⟨k, b, u, c, m⟩)
  rw [hm] at Q
  have N0 : Hid (W.heap[w.heap.size]? = some (.cells #[.int .i64 (k : Int), .int .i64 (b : Int), .int .i64 u, .int .i64 c, .int .i64 m] 32 (0, 0))) := by rw [hW]; exact heap_alloc_new _ _
  simp only at Q
  have z0 := cell_regrown (one_at (i := 0) N0.out)
  have z1 := cell_regrown (one_at (i := 1) N0.out)
  have z2 := cell_regrown (one_at (i := 2) N0.out)
  have z3 := cell_regrown (one_at (i := 3) N0.out)
  have z4 := cell_regrown (one_at (i := 4) N0.out)
  have zc := cell_regrown ((D.below HB.out).at_ b k b2 k2)
  rw [h0] at zc
  have j1 : (b : Int) < 201 := by omega
  have j2 : (k : Int) < 7 := by omega
  have hcn : cnt (upd f b k a) = cnt f + 1 := cnt_upd (by omega) (by omega) (by omega) h0
  have hcl := cnt_le f
  obtain ⟨N, hN⟩ : ∃ N : Int, N = (cnt f : Int) := ⟨_, rfl⟩
  obtain ⟨N1, hN1⟩ : ∃ N : Int, N = ((cnt (upd f b k a) : Nat) : Int) := ⟨_, rfl⟩
  have wN : Hid (IntKind.i64.wrap (N + 1) = N1) := by unfold Hid; rw [IntKind.wrap_i64]; omega
  replace D : Hid (Dm w d f N) := by rw [hN]; exact D
  have E : Hid (∀ w7, Below w.heap.size w w7 → w7.cell? ⟨d, b * 7 + k, none⟩ = some (.int .i64 0) ∧ w7.frozen? ⟨d, b * 7 + k, none⟩ = false ∧ ∃ W1, W1 = (w7.setCell ⟨d, b * 7 + k, none⟩ (.int .i64 a)).drew ∧ W1.cell? ⟨d, 1407, none⟩ = some (.int .i64 N) ∧ W1.frozen? ⟨d, 1407, none⟩ = false ∧ DTo w d (upd f b k a) (W1.setCell ⟨d, 1407, none⟩ (.int .i64 N1))) := fun w7 hb => by
    have D7 := D.out.below hb
    have D8 : Dm (w7.setCell ⟨d, b * 7 + k, none⟩ (.int .i64 a)).drew d (upd f b k a) N := (D7.put b2 k2 a).keep rfl
    have D9 := D8.count N1
    refine ⟨by rw [D7.at_ b k b2 k2, h0], D7.free _, _, rfl, D8.num, D8.free _, ?_, ?_⟩
    · rw [← hN1]; exact D9
    · have q1 : Kq (fun g => g = d) w7 (w7.setCell ⟨d, b * 7 + k, none⟩ (.int .i64 a)).drew := by rw [set1]; exact (Kq.of_cells _ _ _ _).drew
      have q2 : Kq (fun g => g = d) (w7.setCell ⟨d, b * 7 + k, none⟩ (.int .i64 a)).drew (((w7.setCell ⟨d, b * 7 + k, none⟩ (.int .i64 a)).drew).setCell ⟨d, 1407, none⟩ (.int .i64 N1)) := by rw [set1 _ d 1407]; exact Kq.of_cells _ _ _ _
      exact ((Kq.of_below hb).self q1).self q2
  replace hW := Lib.hid hW
  clear D hm h0 hcn hcl hN hN1
  rcases ha with rfl | rfl
  all_goals
    go_enter Try.func8, Try.ntmps8
    go_wp2_with fail
    rw [← hW.out]
    refine wp_region_quiet_below (by kernel_rfl) (by kernel_rfl) ?_
    repeat (go_big_quiet_step (with_reducible exact Q _ _))
    refine wpQuiet_nil ?_
    intro w7 hw'
    obtain ⟨⟨dq, osq⟩, hw7⟩ := hw'
    have b7 : Below W.heap.size W w7 := by rw [hw7]; exact below_regrown W dq osq
    have B7 : Below w.heap.size w w7 := HB.out.trans (b7.mono HB.out.size)
    have N7 := (b7.block _ (lt_some N0.out)).trans N0.out
    have y0 := one_at (i := 0) N7
    have y1 := one_at (i := 1) N7
    obtain ⟨f1, f2, W1, hW1, f3, f4, F⟩ := E.out w7 B7
    replace F := Lib.hid F
    replace hW1 := Lib.hid hW1
    have wN' := wN.out
    clear hw7 b7 B7 N7 z0 z1 z2 z3 z4 zc Q
    go_upto_region 3 with fail
    go_still_tail 10, (by kernel_rfl)
    change wpList _ _ _ _ _ w7.drew
    go_upto_region 4 with fail
    rw [← hW1.out]
    go_wp2
    go_ret
    exact ⟨rfl, F.out⟩
theorem refput_any (w : World) (d : Nat) (f : F) (D : Dm w d f (cnt f : Nat)) (o : Opn) (a : Int) :
    Calls Try.prog 8 #[.pointer (some ⟨d, 0, none⟩), opv o, .int .i64 a] w fun e w' => e = .returned (.bool (put? f o a)) ∧ DTo w d (putF f o a) w' := by
  cases h : (mayOp o && mayA a) with
  | false =>
    refine (refput_no w d o a h).mono ?_
    rintro e w' ⟨rfl, hb⟩
    have e : put? f o a = false := by unfold put?; rw [h]; rfl
    unfold putF
    rw [e]
    exact ⟨rfl, DTo.of_below D hb⟩
  | true =>
    obtain ⟨h1, h2⟩ := (Bool.and_eq_true _ _).mp h
    obtain ⟨b1, b2⟩ := mayop_bds h1
    by_cases h0 : f o.book o.kind = 0
    · have e : put? f o a = true := put_iff.2 ⟨h1, h2, h0⟩
      unfold putF
      rw [e, if_pos rfl]
      obtain ⟨k, b, u, c, m⟩ := o
      simp only at b1 b2 h0 ⊢
      obtain ⟨k', rfl⟩ := Int.eq_ofNat_of_zero_le (a := k) (by omega)
      obtain ⟨b', rfl⟩ := Int.eq_ofNat_of_zero_le (a := b) (by omega)
      exact refput_yes w d f D k' b' u c m a (by omega) (by omega) (by omega) (by omega) h1 (maya_iff.1 h2) h0
    · have e : put? f o a = false := by
        unfold put?
        rw [Bool.and_eq_false_iff]
        exact .inr (beq_eq_false_iff_ne.2 h0)
      unfold putF
      rw [e]
      obtain ⟨k, b, u, c, m⟩ := o
      simp only at b1 b2 h0 ⊢
      obtain ⟨k', rfl⟩ := Int.eq_ofNat_of_zero_le (a := k) (by omega)
      obtain ⟨b', rfl⟩ := Int.eq_ofNat_of_zero_le (a := b) (by omega)
      refine (refput_is w d f _ D k' b' u c m a (by omega) (by omega) h1 (maya_iff.1 h2) h0).mono ?_
      rintro e w' ⟨rfl, hb⟩
      exact ⟨rfl, DTo.of_below D hb⟩
end Tb
end Go.Proofs.Ytiplhdeomlmpkaa
