/- The step behind the decision. -/
import Derived.Test.YtidfpbnepdjagaaDoorPlF
namespace Go.Proofs.YtidfpbnepdjagaaDoor
set_option maxRecDepth 100000
open Go.RowKit
open Go.Proofs.YtidfpbnepdjagaaDoor.Pk (one_at one_free one_set lt_some grown_set grown_trans below_grown grown_refl)
namespace Pl
open Wt (Wan may Opn mayOp may_any below_drewN)

theorem cap_results : Tryd.f72.results = #[.cell 2 118] := by kernel_rfl
set_option maxHeartbeats 1600000 in
theorem cap_any (w : World) (x : Wan) : Calls Tryd.prog 72 #[wanv x] w fun e w' => e = .returned (spv (cap x)) ∧ Below w.heap.size w w' := by
  obtain ⟨W, hW⟩ : ∃ W, W = (w.alloc (.cells #[.int .i64 x.book, .int .i64 x.cust, .int .i64 x.dead, .int .i64 x.u0, .int .i64 x.u1, .int .i64 x.u2, .int .i64 x.price] 26)).alloc (.cells #[.int .i64 0, .int .i64 0, .int .i64 0, .int .i64 0, .int .i64 0, .int .i64 0] 118) := ⟨_, rfl⟩
  have B0 : BoxW W w.heap.size x := by rw [hW]; exact heap_alloc2_old _ _ _
  have Z0 : W.heap[w.heap.size + 1]? = some (.cells #[.int .i64 0, .int .i64 0, .int .i64 0, .int .i64 0, .int .i64 0, .int .i64 0] 118 (0, 0)) := by
    have := heap_alloc_new (w.alloc (.cells #[.int .i64 x.book, .int .i64 x.cust, .int .i64 x.dead, .int .i64 x.u0, .int .i64 x.u1, .int .i64 x.u2, .int .i64 x.price] 26)) (.cells #[.int .i64 0, .int .i64 0, .int .i64 0, .int .i64 0, .int .i64 0, .int .i64 0] 118)
    rw [show (w.alloc (.cells #[.int .i64 x.book, .int .i64 x.cust, .int .i64 x.dead, .int .i64 x.u0, .int .i64 x.u1, .int .i64 x.u2, .int .i64 x.price] 26)).heap.size = w.heap.size + 1 by simp] at this
    rw [hW]
    exact this
  have be0 : Below w.heap.size w W := by rw [hW]; exact ((Below.refl _ w).alloc (Nat.le_refl _) _).alloc (by simp) _
  have M := Lib.hid (may_any W x)
  replace hW := Lib.hid hW
  replace B0 := Lib.hid B0
  replace Z0 := Lib.hid Z0
  replace be0 := Lib.hid be0
  unfold wanv
  go_enter Tryd.func72, Tryd.ntmps72
  go_wp2_with fail
  rw [← hW.out]
  refine M.out.mono ?_
  rintro e w1 ⟨rfl, h1⟩
  have B1 := B0.out.below h1 B0.out.lt
  have Z1 : Hid (w1.heap[w.heap.size + 1]? = some (.cells #[.int .i64 0, .int .i64 0, .int .i64 0, .int .i64 0, .int .i64 0, .int .i64 0] 118 (0, 0))) := (h1.block _ (lt_some Z0.out)).trans Z0.out
  have b1 : Hid (Below w.heap.size w w1) := be0.out.trans (h1.mono be0.out.size)
  have zl : Hid (w.heap.size + 1 < w1.heap.size) := lt_some Z1.out
  have wl : w.heap.size < w1.heap.size := by have := zl.out; omega
  have hc : Hid (cap x = if may x = true then step x 3 5 else z0) := rfl
  clear M h1 B0 Z0 be0 hW
  obtain ⟨c0, c1, c2, c3, c4, c5, c6⟩ := B1.cells
  cases hm : may x with
  | false =>
    have E : Hid (cap x = z0) := by rw [Hid, hc.out, hm]; rfl
    clear hc
    go_wp2_with (refine wpList_store_row rfl 118 (.tmp 2) (.tmp 6) rfl (w.heap.size + 1) #[.int .i64 0, .int .i64 0, .int .i64 0, .int .i64 0, .int .i64 0, .int .i64 0] rfl rfl 118 #[.int .i64 0, .int .i64 0, .int .i64 0, .int .i64 0, .int .i64 0, .int .i64 0] Z1.out ask_size rfl (one6 _ _ _ _ _ _) ?_)
    refine bodyPost_ret (results_cell_row cap_results _ _ (w.heap.size + 1) 118 #[.int .i64 0, .int .i64 0, .int .i64 0, .int .i64 0, .int .i64 0, .int .i64 0] (0, 0) _ rfl (setRow_heap _ _ _ _ _ _ Z1.out) Tryd.underlying118 rfl ask_size) rfl ?_
    exact ⟨by rw [E.out]; rfl, b1.out.trans (setRow_below _ (Nat.le_succ _))⟩
  | true =>
    have E : Hid (cap x = step x 3 5) := by rw [Hid, hc.out, hm]; rfl
    have S := stepsOf_any w1 x
    unfold wanv at S
    replace S := Lib.hid S
    clear hc B1
    go_wp2_with fail
    refine S.out.mono ?_
    rintro e w2 ⟨g, rfl, hg, h2⟩
    have T := Lib.hid (stepO_any w2 g x hg 3 5 (by decide) (by decide))
    have Z2 : Hid (w2.heap[w.heap.size + 1]? = some (.cells #[.int .i64 0, .int .i64 0, .int .i64 0, .int .i64 0, .int .i64 0, .int .i64 0] 118 (0, 0))) := (h2.block _ zl.out).trans Z1.out
    have b2 : Hid (Below w.heap.size w w2) := b1.out.trans (h2.mono b1.out.size)
    clear S hg h2 Z1 b1 zl
    go_wp2_with fail
    refine T.out.mono ?_
    rintro e w3 ⟨rfl, h3⟩
    have Z3 : Hid (w3.heap[w.heap.size + 1]? = some (.cells #[.int .i64 0, .int .i64 0, .int .i64 0, .int .i64 0, .int .i64 0, .int .i64 0] 118 (0, 0))) := (h3.block _ (lt_some Z2.out)).trans Z2.out
    have b3 : Hid (Below w.heap.size w w3) := b2.out.trans (h3.mono b2.out.size)
    clear T h3 Z2 b2
    generalize step x 3 5 = s at *
    unfold spv
    go_wp2_with (refine wpList_store_row rfl 118 (.tmp 2) (.tmp 9) rfl (w.heap.size + 1) #[.int .i64 s.node, .int .i64 s.op.kind, .int .i64 s.op.book, .int .i64 s.op.units, .int .i64 s.op.cust, .int .i64 s.op.amount] rfl rfl 118 #[.int .i64 0, .int .i64 0, .int .i64 0, .int .i64 0, .int .i64 0, .int .i64 0] Z3.out ask_size rfl (one6 _ _ _ _ _ _) ?_)
    refine bodyPost_ret (results_cell_row cap_results _ _ (w.heap.size + 1) 118 #[.int .i64 s.node, .int .i64 s.op.kind, .int .i64 s.op.book, .int .i64 s.op.units, .int .i64 s.op.cust, .int .i64 s.op.amount] (0, 0) _ rfl (setRow_heap _ _ _ _ _ _ Z3.out) Tryd.underlying118 rfl ask_size) rfl ?_
    exact ⟨by rw [E.out], b3.out.trans (setRow_below _ (Nat.le_succ _))⟩
end Pl
end Go.Proofs.YtidfpbnepdjagaaDoor
