/- The document's own steps. -/
import Derived.Test.YtakicogelkdofaaDoorPlG
namespace Go.Proofs.YtakicogelkdofaaDoor
set_option maxRecDepth 100000
open Go.RowKit
open Go.Proofs.YtakicogelkdofaaDoor.Pk (one_at one_free one_set lt_some grown_set grown_trans below_grown grown_refl)
namespace Pl
open Wt (Wan may Opn mayOp may_any refmay_any below_drewN)

theorem rask_size : (Tryd.prog.info? 33).map (·.size) = some 6 := by kernel_rfl
theorem rcap_results : Tryd.f37.results = #[.cell 2 33] := by kernel_rfl
set_option maxHeartbeats 1600000 in
theorem rcap_any (w : World) (x : Wan) : Calls Tryd.prog 37 #[wanv x] w fun e w' => e = .returned (spv (cap x)) ∧ Below w.heap.size w w' := by
  obtain ⟨W, hW⟩ : ∃ W, W = (w.alloc (.cells #[.int .i64 x.book, .int .i64 x.cust, .int .i64 x.dead, .int .i64 x.u0, .int .i64 x.u1, .int .i64 x.u2, .int .i64 x.price] 24)).alloc (.cells #[.int .i64 0, .int .i64 0, .int .i64 0, .int .i64 0, .int .i64 0, .int .i64 0] 33) := ⟨_, rfl⟩
  have B0 : BoxW W w.heap.size x := by rw [hW]; exact heap_alloc2_old _ _ _
  have Z0 : W.heap[w.heap.size + 1]? = some (.cells #[.int .i64 0, .int .i64 0, .int .i64 0, .int .i64 0, .int .i64 0, .int .i64 0] 33 (0, 0)) := by
    have := heap_alloc_new (w.alloc (.cells #[.int .i64 x.book, .int .i64 x.cust, .int .i64 x.dead, .int .i64 x.u0, .int .i64 x.u1, .int .i64 x.u2, .int .i64 x.price] 24)) (.cells #[.int .i64 0, .int .i64 0, .int .i64 0, .int .i64 0, .int .i64 0, .int .i64 0] 33)
    rw [show (w.alloc (.cells #[.int .i64 x.book, .int .i64 x.cust, .int .i64 x.dead, .int .i64 x.u0, .int .i64 x.u1, .int .i64 x.u2, .int .i64 x.price] 24)).heap.size = w.heap.size + 1 by simp] at this
    rw [hW]
    exact this
  have be0 : Below w.heap.size w W := by rw [hW]; exact ((Below.refl _ w).alloc (Nat.le_refl _) _).alloc (by simp) _
  have M := Lib.hid (refmay_any W x)
  replace hW := Lib.hid hW
  replace B0 := Lib.hid B0
  replace Z0 := Lib.hid Z0
  replace be0 := Lib.hid be0
  unfold wanv
  go_enter Tryd.func37, Tryd.ntmps37
  go_wp2_with fail
  rw [← hW.out]
  refine M.out.mono ?_
  rintro e w1 ⟨rfl, h1⟩
  have B1 := B0.out.below h1 B0.out.lt
  have Z1 : Hid (w1.heap[w.heap.size + 1]? = some (.cells #[.int .i64 0, .int .i64 0, .int .i64 0, .int .i64 0, .int .i64 0, .int .i64 0] 33 (0, 0))) := (h1.block _ (lt_some Z0.out)).trans Z0.out
  have b1 : Hid (Below w.heap.size w w1) := be0.out.trans (h1.mono be0.out.size)
  have hc : Hid (cap x = if may x = true then step x 3 5 else z0) := rfl
  clear M h1 B0 Z0 be0 hW
  obtain ⟨c0, -⟩ := B1.cells
  clear B1
  cases hm : may x with
  | false =>
    have E : Hid (cap x = z0) := by rw [Hid, hc.out, hm]; rfl
    clear hc
    go_wp2_with (refine wpList_store_row rfl 33 (.tmp 2) (.tmp 6) rfl (w.heap.size + 1) #[.int .i64 0, .int .i64 0, .int .i64 0, .int .i64 0, .int .i64 0, .int .i64 0] rfl rfl 33 #[.int .i64 0, .int .i64 0, .int .i64 0, .int .i64 0, .int .i64 0, .int .i64 0] Z1.out rask_size rfl (one6 _ _ _ _ _ _) ?_)
    refine bodyPost_ret (results_cell_row rcap_results _ _ (w.heap.size + 1) 33 #[.int .i64 0, .int .i64 0, .int .i64 0, .int .i64 0, .int .i64 0, .int .i64 0] (0, 0) _ rfl (setRow_heap _ _ _ _ _ _ Z1.out) Tryd.underlying33 rfl rask_size) rfl ?_
    exact ⟨by rw [E.out]; rfl, b1.out.trans (setRow_below _ (Nat.le_succ _))⟩
  | true =>
    have E : Hid (cap x = ⟨3, ⟨5, x.book, 0, 0, 0⟩⟩) := by rw [Hid, hc.out, hm]; rfl
    clear hc
    go_wp2_with (refine wpList_store_row rfl 33 (.tmp 2) (.tmp 10) rfl (w.heap.size + 1) #[.int .i64 3, .int .i64 5, .int .i64 x.book, .int .i64 0, .int .i64 0, .int .i64 0] rfl rfl 33 #[.int .i64 0, .int .i64 0, .int .i64 0, .int .i64 0, .int .i64 0, .int .i64 0] Z1.out rask_size rfl (one6 _ _ _ _ _ _) ?_)
    refine bodyPost_ret (results_cell_row rcap_results _ _ (w.heap.size + 1) 33 #[.int .i64 3, .int .i64 5, .int .i64 x.book, .int .i64 0, .int .i64 0, .int .i64 0] (0, 0) _ rfl (setRow_heap _ _ _ _ _ _ Z1.out) Tryd.underlying33 rfl rask_size) rfl ?_
    exact ⟨by rw [E.out], b1.out.trans (setRow_below _ (Nat.le_succ _))⟩
end Pl
end Go.Proofs.YtakicogelkdofaaDoor
