/- What makes a step of a booking. -/
import Derived.Test.YtidfpbnepdjagaaDoorPlE
import Derived.Laws.ResultCell
namespace Go.Proofs.YtidfpbnepdjagaaDoor
set_option maxRecDepth 100000
open Go.RowKit
open Go.Proofs.YtidfpbnepdjagaaDoor.Pk (one_at one_free one_set lt_some grown_set grown_trans below_grown grown_refl)
namespace Pl
open Wt (Wan may Opn mayOp may_any below_drewN)

theorem wpList_store_row {P : Program} {ops : Array Oper} {rest : List Oper} {o : Oper} {a : Act} {w : World} {Q : Exit → Act → World → Prop} (hgd : o.guard = none) (ty : TypeId) (x y : Operand) (ho : o.op = .store ty x y)
    (g : Nat) (cells : Array Value) (hx : a.eval x = .pointer (some ⟨g, 0, none⟩)) (hy : a.eval y = .agg cells)
    (t : TypeId) (old : Array Value) (hg : w.heap[g]? = some (.cells old t (0, 0))) (hi : (P.info? ty).map (·.size) = some cells.size)
    (hold : old.size = cells.size) (h1 : cells.all (·.oneCell') = true)
    (h : wpList P ops Q rest (a.put o.dst undef) (w.setRow g cells)) : wpList P ops Q (o :: rest) a w :=
  wpList_plain hgd fun _ hK => wp_store_row ty x y ho g cells hx hy t old hg hi hold h1 (hK _ _ h)
theorem setRow_below {w : World} {g B : Nat} (cs : Array Value) (hg : B ≤ g) : Below B w (w.setRow g cs) := ⟨rfl, rfl, rfl, by simp [World.setRow], fun k hk => setRow_other w g k cs (by omega)⟩
theorem one6 (a b c d e f : Int) : (#[Value.int .i64 a, .int .i64 b, .int .i64 c, .int .i64 d, .int .i64 e, .int .i64 f] : Array Value).all (·.oneCell') = true := by simp [Value.oneCell']
set_option maxHeartbeats 800000 in
theorem stepO_any (w : World) (g : Nat) (x : Wan) (hg : BoxW w g x) (n k : Int) (h1 : ¬ k = 1) (h4 : ¬ k = 4) :
    Calls Tryd.prog 85 #[.int .i64 n, .int .i64 k, .pointer (some ⟨g, 0, none⟩)] w fun e w' => e = .returned (spv (step x n k)) ∧ Below w.heap.size w w' := by
  obtain ⟨c0, -⟩ := hg.cells
  have hgl := hg.lt
  clear hg
  have F : Hid (step x n k = ⟨n, ⟨k, x.book, 0, 0, 0⟩⟩) := by unfold Hid step; rw [if_neg h1, if_neg h4, if_neg h4]
  have H0 : Hid (((w.alloc (.cells #[.int .i64 0, .int .i64 0, .int .i64 0, .int .i64 0, .int .i64 0, .int .i64 0] 118)).alloc (.cells #[.int .i64 k, .int .i64 x.book, .int .i64 0, .int .i64 0, .int .i64 0] 23)).heap[w.heap.size]? = some (.cells #[.int .i64 0, .int .i64 0, .int .i64 0, .int .i64 0, .int .i64 0, .int .i64 0] 118 (0, 0))) := heap_alloc2_old _ _ _
  have BW : Hid (Below w.heap.size w ((w.alloc (.cells #[.int .i64 0, .int .i64 0, .int .i64 0, .int .i64 0, .int .i64 0, .int .i64 0] 118)).alloc (.cells #[.int .i64 k, .int .i64 x.book, .int .i64 0, .int .i64 0, .int .i64 0] 23))) := (((Below.refl _ w).alloc (Nat.le_refl _) _).alloc (by simp) _)
  go_enter Tryd.func85, Tryd.ntmps85
  go_wp2_with (refine wpList_store_row rfl 118 (.tmp 5) (.tmp 29) rfl w.heap.size #[.int .i64 n, .int .i64 k, .int .i64 x.book, .int .i64 0, .int .i64 0, .int .i64 0] rfl rfl 118 #[.int .i64 0, .int .i64 0, .int .i64 0, .int .i64 0, .int .i64 0, .int .i64 0] H0.out ask_size rfl (one6 _ _ _ _ _ _) ?_)
  refine bodyPost_ret (results_cell_row step_results _ _ w.heap.size 118 #[.int .i64 n, .int .i64 k, .int .i64 x.book, .int .i64 0, .int .i64 0, .int .i64 0] (0, 0) _ rfl (setRow_heap _ _ _ _ _ _ H0.out) Tryd.underlying118 rfl ask_size) rfl ?_
  exact ⟨by rw [F.out], BW.out.trans (setRow_below _ (Nat.le_refl _))⟩
set_option maxHeartbeats 800000 in
theorem step10_any (w : World) (g : Nat) (x : Wan) (hg : BoxW w g x) :
    Calls Tryd.prog 85 #[.int .i64 0, .int .i64 1, .pointer (some ⟨g, 0, none⟩)] w fun e w' => e = .returned (spv (step x 0 1)) ∧ Below w.heap.size w w' := by
  obtain ⟨c0, -, -, c3, c4, c5, -⟩ := hg.cells
  have hgl := hg.lt
  clear hg
  have F : Hid (step x 0 1 = ⟨0, ⟨1, x.book, x.u0, 0, 0⟩⟩) := rfl
  have H0 : Hid (((w.alloc (.cells #[.int .i64 0, .int .i64 0, .int .i64 0, .int .i64 0, .int .i64 0, .int .i64 0] 118)).alloc (.cells #[.int .i64 1, .int .i64 x.book, .int .i64 x.u0, .int .i64 0, .int .i64 0] 23)).heap[w.heap.size]? = some (.cells #[.int .i64 0, .int .i64 0, .int .i64 0, .int .i64 0, .int .i64 0, .int .i64 0] 118 (0, 0))) := heap_alloc2_old _ _ _
  have BW : Hid (Below w.heap.size w ((w.alloc (.cells #[.int .i64 0, .int .i64 0, .int .i64 0, .int .i64 0, .int .i64 0, .int .i64 0] 118)).alloc (.cells #[.int .i64 1, .int .i64 x.book, .int .i64 x.u0, .int .i64 0, .int .i64 0] 23))) := (((Below.refl _ w).alloc (Nat.le_refl _) _).alloc (by simp) _)
  go_enter Tryd.func85, Tryd.ntmps85
  go_wp2_with (refine wpList_store_row rfl 118 (.tmp 5) (.tmp 29) rfl w.heap.size #[.int .i64 0, .int .i64 1, .int .i64 x.book, .int .i64 x.u0, .int .i64 0, .int .i64 0] rfl rfl 118 #[.int .i64 0, .int .i64 0, .int .i64 0, .int .i64 0, .int .i64 0, .int .i64 0] H0.out ask_size rfl (one6 _ _ _ _ _ _) ?_)
  refine bodyPost_ret (results_cell_row step_results _ _ w.heap.size 118 #[.int .i64 0, .int .i64 1, .int .i64 x.book, .int .i64 x.u0, .int .i64 0, .int .i64 0] (0, 0) _ rfl (setRow_heap _ _ _ _ _ _ H0.out) Tryd.underlying118 rfl ask_size) rfl ?_
  exact ⟨by rw [F.out], BW.out.trans (setRow_below _ (Nat.le_refl _))⟩
set_option maxHeartbeats 800000 in
theorem step11_any (w : World) (g : Nat) (x : Wan) (hg : BoxW w g x) :
    Calls Tryd.prog 85 #[.int .i64 1, .int .i64 1, .pointer (some ⟨g, 0, none⟩)] w fun e w' => e = .returned (spv (step x 1 1)) ∧ Below w.heap.size w w' := by
  obtain ⟨c0, -, -, c3, c4, c5, -⟩ := hg.cells
  have hgl := hg.lt
  clear hg
  have F : Hid (step x 1 1 = ⟨1, ⟨1, x.book, x.u1, 0, 0⟩⟩) := rfl
  have H0 : Hid (((w.alloc (.cells #[.int .i64 0, .int .i64 0, .int .i64 0, .int .i64 0, .int .i64 0, .int .i64 0] 118)).alloc (.cells #[.int .i64 1, .int .i64 x.book, .int .i64 x.u1, .int .i64 0, .int .i64 0] 23)).heap[w.heap.size]? = some (.cells #[.int .i64 0, .int .i64 0, .int .i64 0, .int .i64 0, .int .i64 0, .int .i64 0] 118 (0, 0))) := heap_alloc2_old _ _ _
  have BW : Hid (Below w.heap.size w ((w.alloc (.cells #[.int .i64 0, .int .i64 0, .int .i64 0, .int .i64 0, .int .i64 0, .int .i64 0] 118)).alloc (.cells #[.int .i64 1, .int .i64 x.book, .int .i64 x.u1, .int .i64 0, .int .i64 0] 23))) := (((Below.refl _ w).alloc (Nat.le_refl _) _).alloc (by simp) _)
  go_enter Tryd.func85, Tryd.ntmps85
  go_wp2_with (refine wpList_store_row rfl 118 (.tmp 5) (.tmp 29) rfl w.heap.size #[.int .i64 1, .int .i64 1, .int .i64 x.book, .int .i64 x.u1, .int .i64 0, .int .i64 0] rfl rfl 118 #[.int .i64 0, .int .i64 0, .int .i64 0, .int .i64 0, .int .i64 0, .int .i64 0] H0.out ask_size rfl (one6 _ _ _ _ _ _) ?_)
  refine bodyPost_ret (results_cell_row step_results _ _ w.heap.size 118 #[.int .i64 1, .int .i64 1, .int .i64 x.book, .int .i64 x.u1, .int .i64 0, .int .i64 0] (0, 0) _ rfl (setRow_heap _ _ _ _ _ _ H0.out) Tryd.underlying118 rfl ask_size) rfl ?_
  exact ⟨by rw [F.out], BW.out.trans (setRow_below _ (Nat.le_refl _))⟩
set_option maxHeartbeats 800000 in
theorem step12_any (w : World) (g : Nat) (x : Wan) (hg : BoxW w g x) :
    Calls Tryd.prog 85 #[.int .i64 2, .int .i64 1, .pointer (some ⟨g, 0, none⟩)] w fun e w' => e = .returned (spv (step x 2 1)) ∧ Below w.heap.size w w' := by
  obtain ⟨c0, -, -, c3, c4, c5, -⟩ := hg.cells
  have hgl := hg.lt
  clear hg
  have F : Hid (step x 2 1 = ⟨2, ⟨1, x.book, x.u2, 0, 0⟩⟩) := rfl
  have H0 : Hid (((w.alloc (.cells #[.int .i64 0, .int .i64 0, .int .i64 0, .int .i64 0, .int .i64 0, .int .i64 0] 118)).alloc (.cells #[.int .i64 1, .int .i64 x.book, .int .i64 x.u2, .int .i64 0, .int .i64 0] 23)).heap[w.heap.size]? = some (.cells #[.int .i64 0, .int .i64 0, .int .i64 0, .int .i64 0, .int .i64 0, .int .i64 0] 118 (0, 0))) := heap_alloc2_old _ _ _
  have BW : Hid (Below w.heap.size w ((w.alloc (.cells #[.int .i64 0, .int .i64 0, .int .i64 0, .int .i64 0, .int .i64 0, .int .i64 0] 118)).alloc (.cells #[.int .i64 1, .int .i64 x.book, .int .i64 x.u2, .int .i64 0, .int .i64 0] 23))) := (((Below.refl _ w).alloc (Nat.le_refl _) _).alloc (by simp) _)
  go_enter Tryd.func85, Tryd.ntmps85
  go_wp2_with (refine wpList_store_row rfl 118 (.tmp 5) (.tmp 29) rfl w.heap.size #[.int .i64 2, .int .i64 1, .int .i64 x.book, .int .i64 x.u2, .int .i64 0, .int .i64 0] rfl rfl 118 #[.int .i64 0, .int .i64 0, .int .i64 0, .int .i64 0, .int .i64 0, .int .i64 0] H0.out ask_size rfl (one6 _ _ _ _ _ _) ?_)
  refine bodyPost_ret (results_cell_row step_results _ _ w.heap.size 118 #[.int .i64 2, .int .i64 1, .int .i64 x.book, .int .i64 x.u2, .int .i64 0, .int .i64 0] (0, 0) _ rfl (setRow_heap _ _ _ _ _ _ H0.out) Tryd.underlying118 rfl ask_size) rfl ?_
  exact ⟨by rw [F.out], BW.out.trans (setRow_below _ (Nat.le_refl _))⟩
set_option maxHeartbeats 1600000 in
theorem step4_any (w : World) (g : Nat) (x : Wan) (hg : BoxW w g x) (n : Int) :
    Calls Tryd.prog 85 #[.int .i64 n, .int .i64 4, .pointer (some ⟨g, 0, none⟩)] w fun e w' => e = .returned (spv (step x n 4)) ∧ Below w.heap.size w w' := by
  obtain ⟨c0, c1, -, -, -, -, c6⟩ := hg.cells
  have hgl := hg.lt
  clear hg
  have F : Hid (step x n 4 = ⟨n, ⟨4, x.book, 0, x.cust, x.price⟩⟩) := rfl
  have H0 : Hid (((w.alloc (.cells #[.int .i64 0, .int .i64 0, .int .i64 0, .int .i64 0, .int .i64 0, .int .i64 0] 118)).alloc (.cells #[.int .i64 4, .int .i64 x.book, .int .i64 0, .int .i64 x.cust, .int .i64 x.price] 23)).drew.heap[w.heap.size]? = some (.cells #[.int .i64 0, .int .i64 0, .int .i64 0, .int .i64 0, .int .i64 0, .int .i64 0] 118 (0, 0))) := heap_alloc2_old _ _ _
  have BW : Hid (Below w.heap.size w ((w.alloc (.cells #[.int .i64 0, .int .i64 0, .int .i64 0, .int .i64 0, .int .i64 0, .int .i64 0] 118)).alloc (.cells #[.int .i64 4, .int .i64 x.book, .int .i64 0, .int .i64 x.cust, .int .i64 x.price] 23)).drew) := (((Below.refl _ w).alloc (Nat.le_refl _) _).alloc (by simp) _).drew
  go_enter Tryd.func85, Tryd.ntmps85
  go_upto_region 6 with fail
  go_region
  go_wp2_with (refine wpList_store_row rfl 118 (.tmp 5) (.tmp 29) rfl w.heap.size #[.int .i64 n, .int .i64 4, .int .i64 x.book, .int .i64 0, .int .i64 x.cust, .int .i64 x.price] rfl rfl 118 #[.int .i64 0, .int .i64 0, .int .i64 0, .int .i64 0, .int .i64 0, .int .i64 0] H0.out ask_size rfl (one6 _ _ _ _ _ _) ?_)
  refine bodyPost_ret (results_cell_row step_results _ _ w.heap.size 118 #[.int .i64 n, .int .i64 4, .int .i64 x.book, .int .i64 0, .int .i64 x.cust, .int .i64 x.price] (0, 0) _ rfl (setRow_heap _ _ _ _ _ _ H0.out) Tryd.underlying118 rfl ask_size) rfl ?_
  exact ⟨by rw [F.out], BW.out.trans (setRow_below _ (Nat.le_refl _))⟩
end Pl
end Go.Proofs.YtidfpbnepdjagaaDoor
