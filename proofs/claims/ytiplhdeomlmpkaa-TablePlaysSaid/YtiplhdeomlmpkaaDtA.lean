/- The document's table in memory: its 1408 cells. -/
import Derived.Test.YtiplhdeomlmpkaaTbK
import Derived.Deep.MidRow
import Derived.StillTailTactics
namespace Go.Proofs.Ytiplhdeomlmpkaa
set_option maxRecDepth 100000
open Go.RowKit
open Go.Sort (grow)
open Go.Proofs.Ytiplhdeomlmpkaa.Pk (one_at one_free one_set lt_some grown_set grown_trans below_grown grown_refl)
namespace Tb
open Wt (Opn mayOp)

theorem setCells_block (p : Nat) : ∀ (vs : List Value) (o : Nat) (w : World), (w.setCells p o vs).heap.size = w.heap.size ∧ (w.setCells p o vs).os = w.os ∧ (w.setCells p o vs).tape = w.tape ∧ (w.setCells p o vs).output = w.output ∧ ∀ g, g ≠ p → (w.setCells p o vs).heap[g]? = w.heap[g]?
  | [], _, _ => ⟨rfl, rfl, rfl, rfl, fun _ _ => rfl⟩
  | v :: r, o, w => by
    obtain ⟨h1, h2, h3, h4, h5⟩ := setCells_block p r (o + 1) (w.setCell ⟨p, o, none⟩ v)
    rw [World.setCells]
    exact ⟨h1.trans (by simp [World.setCell]), h2, h3, h4, fun g hg => (h5 g hg).trans (Below.heap_setCell _ _ _ _ (fun e => hg e))⟩
theorem Kq.of_cells (w : World) (p o : Nat) (vs : List Value) : Kq (fun g => g = p) w (w.setCells p o vs) := by
  obtain ⟨h1, h2, h3, h4, h5⟩ := setCells_block p vs o w
  exact ⟨h2, h3, h4, by omega, fun g _ hn => h5 g hn⟩
theorem set1 (w : World) (q o : Nat) (u : Value) : w.setCell ⟨q, o, none⟩ u = w.setCells q o [u] := rfl
/-- The document's table lies at d; n is what its number says. -/
structure Dm (w : World) (d : Nat) (f : F) (n : Int) : Prop where
  lt : d < w.heap.size
  at_ : ∀ b k : Nat, b ≤ 200 → k ≤ 6 → w.cell? ⟨d, b * 7 + k, none⟩ = some (.int .i64 (f (b : Int) (k : Int)))
  num : w.cell? ⟨d, 1407, none⟩ = some (.int .i64 n)
  free : ∀ i, w.frozen? ⟨d, i, none⟩ = false
section
variable {w w' : World} {d : Nat} {f : F} {n : Int}
theorem Dm.keep (D : Dm w d f n) (h : w'.heap[d]? = w.heap[d]?) : Dm w' d f n := by
  have e : ∀ i, w'.cell? ⟨d, i, none⟩ = w.cell? ⟨d, i, none⟩ := fun i => World.cell?_of_block h
  refine ⟨?_, fun b k hb hk => (e _).trans (D.at_ b k hb hk), (e _).trans D.num, fun i => ?_⟩
  · have := Array.getElem?_eq_getElem D.lt
    rw [← h] at this
    exact lt_some this
  · have := D.free i
    unfold World.frozen? at this ⊢
    simp only [h]
    exact this
theorem Dm.below (D : Dm w d f n) (hb : Below w.heap.size w w') : Dm w' d f n := D.keep (hb.block _ D.lt)
/-- An answer is put. -/
theorem Dm.put (D : Dm w d f n) {b k : Nat} (hb : b ≤ 200) (hk : k ≤ 6) (a : Int) : Dm (w.setCell ⟨d, b * 7 + k, none⟩ (.int .i64 a)) d (upd f (b : Int) (k : Int) a) n := by
  rw [set1]
  refine ⟨by rw [(setCells_block d _ _ w).1]; exact D.lt, fun x y hx hy => ?_, ?_, fun i => ?_⟩
  · by_cases h : x = b ∧ y = k
    · obtain ⟨rfl, rfl⟩ := h
      rw [upd_same]
      have := World.cell?_setCells_in d [.int .i64 a] (x * 7 + y) w (fun i hi => by
        obtain rfl : i = 0 := by simpa using hi
        rw [Nat.add_zero, D.at_ x y hx hy]; rfl) 0 (by simp)
      simpa using this
    · rw [upd_other (by omega), World.cell?_setCells_out d _ _ w ⟨d, x * 7 + y, none⟩ (fun _ _ => by show x * 7 + y < b * 7 + k ∨ b * 7 + k + 1 ≤ x * 7 + y; omega)]
      exact D.at_ x y hx hy
  · rw [World.cell?_setCells_out d _ _ w ⟨d, 1407, none⟩ (fun _ _ => by show 1407 < b * 7 + k ∨ b * 7 + k + 1 ≤ 1407; omega)]
    exact D.num
  · rw [World.frozen?_setCells]
    exact D.free i
/-- Its number is put. -/
theorem Dm.count (D : Dm w d f n) (m : Int) : Dm (w.setCell ⟨d, 1407, none⟩ (.int .i64 m)) d f m := by
  rw [set1]
  refine ⟨by rw [(setCells_block d _ _ w).1]; exact D.lt, fun x y hx hy => ?_, ?_, fun i => ?_⟩
  · rw [World.cell?_setCells_out d _ _ w ⟨d, x * 7 + y, none⟩ (fun _ _ => by show x * 7 + y < 1407 ∨ 1407 + 1 ≤ x * 7 + y; omega)]
    exact D.at_ x y hx hy
  · have := World.cell?_setCells_in d [.int .i64 m] 1407 w (fun i hi => by
      obtain rfl : i = 0 := by simpa using hi
      rw [Nat.add_zero, D.num]; rfl) 0 (by simp)
    simpa using this
  · rw [World.frozen?_setCells]
    exact D.free i
end

/-! ### a new one -/
def zeros : Array Value := Array.replicate 1408 (.int .i64 0)
theorem build_run (w : World) : (Instr.build 29 #[]).run Try.prog w = .ok (.agg zeros) w := by kernel_rfl
theorem box_run (w : World) (cs : Array Value) : (Instr.box 29 (.agg cs)).run Try.prog w = .ok (.pointer (some ⟨w.heap.size, 0, none⟩)) (w.alloc (.cells cs 29)) := by
  simp only [Instr.box, newVar, newRow, Sem.run_bind]
  kernel_rfl
section
variable {ops : Array Oper} {rest : List Oper} {o : Oper} {a : Act} {w : World} {Q : Exit → Act → World → Prop}
theorem wpList_build11 (hg : o.guard = none) (ho : o.op = .build 29 #[])
    (h : wpList Try.prog ops Q rest (a.put o.dst (.agg zeros)) w) : wpList Try.prog ops Q (o :: rest) a w := by
  refine wpList_plain hg fun K hK => ?_
  unfold Oper.wp execOp
  simp only [ho, Sem.run_bind, List.map_toArray, List.map_nil, build_run, Sem.run_pure, Result.andThen_ok]
  exact hK _ _ h
theorem wpList_box11 (hg : o.guard = none) (x : Operand) (ho : o.op = .box 29 x) (cs : Array Value) (hx : a.eval x = .agg cs)
    (h : wpList Try.prog ops Q rest (a.put o.dst (.pointer (some ⟨w.heap.size, 0, none⟩))) (w.alloc (.cells cs 29))) : wpList Try.prog ops Q (o :: rest) a w := by
  refine wpList_plain hg fun K hK => ?_
  unfold Oper.wp execOp
  simp only [ho, hx, Sem.run_bind, box_run, Sem.run_pure, Result.andThen_ok]
  exact hK _ _ h
end
theorem dm_new (w : World) : Dm (w.alloc (.cells zeros 29)) w.heap.size fz 0 := by
  have h := heap_alloc_new w (.cells zeros 29)
  have z : ∀ i, i < 1408 → zeros[i]? = some (.int .i64 0) := fun i hi => by
    unfold zeros
    rw [Array.getElem?_replicate, if_pos hi]
  exact ⟨lt_some h, fun b k hb hk => by rw [one_at h, z _ (by omega)]; rfl, by rw [one_at h, z _ (by omega)], fun i => one_free h⟩
end Tb
end Go.Proofs.Ytiplhdeomlmpkaa
