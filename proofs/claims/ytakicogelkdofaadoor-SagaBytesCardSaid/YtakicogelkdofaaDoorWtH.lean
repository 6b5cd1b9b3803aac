/- told: the few things of the document that each statement asks besides. -/
import Derived.Test.YtakicogelkdofaaDoorWtL
namespace Go.Proofs.YtakicogelkdofaaDoor
open Go.RowKit Go.Proofs.YtakicogelkdofaaDoor.Pk
namespace Wt

def w1_ : Wan := ⟨1, 0, 0, 0, 1, 0, 5⟩
def w2_ : Wan := ⟨1, 0, 0, 0, 0, 0, 0⟩
def o1_ : Opn := ⟨1, 2, 3, 0, 0⟩
def o2_ : Opn := ⟨0, 0, 0, 0, 0⟩
theorem w1_may : may w1_ = true := by decide
theorem w2_may : may w2_ = false := by decide
theorem o1_may : mayOp o1_ = true := by decide
theorem o2_may : mayOp o2_ = false := by decide
theorem PutTo.rb {w' : World} {v : Value} {bs : List UInt8} {B : Nat} (h : w'.ownsRow B 5 1 v bs.length (u8s bs)) : ∃ A c, v = .slice A bs.length c ∧ Rb w' (fun g => g < w'.heap.size) A bs.length bs ∧ (A = none → c = 0) := by
  obtain ⟨A, c, rfl⟩ := own_form h
  refine ⟨A, c, rfl, (Rb.of_own h).keep (fun _ _ => rfl) (fun g hg => hg.2.lt), fun e => ?_⟩
  subst e
  rcases h.2 with ⟨e, _⟩ | ⟨g, cap, cur, e, _⟩
  · injection e
  · injection e with e; cases e

/-- Three numbers are alike. -/
theorem eq_arr (w : World) (a b c x y z : Int) : (Op.equalIn 9999 22 (.agg #[.int .i64 a, .int .i64 b, .int .i64 c]) (.agg #[.int .i64 x, .int .i64 y, .int .i64 z])).run Tryd.prog w = .ok (a == x && (b == y && c == z)) w := by
  have u3 := Tryd.underlying3
  have a3 := Tryd.isAgg3
  have z3 := Tryd.sizeOf3
  rw [show (9999 : Nat) = 9998 + 1 from rfl, Op.equalIn]
  simp only [Sem.run_bind, run_underlying Tryd.underlying22, Result.andThen_ok]
  simp only [Std.Legacy.Range.forIn_eq_forIn_range', Std.Legacy.Range.size, Nat.sub_zero, Nat.add_sub_cancel, Nat.div_one, List.range'_succ, List.range'_zero, List.forIn_cons, List.forIn_nil]
  go_simp
  by_cases h1 : a = x <;> by_cases h2 : b = y <;> by_cases h3 : c = z <;> simp [h1, h2, h3]
theorem stay {w w' : World} {g : Nat} {o : Obj} (h : Hid (w.heap[g]? = some o)) (b : Below w.heap.size w w') : Hid (w'.heap[g]? = some o) := (b.block _ (lt_some h.out)).trans h.out
theorem stay1 {w : World} {g : Nat} {o : Obj} (h : Hid (w.heap[g]? = some o)) (u : Obj) : Hid ((w.alloc u).heap[g]? = some o) := (heap_alloc_old _ _ (lt_some h.out)).trans h.out
theorem lay1 (w : World) (u : Obj) : Hid ((w.alloc u).heap[w.heap.size]? = some u) := heap_alloc_new _ _
end Wt
end Go.Proofs.YtakicogelkdofaaDoor
