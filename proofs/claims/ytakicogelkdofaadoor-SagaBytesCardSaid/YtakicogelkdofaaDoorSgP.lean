/- What the program's calls answer, all of them: the laws lean on this alone. -/
import Derived.Test.YtakicogelkdofaaDoorSgC
import Derived.Test.YtakicogelkdofaaDoorSgF
import Derived.Test.YtakicogelkdofaaDoorSgQ0
namespace Go.Proofs.YtakicogelkdofaaDoor
set_option maxRecDepth 100000
open Go.RowKit
open Go.Proofs.YtakicogelkdofaaDoor.Pk (one_at lt_some)
namespace Sg
open Wt (Wan may Opn mayOp)
open Pl (Stp fwd bck cap z0 wanv spv)

structure Prg : Prop where
  new : ∀ (w : World) (_ : Tab w) (x : Wan) (now : Int), Calls Tryd.prog 24 #[wanv x, .int .i64 now] w fun e w' => e = .returned (.tuple #[sgv (snew x now).1, .int .i64 (snew x now).2]) ∧ Below w.heap.size w w'
  may : ∀ (w : World) (_ : Tab w) (s : Sag), Calls Tryd.prog 12 #[sgv s] w fun e w' => e = .returned (.bool (smay s)) ∧ Below w.heap.size w w'
  next : ∀ (w : World) (_ : Tab w) (s : Sag), Calls Tryd.prog 10 #[sgv s] w fun e w' => e = .returned (.tuple #[spv (snext s).1, .bool (snext s).2]) ∧ Below w.heap.size w w'
  ans : ∀ (w : World) (_ : Tab w) (s : Sag) (a : Stp) (n : Int), Calls Tryd.prog 18 #[sgv s, spv a, .int .i64 n] w fun e w' => e = .returned (.tuple #[sgv (sans s a n).1, .bool (sans s a n).2]) ∧ Below w.heap.size w w'
  can : ∀ (w : World) (_ : Tab w) (s : Sag), Calls Tryd.prog 20 #[sgv s] w fun e w' => e = .returned (.tuple #[sgv (scan s).1, .bool (scan s).2]) ∧ Below w.heap.size w w'
  late : ∀ (w : World) (_ : Tab w) (s : Sag) (now : Int), Calls Tryd.prog 22 #[sgv s, .int .i64 now] w fun e w' => e = .returned (.tuple #[sgv (slate s now).1, .bool (slate s now).2]) ∧ Below w.heap.size w w'
  over : ∀ (w : World) (_ : Tab w) (s : Sag), Calls Tryd.prog 17 #[sgv s] w fun e w' => e = .returned (.bool (sover s)) ∧ Below w.heap.size w w'
  tells : ∀ (w : World) (_ : Tab w) (s : Sag), Calls Tryd.prog 15 #[sgv s] w fun e w' => e = .returned (.int .i64 (stells s)) ∧ Below w.heap.size w w'
  putN : ∀ (w : World) (_ : Tab w) (s : Sag), smay s = false → Calls Tryd.prog 27 #[sgv s] w fun e w' => (∃ A c, e = .returned (.tuple #[.slice A 0 c, .int .i64 1])) ∧ Below w.heap.size w w'

/-- A contract that leans on the table, in every world that has grown of one that has it. -/
theorem con {w : World} (ht : Tab w) {Q : World → Prop} (h : ∀ w', Tab w' → Q w') : ∀ w', Hid (Below w.heap.size w w') → Q w' := fun w' b => h w' (ht.below b.out)

/-! ### a few -/
def tw : Wan := ⟨1, 0, 5, 1, 0, 0, 0⟩
def wz : Wan := ⟨0, 0, 0, 0, 0, 0, 0⟩
def t0 : Sag := ⟨tw, 1, 0, 0, 7⟩
def ta : Stp := ⟨0, ⟨1, 1, 1, 0, 0⟩⟩
def t1 : Sag := ⟨tw, 1, 1, 0, 7⟩
def t2 : Sag := ⟨tw, 3, 0, 3, 7⟩
theorem k_new : snew tw 7 = (t0, 0) := by kernel_rfl
theorem k_next : snext t0 = (ta, true) := by kernel_rfl
theorem k_ans : sans t0 ta 1 = (t1, true) := by kernel_rfl
theorem k_ans2 : sans t1 ta 1 = (t1, false) := by kernel_rfl
theorem k_late : slate t1 12 = (t2, true) := by kernel_rfl
theorem k_can : scan t2 = (t2, false) := by kernel_rfl
theorem k_newz : snew wz 7 = (sz, 1) := by kernel_rfl
theorem k_tells : stells t2 = 2 := by kernel_rfl
theorem k_over : sover t2 = false := by kernel_rfl
theorem k_may : smay t0 = true := by kernel_rfl
end Sg
end Go.Proofs.YtakicogelkdofaaDoor
