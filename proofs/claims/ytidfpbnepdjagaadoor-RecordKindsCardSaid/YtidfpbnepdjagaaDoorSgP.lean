/- What the program's calls answer, all of them: the laws lean on this alone. -/
import Derived.Test.YtidfpbnepdjagaaDoorSgC
import Derived.Test.YtidfpbnepdjagaaDoorSgF
import Derived.Test.YtidfpbnepdjagaaDoorSgQ0
namespace Go.Proofs.YtidfpbnepdjagaaDoor
set_option maxRecDepth 100000
open Go.RowKit
open Go.Proofs.YtidfpbnepdjagaaDoor.Pk (one_at lt_some)
namespace Sg
open Wt (Wan may Opn mayOp)
open Pl (Stp fwd bck cap z0 wanv spv)

/-- A contract that leans on the table, in every world that has grown of one that has it. -/
theorem con {w : World} (ht : Tab w) {Q : World → Prop} (h : ∀ w', Tab w' → Q w') : ∀ w', Hid (Below w.heap.size w w') → Q w' := fun w' b => h w' (ht.below b.out)

/-! ### a few -/
def tw : Wan := ⟨1, 0, 5, 1, 0, 0, 0⟩
def wz : Wan := ⟨0, 0, 0, 0, 0, 0, 0⟩
def t0 : Sag := ⟨tw, 1, 0, 0, 7⟩
def ta : Stp := ⟨0, ⟨1, 1, 1, 0, 0⟩⟩
def t1 : Sag := ⟨tw, 1, 1, 0, 7⟩
def t2 : Sag := ⟨tw, 3, 0, 3, 7⟩
theorem k_new : snew tw 7 = (t0, 0) := by kernel_rfl
theorem k_next : snext t0 = (ta, true) := by kernel_rfl
theorem k_ans : sans t0 ta 1 = (t1, true) := by kernel_rfl
theorem k_ans2 : sans t1 ta 1 = (t1, false) := by kernel_rfl
theorem k_late : slate t1 12 = (t2, true) := by kernel_rfl
theorem k_can : scan t2 = (t2, false) := by kernel_rfl
theorem k_newz : snew wz 7 = (sz, 1) := by kernel_rfl
theorem k_tells : stells t2 = 2 := by kernel_rfl
theorem k_over : sover t2 = false := by kernel_rfl
theorem k_may : smay t0 = true := by kernel_rfl
end Sg
end Go.Proofs.YtidfpbnepdjagaaDoor
