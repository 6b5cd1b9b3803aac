/- The document's own steps. -/
import Derived.Test.YtidfpbnepdjagaaDoorPlG
namespace Go.Proofs.YtidfpbnepdjagaaDoor
set_option maxRecDepth 100000
open Go.RowKit
open Go.Proofs.YtidfpbnepdjagaaDoor.Pk (one_at one_free one_set lt_some grown_set grown_trans below_grown grown_refl)
namespace Pl
open Wt (Wan may Opn mayOp may_any refmay_any below_drewN)

theorem rask_size : (Tryd.prog.info? 110).map (·.size) = some 6 := by kernel_rfl
end Pl
end Go.Proofs.YtidfpbnepdjagaaDoor
