/- append onto a row of bytes of the call's own; Clone; New. -/
import Derived.Test.YtiplhdeomlmpkaaPk4
import Derived.Maps.AppendAt
namespace Go.Proofs.Ytiplhdeomlmpkaa
open Go.RowKit
namespace Pk

theorem u8_info : (Try.prog.info? 5).map (fun i => (i.zero, i.size, i.bytes)) = some (some (.int .u8 0), 1, 1) := by kernel_rfl

/-- A new copy: what Clone, Bytes answer. -/
def Copied (w : World) (n : Nat) (bs : List UInt8) (e : Ending) (w' : World) : Prop :=
  ∃ v, e = .returned v ∧ w'.ownsRow w.heap.size 5 1 v n (u8s bs) ∧ Below w.heap.size w w'

end Pk
end Go.Proofs.Ytiplhdeomlmpkaa
