/- told: what the program tells of a few. -/
import Derived.Test.YtcgkjnofgpcbhaaStK
namespace Go.Proofs.Ytcgkjnofgpcbhaa
set_option maxRecDepth 100000
open Go.RowKit
open Go.Sort (grow)
open Go.Proofs.Ytcgkjnofgpcbhaa.Pk (one_at one_free one_set lt_some grown_set grown_trans below_grown grown_refl u8s adr_block own_form)
namespace St
open Wt (Opn mayOp)

def tf1 : F := (dstp 2 1 fz ⟨1, 1, 2, 0, 0⟩ 5).1
def tf2 : F := (dstp 2 1 tf1 ⟨1, 2, 2, 0, 0⟩ 5).1
def tf3 : F := (dstp 2 1 tf2 ⟨2, 1, 0, 0, 0⟩ 64).1
def tf4 : F := (dstp 2 1 tf3 ⟨1, 3, 1, 0, 0⟩ 7).1
def tf5 : F := swF tf4 67
def tf6 : F := (dstp 2 1 tf5 ⟨3, 9, 0, 0, 0⟩ 70).1
theorem ta1 : (dstp 2 1 fz ⟨1, 1, 2, 0, 0⟩ 5).2 = 1 := by kernel_rfl
theorem ta2 : (dstp 2 1 tf1 ⟨1, 2, 2, 0, 0⟩ 5).2 = 2 := by kernel_rfl
theorem ta3 : (dstp 2 1 tf2 ⟨2, 1, 0, 0, 0⟩ 64).2 = 1 := by kernel_rfl
theorem ta4 : (dstp 2 1 tf3 ⟨1, 3, 1, 0, 0⟩ 7).2 = 1 := by kernel_rfl
theorem tl5 : swL tf4 67 = [3] := by kernel_rfl
theorem tr5 : room 2 1 tf5 = 1 := by kernel_rfl
theorem tu1 : uni 1 tf5 = 0 := by kernel_rfl
theorem tu2 : uni 2 tf5 = 2 := by kernel_rfl
theorem te2 : tf5 2 = eg := by kernel_rfl
theorem ta6 : (dstp 2 1 tf5 ⟨3, 9, 0, 0, 0⟩ 70).2 = 1 := by kernel_rfl
theorem te9 : tf6 9 = eg := by kernel_rfl
theorem gone_run (w : World) : (Instr.field 46 (.agg #[.int .i64 3, .int .i64 0, .int .i64 0, .int .i64 0, .int .i64 0]) 0).run Try.prog w = .ok (.int .i64 3) w := by kernel_rfl
end St
end Go.Proofs.Ytcgkjnofgpcbhaa
