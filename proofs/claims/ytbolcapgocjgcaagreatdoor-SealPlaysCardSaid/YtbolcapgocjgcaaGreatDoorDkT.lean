/- told: the few things of the document that each statement asks besides. -/
import Derived.Test.YtbolcapgocjgcaaGreatDoorDkK
import Derived.Lib.SlBytesConst
import Derived.Laws.OwnMore
import Derived.OwnWalk
namespace Go.Proofs.YtbolcapgocjgcaaGreatDoor
open Go.RowKit
open Go.Proofs.YtbolcapgocjgcaaGreatDoor.Pk
namespace Dk

theorem rb_lit (W : World) (bs : Bs) (fr : Nat × Nat) : Rb (W.alloc (.cells (u8s bs).toArray 5 fr)) (fun g => g = W.heap.size) (some ⟨W.heap.size, 0, none⟩) bs.length bs :=
  ⟨rfl, fun _ => ⟨_, rfl, rfl, fun j c hj => by
    rw [Addr.add_lit, Nat.zero_add, cell_of_row _ _ _ _ _ _ (heap_alloc_new _ _)]
    simp [u8s, hj]⟩⟩
theorem below_alloc (W : World) (o : Obj) : Below W.heap.size W (W.alloc o) := (Below.refl _ _).alloc (Nat.le_refl _) _
def F1 : St := [([97], [97, 98, 99, 100, 101], 0)]
def F2 : St := [([97], [97, 98, 99, 100, 101], 5)]
def F3 : St := [([97], [97, 98, 99, 100, 101, 120, 121, 122], 5)]
def F4 : St := [([97], [97, 98, 99, 100, 101, 120], 6)]
def F5 : St := [([98], [97, 98, 99, 100, 101, 120], 6)]
theorem f1 : sApp 20 [] [97] [97, 98, 99, 100, 101] = (0, F1) := by decide
theorem f2 : sSync F1 [97] = (0, F2) := by decide
theorem f3 : sApp 20 F2 [97] [120, 121, 122] = (0, F3) := by decide
theorem f4 : sCrash 1 F3 = F4 := by decide
theorem f5 : sApp 20 F4 [97] (List.replicate 15 0) = (4, F4) := by decide
theorem f6 : sRen F4 [97] [98] = (0, F5) := by decide
theorem f7 : sSync F5 [97] = (5, F5) := by decide
theorem str_toList (l : List UInt8) : (str l).toList = l := ByteArray.toList_mk l
theorem f9 : look [97] F4 = some ([97, 98, 99, 100, 101, 120], 6) := by decide
theorem f10 : ((look [97] F4).elim 0 fun x => x.2) = 6 := by decide
theorem f11 : used F3 = 8 := by decide
theorem f12 : used [] = 0 := by decide
theorem f13 : (F5.map (·.1)).length = 1 := by decide
theorem u8_zeros (n : Nat) : List.replicate n (Value.int .u8 0) = u8s (List.replicate n 0) := by simp [u8s]
theorem f8 : sRem F5 [98] = (0, []) := by decide

end Dk
end Go.Proofs.YtbolcapgocjgcaaGreatDoor
