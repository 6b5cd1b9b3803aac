/- told: the few things of the document that each statement asks besides. -/
import Derived.Test.YtidfpbnepdjagaaDoorPk8
import Derived.Lib.SlBytesConst
namespace Go.Proofs.YtidfpbnepdjagaaDoor
open Go.RowKit
namespace Pk

theorem told1 : encI (-1) = [1] := by unfold encI; rw [show zz (-1) = 1 by decide, enc_lo (by omega)]; rfl
theorem told2 : encT [97, 98] = [4, 97, 98] := by unfold encT encI; rw [show zz (([97, 98] : List UInt8).length : Int) = 4 by decide, enc_lo (by omega)]; rfl
theorem told3 : rInt (-5) 5 (some [1, 7, 4, 97, 98]) = (-1, some [7, 4, 97, 98]) := by decide
theorem told4 : rByte (some [7, 4, 97, 98]) = (7, some [4, 97, 98]) := by decide
theorem told5 : rText 2 (some [4, 97, 98]) = ([97, 98], some []) := by decide

theorem str_toList (l : List UInt8) : (str l).toList = l := ByteArray.toList_mk l
theorem rb_nine (W : World) (fr : Nat × Nat) : Rb (W.alloc (.cells #[.int .u8 49, .int .u8 50, .int .u8 51, .int .u8 52, .int .u8 53, .int .u8 54, .int .u8 55, .int .u8 56, .int .u8 57] 5 fr)) (fun _ => True) (some ⟨W.heap.size, 0, none⟩) 9 [49, 50, 51, 52, 53, 54, 55, 56, 57] :=
  ⟨rfl, fun _ => ⟨_, rfl, trivial, fun j x hj => by
    rw [Addr.add_lit, Nat.zero_add, World.cell?_alloc_mark]
    match j, hj with
    | 0, hj | 1, hj | 2, hj | 3, hj | 4, hj | 5, hj | 6, hj | 7, hj | 8, hj => simp at hj; subst hj; rfl
    | j + 9, hj => simp at hj⟩⟩
end Pk
end Go.Proofs.YtidfpbnepdjagaaDoor
