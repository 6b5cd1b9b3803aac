/- told: the few things of the document that each statement asks besides. -/
import Derived.Test.YtbolcapgocjgcaaGreatDoorFrE
import Derived.Lib.SlBytesConst
namespace Go.Proofs.YtbolcapgocjgcaaGreatDoor
set_option maxRecDepth 100000
open Go.RowKit
open Go.Proofs.YtbolcapgocjgcaaGreatDoor.Pk
namespace Fr

theorem rb_own {w : World} {base n : Nat} {A : Option Addr} {c : Nat} {bs : List UInt8} (h : w.ownsRow base 5 1 (.slice A n c) n (u8s bs)) : Rb w (fun g => g < w.heap.size) A n bs := (Rb.of_own h).keep (fun _ _ => rfl) (fun _ hg => hg.2.lt)
theorem rb_below {w w' : World} {A : Option Addr} {n : Nat} {bs : List UInt8} (h : Rb w (fun g => g < w.heap.size) A n bs) (hb : Below w.heap.size w w') : Rb w' (fun g => g < w'.heap.size) A n bs :=
  h.keep (fun _ hg => hb.block _ hg) (fun _ hg => Nat.lt_of_lt_of_le hg hb.size)
theorem rb_two (W : World) (x y : Int) (c d : UInt8) (hx : x = (c.toNat : Int)) (hy : y = (d.toNat : Int)) : Rb (W.alloc (.cells #[.int .u8 x, .int .u8 y] 5)) (fun _ => True) (some ⟨W.heap.size, 0, none⟩) 2 [c, d] :=
  ⟨rfl, fun _ => ⟨_, rfl, trivial, fun j z hj => by
    rw [Addr.add_lit, Nat.zero_add, World.cell?_alloc_mark]
    match j, hj with
    | 0, hj => simp at hj; subst hj; rw [hx]; rfl
    | 1, hj => simp at hj; subst hj; rw [hy]; rfl
    | j + 2, hj => simp at hj⟩⟩
theorem rb_a (W : World) (fr : Nat × Nat) : Rb (W.alloc (.cells #[.int .u8 97] 5 fr)) (fun g => g = W.heap.size) (some ⟨W.heap.size, 0, none⟩) 1 [97] :=
  ⟨rfl, fun _ => ⟨_, rfl, rfl, fun j z hj => by
    rw [Addr.add_lit, Nat.zero_add, World.cell?_alloc_mark]
    match j, hj with
    | 0, hj => simp at hj; subst hj; rfl
    | j + 1, hj => simp at hj⟩⟩
theorem got_told : Got (frame [97] ++ [1, 2]) [[97]] 7 := by
  have h := got_frames (l := [[97]]) (t := [1, 2]) (by intro r hr; simp at hr; subst hr; simp) (one_short (by simp))
  simpa [frames, frame_len] using h
theorem at_told : oneAt (frame [97]) 0 = some [97] := by
  have h := one_frame (r := [97]) (t := []) (by simp) (by simp)
  rw [List.append_nil] at h
  unfold oneAt
  rw [if_pos (by omega)]
  exact h
theorem no_told : oneAt (frame [97]) 1 = none := by decide +kernel
theorem told_len : (frame [97]).length = 7 := by rw [frame_len]; rfl

end Fr
end Go.Proofs.YtbolcapgocjgcaaGreatDoor
