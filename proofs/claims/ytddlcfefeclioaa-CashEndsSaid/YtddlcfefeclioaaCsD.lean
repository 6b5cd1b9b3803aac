/- told: the few things of the document that each statement asks besides. -/
import Derived.Test.YtddlcfefeclioaaCsT
namespace Go.Proofs.Ytddlcfefeclioaa
open Go.RowKit
namespace Cs

theorem told_may : May 10 [1, 1, 1] := ⟨by decide, by decide, by decide, by decide, by unfold Parts; decide, by decide⟩
theorem told_not : ¬ May 1 [] := fun h => absurd h.n0 (by decide)
theorem told_list : lst 3 (share 10 [1, 1, 1]) = [4, 3, 3] := by decide
theorem told_row (w : World) : Ri (w.alloc (.cells #[.int .i64 1, .int .i64 1, .int .i64 1] 2)) (w.alloc (.cells #[.int .i64 1, .int .i64 1, .int .i64 1] 2)).heap.size (some ⟨w.heap.size, 0, none⟩) 3 [1, 1, 1] :=
  ⟨rfl, fun _ => ⟨_, rfl, by simp, fun j z hj => by
    match j, hj with
    | 0, hj | 1, hj | 2, hj => simp at hj; subst hj; simp [Addr.add]
    | j + 3, hj => simp at hj⟩, fun z hz => by simp at hz; subst hz; unfold I; omega⟩
set_option maxHeartbeats 1600000 in
set_option maxRecDepth 100000 in
theorem told_any (w : World) : Calls Try.prog 9 #[] w fun e w' => e = .returned (.bool true) ∧ Below w.heap.size w w' := by
  have C1 := add_any 2 3 (by unfold I; omega) (by unfold I; omega)
  have C2 := add_any 9223372036854775807 1 (by unfold I; omega) (by unfold I; omega)
  have C3 := mul_any (-9223372036854775808) (-1) (by unfold I; omega) (by unfold I; omega)
  unfold NumTo at C1 C2 C3
  rw [show okv (2 + 3) = 5 by decide, show oke (2 + 3) = 0 by decide] at C1
  rw [show okv (9223372036854775807 + 1) = 0 by decide, show oke (9223372036854775807 + 1) = 3 by decide] at C2
  rw [show okv (-9223372036854775808 * -1) = 0 by decide, show oke (-9223372036854775808 * -1) = 3 by decide] at C3
  replace C1 := Lib.hid C1
  replace C2 := Lib.hid C2
  replace C3 := Lib.hid C3
  go_enter Try.func9, Try.ntmps9
  go_wp2_with fail
  refine (C1.out _).mono ?_
  rintro e w1 ⟨rfl, b1⟩
  have be1 : Hid (Below w.heap.size w w1) := b1
  clear b1
  go_wp2_with fail
  refine (C2.out _).mono ?_
  rintro e w2 ⟨rfl, b2⟩
  have be2 : Hid (Below w.heap.size w w2) := be1.out.trans (b2.mono be1.out.size)
  clear b2 be1
  go_wp2_with fail
  refine (C3.out _).mono ?_
  rintro e w3 ⟨rfl, b3⟩
  have be3 : Hid (Below w.heap.size w w3) := be2.out.trans (b3.mono be2.out.size)
  clear b3 be2 C1 C2 C3
  go_wp2_with fail
  refine (share_yes 10 _ 3 3 [1, 1, 1] _ (told_row w3) told_may).mono ?_
  rintro e w4 ⟨g, c, rfl, ho, b4⟩
  have be4 : Hid (Below w.heap.size w w4) := (be3.out.alloc be3.out.size _).trans (b4.mono (Nat.le_trans be3.out.size (by simp)))
  have hl3 : ([1, 1, 1] : List Int).length = 3 := rfl
  rw [hl3, told_list] at ho
  rw [hl3]
  have q0 : w4.cell? ⟨g, 0, none⟩ = some (.int .i64 4) := own_cell ho (by omega) rfl
  have q1 : w4.cell? ⟨g, 1, none⟩ = some (.int .i64 3) := own_cell ho (by omega) rfl
  have q2 : w4.cell? ⟨g, 2, none⟩ = some (.int .i64 3) := own_cell ho (by omega) rfl
  clear ho b4 be3 hl3
  go_wp2_with fail
  refine (share_no 1 none 0 0 [] w4 ⟨rfl, fun h => absurd h (by omega), fun z hz => by cases hz⟩ (by omega) told_not).mono ?_
  rintro e w5 ⟨rfl, rfl⟩
  go_wp2
  go_ret
  exact ⟨rfl, be4.out⟩
end Cs
end Go.Proofs.Ytddlcfefeclioaa
