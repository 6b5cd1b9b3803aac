/- Put: the frame of a record. -/
import Derived.Test.YtbolcapgocjgcaaGreatDoorFrB
namespace Go.Proofs.YtbolcapgocjgcaaGreatDoor
set_option maxRecDepth 100000
open Go.RowKit
open Go.Proofs.YtbolcapgocjgcaaGreatDoor.Pk
namespace Fr

theorem put_no (w : World) (A : Option Addr) (n c : Nat) (hn : n ≤ 9223372036854775807) (h : n < 1 ∨ 1000 < n) :
    Calls Tryz.prog 32 #[.slice A n c] w fun e w' => e = .returned (.tuple #[.slice none 0 0, .int .i64 1]) ∧ w = w' := by
  have M := Lib.hid (may_no (n : Int) (by omega) w)
  clear h
  go_enter Tryz.func32, Tryz.ntmps32
  go_wp2_with fail
  refine M.out.mono ?_
  rintro e w' ⟨rfl, rfl⟩
  go_wp2
  go_ret2
  exact ⟨rfl, rfl⟩

/-- What Put answers of a record that may stand. -/
def PutTo (w : World) (bs : List UInt8) (e : Ending) (w' : World) : Prop :=
  ∃ v, e = .returned (.tuple #[v, .int .i64 0]) ∧ w'.ownsRow w.heap.size 5 1 v (bs.length + 6) (u8s (frame bs)) ∧ Below w.heap.size w w'

set_option maxHeartbeats 1600000 in
set_option maxRecDepth 100000 in
theorem put_yes (w : World) {T : Nat → Prop} (A : Option Addr) (n c : Nat) (bs : List UInt8) (h : Rb w T A n bs) (hT : ∀ g, T g → g < w.heap.size) (ht : Tab w) (h1 : 1 ≤ n) (h2 : n ≤ 1000) :
    Calls Tryz.prog 32 #[.slice A n c] w (PutTo w bs) := by
  have M := Lib.hid (may_yes (n : Int) (by omega) (by omega) w)
  have hl : Hid (bs.length = n) := h.len
  have Rk : Hid (∀ w', Below w.heap.size w w' → Rb w' (fun _ => True) A n bs) := fun w' hb => h.keep (fun g hg => hb.block g (hT g hg)) (fun _ _ => trivial)
  obtain ⟨y, hy⟩ : ∃ y, y = sumOf bs := ⟨_, rfl⟩
  have hy2 : y < 4294967296 := by rw [hy]; exact sum_lt bs
  have Sm : Hid (∀ w', Below w.heap.size w w' → Calls Tryz.prog 59 #[.slice A n c] w' fun e w'' => e = .returned (.int .u32 (y : Nat)) ∧ w' = w'') := fun w' hb => by
    rw [hy]; exact sum_any w' A n c bs (Rk.out w' hb) (ht.below hb) (by omega)
  have F : Hid (∀ w3 v3, w3.ownsRow w.heap.size 5 1 v3 (0 + 4 + 2 + n) (u8s (([] ++ le 4 y) ++ le 2 n ++ bs)) → Below w.heap.size w w3 → PutTo w bs (.returned (.tuple #[v3, .int .i64 0])) w3) := fun w3 v3 ho hb => by
    refine ⟨v3, rfl, ?_, hb⟩
    have e1 : bs.length + 6 = 0 + 4 + 2 + n := by have := hl.out; omega
    have e2 : frame bs = ([] ++ le 4 y) ++ le 2 n ++ bs := by unfold frame; rw [← hy, hl.out]; simp
    rw [e1, e2]; exact ho
  clear h hT ht hy
  obtain ⟨i0, hi, hz0, hz1, hz2⟩ := info_parts u8_info
  replace hi := Lib.hid hi
  replace hz0 := Lib.hid hz0
  replace hz1 := Lib.hid hz1
  replace hz2 := Lib.hid hz2
  go_enter Tryz.func32, Tryz.ntmps32
  go_wp2_with fail
  refine M.out.mono ?_
  rintro e w' ⟨rfl, rfl⟩
  go_wp2_with (at_make; refine wpList_make_own _ rfl _ _ 39 rfl w.heap.size 5 i0 (.int .u8 0) 1 Tryz.underlying39 hi.out hz0.out hz1.out _ _ _ (n + 6) rfl rfl (by omega) (by rw [hz2.out]; omega) (by unfold maxLen; omega) (Nat.le_refl _) ?_; intro w1 hown1 hg1; have O1 := Lib.hid hown1; have b1 : Hid (Below w.heap.size w w1) := (Below.refl _ _).grown hg1 (Nat.le_refl _) (fun _ h => by cases h); clear hown1 hg1)
  refine (Sm.out w1 b1.out).mono ?_
  rintro e w' ⟨rfl, rfl⟩
  have z1 : Hid (w.heap.size ≤ w1.heap.size) := b1.out.size
  have P1 := Lib.hid (putn w1 w.heap.size 0 _ [] y 4 (by omega) (by omega) z1.out O1.out)
  go_wp2_with fail
  refine P1.out.mono ?_
  rintro e w2 ⟨v2, rfl, hown2, hb2⟩
  have b2 : Hid (Below w.heap.size w w2) := b1.out.trans hb2
  have z2 : Hid (w.heap.size ≤ w2.heap.size) := b2.out.size
  have P2 := Lib.hid (putn w2 w.heap.size (0 + 4) _ _ n 2 (by omega) (by omega) z2.out hown2)
  clear hown2 hb2 P1 O1
  go_wp2_with fail
  refine P2.out.mono ?_
  rintro e w3 ⟨v3, rfl, hown3, hb3⟩
  have b3 : Hid (Below w.heap.size w w3) := b2.out.trans hb3
  obtain ⟨A3, c3, rfl⟩ := own_form hown3
  have O3 := Lib.hid hown3
  have R3 : Hid _ := Rk.out w3 b3.out
  have z3 : w.heap.size ≤ w3.heap.size := b3.out.size
  have hnb : 0 + 4 + 2 + n ≤ 140737488355328 := by omega
  clear hown3 hb3 P2
  go_wp2_with (at_builtin; refine wpList_append_b _ rfl (.tmp 23) (.tmp 24) rfl w.heap.size _ (0 + 4 + 2) _ rfl O3.out rfl R3.out hnb z3 ?_; intro v6 w6 hown6 hg6 _; have f6 : Hid _ := F.out w6 v6 hown6 (b3.out.grown hg6 z3 (fun i hi => (O3.out.lt i hi).1)); clear hown6 hg6)
  go_ret2
  exact f6.out
end Fr
end Go.Proofs.YtbolcapgocjgcaaGreatDoor
