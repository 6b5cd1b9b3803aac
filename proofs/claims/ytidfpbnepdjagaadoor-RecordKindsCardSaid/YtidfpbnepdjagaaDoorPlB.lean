/- Whether a number is among others; the numbers of a table that are so; Parts. -/
import Derived.Test.YtidfpbnepdjagaaDoorPlA
import Derived.LoopTactic
namespace Go.Proofs.YtidfpbnepdjagaaDoor
set_option maxRecDepth 100000
open Go.RowKit
open Go.Proofs.YtidfpbnepdjagaaDoor.Pk (one_at one_free one_set lt_some grown_set grown_trans below_grown grown_refl)
namespace Pl
open Wt (Wan may Opn mayOp may_any below_drewN)

def IxAt (w : World) (l : List Int) (x : Int) (n : Nat) (i : Value) (wr : World) : Prop := ∃ k : Nat, i = .int .i64 k ∧ k ≤ n ∧ (l.take k).contains x = false ∧ w = wr
theorem take_next {l : List Int} {k : Nat} {x y : Int} (hy : l[k]? = some y) (h : (l.take k).contains x = false) (hne : ¬ x = y) : (l.take (k + 1)).contains x = false := by
  rw [List.take_add_one, hy]
  simp only [Option.toList_some]
  simp at h ⊢
  exact ⟨h, hne⟩
/-- What Index tells. -/
def IxTo (l : List Int) (x : Int) (e : Ending) : Prop := ∃ r : Int, e = .returned (.int .i64 r) ∧ decide (0 ≤ r) = l.contains x
set_option maxHeartbeats 800000 in
theorem index_any (w : World) (A : Option Addr) (n c : Nat) (l : List Int) (x : Int) (base : Nat) (h : RowI w base (.slice A n c) n (ivs l)) (hn : n ≤ 1000) :
    Calls Tryd.prog 91 #[.slice A n c, .int .i64 x] w fun e w' => IxTo l x e ∧ w = w' := by
  have hl := ri_len h
  have st : Hid (IxAt w l x n (.int .i64 0) w) := ⟨0, rfl, Nat.zero_le _, by simp, rfl⟩
  replace hl := Lib.hid hl
  have hc := fun k y hy => ri_cell h (k := k) (x := y) hy
  replace hc := Lib.hid hc
  clear h
  go_enter Tryd.func91, Tryd.ntmps91
  go_wp2_with fail
  go_loopw [8] (fun i wr => IxAt w l x n i wr) (fun i _ => n - (intOf i).toNat)
  case atStart => exact st.out
  case round =>
    clear st
    obtain ⟨k, rfl, hk, hno, rfl⟩ := hrel
    by_cases hlt : k < n
    · obtain ⟨y, hy⟩ : ∃ y, l[k]? = some y := ⟨_, List.getElem?_eq_getElem (by rw [hl.out]; omega)⟩
      obtain ⟨g, rfl, hcell⟩ := hc.out k y hy
      have i1 : (k : Int) < (n : Int) := by omega
      have i2 : (0 : Int) ≤ (k : Int) := by omega
      by_cases hxy : x = y
      · have E : Hid (IxTo l x (.returned (.int .i64 (k : Int)))) := by
          have h1 : decide ((0 : Int) ≤ (k : Int)) = true := decide_eq_true i2
          have h2 : l.contains x = true := by rw [List.contains_iff_mem, hxy]; exact List.mem_of_getElem? hy
          exact ⟨_, rfl, h1.trans h2.symm⟩
        subst hxy
        clear hy hno
        go_wp2_with fail
        go_ret
        exact ⟨E.out, rfl⟩
      · have nx : Hid (IxAt w l x n (.int .i64 ((k : Int) + 1)) w) := ⟨k + 1, by simp, by omega, take_next hy hno hxy, rfl⟩
        clear hy hno
        go_wp2_with fail
        exact ⟨nx.out, by simp [intOf]; omega⟩
    · have i1 : ¬ (k : Int) < (n : Int) := by omega
      have E : Hid (IxTo l x (.returned (.int .i64 (-1)))) := by
        have h1 : l.take k = l := List.take_of_length_le (by have := hl.out; omega)
        rw [h1] at hno
        exact ⟨_, rfl, hno.symm⟩
      clear hno
      go_wp2_with fail
      go_ret
      exact ⟨E.out, rfl⟩
set_option maxHeartbeats 400000 in
theorem contains_any (w : World) (A : Option Addr) (n c : Nat) (l : List Int) (x : Int) (base : Nat) (h : RowI w base (.slice A n c) n (ivs l)) (hn : n ≤ 1000) :
    Calls Tryd.prog 88 #[.slice A n c, .int .i64 x] w fun e w' => e = .returned (.bool (l.contains x)) ∧ w = w' := by
  have I := Lib.hid (index_any w A n c l x base h hn)
  clear h
  go_enter Tryd.func88, Tryd.ntmps88
  go_wp2_with fail
  refine I.out.mono ?_
  rintro e w1 ⟨⟨r, rfl, hr⟩, rfl⟩
  clear I
  replace hr := Lib.hid hr
  go_wp2_with fail
  go_ret
  rw [← hr.out]
  exact ⟨rfl, rfl⟩
/-- What a call that collects numbers leaves. -/
def NumsTo (w : World) (l : List Int) (e : Ending) (w' : World) : Prop := ∃ v, e = .returned v ∧ RowI w' w.heap.size v l.length (ivs l) ∧ Below w.heap.size w w'
def wanv (x : Wan) : Value := .agg #[.int .i64 x.book, .int .i64 x.cust, .int .i64 x.dead, .int .i64 x.u0, .int .i64 x.u1, .int .i64 x.u2, .int .i64 x.price]
/-- A booking in a box. -/
def BoxW (w : World) (g : Nat) (x : Wan) : Prop := w.heap[g]? = some (.cells #[.int .i64 x.book, .int .i64 x.cust, .int .i64 x.dead, .int .i64 x.u0, .int .i64 x.u1, .int .i64 x.u2, .int .i64 x.price] 26 (0, 0))
theorem BoxW.lt {w : World} {g : Nat} {x : Wan} (h : BoxW w g x) : g < w.heap.size := lt_some h
theorem BoxW.below {w w' : World} {g B : Nat} {x : Wan} (h : BoxW w g x) (hb : Below B w w') (hg : g < B) : BoxW w' g x := (hb.block g hg).trans h
theorem BoxW.cells {w : World} {g : Nat} {x : Wan} (h : BoxW w g x) : w.cell? ⟨g, 0, none⟩ = some (.int .i64 x.book) ∧ w.cell? ⟨g, 1, none⟩ = some (.int .i64 x.cust) ∧ w.cell? ⟨g, 2, none⟩ = some (.int .i64 x.dead) ∧ w.cell? ⟨g, 3, none⟩ = some (.int .i64 x.u0) ∧ w.cell? ⟨g, 4, none⟩ = some (.int .i64 x.u1) ∧ w.cell? ⟨g, 5, none⟩ = some (.int .i64 x.u2) ∧ w.cell? ⟨g, 6, none⟩ = some (.int .i64 x.price) :=
  ⟨one_at (i := 0) h, one_at (i := 1) h, one_at (i := 2) h, one_at (i := 3) h, one_at (i := 4) h, one_at (i := 5) h, one_at (i := 6) h⟩
set_option maxHeartbeats 800000 in
/-- The closure of Parts. -/
theorem partClo_any (w : World) (m g : Nat) (x : Wan) (b : Bool) (hm : w.cell? ⟨m, 0, none⟩ = some (.bool b)) (hg : BoxW w g x) (i : Int) (hi : i = 0 ∨ i = 1 ∨ i = 2) :
    Calls Tryd.prog 90 #[.int .i64 i, .pointer (some ⟨m, 0, none⟩), .pointer (some ⟨g, 0, none⟩)] w fun e w' => e = .returned (.bool (b && decide (0 < un x i))) ∧ w = w' := by
  obtain ⟨-, -, -, c3, c4, c5, -⟩ := hg.cells
  have hml := block_lt_of_cell hm
  have hgl := hg.lt
  clear hg
  rcases hi with rfl | rfl | rfl
  all_goals
    simp only [un0, un1, un2]
    cases b
    all_goals
      go_enter Tryd.func90, Tryd.ntmps90
      go_wp2_with fail
      go_ret
      exact ⟨rfl, rfl⟩
end Pl
end Go.Proofs.YtidfpbnepdjagaaDoor
