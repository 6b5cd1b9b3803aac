/- The numbers of a table that are so; Parts; who is asked. -/
import Derived.Test.YtidfpbnepdjagaaDoorPlB
namespace Go.Proofs.YtidfpbnepdjagaaDoor
set_option maxRecDepth 100000
open Go.RowKit
open Go.Proofs.YtidfpbnepdjagaaDoor.Pk (one_at one_free one_set lt_some grown_set grown_trans below_grown grown_refl)
namespace Pl
open Wt (Wan may Opn mayOp may_any below_drewN)

def three : List Int := [0, 1, 2]
theorem three_in {k : Nat} {i : Int} (h : three[k]? = some i) : i = 0 ∨ i = 1 ∨ i = 2 := by
  have := List.mem_of_getElem? h
  simpa [three] using this
/-- A row while a table is gone over. -/
def NmAt (w : World) (ss : List Int) (p : Int → Bool) (v i : Value) (wr : World) : Prop := ∃ (k : Nat) (l : List Int), i = .int .i64 k ∧ k ≤ ss.length ∧ RowI wr w.heap.size v l.length (ivs l) ∧ l = (ss.take k).filter p ∧ Below w.heap.size w wr
theorem fil_next {α : Type} {ss : List α} {p : α → Bool} {k : Nat} {s : α} (h : ss[k]? = some s) (hp : p s = true) : (ss.take (k + 1)).filter p = (ss.take k).filter p ++ [s] := by
  rw [List.take_add_one, h, List.filter_append]
  simp [hp]
theorem fil_same {α : Type} {ss : List α} {p : α → Bool} {k : Nat} {s : α} (h : ss[k]? = some s) (hp : p s = false) : (ss.take (k + 1)).filter p = (ss.take k).filter p := by
  rw [List.take_add_one, h, List.filter_append]
  simp [hp]
theorem below_of_grown {w w' : World} {B : Nat} {row : Option Nat} (hg : w.grownBy w' row) (hB : B ≤ w.heap.size) (hr : ∀ i, row = some i → B ≤ i) : Below B w w' :=
  ⟨hg.os, hg.tape, hg.output, hg.size, fun i hi => hg.block i (by omega) (fun e => by have := hr i e.symm; omega)⟩
set_option maxHeartbeats 1600000 in
theorem nums_any (w : World) (t m g : Nat) (x : Wan) (b : Bool) (ht : w.heap[t]? = some (.cells #[.int .i64 0, .int .i64 1, .int .i64 2] 3 (0, 0))) (hm : w.cell? ⟨m, 0, none⟩ = some (.bool b)) (hg : BoxW w g x) :
    Calls Tryd.prog 89 #[.slice (some ⟨t, 0, none⟩) 3 3, .func (.func 90) #[] #[.pointer (some ⟨m, 0, none⟩), .pointer (some ⟨g, 0, none⟩)]] w (NumsTo w (three.filter fun i => b && decide (0 < un x i))) := by
  have st : Hid (NmAt w three (fun i => b && decide (0 < un x i)) (.slice none 0 0) (.int .i64 0) w) := ⟨0, [], rfl, Nat.zero_le _, World.ownsRow_nil _ _ _ _, rfl, Below.refl _ _⟩
  have hml := block_lt_of_cell hm
  have hgl := hg.lt
  have htl := lt_some ht
  have CL : Hid (∀ w' i, Below w.heap.size w w' → (i = 0 ∨ i = 1 ∨ i = 2) → Calls Tryd.prog 90 #[.int .i64 i, .pointer (some ⟨m, 0, none⟩), .pointer (some ⟨g, 0, none⟩)] w' fun e w'' => e = .returned (.bool (b && decide (0 < un x i))) ∧ w' = w'') := fun w' i hb hi => partClo_any w' m g x b ((World.cell?_of_block (hb.block m hml)).trans hm) (hg.below hb hgl) i hi
  have TC : Hid (∀ w' k i, Below w.heap.size w w' → three[k]? = some i → w'.cell? ⟨t, k, none⟩ = some (.int .i64 i)) := fun w' k i hb hk => by
    rw [World.cell?_of_block (hb.block t htl), one_at ht]
    match k, hk with
    | 0, hk => simp [three] at hk; subst hk; rfl
    | 1, hk => simp [three] at hk; subst hk; rfl
    | 2, hk => simp [three] at hk; subst hk; rfl
    | k + 3, hk => simp [three] at hk
  generalize hq : (fun i => b && decide (0 < un x i)) = q at *
  have Q : ∀ i, (b && decide (0 < un x i)) = q i := fun i => by rw [← hq]
  simp only [Q] at CL
  clear ht hm hg Q hq
  go_enter Tryd.func89, Tryd.ntmps89
  go_wp2_with fail
  go_loopw [5, 10] (fun v i wr => NmAt w three q v i wr) (fun _ i _ => 3 - (intOf i).toNat)
  case atStart => exact st.out
  case round =>
    clear st
    obtain ⟨k, l, rfl, hk, hrow, hl, hb⟩ := hrel
    replace hk : k ≤ 3 := hk
    obtain ⟨A, c, rfl, hc1, hc2, hc3⟩ := ri_form hrow
    by_cases hlt : k < 3
    · obtain ⟨i, hi⟩ : ∃ i, three[k]? = some i := ⟨_, List.getElem?_eq_getElem (by exact hlt)⟩
      have hcell := TC.out wr k i hb hi
      have C := Lib.hid (CL.out wr i hb (three_in hi))
      have i1 : (k : Int) < 3 := by omega
      have i2 : (0 : Int) ≤ (k : Int) := by omega
      have few : l.length ≤ 3 := by rw [hl]; exact Nat.le_trans (List.length_filter_le ..) (by rw [List.length_take]; omega)
      have bs := hb.size
      cases hp : q i with
      | true =>
        have ba : Below wr.heap.size wr (wr.alloc (.cells #[.int .i64 i] 3)) := (Below.refl _ _).alloc (Nat.le_refl _) _
        obtain ⟨A2, c2, w2, r2, R2, g2, h2⟩ := ri_app1 (wr.alloc (.cells #[.int .i64 i] 3)) w.heap.size _ l.length l (ri_below hrow ba) i wr.heap.size (heap_alloc_new _ _) (by omega) (Nat.le_trans bs ba.size)
        have nx : Hid (NmAt w three q (.slice A2 (l.length + 1) c2) (.int .i64 ((k : Int) + 1)) w2) := by
          refine ⟨k + 1, l ++ [i], by simp, hlt, by rw [List.length_append]; exact R2, by rw [fil_next hi hp, hl], ?_⟩
          refine (hb.trans (ba.mono bs)).trans (below_of_grown g2 (Nat.le_trans bs ba.size) fun j hj => (ri_block hrow hj).1)
        rw [hp] at C
        clear hrow hl hb few bs R2 g2 h2 ba hp hi
        go_wp2_with (first
          | (at_builtin; refine wpList_run_app rfl (.tmp 17) (.tmp 19) rfl rfl _ _ rfl rfl r2 ?_)
          | (go_at_call 90; refine C.out.mono ?_; rintro e w' ⟨rfl, rfl⟩)
          | go_in)
        exact ⟨nx.out, by simp [intOf]; omega⟩
      | false =>
        have nx : Hid (NmAt w three q (.slice A l.length c) (.int .i64 ((k : Int) + 1)) wr) := ⟨k + 1, l, by simp, hlt, hrow, by rw [fil_same hi hp, hl], hb⟩
        rw [hp] at C
        clear hrow hl hb few bs hp hi
        go_wp2_with (first
          | (go_at_call 90; refine C.out.mono ?_; rintro e w' ⟨rfl, rfl⟩)
          | go_in)
        exact ⟨nx.out, by simp [intOf]; omega⟩
    · have i1 : ¬ (k : Int) < 3 := by omega
      have E : Hid (NumsTo w (three.filter q) (.returned (.slice A l.length c)) wr) := by
        have : three.take k = three := List.take_of_length_le (by show 3 ≤ k; omega)
        rw [this] at hl
        rw [← hl]
        exact ⟨_, rfl, hrow, hb⟩
      clear hrow hl hb
      go_wp2_with fail
      go_ret
      exact E.out
end Pl
end Go.Proofs.YtidfpbnepdjagaaDoor
