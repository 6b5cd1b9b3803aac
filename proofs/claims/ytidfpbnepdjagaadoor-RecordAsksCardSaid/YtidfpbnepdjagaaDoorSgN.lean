/- A booking's way, step by step; no program. -/
import Derived.Test.YtidfpbnepdjagaaDoorSgM
namespace Go.Proofs.YtidfpbnepdjagaaDoor
open Go.RowKit
namespace Sg
open Wt (Wan may Opn mayOp mayU inR)
open Pl (Stp fwd bck cap z0 one)

theorem fwd_pos {x : Wan} (h : may x = true) : 0 < (fwd x).length := by rw [Pl.fwd_yes h]; simp; omega
theorem bck_pos {x : Wan} (h : may x = true) : 0 < (bck x).length := by rw [Pl.bck_yes h]; simp
section
variable {x : Wan} {t : Int} (h : may x = true) (ht : inR t 0 1099511627776 = true)
include h ht
theorem may_1 {i : Nat} (hi : i < (fwd x).length) : smay ⟨x, 1, i, 0, t⟩ = true := by
  simp [smay, phs, nF, h, ht]
  omega
theorem may_2 : smay ⟨x, 2, 0, 0, t⟩ = true := by simp [smay, phs, h, ht]
theorem may_4 : smay ⟨x, 4, 0, 0, t⟩ = true := by simp [smay, phs, h, ht]
omit h ht in
theorem why_of {r ph st : Int} (h1 : r = 1 ∨ r = 2 ∨ r = 4 ∨ (r = 3 ∧ 0 < x.dead)) : why ⟨x, ph, st, r, t⟩ = true := by
  rcases h1 with rfl | rfl | rfl | ⟨rfl, hd⟩ <;> simp [why] <;> assumption
theorem may_3 {i : Nat} {r : Int} (hi : i < (bck x).length) (hr : why ⟨x, 3, i, r, t⟩ = true) : smay ⟨x, 3, i, r, t⟩ = true := by
  simp [smay, phs, nB, h, ht, hr]
  omega
theorem may_5 {r : Int} (hr : why ⟨x, 5, 0, r, t⟩ = true) : smay ⟨x, 5, 0, r, t⟩ = true := by simp [smay, phs, h, ht, hr]
theorem next_1 {i : Nat} {s : Stp} (hs : (fwd x)[i]? = some s) : snext ⟨x, 1, i, 0, t⟩ = (s, true) := by
  have hi : i < (fwd x).length := (List.getElem?_eq_some_iff.mp hs).1
  unfold snext
  rw [if_pos (may_1 h ht hi), if_pos rfl]
  simp [atF, hs]
theorem next_2 : snext ⟨x, 2, 0, 0, t⟩ = (cap x, true) := by
  unfold snext
  rw [if_pos (may_2 h ht)]
  simp
theorem next_3 {i : Nat} {r : Int} {s : Stp} (hr : why ⟨x, 3, i, r, t⟩ = true) (hs : (bck x)[i]? = some s) : snext ⟨x, 3, i, r, t⟩ = (s, true) := by
  have hi : i < (bck x).length := (List.getElem?_eq_some_iff.mp hs).1
  unfold snext
  rw [if_pos (may_3 h ht hi hr)]
  simp [atB, hs]
theorem next_4 : snext ⟨x, 4, 0, 0, t⟩ = (z0, false) := by
  unfold snext
  rw [if_pos (may_4 h ht)]
  simp
theorem next_5 {r : Int} (hr : why ⟨x, 5, 0, r, t⟩ = true) : snext ⟨x, 5, 0, r, t⟩ = (z0, false) := by
  unfold snext
  rw [if_pos (may_5 h ht hr)]
  simp
/-- A step forward is done. -/
theorem done_1 {i : Nat} {s : Stp} (hs : (fwd x)[i]? = some s) : sans ⟨x, 1, i, 0, t⟩ s 1 = (if i + 1 = (fwd x).length then ⟨x, 2, 0, 0, t⟩ else ⟨x, 1, (i : Int) + 1, 0, t⟩, true) := by
  unfold sans
  rw [next_1 h ht hs, if_pos ⟨rfl, rfl, .inl rfl⟩, if_neg (by omega)]
  unfold sdone
  rw [if_pos rfl]
  by_cases e : i + 1 = (fwd x).length
  · rw [if_pos e, if_pos (by simp only [nF]; omega)]
  · rw [if_neg e, if_neg (by simp only [nF]; omega)]
theorem done_1a {i : Nat} {s : Stp} (hs : (fwd x)[i]? = some s) (hi : i + 1 < (fwd x).length) : sans ⟨x, 1, i, 0, t⟩ s 1 = (⟨x, 1, ((i + 1 : Nat) : Int), 0, t⟩, true) := by
  rw [done_1 h ht hs, if_neg (by omega)]
  simp
theorem done_1b {i : Nat} {s : Stp} (hs : (fwd x)[i]? = some s) (hi : i + 1 = (fwd x).length) : sans ⟨x, 1, i, 0, t⟩ s 1 = (⟨x, 2, 0, 0, t⟩, true) := by
  rw [done_1 h ht hs, if_pos hi]
theorem no_1 {i : Nat} {s : Stp} (hs : (fwd x)[i]? = some s) : sans ⟨x, 1, i, 0, t⟩ s 2 = (⟨x, 3, 0, if s.op.kind = 4 then 2 else 1, t⟩, true) := by
  unfold sans
  rw [next_1 h ht hs, if_pos ⟨rfl, rfl, .inr rfl⟩, if_pos rfl, if_pos rfl]
  by_cases e : s.op.kind = 4
  · rw [if_pos e, if_pos e]; rfl
  · rw [if_neg e, if_neg e]; rfl
theorem can_1 {i : Nat} (hi : i < (fwd x).length) : scan ⟨x, 1, i, 0, t⟩ = (⟨x, 3, 0, 4, t⟩, true) := by
  unfold scan
  rw [if_pos ⟨may_1 h ht hi, rfl⟩]
  rfl
theorem late_1 {i : Nat} {now : Int} (hi : i < (fwd x).length) (hd : 0 < x.dead) (hn : now ≤ 1099511627776) (hl : t + x.dead ≤ now) : slate ⟨x, 1, i, 0, t⟩ now = (⟨x, 3, 0, 3, t⟩, true) := by
  unfold slate
  rw [if_pos ⟨may_1 h ht hi, rfl, hd, hn, hl⟩]
  rfl
omit ht h in
theorem early_1 {i : Int} {now : Int} (hl : now < t + x.dead) : slate ⟨x, 1, i, 0, t⟩ now = (⟨x, 1, i, 0, t⟩, false) := by
  unfold slate
  rw [if_neg (by intro e; have := e.2.2.2.2; simp only at this; omega)]
theorem done_2 : sans ⟨x, 2, 0, 0, t⟩ (cap x) 1 = (⟨x, 4, 0, 0, t⟩, true) := by
  unfold sans
  rw [next_2 h ht, if_pos ⟨rfl, rfl, .inl rfl⟩, if_neg (by omega)]
  rfl
theorem no_2 : sans ⟨x, 2, 0, 0, t⟩ (cap x) 2 = (⟨x, 2, 0, 0, t⟩, false) := by
  unfold sans
  rw [next_2 h ht, if_pos ⟨rfl, rfl, .inr rfl⟩, if_pos rfl, if_neg (by simp)]
theorem done_3a {i : Nat} {r : Int} {s : Stp} (hr : why ⟨x, 3, i, r, t⟩ = true) (hs : (bck x)[i]? = some s) (hi : i + 1 < (bck x).length) : sans ⟨x, 3, i, r, t⟩ s 1 = (⟨x, 3, ((i + 1 : Nat) : Int), r, t⟩, true) := by
  unfold sans
  rw [next_3 h ht hr hs, if_pos ⟨rfl, rfl, .inl rfl⟩, if_neg (by omega)]
  unfold sdone
  rw [if_neg (by simp), if_neg (by simp), if_neg (by simp only [nB]; omega)]
  simp
theorem done_3b {i : Nat} {r : Int} {s : Stp} (hr : why ⟨x, 3, i, r, t⟩ = true) (hs : (bck x)[i]? = some s) (hi : i + 1 = (bck x).length) : sans ⟨x, 3, i, r, t⟩ s 1 = (⟨x, 5, 0, r, t⟩, true) := by
  unfold sans
  rw [next_3 h ht hr hs, if_pos ⟨rfl, rfl, .inl rfl⟩, if_neg (by omega)]
  unfold sdone
  rw [if_neg (by simp), if_neg (by simp), if_pos (by simp only [nB]; omega)]
theorem no_3 {i : Nat} {r : Int} {s : Stp} (hr : why ⟨x, 3, i, r, t⟩ = true) (hs : (bck x)[i]? = some s) : sans ⟨x, 3, i, r, t⟩ s 2 = (⟨x, 3, i, r, t⟩, false) := by
  unfold sans
  rw [next_3 h ht hr hs, if_pos ⟨rfl, rfl, .inr rfl⟩, if_pos rfl, if_neg (by simp)]
end
theorem can_no {s : Sag} (h : s.ph ≠ 1) : scan s = (s, false) := by unfold scan; rw [if_neg (by intro e; exact h e.2)]
theorem late_no {s : Sag} {now : Int} (h : s.ph ≠ 1) : slate s now = (s, false) := by unfold slate; rw [if_neg (by intro e; exact h e.2.1)]
theorem new_yes {x : Wan} {t : Int} (h : may x = true) (ht : inR t 0 1099511627776 = true) : snew x t = (⟨x, 1, 0, 0, t⟩, 0) := by unfold snew; rw [if_pos ⟨h, ht⟩]
/-- A step forward asks for money at the purse, and nowhere else. -/
theorem fwd_auth {x : Wan} (h : may x = true) {s : Stp} (hs : s ∈ fwd x) : s.op.kind = 4 ↔ s.node = 3 := by
  rw [Pl.fwd_yes h] at hs
  simp only [List.mem_append, List.mem_cons] at hs
  rcases hs with hs | hs | hs | hs | hs | hs | hs
  all_goals first | (obtain ⟨rfl, _⟩ := Pl.one_mem hs) | subst hs
  all_goals simp [Pl.step]
end Sg
end Go.Proofs.YtidfpbnepdjagaaDoor
