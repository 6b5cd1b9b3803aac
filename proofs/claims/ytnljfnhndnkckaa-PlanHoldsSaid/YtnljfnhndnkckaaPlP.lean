/- What is held, and confirmed, while the steps are gone over; no program. -/
import Derived.Test.YtnljfnhndnkckaaPlN
namespace Go.Proofs.Ytnljfnhndnkckaa
open Go.RowKit
namespace Pl
open Wt (Wan may Opn mayOp mayU inR)

structure Hs where
  h : Int → Int
  c : Int → Int
  au : Int
  i : Int
def upd (f : Int → Int) (n v : Int) : Int → Int := fun j => if j = n then v else f j
/-- One step more: none, if it is not as it must be. -/
def hstep (x : Wan) (st : Hs) (s : Stp) : Option Hs :=
  if s.op.kind = 1 then
    if (s.node = 0 ∨ s.node = 1 ∨ s.node = 2) ∧ st.au < 0 ∧ s.op.units = un x s.node ∧ st.h s.node = 0 then some ⟨upd st.h s.node 1, st.c, st.au, st.i + 1⟩ else none
  else if s.op.kind = 2 then
    if (s.node = 0 ∨ s.node = 1 ∨ s.node = 2) ∧ 0 ≤ st.au ∧ st.h s.node = 1 ∧ st.c s.node = 0 then some ⟨st.h, upd st.c s.node 1, st.au, st.i + 1⟩ else none
  else if s.op.kind = 4 then
    if st.au < 0 ∧ s.node = 3 ∧ s.op.amount = x.price ∧ s.op.cust = x.cust then some ⟨st.h, st.c, st.i, st.i + 1⟩ else none
  else none
def hrun (x : Wan) : List Stp → Hs → Option Hs
  | [], st => some st
  | s :: l, st => (hstep x st s).bind (hrun x l)
theorem hrun_app (x : Wan) : ∀ (a b : List Stp) (st : Hs), hrun x (a ++ b) st = (hrun x a st).bind (hrun x b)
  | [], b, st => rfl
  | s :: a, b, st => by
    show (hstep x st s).bind (hrun x (a ++ b)) = ((hstep x st s).bind (hrun x a)).bind (hrun x b)
    cases hstep x st s with
    | none => rfl
    | some st' => exact hrun_app x a b st'
theorem hrun_next {x : Wan} {l : List Stp} {k : Nat} {s : Stp} {st st0 fin : Hs} (hs : l[k]? = some s) (h : hrun x l st0 = some fin) (hk : hrun x (l.take k) st0 = some st) : ∃ st', hstep x st s = some st' ∧ hrun x (l.take (k + 1)) st0 = some st' := by
  obtain ⟨hl, rfl⟩ := List.getElem?_eq_some_iff.1 hs
  have e : l = l.take k ++ (l[k] :: l.drop (k + 1)) := by rw [← List.drop_eq_getElem_cons hl, List.take_append_drop]
  rw [e, hrun_app, hk] at h
  have h2 : (hstep x st l[k]).bind (hrun x (l.drop (k + 1))) = some fin := h
  cases hst : hstep x st l[k] with
  | none => rw [hst] at h2; cases h2
  | some st' =>
    refine ⟨st', rfl, ?_⟩
    rw [List.take_add_one, List.getElem?_eq_getElem hl, hrun_app, hk]
    show (hstep x st l[k]).bind (hrun x []) = _
    rw [hst]
    rfl
def hs0 : Hs := ⟨fun _ => 0, fun _ => 0, -1, 0⟩
/-- How many there must be. -/
def want (x : Wan) (n : Int) : Int := if 0 < un x n then 1 else 0
structure Ends (x : Wan) (st : Hs) : Prop where
  h0 : st.h 0 = want x 0
  h1 : st.h 1 = want x 1
  h2 : st.h 2 = want x 2
  c0 : st.c 0 = want x 0
  c1 : st.c 1 = want x 1
  c2 : st.c 2 = want x 2
  au : 0 ≤ st.au
theorem fwd_run {x : Wan} (h : may x = true) : ∃ fin, hrun x (fwd x) hs0 = some fin ∧ Ends x fin := by
  rw [fwd_yes h]
  have hs := may_some h
  by_cases h0 : 0 < x.u0 <;> by_cases h1 : 0 < x.u1 <;> by_cases h2 : 0 < x.u2
  all_goals first
    | (exfalso; omega)
    | (simp [one, h0, h1, h2, hrun, hstep, step, un, hs0, upd]; constructor <;> simp [want, un, upd, h0, h1, h2])
/-- What a step is, by its kind. -/
theorem hstep_kind {x : Wan} {st st' : Hs} {s : Stp} (h : hstep x st s = some st') :
    (s.op.kind = 1 ∧ (s.node = 0 ∨ s.node = 1 ∨ s.node = 2) ∧ st.au < 0 ∧ s.op.units = un x s.node ∧ st.h s.node = 0 ∧ st' = ⟨upd st.h s.node 1, st.c, st.au, st.i + 1⟩) ∨
    (s.op.kind = 2 ∧ (s.node = 0 ∨ s.node = 1 ∨ s.node = 2) ∧ 0 ≤ st.au ∧ st.h s.node = 1 ∧ st.c s.node = 0 ∧ st' = ⟨st.h, upd st.c s.node 1, st.au, st.i + 1⟩) ∨
    (s.op.kind = 4 ∧ st.au < 0 ∧ s.node = 3 ∧ s.op.amount = x.price ∧ s.op.cust = x.cust ∧ st' = ⟨st.h, st.c, st.i, st.i + 1⟩) := by
  unfold hstep at h
  by_cases k1 : s.op.kind = 1
  · rw [if_pos k1] at h
    split at h
    · rename_i hc
      cases h
      exact .inl ⟨k1, hc.1, hc.2.1, hc.2.2.1, hc.2.2.2, rfl⟩
    · cases h
  · rw [if_neg k1] at h
    by_cases k2 : s.op.kind = 2
    · rw [if_pos k2] at h
      split at h
      · rename_i hc
        cases h
        exact .inr (.inl ⟨k2, hc.1, hc.2.1, hc.2.2.1, hc.2.2.2, rfl⟩)
      · cases h
    · rw [if_neg k2] at h
      by_cases k4 : s.op.kind = 4
      · rw [if_pos k4] at h
        split at h
        · rename_i hc
          cases h
          exact .inr (.inr ⟨k4, hc.1, hc.2.1, hc.2.2.1, hc.2.2.2, rfl⟩)
        · cases h
      · rw [if_neg k4] at h
        cases h
theorem hrun_i {x : Wan} : ∀ (l : List Stp) (st st' : Hs), hrun x l st = some st' → st'.i = st.i + l.length
  | [], st, st', h => by cases h; simp
  | s :: l, st, st', h => by
    have h2 : (hstep x st s).bind (hrun x l) = some st' := h
    cases hst : hstep x st s with
    | none => rw [hst] at h2; cases h2
    | some st1 =>
      rw [hst] at h2
      have e := hrun_i l st1 st' h2
      have e1 : st1.i = st.i + 1 := by
        rcases hstep_kind hst with ⟨_, _, _, _, _, rfl⟩ | ⟨_, _, _, _, _, rfl⟩ | ⟨_, _, _, _, _, rfl⟩ <;> rfl
      rw [e, e1, List.length_cons]
      omega
end Pl
end Go.Proofs.Ytnljfnhndnkckaa
