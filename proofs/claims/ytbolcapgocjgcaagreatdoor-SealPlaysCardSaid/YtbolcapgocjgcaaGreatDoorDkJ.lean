/- Copy. -/
import Derived.Test.YtbolcapgocjgcaaGreatDoorDkH
namespace Go.Proofs.YtbolcapgocjgcaaGreatDoor
set_option maxRecDepth 100000
open Go.RowKit
open Go.Proofs.YtbolcapgocjgcaaGreatDoor.Pk
namespace Dk

theorem put_end {α : Type} {x : Bs} {a : α} : ∀ {X : List (Bs × α)}, Rise (X ++ [(x, a)]) → put x a X = X ++ [(x, a)]
  | [], _ => rfl
  | q :: X, h => by
    obtain ⟨h1, h2⟩ := List.pairwise_cons.1 (show (q :: (X ++ [(x, a)])).Pairwise _ from h)
    have hq := h1 (x, a) (by simp)
    have e1 : q.1 ≠ x := bb_ne hq
    have e2 : ¬ bytesBefore x q.1 = true := by rw [bb_asym hq]; simp
    show put x a (q :: X) = q :: (X ++ [(x, a)])
    rw [put, if_neg e1, if_neg e2, put_end h2]
theorem put_take {L : St} {k : Nat} {x : Bs} {a : Bs × Nat} (h : L[k]? = some (x, a)) (hr : Rise L) : put x a (L.take k) = L.take (k + 1) := by
  have e : L.take (k + 1) = L.take k ++ [(x, a)] := by rw [List.take_add_one, h]; rfl
  rw [e]
  exact put_end (by rw [← e]; exact List.Pairwise.sublist (List.take_sublist _ _) hr)
theorem sum_take_le {α : Type} (f : α → Nat) (l : List (Bs × α)) (k : Nat) : sum f (l.take k) ≤ sum f l := by
  have : sum f l = sum f (l.take k) + sum f (l.drop k) := by
    unfold sum
    rw [← List.sum_append, ← List.map_append, List.take_append_drop]
  omega
theorem look_take {L : St} {k : Nat} {x : Bs} {a : Bs × Nat} (h : L[k]? = some (x, a)) (hr : Rise L) : look x (L.take k) = none := by
  refine look_none.2 fun p hp e => ?_
  obtain ⟨i, hi, hpi⟩ := List.getElem_of_mem hp
  have hik : i < k := by have := hi; rw [List.length_take] at this; omega
  obtain ⟨hk, hx⟩ := List.getElem?_eq_some_iff.1 h
  have := List.pairwise_iff_getElem.1 hr i k (by omega) hk hik
  rw [List.getElem_take] at hpi
  rw [hpi, hx] at this
  exact bb_ne this e

/-- What Copy answers. -/
def CopyTo (w : World) (room : Nat) (L : St) (e : Ending) (w' : World) : Prop :=
  ∃ q, e = .returned (.pointer (some ⟨q, 0, none⟩)) ∧ w.heap.size ≤ q ∧ Disk w' q room L (fun g => w.heap.size ≤ g ∧ g < w'.heap.size) ∧ Below w.heap.size w w'
def CpAt (w w1 : World) (q room : Nat) (L : St) (i : Value) (wr : World) : Prop :=
  ∃ k : Nat, i = .int .i64 (k : Nat) ∧ k ≤ L.length ∧ DTo w1 q room (fun g => g = q) (L.take k) wr ∧ Below w.heap.size w wr

end Dk
end Go.Proofs.YtbolcapgocjgcaaGreatDoor
