/- A region that draws its order and ends in a store: the loads of the cell that the store writes may be taken first. -/
import Derived.StillTail
import Derived.Deep.RegionHeld3
import Derived.Test.YtchlbkfkecpodaaPuC
namespace Go.Proofs.Ytchlbkfkecpodaa
namespace Pu

section
variable {P : Program} {ops : Array Oper} {Q : Exit → Act → World → Prop}

/-- What is asked ahead of the last operation. -/
def tillQ (P : Program) (ops : Array Oper) (n : Nat) (Q : Exit → Act → World → Prop) : Exit → Act → World → Prop
  | .normal, a, w => wpOp P ops Q n (fun a w => Q .normal a w) a w
  | e, a, w => Q e a w
theorem tillQ_normal {n : Nat} {a : Act} {w : World} (h : wpOp P ops Q n (fun a w => Q .normal a w) a w) : tillQ P ops n Q .normal a w := h
/-- Each operation waits for elder ones alone. -/
def elderB (ops : Array Oper) : Bool := (List.range ops.size).all fun i => ((ops[i]?).map fun o => o.after.all fun e => decide (e.on < i)).getD true
def tillB (ops : Array Oper) (n : Nat) : Bool := decide (ops.size = n + 1) && elderB ops && Region.sinkB .any ops n && Region.chainB .any ops n

theorem wpOp_till {n i : Nat} {a : Act} {w : World} {K K' : Act → World → Prop} (hm : ∀ a w, K a w → K' a w) (h : wpOp P ops (tillQ P ops n Q) i K a w) : wpOp P ops Q i K' a w := by
  refine wpOp_mono hm ?_
  unfold wpOp at *
  split
  · simpa [*] using h
  · rename_i o ho
    simp only [ho] at h
    split
    · rename_i hw
      simp only [hw, if_true] at h
      rcases h with h | ⟨h1, h2⟩
      · refine .inl ?_
        unfold Oper.wp at *
        generalize (execOp a.eval o).run P w = r at *
        cases r with
        | ok x w' =>
          cases x <;> simp only [Oper.upon] at h ⊢
          case enter f args => exact Calls.mono h fun e w'' he => by cases e <;> exact he
          all_goals exact h
        | halt x w' => cases x <;> simp only [Oper.upon] at h ⊢ <;> exact h
      · exact .inr ⟨h1, h2⟩
    · rename_i hw
      simp only [hw] at h
      exact h

theorem ready_some {n : Nat} {listed : Array Bool} (he : elderB ops = true) (hsz : ops.size = n + 1) (inv : HeadInv .any ops n listed) : Region.ready .any ops listed ≠ [] := by
  intro h0
  have H : ∀ i, i < ops.size → listed.getD i true = true := by
    intro i
    induction i using Nat.strongRecOn with
    | _ i ih =>
      intro hi
      cases hl : listed.getD i true with
      | true => rfl
      | false =>
        have : i ∈ Region.ready .any ops listed := mem_ready.2 ⟨hl, ops[i], Array.getElem?_eq_getElem hi, fun e hm _ => by
          have h1 := List.all_eq_true.1 he i (List.mem_range.2 hi)
          rw [Array.getElem?_eq_getElem hi] at h1
          simp only [Option.map_some, Option.getD_some] at h1
          have h2 := Array.all_eq_true'.1 h1 e hm
          have h3 : e.on < i := by simpa using h2
          have h4 := ih e.on h3 (by omega)
          have hs : e.on < listed.size := by rw [inv.size]; omega
          simp [hs] at h4 ⊢
          exact h4⟩
        rw [h0] at this
        cases this
  have h1 := H n (by omega)
  rw [inv.tail n (Nat.le_refl _) (by omega)] at h1
  cases h1

theorem wpAny_till {n : Nat} (hsz : ops.size = n + 1) (he : elderB ops = true) (hs : Region.sinkB .any ops n = true) (hc : Region.chainB .any ops n = true) :
    ∀ (f : Nat) (listed : Array Bool) (a : Act) (w : World), HeadInv .any ops n listed → wpAny P .any ops (tillQ P ops n Q) f (listed.setIfInBounds n true) a w → wpAny P .any ops Q (f + 1) listed a w := by
  intro f
  induction f with
  | zero =>
    intro listed a w inv h
    refine ⟨fun h0 => absurd h0 (ready_some he hsz inv), fun i hi => ?_⟩
    by_cases hin : i = n
    · subst hin
      exact wpOp_mono (fun a w hq => ⟨h.1, hq⟩) h.2
    · have := ready_mono hi hin
      rw [h.1] at this
      cases this
  | succ f ih =>
    intro listed a w inv h
    refine ⟨fun h0 => absurd h0 (ready_some he hsz inv), fun i hi => ?_⟩
    by_cases hin : i = n
    · subst hin
      have hnil : Region.ready .any ops (listed.setIfInBounds i true) = [] := by
        apply List.eq_nil_iff_forall_not_mem.2
        intro j hj
        obtain ⟨hl, oj, hoj, _⟩ := mem_ready.1 hj
        have hjs : j < ops.size := (Array.getElem?_eq_some_iff.1 hoj).1
        have hji : i ≠ j := by
          rintro rfl
          have hs' : i < listed.size := by rw [inv.size]; omega
          simp [hs'] at hl
        rw [getD_set_ne true hji] at hl
        exact tail_waits hs hc (by omega) inv _ j rfl (by omega) hl i (Nat.le_refl _) hi
      exact wpOp_mono (fun a w hq => wpAny_done hnil hq _) (h.1 hnil)
    · have hlt : i < n := by
        obtain ⟨_, oi, hoi, _⟩ := mem_ready.1 hi
        have := (Array.getElem?_eq_some_iff.1 hoi).1
        omega
      refine wpOp_till (fun a' w' h' => ih _ a' w' (inv.set hi hlt) ?_) (h.2 i (ready_mono hi hin))
      rw [Array.setIfInBounds_comm _ _ hin]
      exact h'

/-- The region, its last operation behind all others: ahead of it S holds. -/
theorem wp_region_till {id : Nat} {S : World → Prop} {a : Act} {w : World} (n : Nat) (hm : P.follows .mixedOrders = true) (hB : tillB ops n = true)
    (h : wpAnyH P .any ops (tillQ P ops n Q) S n ((Array.replicate ops.size false).setIfInBounds n true) a w.drew) : (Code.region id ops true).wp P Q a w := by
  simp only [tillB, Bool.and_eq_true, decide_eq_true_eq] at hB
  obtain ⟨⟨⟨hsz, he⟩, hs⟩, hc⟩ := hB
  have inv : HeadInv .any ops n (Array.replicate ops.size false) :=
    ⟨by simp, fun j oj _ hl => (by rw [getD_replicate_false] at hl; cases hl), fun t _ ht => getD_in (by simpa using ht) (getD_replicate_false _ _)⟩
  refine wp_region_any hm ?_
  have H := wpAny_till (Q := Q) hsz he hs hc n _ a w.drew inv (wpAny_of_held _ _ _ _ h)
  rw [← hsz] at H
  exact H
end
end Pu
end Go.Proofs.Ytchlbkfkecpodaa
