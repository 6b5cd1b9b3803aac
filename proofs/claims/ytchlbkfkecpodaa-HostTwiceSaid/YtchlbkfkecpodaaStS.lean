/- More words for the laws: more that a ledger is kept out of; MayStock; a step among those that came in. -/
import Derived.Test.YtchlbkfkecpodaaStP
namespace Go.Proofs.Ytchlbkfkecpodaa
set_option maxRecDepth 100000
open Go.RowKit
open Go.Proofs.Ytchlbkfkecpodaa.Pk (one_at one_free one_set lt_some adr_block)
namespace St
open Wt (Opn mayOp)

section
variable {B : Nat} {X X' : Nat → Prop} {w0 w w' : World} {q : Nat} {cap over : Int} {f : F}
theorem Ow.add (O : Ow B X w0 w q cap over f) (hb : Below w.heap.size w w') : Ow B (fun g => X g ∨ (w.heap.size ≤ g ∧ g < w'.heap.size)) w0 w' q cap over f := by
  obtain ⟨fp, L, hf⟩ := O.ex
  refine ⟨⟨fp, L.below hb, fun g hg => ⟨(hf g hg).1, fun h => ?_⟩⟩, O.be.trans (hb.mono O.bs), Nat.le_trans O.bs hb.size, fun g hg => ?_⟩
  · rcases h with h | ⟨h, _⟩
    · exact (hf g hg).2 h
    · have := L.size g hg
      omega
  · rcases hg with hg | ⟨_, hg⟩
    · exact Nat.lt_of_lt_of_le (O.xs g hg) hb.size
    · exact hg
theorem Ow.less (O : Ow B X w0 w q cap over f) (h : ∀ g, X' g → X g) : Ow B X' w0 w q cap over f := by
  obtain ⟨fp, L, hf⟩ := O.ex
  exact ⟨⟨fp, L, fun g hg => ⟨(hf g hg).1, fun hx => (hf g hg).2 (h g hx)⟩⟩, O.be, O.bs, fun g hg => O.xs g (h g hg)⟩
theorem OwTo.less {w1 : World} (O : OwTo B X w0 w q cap over f w1) (h : ∀ g, X' g → X g) : OwTo B X' w0 w q cap over f w1 := ⟨O.1.less h, O.2.1, fun g hg => O.2.2 g (h g hg)⟩
end
set_option maxHeartbeats 800000 in
theorem refMayStock_any (w : World) (cap over : Int) : Calls Try.prog 18 #[.agg #[.int .i64 cap, .int .i64 over]] w fun e w' => e = .returned (.bool (mayS cap over)) ∧ Below w.heap.size w w' := by
  have HB : Hid (Below w.heap.size w (w.alloc (.cells #[.int .i64 cap, .int .i64 over] 27))) := (Below.refl _ _).alloc (Nat.le_refl _) _
  have F : Hid (mayS cap over = (decide (0 ≤ cap) && decide (cap ≤ 1000000) && decide (0 ≤ over) && decide (over ≤ 1000000))) := by unfold mayS inb; rw [Bool.and_assoc, Bool.and_assoc, Bool.and_assoc]; rfl
  obtain ⟨c1, h1⟩ : ∃ c, c = decide (0 ≤ cap) := ⟨_, rfl⟩
  obtain ⟨c2, h2⟩ : ∃ c, c = decide (cap ≤ 1000000) := ⟨_, rfl⟩
  obtain ⟨c3, h3⟩ : ∃ c, c = decide (0 ≤ over) := ⟨_, rfl⟩
  obtain ⟨c4, h4⟩ : ∃ c, c = decide (over ≤ 1000000) := ⟨_, rfl⟩
  rw [← h1, ← h2, ← h3, ← h4] at F
  have g1 := h1.symm
  have g2 := h2.symm
  have g3 := h3.symm
  have g4 := h4.symm
  clear h1 h2 h3 h4
  cases c1 <;> cases c2 <;> cases c3
  all_goals
    go_enter Try.func18, Try.ntmps18
    go_wp2
    go_ret
    rw [F.out]
    exact ⟨rfl, HB.out⟩

/-! ### what is gone -/
theorem swF_gone {f : F} {b now : Int} (h : f b = eg) : swF f now b = eg := by
  unfold swF
  split
  · unfold swp
    rw [h]
    rfl
  · exact h
theorem gone_do {cap over now b : Int} {f : F} {o : Opn} (h : f b = eg) (ht : tick now = true) :
    (dstp cap over f o now).1 b = eg ∧ (o.book = b → ((dstp cap over f o now).2 == 1) = ((o.kind == 3) && mayOp o)) := by
  unfold dstp stp
  rw [ht, Bool.and_true]
  cases hm : mayOp o with
  | false =>
    rw [if_pos rfl]
    exact ⟨h, fun _ => by simp⟩
  | true =>
    rw [if_neg (by simp), Bool.and_true]
    by_cases hb : o.book = b
    · rw [hb, h]
      have e0 : eg.st = 3 := rfl
      rw [e0]
      by_cases k1 : o.kind = 1
      · rw [if_pos k1, if_neg (by decide), if_neg (fun h => h.1 rfl)]
        exact ⟨h, fun _ => by rw [k1]; rfl⟩
      · rw [if_neg k1]
        by_cases k2 : o.kind = 2
        · rw [if_pos k2, if_neg (by decide), if_neg (fun h => by have := h.1; omega)]
          exact ⟨upd_same _ _ _, fun _ => by rw [k2]; rfl⟩
        · rw [if_neg k2]
          by_cases k3 : o.kind = 3
          · rw [if_pos k3]
            exact ⟨upd_same _ _ _, fun _ => by rw [k3]; rfl⟩
          · rw [if_neg k3]
            exact ⟨h, fun _ => by
              have : (o.kind == 3) = false := by simpa using k3
              rw [this]
              rfl⟩
    · refine ⟨?_, fun e => absurd e hb⟩
      have hne : b ≠ o.book := fun e => hb e.symm
      split
      · split
        · split
          · exact (upd_other hne).trans h
          · exact (upd_other hne).trans h
        · split <;> exact h
      · split
        · split
          · exact h
          · split
            · exact (upd_other hne).trans h
            · exact (upd_other hne).trans h
        · split
          · exact (upd_other hne).trans h
          · exact h
end St
end Go.Proofs.Ytchlbkfkecpodaa
