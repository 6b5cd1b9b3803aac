/- The document's Next of a saga. -/
import Derived.Test.YtidfpbnepdjagaaDoorSgB
namespace Go.Proofs.YtidfpbnepdjagaaDoor
set_option maxRecDepth 100000
open Go.RowKit
open Go.Proofs.YtidfpbnepdjagaaDoor.Pk (one_at one_free one_set lt_some grown_set grown_trans below_grown grown_refl)
namespace Sg
open Wt (Wan may Opn mayOp may_any refmay_any below_drewN inR)
open Pl (Stp fwd bck cap z0 wanv spv RowT rt_form rt_mono rt_cell At rfwd_any rbck_any fwd_any bck_any cap_any regionAt rask_size one6 wpList_store_row setRow_below)

theorem smay_true {s : Sag} (h : smay s = true) : may s.w = true ∧ (0 ≤ s.si ∧ s.si ≤ 1099511627776) ∧ ((s.ph = 1 ∧ 0 ≤ s.st ∧ s.st < nF s ∧ s.rs = 0) ∨ (s.ph = 2 ∧ s.st = 0 ∧ s.rs = 0) ∨ (s.ph = 3 ∧ 0 ≤ s.st ∧ s.st < nB s ∧ why s = true) ∨ (s.ph = 4 ∧ s.st = 0 ∧ s.rs = 0) ∨ (s.ph = 5 ∧ s.st = 0 ∧ why s = true)) := by
  unfold smay at h
  simp only [Bool.and_eq_true] at h
  obtain ⟨⟨h1, h2⟩, h3⟩ := h
  have h2' := of_decide_eq_true h2
  refine ⟨h1, ⟨h2'.1, h2'.2⟩, ?_⟩
  rcases (by omega : s.ph = 1 ∨ s.ph = 2 ∨ s.ph = 3 ∨ s.ph = 4 ∨ s.ph = 5 ∨ (s.ph < 1 ∨ 5 < s.ph)) with hp | hp | hp | hp | hp | hp
  · rw [phs_1 hp] at h3
    simp only [Bool.and_eq_true, decide_eq_true_iff, beq_iff_eq] at h3
    exact .inl ⟨hp, h3.1.1, h3.1.2, h3.2⟩
  · rw [phs_2 (.inl hp)] at h3
    simp only [Bool.and_eq_true, beq_iff_eq] at h3
    exact .inr (.inl ⟨hp, h3.1, h3.2⟩)
  · rw [phs_3 hp] at h3
    simp only [Bool.and_eq_true, decide_eq_true_iff] at h3
    exact .inr (.inr (.inl ⟨hp, h3.1.1, h3.1.2, h3.2⟩))
  · rw [phs_2 (.inr hp)] at h3
    simp only [Bool.and_eq_true, beq_iff_eq] at h3
    exact .inr (.inr (.inr (.inl ⟨hp, h3.1, h3.2⟩)))
  · rw [phs_5 hp] at h3
    simp only [Bool.and_eq_true, beq_iff_eq] at h3
    exact .inr (.inr (.inr (.inr ⟨hp, h3.1, h3.2⟩)))
  · rw [phs_0 hp] at h3
    cases h3
theorem snext_no {s : Sag} (h : smay s = false) : snext s = (z0, false) := by unfold snext; rw [if_neg (by rw [h]; decide)]
theorem snext_1 {s : Sag} (h : smay s = true) (hp : s.ph = 1) : snext s = (atF s, true) := by unfold snext; rw [if_pos h, if_pos hp]
theorem snext_2 {s : Sag} (h : smay s = true) (hp : s.ph = 2) : snext s = (cap s.w, true) := by unfold snext; rw [if_pos h, if_neg (by omega), if_pos hp]
theorem snext_3 {s : Sag} (h : smay s = true) (hp : s.ph = 3) : snext s = (atB s, true) := by unfold snext; rw [if_pos h, if_neg (by omega), if_neg (by omega), if_pos hp]
theorem snext_4 {s : Sag} (h : smay s = true) (hp : s.ph = 4 ∨ s.ph = 5) : snext s = (z0, false) := by unfold snext; rw [if_pos h, if_neg (by omega), if_neg (by omega), if_neg (by omega)]
theorem at_F {s : Sag} (h0 : 0 ≤ s.st) (h1 : s.st < nF s) : (fwd s.w)[s.st.toNat]? = some (atF s) := by
  unfold nF at h1
  unfold atF
  rw [List.getElem?_eq_getElem (by omega)]
  rfl
theorem at_B {s : Sag} (h0 : 0 ≤ s.st) (h1 : s.st < nB s) : (bck s.w)[s.st.toNat]? = some (atB s) := by
  unfold nB at h1
  unfold atB
  rw [List.getElem?_eq_getElem (by omega)]
  rfl
end Sg
end Go.Proofs.YtidfpbnepdjagaaDoor
