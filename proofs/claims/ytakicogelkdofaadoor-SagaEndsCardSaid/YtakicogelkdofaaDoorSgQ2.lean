/- The program's May of a saga. -/
import Derived.Test.YtakicogelkdofaaDoorSgQ1
import Derived.Test.YtakicogelkdofaaDoorSgC
import Derived.Test.YtakicogelkdofaaDoorSgN
namespace Go.Proofs.YtakicogelkdofaaDoor
set_option maxRecDepth 100000
open Go.RowKit
open Go.Proofs.YtakicogelkdofaaDoor.Pk (one_at one_free one_set lt_some grown_set grown_trans below_grown grown_refl)
namespace Sg
open Wt (Wan may Opn mayOp may_any inR)
open Pl (Stp fwd bck cap z0 wanv spv RowT rt_form rt_mono fwd_any bck_any cap_any)

theorem pst_len (s : Sag) : (pst s).length ≤ 7 := by
  unfold pst
  split
  · exact List.length_filter_le _ _
  · split
    · simp
    · split
      · exact Nat.le_trans (List.length_filter_le _ _) (by show 4 ≤ 7; decide)
      · simp
theorem smay_d {s : Sag} (h1 : 1 ≤ s.ph) (h2 : s.ph ≤ 5) (hr : mre s = false) : smay s = false := by
  have : phs s = false := by
    rcases (by omega : s.ph = 1 ∨ s.ph = 2 ∨ s.ph = 3 ∨ s.ph = 4 ∨ s.ph = 5) with hp | hp | hp | hp | hp
    · rw [phs_1 hp]; unfold mre at hr; rw [if_neg (by omega)] at hr; rw [hr]; simp
    · rw [phs_2 (.inl hp)]; unfold mre at hr; rw [if_neg (by omega)] at hr; rw [hr]; simp
    · rw [phs_3 hp, ← why_mre (.inl hp), hr]; simp
    · rw [phs_2 (.inr hp)]; unfold mre at hr; rw [if_neg (by omega)] at hr; rw [hr]; simp
    · rw [phs_5 hp, ← why_mre (.inr hp), hr]; simp
  unfold smay
  rw [this]
  simp
theorem smay_e {s : Sag} (h1 : 1 ≤ s.ph) (h2 : s.ph ≤ 5) (hm : may s.w = true) (ht : inR s.si 0 1099511627776 = true) (hr : mre s = true) : smay s = inR s.st 0 (max ((pst s).length : Int) 1 - 1) := by
  have f := fwd_pos hm
  have b := bck_pos hm
  have e : smay s = phs s := by unfold smay; rw [hm, ht]; rfl
  rw [e]
  rcases (by omega : s.ph = 1 ∨ s.ph = 2 ∨ s.ph = 3 ∨ s.ph = 4 ∨ s.ph = 5) with hp | hp | hp | hp | hp
  · rw [phs_1 hp]; unfold mre at hr; rw [if_neg (by omega)] at hr; rw [hr]; unfold inR pst nF; rw [if_pos hp, Bool.and_true, ← Bool.decide_and, decide_eq_decide]; omega
  · rw [phs_2 (.inl hp)]; unfold mre at hr; rw [if_neg (by omega)] at hr; rw [hr]; unfold inR pst; rw [if_neg (by omega), if_pos hp, Bool.and_true, Bool.eq_iff_iff, beq_iff_eq, decide_eq_true_iff]; simp only [List.length_cons, List.length_nil]; omega
  · rw [phs_3 hp, ← why_mre (.inl hp), hr]; unfold inR pst nB; rw [if_neg (by omega), if_neg (by omega), if_pos hp, Bool.and_true, ← Bool.decide_and, decide_eq_decide]; omega
  · rw [phs_2 (.inr hp)]; unfold mre at hr; rw [if_neg (by omega)] at hr; rw [hr]; unfold inR pst; rw [if_neg (by omega), if_neg (by omega), if_neg (by omega), Bool.and_true, Bool.eq_iff_iff, beq_iff_eq, decide_eq_true_iff]; simp only [List.length_nil]; omega
  · rw [phs_5 hp, ← why_mre (.inr hp), hr]; unfold inR pst; rw [if_neg (by omega), if_neg (by omega), if_neg (by omega), Bool.and_true, Bool.eq_iff_iff, beq_iff_eq, decide_eq_true_iff]; simp only [List.length_nil]; omega
set_option maxHeartbeats 6400000 in
theorem smay_any (w : World) (t : Tab w) (s : Sag) : Calls Tryd.prog 12 #[sgv s] w fun e w' => e = .returned (.bool (smay s)) ∧ Below w.heap.size w w' := by
  obtain ⟨W0, hW0⟩ : ∃ W0, W0 = w.alloc (.cells (sgc s) 26) := ⟨_, rfl⟩
  have B0 : BoxS W0 w.heap.size s := by rw [hW0]; exact heap_alloc_new _ _
  have be0 : Hid (Below w.heap.size w W0) := by rw [hW0]; exact (Below.refl _ w).alloc (Nat.le_refl _) _
  have CB : Hid (∀ w', Below W0.heap.size W0 w' → CellS w' w.heap.size s) := fun w' h => (B0.below h B0.lt).cells
  have t0 : Tab W0 := t.below be0.out
  have F1 : ∀ b, inR s.ph 1 5 = b → Hid (∀ w', Below W0.heap.size W0 w' → Calls Tryd.prog 39 #[.int .i64 s.ph, .int .i64 1, .int .i64 5] w' fun e w'' => e = .returned (.bool b) ∧ Below W0.heap.size W0 w'') := fun b hb w' h => (swithin_any w' s.ph 1 5).mono fun _ _ ⟨a, c⟩ => ⟨by rw [a, hb], c ▸ h⟩
  have F2 : ∀ b, may s.w = b → Hid (∀ w', Below W0.heap.size W0 w' → Calls Tryd.prog 40 #[wanv s.w] w' fun e w'' => e = .returned (.bool b) ∧ Below W0.heap.size W0 w'') := fun b hb w' h => (may_any w' s.w).mono fun _ _ ⟨a, c⟩ => ⟨by rw [a, hb], h.trans (c.mono h.size)⟩
  have F3 : ∀ b, inR s.si 0 1099511627776 = b → Hid (∀ w', Below W0.heap.size W0 w' → Calls Tryd.prog 41 #[.int .i64 s.si] w' fun e w'' => e = .returned (.bool b) ∧ Below W0.heap.size W0 w'') := fun b hb w' h => (stick_any w' s.si).mono fun _ _ ⟨a, c⟩ => ⟨by rw [a, hb], c ▸ h⟩
  have F4 : 1 ≤ s.ph → s.ph ≤ 5 → ∀ b, mre s = b → Hid (∀ w', Below W0.heap.size W0 w' → Calls Tryd.prog 42 #[sgv s] w' fun e w'' => e = .returned (.bool b) ∧ Below W0.heap.size W0 w'') := fun h1 h2 b hb w' h => (mre_any w' (t0.below h) s h1 h2).mono fun _ _ ⟨a, c⟩ => ⟨by rw [a, hb], h.trans (c.mono h.size)⟩
  have F5 : Hid (∀ w', Below W0.heap.size W0 w' → Calls Tryd.prog 35 #[sgv s] w' fun e w'' => (∃ A c, e = .returned (.slice A (pst s).length c)) ∧ Below W0.heap.size W0 w'') := fun w' h => (steps_any w' s).mono fun _ _ ⟨A, c, a, _, b⟩ => ⟨⟨A, c, a⟩, h.trans (b.mono h.size)⟩
  have F6 : ∀ k, Hid (∀ w', Below W0.heap.size W0 w' → Calls Tryd.prog 39 #[.int .i64 s.st, .int .i64 0, .int .i64 k] w' fun e w'' => e = .returned (.bool (inR s.st 0 k)) ∧ Below W0.heap.size W0 w'') := fun k w' h => (swithin_any w' s.st 0 k).mono fun _ _ ⟨a, c⟩ => ⟨a, c ▸ h⟩
  clear t t0
  replace hW0 := Lib.hid hW0
  unfold sgv
  unfold sgc at hW0
  go_enter Tryd.func12, Tryd.ntmps12
  go_upto_region 1 with fail
  rw [← hW0.out]
  clear hW0 B0
  by_cases hp : s.ph < 1 ∨ 5 < s.ph
  ·
    refine qm1a _ _ _ _ _ _ _ _ _ _ _ _ _ _ _ _ _ _ _ _ _ _ _ _ _ _ _ _ _ W0 w.heap.size s CB (F1 false (by unfold inR; rw [decide_eq_false_iff_not]; omega)) _ (fun _ _ d _ _ h => by cases d <;> exact h) (fun _ _ _ _ _ _ _ _ _ _ _ _ _ _ _ _ _ _ _ _ _ _ _ _ _ _ _ w3 hb => ?_)
    have E : Hid (Below w.heap.size w w3) := be0.out.trans (hb.mono be0.out.size)
    have EE : Hid (smay s = false) := by unfold Hid smay; rw [phs_0 hp]; simp
    clear hb F1 F2 F3 F4 F5 F6 CB be0 hp
    go_wp2_with fail
    go_ret
    rw [EE.out]
    exact ⟨rfl, E.out⟩
  have h1 : 1 ≤ s.ph := by omega
  have h2 : s.ph ≤ 5 := by omega
  have r1 : inR s.ph 1 5 = true := by unfold inR; rw [decide_eq_true_iff]; omega
  clear hp
  cases hm : may s.w with
  | false =>
    refine qm1b _ _ _ _ _ _ _ _ _ _ _ _ _ _ _ _ _ _ _ _ _ _ _ _ _ _ _ _ _ W0 w.heap.size s CB (F1 true r1) (F2 false hm) _ (fun _ _ d _ _ h => by cases d <;> exact h) (fun _ _ _ _ _ _ _ _ _ _ _ _ _ _ _ _ _ _ _ _ _ _ _ _ _ _ _ w3 hb => ?_)
    have E : Hid (Below w.heap.size w w3) := be0.out.trans (hb.mono be0.out.size)
    have EE : Hid (smay s = false) := smay_no1 hm
    clear hb F1 F2 F3 F4 F5 F6 CB be0 hm h1 h2 r1
    go_wp2_with fail
    go_ret
    rw [EE.out]
    exact ⟨rfl, E.out⟩
  | true =>
    cases ht : inR s.si 0 1099511627776 with
    | false =>
      refine qm1c _ _ _ _ _ _ _ _ _ _ _ _ _ _ _ _ _ _ _ _ _ _ _ _ _ _ _ _ _ W0 w.heap.size s CB (F1 true r1) (F2 true hm) (F3 false ht) _ (fun _ _ d _ _ h => by cases d <;> exact h) (fun _ _ _ _ _ _ _ _ _ _ _ _ _ _ _ _ _ _ _ _ _ _ _ _ _ _ _ w3 hb => ?_)
      have E : Hid (Below w.heap.size w w3) := be0.out.trans (hb.mono be0.out.size)
      have EE : Hid (smay s = false) := by unfold Hid smay; rw [ht]; simp
      clear hb F1 F2 F3 F4 F5 F6 CB be0 hm ht h1 h2 r1
      go_wp2_with fail
      go_ret
      rw [EE.out]
      exact ⟨rfl, E.out⟩
    | true =>
      cases hr : mre s with
      | false =>
        refine qm1d _ _ _ _ _ _ _ _ _ _ _ _ _ _ _ _ _ _ _ _ _ _ _ _ _ _ _ _ _ W0 w.heap.size s CB (F1 true r1) (F2 true hm) (F3 true ht) (F4 h1 h2 false hr) _ (fun _ _ d _ _ h => by cases d <;> exact h) (fun _ _ _ _ _ _ _ _ _ _ _ _ _ _ _ _ _ _ _ _ _ _ _ _ _ _ _ w3 hb => ?_)
        have E : Hid (Below w.heap.size w w3) := be0.out.trans (hb.mono be0.out.size)
        have EE : Hid (smay s = false) := smay_d h1 h2 hr
        clear hb F1 F2 F3 F4 F5 F6 CB be0 hm ht hr h1 h2 r1
        go_wp2_with fail
        go_ret
        rw [EE.out]
        exact ⟨rfl, E.out⟩
      | true =>
        have hl := pst_len s
        have he := smay_e h1 h2 hm ht hr
        refine qm1e _ _ _ _ _ _ _ _ _ _ _ _ _ _ _ _ _ _ _ _ _ _ _ _ _ _ _ _ _ W0 w.heap.size (pst s).length s (max ((pst s).length : Int) 1) (max ((pst s).length : Int) 1 - 1) (inR s.st 0 (max ((pst s).length : Int) 1 - 1)) CB (F1 true r1) (F2 true hm) (F3 true ht) (F4 h1 h2 true hr) F5 (F6 _) rfl (by rw [IntKind.wrap_i64]; omega) _ (fun _ _ d _ _ h => by cases d <;> exact h) (fun _ _ _ _ _ _ _ _ _ _ _ _ _ _ _ _ _ _ _ _ _ _ _ _ _ _ _ w3 hb => ?_)
        have E : Hid (Below w.heap.size w w3) := be0.out.trans (hb.mono be0.out.size)
        have EE : Hid (smay s = inR s.st 0 (max ((pst s).length : Int) 1 - 1)) := he
        clear hb F1 F2 F3 F4 F5 F6 CB be0 hm ht hr h1 h2 r1 hl he
        go_wp2_with fail
        go_ret
        rw [EE.out]
        exact ⟨rfl, E.out⟩
end Sg
end Go.Proofs.YtakicogelkdofaaDoor
