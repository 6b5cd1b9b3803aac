/- Parts of the claim: SgQ2, SgQ3 -/
import Derived.Test.YtpkdigegkemogaaGreatDoorSgQ1T
import Derived.Test.YtpkdigegkemogaaGreatDoorSgXbT
import Derived.Test.YtpkdigegkemogaaGreatDoorSgXaT
namespace Go.Proofs.YtpkdigegkemogaaGreatDoor
set_option maxRecDepth 100000
open Go.RowKit
open Go.Proofs.YtpkdigegkemogaaGreatDoor.Pk (one_at one_free one_set lt_some grown_set grown_trans grown_refl)
namespace Sg
open Wt (Wan may Opn mayOp may_any inR)
open Pl (Stp fwd bck cap z0 wanv spv RowT rt_form rt_mono fwd_any bck_any cap_any)

theorem pst_len (s : Sag) : (pst s).length ≤ 7 := by
  unfold pst
  split
  · exact List.length_filter_le _ _
  · split
    · simp
    · split
      · exact Nat.le_trans (List.length_filter_le _ _) (by show 4 ≤ 7; decide)
      · simp
theorem smay_d {s : Sag} (h1 : 1 ≤ s.ph) (h2 : s.ph ≤ 5) (hr : mre s = false) : smay s = false := by
  have : phs s = false := by
    rcases (by omega : s.ph = 1 ∨ s.ph = 2 ∨ s.ph = 3 ∨ s.ph = 4 ∨ s.ph = 5) with hp | hp | hp | hp | hp
    · rw [phs_1 hp]; unfold mre at hr; rw [if_neg (by omega)] at hr; rw [hr]; simp
    · rw [phs_2 (.inl hp)]; unfold mre at hr; rw [if_neg (by omega)] at hr; rw [hr]; simp
    · rw [phs_3 hp, ← why_mre (.inl hp), hr]; simp
    · rw [phs_2 (.inr hp)]; unfold mre at hr; rw [if_neg (by omega)] at hr; rw [hr]; simp
    · rw [phs_5 hp, ← why_mre (.inr hp), hr]; simp
  unfold smay
  rw [this]
  simp
theorem smay_e {s : Sag} (h1 : 1 ≤ s.ph) (h2 : s.ph ≤ 5) (hm : may s.w = true) (ht : inR s.si 0 1099511627776 = true) (hr : mre s = true) : smay s = inR s.st 0 (max ((pst s).length : Int) 1 - 1) := by
  have f := fwd_pos hm
  have b := bck_pos hm
  have e : smay s = phs s := by unfold smay; rw [hm, ht]; rfl
  rw [e]
  rcases (by omega : s.ph = 1 ∨ s.ph = 2 ∨ s.ph = 3 ∨ s.ph = 4 ∨ s.ph = 5) with hp | hp | hp | hp | hp
  · rw [phs_1 hp]; unfold mre at hr; rw [if_neg (by omega)] at hr; rw [hr]; unfold inR pst nF; rw [if_pos hp, Bool.and_true, ← Bool.decide_and, decide_eq_decide]; omega
  · rw [phs_2 (.inl hp)]; unfold mre at hr; rw [if_neg (by omega)] at hr; rw [hr]; unfold inR pst; rw [if_neg (by omega), if_pos hp, Bool.and_true, Bool.eq_iff_iff, beq_iff_eq, decide_eq_true_iff]; simp only [List.length_cons, List.length_nil]; omega
  · rw [phs_3 hp, ← why_mre (.inl hp), hr]; unfold inR pst nB; rw [if_neg (by omega), if_neg (by omega), if_pos hp, Bool.and_true, ← Bool.decide_and, decide_eq_decide]; omega
  · rw [phs_2 (.inr hp)]; unfold mre at hr; rw [if_neg (by omega)] at hr; rw [hr]; unfold inR pst; rw [if_neg (by omega), if_neg (by omega), if_neg (by omega), Bool.and_true, Bool.eq_iff_iff, beq_iff_eq, decide_eq_true_iff]; simp only [List.length_nil]; omega
  · rw [phs_5 hp, ← why_mre (.inr hp), hr]; unfold inR pst; rw [if_neg (by omega), if_neg (by omega), if_neg (by omega), Bool.and_true, Bool.eq_iff_iff, beq_iff_eq, decide_eq_true_iff]; simp only [List.length_nil]; omega
set_option maxHeartbeats 6400000 in
theorem smay_any (w : World) (t : Tab w) (s : Sag) : Calls Tryz.prog 71 #[sgv s] w fun e w' => e = .returned (.bool (smay s)) ∧ Below w.heap.size w w' := by
  obtain ⟨W0, hW0⟩ : ∃ W0, W0 = w.alloc (.cells (sgc s) 57) := ⟨_, rfl⟩
  have B0 : BoxS W0 w.heap.size s := by rw [hW0]; exact heap_alloc_new _ _
  have be0 : Hid (Below w.heap.size w W0) := by rw [hW0]; exact (Below.refl _ w).alloc (Nat.le_refl _) _
  have CB : Hid (∀ w', Below W0.heap.size W0 w' → CellS w' w.heap.size s) := fun w' h => (B0.below h B0.lt).cells
  have t0 : Tab W0 := t.below be0.out
  have F1 : ∀ b, inR s.ph 1 5 = b → Hid (∀ w', Below W0.heap.size W0 w' → Calls Tryz.prog 106 #[.int .i64 s.ph, .int .i64 1, .int .i64 5] w' fun e w'' => e = .returned (.bool b) ∧ Below W0.heap.size W0 w'') := fun b hb w' h => (swithin_any w' s.ph 1 5).mono fun _ _ ⟨a, c⟩ => ⟨by rw [a, hb], c ▸ h⟩
  have F2 : ∀ b, may s.w = b → Hid (∀ w', Below W0.heap.size W0 w' → Calls Tryz.prog 107 #[wanv s.w] w' fun e w'' => e = .returned (.bool b) ∧ Below W0.heap.size W0 w'') := fun b hb w' h => (may_any w' s.w).mono fun _ _ ⟨a, c⟩ => ⟨by rw [a, hb], h.trans (c.mono h.size)⟩
  have F3 : ∀ b, inR s.si 0 1099511627776 = b → Hid (∀ w', Below W0.heap.size W0 w' → Calls Tryz.prog 108 #[.int .i64 s.si] w' fun e w'' => e = .returned (.bool b) ∧ Below W0.heap.size W0 w'') := fun b hb w' h => (stick_any w' s.si).mono fun _ _ ⟨a, c⟩ => ⟨by rw [a, hb], c ▸ h⟩
  have F4 : 1 ≤ s.ph → s.ph ≤ 5 → ∀ b, mre s = b → Hid (∀ w', Below W0.heap.size W0 w' → Calls Tryz.prog 109 #[sgv s] w' fun e w'' => e = .returned (.bool b) ∧ Below W0.heap.size W0 w'') := fun h1 h2 b hb w' h => (mre_any w' (t0.below h) s h1 h2).mono fun _ _ ⟨a, c⟩ => ⟨by rw [a, hb], h.trans (c.mono h.size)⟩
  have F5 : Hid (∀ w', Below W0.heap.size W0 w' → Calls Tryz.prog 110 #[sgv s] w' fun e w'' => (∃ A c, e = .returned (.slice A (pst s).length c)) ∧ Below W0.heap.size W0 w'') := fun w' h => (steps_any w' s).mono fun _ _ ⟨A, c, a, _, b⟩ => ⟨⟨A, c, a⟩, h.trans (b.mono h.size)⟩
  have F6 : ∀ k, Hid (∀ w', Below W0.heap.size W0 w' → Calls Tryz.prog 106 #[.int .i64 s.st, .int .i64 0, .int .i64 k] w' fun e w'' => e = .returned (.bool (inR s.st 0 k)) ∧ Below W0.heap.size W0 w'') := fun k w' h => (swithin_any w' s.st 0 k).mono fun _ _ ⟨a, c⟩ => ⟨a, c ▸ h⟩
  clear t t0
  replace hW0 := Lib.hid hW0
  unfold sgv
  unfold sgc at hW0
  go_enter Tryz.func71, Tryz.ntmps71
  go_upto_region 1 with fail
  rw [← hW0.out]
  clear hW0 B0
  by_cases hp : s.ph < 1 ∨ 5 < s.ph
  ·
    refine qm1a _ _ _ _ _ _ _ _ _ _ _ _ _ _ _ _ _ _ _ _ _ _ _ _ _ _ _ _ _ W0 w.heap.size s CB (F1 false (by unfold inR; rw [decide_eq_false_iff_not]; omega)) _ (fun _ _ d _ _ h => by cases d <;> exact h) (fun _ _ _ _ _ _ _ _ _ _ _ _ _ _ _ _ _ _ _ _ _ _ _ _ _ _ _ w3 hb => ?_)
    have E : Hid (Below w.heap.size w w3) := be0.out.trans (hb.mono be0.out.size)
    have EE : Hid (smay s = false) := by unfold Hid smay; rw [phs_0 hp]; simp
    clear hb F1 F2 F3 F4 F5 F6 CB be0 hp
    go_wp2_with fail
    go_ret
    rw [EE.out]
    exact ⟨rfl, E.out⟩
  have h1 : 1 ≤ s.ph := by omega
  have h2 : s.ph ≤ 5 := by omega
  have r1 : inR s.ph 1 5 = true := by unfold inR; rw [decide_eq_true_iff]; omega
  clear hp
  cases hm : may s.w with
  | false =>
    refine qm1b _ _ _ _ _ _ _ _ _ _ _ _ _ _ _ _ _ _ _ _ _ _ _ _ _ _ _ _ _ W0 w.heap.size s CB (F1 true r1) (F2 false hm) _ (fun _ _ d _ _ h => by cases d <;> exact h) (fun _ _ _ _ _ _ _ _ _ _ _ _ _ _ _ _ _ _ _ _ _ _ _ _ _ _ _ w3 hb => ?_)
    have E : Hid (Below w.heap.size w w3) := be0.out.trans (hb.mono be0.out.size)
    have EE : Hid (smay s = false) := smay_no1 hm
    clear hb F1 F2 F3 F4 F5 F6 CB be0 hm h1 h2 r1
    go_wp2_with fail
    go_ret
    rw [EE.out]
    exact ⟨rfl, E.out⟩
  | true =>
    cases ht : inR s.si 0 1099511627776 with
    | false =>
      refine qm1c _ _ _ _ _ _ _ _ _ _ _ _ _ _ _ _ _ _ _ _ _ _ _ _ _ _ _ _ _ W0 w.heap.size s CB (F1 true r1) (F2 true hm) (F3 false ht) _ (fun _ _ d _ _ h => by cases d <;> exact h) (fun _ _ _ _ _ _ _ _ _ _ _ _ _ _ _ _ _ _ _ _ _ _ _ _ _ _ _ w3 hb => ?_)
      have E : Hid (Below w.heap.size w w3) := be0.out.trans (hb.mono be0.out.size)
      have EE : Hid (smay s = false) := by unfold Hid smay; rw [ht]; simp
      clear hb F1 F2 F3 F4 F5 F6 CB be0 hm ht h1 h2 r1
      go_wp2_with fail
      go_ret
      rw [EE.out]
      exact ⟨rfl, E.out⟩
    | true =>
      cases hr : mre s with
      | false =>
        refine qm1d _ _ _ _ _ _ _ _ _ _ _ _ _ _ _ _ _ _ _ _ _ _ _ _ _ _ _ _ _ W0 w.heap.size s CB (F1 true r1) (F2 true hm) (F3 true ht) (F4 h1 h2 false hr) _ (fun _ _ d _ _ h => by cases d <;> exact h) (fun _ _ _ _ _ _ _ _ _ _ _ _ _ _ _ _ _ _ _ _ _ _ _ _ _ _ _ w3 hb => ?_)
        have E : Hid (Below w.heap.size w w3) := be0.out.trans (hb.mono be0.out.size)
        have EE : Hid (smay s = false) := smay_d h1 h2 hr
        clear hb F1 F2 F3 F4 F5 F6 CB be0 hm ht hr h1 h2 r1
        go_wp2_with fail
        go_ret
        rw [EE.out]
        exact ⟨rfl, E.out⟩
      | true =>
        have hl := pst_len s
        have he := smay_e h1 h2 hm ht hr
        refine qm1e _ _ _ _ _ _ _ _ _ _ _ _ _ _ _ _ _ _ _ _ _ _ _ _ _ _ _ _ _ W0 w.heap.size (pst s).length s (max ((pst s).length : Int) 1) (max ((pst s).length : Int) 1 - 1) (inR s.st 0 (max ((pst s).length : Int) 1 - 1)) CB (F1 true r1) (F2 true hm) (F3 true ht) (F4 h1 h2 true hr) F5 (F6 _) rfl (by rw [IntKind.wrap_i64]; omega) _ (fun _ _ d _ _ h => by cases d <;> exact h) (fun _ _ _ _ _ _ _ _ _ _ _ _ _ _ _ _ _ _ _ _ _ _ _ _ _ _ _ w3 hb => ?_)
        have E : Hid (Below w.heap.size w w3) := be0.out.trans (hb.mono be0.out.size)
        have EE : Hid (smay s = inR s.st 0 (max ((pst s).length : Int) 1 - 1)) := he
        clear hb F1 F2 F3 F4 F5 F6 CB be0 hm ht hr h1 h2 r1 hl he
        go_wp2_with fail
        go_ret
        rw [EE.out]
        exact ⟨rfl, E.out⟩
end Sg
end Go.Proofs.YtpkdigegkemogaaGreatDoor
namespace Go.Proofs.YtpkdigegkemogaaGreatDoor
set_option maxRecDepth 100000
open Go.RowKit
open Go.Proofs.YtpkdigegkemogaaGreatDoor.Pk (one_at one_free one_set lt_some grown_set grown_trans grown_refl)
namespace Sg
open Wt (Wan may Opn mayOp may_any inR)
open Pl (Stp fwd bck cap z0 wanv spv BoxW wpList_store_row setRow_below below_of_grown)

def stn (s : Sag) (r : Int) : Sag × Bool := if smay s = true ∧ s.ph = 1 then (sback s r, true) else (s, false)
theorem stn_results : Tryz.f129.results = #[.cell 4 57, .tmp 5] := by kernel_rfl
set_option maxHeartbeats 6400000 in
theorem stn_any (w : World) (t : Tab w) (s : Sag) (r : Int) : Calls Tryz.prog 129 #[sgv s, .int .i64 r] w fun e w' => e = .returned (.tuple #[sgv (stn s r).1, .bool (stn s r).2]) ∧ Below w.heap.size w w' := by
  obtain ⟨W0, hW0⟩ : ∃ W0, W0 = (w.alloc (.cells #[.int .i64 s.w.book, .int .i64 s.w.cust, .int .i64 s.w.dead, .int .i64 s.w.u0, .int .i64 s.w.u1, .int .i64 s.w.u2, .int .i64 s.w.price, .int .i64 s.ph, .int .i64 s.st, .int .i64 s.rs, .int .i64 s.si] 57)).alloc (.cells #[.int .i64 0, .int .i64 0, .int .i64 0, .int .i64 0, .int .i64 0, .int .i64 0, .int .i64 0, .int .i64 0, .int .i64 0, .int .i64 0, .int .i64 0] 57) := ⟨_, rfl⟩
  have B0 : BoxS W0 w.heap.size s := by rw [hW0]; exact heap_alloc2_old _ _ _
  have Z0 : W0.heap[w.heap.size + 1]? = some (.cells #[.int .i64 0, .int .i64 0, .int .i64 0, .int .i64 0, .int .i64 0, .int .i64 0, .int .i64 0, .int .i64 0, .int .i64 0, .int .i64 0, .int .i64 0] 57 (0, 0)) := by
    have := heap_alloc_new (w.alloc (.cells #[.int .i64 s.w.book, .int .i64 s.w.cust, .int .i64 s.w.dead, .int .i64 s.w.u0, .int .i64 s.w.u1, .int .i64 s.w.u2, .int .i64 s.w.price, .int .i64 s.ph, .int .i64 s.st, .int .i64 s.rs, .int .i64 s.si] 57)) (.cells #[.int .i64 0, .int .i64 0, .int .i64 0, .int .i64 0, .int .i64 0, .int .i64 0, .int .i64 0, .int .i64 0, .int .i64 0, .int .i64 0, .int .i64 0] 57)
    rw [show (w.alloc (.cells #[.int .i64 s.w.book, .int .i64 s.w.cust, .int .i64 s.w.dead, .int .i64 s.w.u0, .int .i64 s.w.u1, .int .i64 s.w.u2, .int .i64 s.w.price, .int .i64 s.ph, .int .i64 s.st, .int .i64 s.rs, .int .i64 s.si] 57)).heap.size = w.heap.size + 1 by simp] at this
    rw [hW0]
    exact this
  have be0 : Below w.heap.size w W0 := by rw [hW0]; exact ((Below.refl _ w).alloc (Nat.le_refl _) _).alloc (by simp) _
  have s0 : w.heap.size + 1 < W0.heap.size := lt_some Z0
  have M := smay_any W0 (t.below be0) s
  have LY : smay s = true → s.ph = 1 → stn s r = (sback s r, true) := fun h1 h2 => by unfold stn; rw [if_pos ⟨h1, h2⟩]
  have LN : ¬ (smay s = true ∧ s.ph = 1) → stn s r = (s, false) := fun h => by unfold stn; rw [if_neg h]
  unfold sback at LY
  generalize stn s r = y at *
  generalize smay s = m at *
  unfold sgv sgc at *
  clear t
  replace hW0 := Lib.hid hW0
  replace M := Lib.hid M
  replace LY := Lib.hid LY
  replace LN := Lib.hid LN
  go_enter Tryz.func129, Tryz.ntmps129
  go_wp2_with fail
  rw [← hW0.out]
  refine M.out.mono ?_
  rintro e w1 ⟨rfl, h1⟩
  have B1 := B0.below h1 B0.lt
  have Z1 := Lib.hid ((h1.block _ s0).trans Z0)
  have b1 : Hid (Below w.heap.size w w1) := be0.trans (h1.mono be0.size)
  have s1 : w.heap.size + 1 < w1.heap.size := lt_some Z1.out
  have hwl : w.heap.size < w1.heap.size := by omega
  obtain ⟨c0, c1, c2, c3, c4, c5, c6, c7, c8, c9, ca⟩ := B1.cells
  replace B1 := Lib.hid B1
  clear M h1 B0 Z0 be0 hW0 s0
  cases m with
  | false =>
    have EE := Lib.hid (LN.out (by simp))
    clear LY LN
    go_wp2_with (refine wpList_store_row rfl 57 (.tmp 4) (.tmp 14) rfl (w.heap.size + 1) #[.int .i64 s.w.book, .int .i64 s.w.cust, .int .i64 s.w.dead, .int .i64 s.w.u0, .int .i64 s.w.u1, .int .i64 s.w.u2, .int .i64 s.w.price, .int .i64 s.ph, .int .i64 s.st, .int .i64 s.rs, .int .i64 s.si] rfl rfl 57 _ Z1.out sag_size rfl (by simp [Value.oneCell']) ?_)
    refine bodyPost_ret (res_row stn_results _ _ (w.heap.size + 1) 57 _ (0, 0) _ rfl (setRow_heap _ _ _ _ _ _ Z1.out) Tryz.underlying57 rfl sag_size) rfl ?_
    exact ⟨by rw [EE.out]; rfl, b1.out.trans (setRow_below _ (Nat.le_succ _))⟩
  | true =>
    by_cases hp : s.ph = 1
    case neg =>
      have EE := Lib.hid (LN.out (fun h => hp h.2))
      have g1 : (s.ph == 1) = false := beq_eq_false_iff_ne.2 hp
      clear LY LN hp
      go_wp2_with (refine wpList_store_row rfl 57 (.tmp 4) (.tmp 14) rfl (w.heap.size + 1) #[.int .i64 s.w.book, .int .i64 s.w.cust, .int .i64 s.w.dead, .int .i64 s.w.u0, .int .i64 s.w.u1, .int .i64 s.w.u2, .int .i64 s.w.price, .int .i64 s.ph, .int .i64 s.st, .int .i64 s.rs, .int .i64 s.si] rfl rfl 57 _ Z1.out sag_size rfl (by simp [Value.oneCell']) ?_)
      refine bodyPost_ret (res_row stn_results _ _ (w.heap.size + 1) 57 _ (0, 0) _ rfl (setRow_heap _ _ _ _ _ _ Z1.out) Tryz.underlying57 rfl sag_size) rfl ?_
      exact ⟨by rw [EE.out]; rfl, b1.out.trans (setRow_below _ (Nat.le_succ _))⟩
    have EE := Lib.hid (LY.out rfl hp)
    clear LY LN
    have f7 : w1.frozen? ⟨w.heap.size, 7, none⟩ = false := one_free B1.out
    have f8 : w1.frozen? ⟨w.heap.size, 8, none⟩ = false := one_free B1.out
    have f9 : w1.frozen? ⟨w.heap.size, 9, none⟩ = false := one_free B1.out
    have gs := grown_trans (grown_trans (grown_set w1 w.heap.size 7 (.int .i64 3)) (grown_set (w1.setCell ⟨w.heap.size, 7, none⟩ (.int .i64 3)) w.heap.size 8 (.int .i64 0))) (grown_set ((w1.setCell ⟨w.heap.size, 7, none⟩ (.int .i64 3)).setCell ⟨w.heap.size, 8, none⟩ (.int .i64 0)) w.heap.size 9 (.int .i64 r))
    have Z2 : Hid ((((w1.setCell ⟨w.heap.size, 7, none⟩ (.int .i64 3)).setCell ⟨w.heap.size, 8, none⟩ (.int .i64 0)).setCell ⟨w.heap.size, 9, none⟩ (.int .i64 r)).heap[w.heap.size + 1]? = some (.cells #[.int .i64 0, .int .i64 0, .int .i64 0, .int .i64 0, .int .i64 0, .int .i64 0, .int .i64 0, .int .i64 0, .int .i64 0, .int .i64 0, .int .i64 0] 57 (0, 0))) := (gs.block _ s1 (by simp)).trans Z1.out
    have b2 : Hid (Below w.heap.size w (((w1.setCell ⟨w.heap.size, 7, none⟩ (.int .i64 3)).setCell ⟨w.heap.size, 8, none⟩ (.int .i64 0)).setCell ⟨w.heap.size, 9, none⟩ (.int .i64 r))) := b1.out.trans (below_of_grown gs b1.out.size fun j hj => by injection hj with hj; omega)
    rw [hp] at c7
    have g1 : (s.ph == 1) = true := by rw [hp]; rfl
    clear gs hp B1
    go_wp2_with (refine wpList_store_row rfl 57 (.tmp 4) (.tmp 19) rfl (w.heap.size + 1) #[.int .i64 s.w.book, .int .i64 s.w.cust, .int .i64 s.w.dead, .int .i64 s.w.u0, .int .i64 s.w.u1, .int .i64 s.w.u2, .int .i64 s.w.price, .int .i64 3, .int .i64 0, .int .i64 r, .int .i64 s.si] rfl rfl 57 _ Z2.out sag_size rfl (by simp [Value.oneCell']) ?_)
    refine bodyPost_ret (res_row stn_results _ _ (w.heap.size + 1) 57 _ (0, 0) _ rfl (setRow_heap _ _ _ _ _ _ Z2.out) Tryz.underlying57 rfl sag_size) rfl ?_
    exact ⟨by rw [EE.out]; rfl, b2.out.trans (setRow_below _ (Nat.le_succ _))⟩
theorem qcan_results : Tryz.f101.results = #[.cell 2 57, .tmp 3] := by kernel_rfl
set_option maxHeartbeats 6400000 in
theorem qcan_any (w : World) (t : Tab w) (s : Sag) : Calls Tryz.prog 101 #[sgv s] w fun e w' => e = .returned (.tuple #[sgv (scan s).1, .bool (scan s).2]) ∧ Below w.heap.size w w' := by
  obtain ⟨W0, hW0⟩ : ∃ W0, W0 = (w.alloc (.cells #[.int .i64 s.w.book, .int .i64 s.w.cust, .int .i64 s.w.dead, .int .i64 s.w.u0, .int .i64 s.w.u1, .int .i64 s.w.u2, .int .i64 s.w.price, .int .i64 s.ph, .int .i64 s.st, .int .i64 s.rs, .int .i64 s.si] 57)).alloc (.cells #[.int .i64 0, .int .i64 0, .int .i64 0, .int .i64 0, .int .i64 0, .int .i64 0, .int .i64 0, .int .i64 0, .int .i64 0, .int .i64 0, .int .i64 0] 57) := ⟨_, rfl⟩
  have B0 : BoxS W0 w.heap.size s := by rw [hW0]; exact heap_alloc2_old _ _ _
  have Z0 : W0.heap[w.heap.size + 1]? = some (.cells #[.int .i64 0, .int .i64 0, .int .i64 0, .int .i64 0, .int .i64 0, .int .i64 0, .int .i64 0, .int .i64 0, .int .i64 0, .int .i64 0, .int .i64 0] 57 (0, 0)) := by
    have := heap_alloc_new (w.alloc (.cells #[.int .i64 s.w.book, .int .i64 s.w.cust, .int .i64 s.w.dead, .int .i64 s.w.u0, .int .i64 s.w.u1, .int .i64 s.w.u2, .int .i64 s.w.price, .int .i64 s.ph, .int .i64 s.st, .int .i64 s.rs, .int .i64 s.si] 57)) (.cells #[.int .i64 0, .int .i64 0, .int .i64 0, .int .i64 0, .int .i64 0, .int .i64 0, .int .i64 0, .int .i64 0, .int .i64 0, .int .i64 0, .int .i64 0] 57)
    rw [show (w.alloc (.cells #[.int .i64 s.w.book, .int .i64 s.w.cust, .int .i64 s.w.dead, .int .i64 s.w.u0, .int .i64 s.w.u1, .int .i64 s.w.u2, .int .i64 s.w.price, .int .i64 s.ph, .int .i64 s.st, .int .i64 s.rs, .int .i64 s.si] 57)).heap.size = w.heap.size + 1 by simp] at this
    rw [hW0]
    exact this
  have be0 : Below w.heap.size w W0 := by rw [hW0]; exact ((Below.refl _ w).alloc (Nat.le_refl _) _).alloc (by simp) _
  have s0 : w.heap.size + 1 < W0.heap.size := lt_some Z0
  have M := stn_any W0 (t.below be0) s 4
  rw [show stn s 4 = scan s from rfl] at M
  generalize (scan s).1 = y at *
  generalize (scan s).2 = b at *
  unfold sgv sgc at *
  clear t
  replace M := Lib.hid M
  replace hW0 := Lib.hid hW0
  go_enter Tryz.func101, Tryz.ntmps101
  go_wp2_with fail
  rw [← hW0.out]
  refine M.out.mono ?_
  rintro e w1 ⟨rfl, h1⟩
  have Z1 := Lib.hid ((h1.block _ s0).trans Z0)
  have b1 : Hid (Below w.heap.size w w1) := be0.trans (h1.mono be0.size)
  clear M h1 B0 Z0 be0 hW0 s0
  go_wp2_with (refine wpList_store_row rfl 57 (.tmp 2) (.tmp 6) rfl (w.heap.size + 1) _ rfl rfl 57 _ Z1.out sag_size rfl (by simp [Value.oneCell']) ?_)
  refine bodyPost_ret (res_row qcan_results _ _ (w.heap.size + 1) 57 _ (0, 0) _ rfl (setRow_heap _ _ _ _ _ _ Z1.out) Tryz.underlying57 rfl sag_size) rfl ?_
  exact ⟨rfl, b1.out.trans (setRow_below _ (Nat.le_succ _))⟩
set_option maxHeartbeats 6400000 in
theorem qover_any (w : World) (t : Tab w) (s : Sag) : Calls Tryz.prog 127 #[sgv s] w fun e w' => e = .returned (.bool (sover s)) ∧ Below w.heap.size w w' := by
  obtain ⟨W0, hW0⟩ : ∃ W0, W0 = w.alloc (.cells #[.int .i64 s.w.book, .int .i64 s.w.cust, .int .i64 s.w.dead, .int .i64 s.w.u0, .int .i64 s.w.u1, .int .i64 s.w.u2, .int .i64 s.w.price, .int .i64 s.ph, .int .i64 s.st, .int .i64 s.rs, .int .i64 s.si] 57) := ⟨_, rfl⟩
  have B0 : BoxS W0 w.heap.size s := by rw [hW0]; exact heap_alloc_new _ _
  have be0 : Below w.heap.size w W0 := by rw [hW0]; exact (Below.refl _ w).alloc (Nat.le_refl _) _
  have M := smay_any W0 (t.below be0) s
  have LN : smay s = false → sover s = false := fun h => by unfold sover; rw [h]; rfl
  have LY : smay s = true → sover s = (s.ph == 4 || s.ph == 5) := fun h => by unfold sover; rw [h]; rfl
  have PH : smay s = true → s.ph = 1 ∨ s.ph = 2 ∨ s.ph = 3 ∨ s.ph = 4 ∨ s.ph = 5 := fun h => by obtain ⟨-, -, h⟩ := smay_true h; omega
  have T0 := t.below be0
  generalize sover s = y at *
  generalize smay s = m at *
  obtain ⟨x, ph, st, rs, si⟩ := s
  unfold sgv sgc at *
  simp only at *
  clear t
  replace hW0 := Lib.hid hW0
  replace M := Lib.hid M
  replace LY := Lib.hid LY
  replace LN := Lib.hid LN
  replace PH := Lib.hid PH
  go_enter Tryz.func127, Tryz.ntmps127
  go_wp2_with fail
  rw [← hW0.out]
  refine M.out.mono ?_
  rintro e w1 ⟨rfl, h1⟩
  have B1 := B0.below h1 B0.lt
  have T1 := T0.below h1
  have b1 : Hid (Below w.heap.size w w1) := be0.trans (h1.mono be0.size)
  have hwl : w.heap.size < w1.heap.size := B1.lt
  obtain ⟨c0, c1, c2, c3, c4, c5, c6, c7, c8, c9, ca⟩ := BoxS.cells (s := ⟨x, ph, st, rs, si⟩) B1
  simp only at c0 c1 c2 c3 c4 c5 c6 c7 c8 c9 ca
  clear M h1 B0 T0 be0 hW0 B1
  cases m with
  | false =>
    have EE := Lib.hid (LN.out rfl)
    clear LY LN PH T1
    go_wp2_with fail
    go_ret
    rw [EE.out]
    exact ⟨rfl, b1.out⟩
  | true =>
    have EE := Lib.hid (LY.out rfl)
    obtain ⟨d0, -, -, e0, -, -, f0, -, -, g0, -, -, i0, -, -⟩ := T1
    rcases PH.out rfl with rfl | rfl | rfl | rfl | rfl
    · clear LY LN PH
      go_wp2_with fail
      go_ret
      rw [EE.out]
      exact ⟨rfl, b1.out⟩
    · clear LY LN PH
      go_wp2_with fail
      go_ret
      rw [EE.out]
      exact ⟨rfl, b1.out⟩
    · clear LY LN PH
      go_wp2_with fail
      go_ret
      rw [EE.out]
      exact ⟨rfl, b1.out⟩
    · clear LY LN PH
      go_wp2_with fail
      go_ret
      rw [EE.out]
      exact ⟨rfl, b1.out⟩
    · clear LY LN PH
      go_wp2_with fail
      go_ret
      rw [EE.out]
      exact ⟨rfl, b1.out⟩
theorem qnew_results : Tryz.f103.results = #[.cell 4 57, .tmp 5] := by kernel_rfl
set_option maxHeartbeats 6400000 in
theorem qnew_any (w : World) (x : Wan) (now : Int) : Calls Tryz.prog 103 #[wanv x, .int .i64 now] w fun e w' => e = .returned (.tuple #[sgv (snew x now).1, .int .i64 (snew x now).2]) ∧ Below w.heap.size w w' := by
  obtain ⟨W0, hW0⟩ : ∃ W0, W0 = (w.alloc (.cells #[.int .i64 x.book, .int .i64 x.cust, .int .i64 x.dead, .int .i64 x.u0, .int .i64 x.u1, .int .i64 x.u2, .int .i64 x.price] 55)).alloc (.cells #[.int .i64 0, .int .i64 0, .int .i64 0, .int .i64 0, .int .i64 0, .int .i64 0, .int .i64 0, .int .i64 0, .int .i64 0, .int .i64 0, .int .i64 0] 57) := ⟨_, rfl⟩
  have B0 : BoxW W0 w.heap.size x := by rw [hW0]; exact heap_alloc2_old _ _ _
  have Z0 : W0.heap[w.heap.size + 1]? = some (.cells #[.int .i64 0, .int .i64 0, .int .i64 0, .int .i64 0, .int .i64 0, .int .i64 0, .int .i64 0, .int .i64 0, .int .i64 0, .int .i64 0, .int .i64 0] 57 (0, 0)) := by
    have := heap_alloc_new (w.alloc (.cells #[.int .i64 x.book, .int .i64 x.cust, .int .i64 x.dead, .int .i64 x.u0, .int .i64 x.u1, .int .i64 x.u2, .int .i64 x.price] 55)) (.cells #[.int .i64 0, .int .i64 0, .int .i64 0, .int .i64 0, .int .i64 0, .int .i64 0, .int .i64 0, .int .i64 0, .int .i64 0, .int .i64 0, .int .i64 0] 57)
    rw [show (w.alloc (.cells #[.int .i64 x.book, .int .i64 x.cust, .int .i64 x.dead, .int .i64 x.u0, .int .i64 x.u1, .int .i64 x.u2, .int .i64 x.price] 55)).heap.size = w.heap.size + 1 by simp] at this
    rw [hW0]
    exact this
  have be0 : Below w.heap.size w W0 := by rw [hW0]; exact ((Below.refl _ w).alloc (Nat.le_refl _) _).alloc (by simp) _
  have s0 : w.heap.size + 1 < W0.heap.size := lt_some Z0
  have M := may_any W0 x
  have TK := fun w => stick_any w now
  have LY : may x = true → inR now 0 1099511627776 = true → snew x now = (⟨x, 1, 0, 0, now⟩, 0) := fun h h1 => by unfold snew; rw [if_pos ⟨h, h1⟩]
  have LN : (may x = false ∨ inR now 0 1099511627776 = false) → snew x now = (sz, 1) := fun h => by
    unfold snew
    rw [if_neg]
    rintro ⟨h1, h2⟩
    rcases h with h | h
    · rw [h1] at h; cases h
    · rw [h2] at h; cases h
  unfold sz at LN
  generalize snew x now = y at *
  generalize may x = m at *
  generalize inR now 0 1099511627776 = tk at *
  unfold wanv
  replace hW0 := Lib.hid hW0
  replace LY := Lib.hid LY
  replace LN := Lib.hid LN
  replace TK := Lib.hid TK
  replace M := Lib.hid M
  go_enter Tryz.func103, Tryz.ntmps103
  go_wp2_with fail
  rw [← hW0.out]
  refine M.out.mono ?_
  rintro e w1 ⟨rfl, h1⟩
  obtain ⟨c0, c1, c2, c3, c4, c5, c6⟩ := (B0.below h1 B0.lt).cells
  have hwl := (B0.below h1 B0.lt).lt
  have Z1 := Lib.hid ((h1.block _ s0).trans Z0)
  have b1 : Hid (Below w.heap.size w w1) := be0.trans (h1.mono be0.size)
  have s1 : w.heap.size + 1 < w1.heap.size := lt_some Z1.out
  clear M h1 B0 Z0 be0 hW0 s0
  cases m with
  | false =>
    have EE := Lib.hid (LN.out (.inl rfl))
    clear LY LN TK
    go_wp2_with (refine wpList_store_row rfl 57 (.tmp 4) (.tmp 14) rfl (w.heap.size + 1) _ rfl rfl 57 _ Z1.out sag_size rfl (by simp [Value.oneCell']) ?_)
    refine bodyPost_ret (res_row qnew_results _ _ (w.heap.size + 1) 57 _ (0, 0) _ rfl (setRow_heap _ _ _ _ _ _ Z1.out) Tryz.underlying57 rfl sag_size) rfl ?_
    exact ⟨by rw [EE.out]; rfl, b1.out.trans (setRow_below _ (Nat.le_succ _))⟩
  | true =>
    go_wp2_with fail
    refine (TK.out _).mono ?_
    rintro e w2 ⟨rfl, rfl⟩
    cases tk with
    | false =>
      have EE := Lib.hid (LN.out (.inr rfl))
      clear LY LN TK
      go_wp2_with (refine wpList_store_row rfl 57 (.tmp 4) (.tmp 14) rfl (w.heap.size + 1) _ rfl rfl 57 _ Z1.out sag_size rfl (by simp [Value.oneCell']) ?_)
      refine bodyPost_ret (res_row qnew_results _ _ (w.heap.size + 1) 57 _ (0, 0) _ rfl (setRow_heap _ _ _ _ _ _ Z1.out) Tryz.underlying57 rfl sag_size) rfl ?_
      exact ⟨by rw [EE.out]; rfl, b1.out.trans (setRow_below _ (Nat.le_succ _))⟩
    | true =>
      have EE := Lib.hid (LY.out (by simp) (by simp))
      clear LY LN TK
      go_wp2_with (refine wpList_store_row rfl 57 (.tmp 4) (.tmp 17) rfl (w.heap.size + 1) _ rfl rfl 57 _ Z1.out sag_size rfl (by simp [Value.oneCell']) ?_)
      refine bodyPost_ret (res_row qnew_results _ _ (w.heap.size + 1) 57 _ (0, 0) _ rfl (setRow_heap _ _ _ _ _ _ Z1.out) Tryz.underlying57 rfl sag_size) rfl ?_
      exact ⟨by rw [EE.out]; rfl, b1.out.trans (setRow_below _ (Nat.le_succ _))⟩
def sref (a : Stp) : Int := if a.op.kind = 4 then 2 else 1
set_option maxHeartbeats 3200000 in
theorem sref_any (w : World) (a : Stp) : Calls Tryz.prog 130 #[spv a] w fun e w' => e = .returned (.int .i64 (sref a)) ∧ Below w.heap.size w w' := by
  have be : Hid (Below w.heap.size w (w.alloc (.cells #[.int .i64 a.node, .int .i64 a.op.kind, .int .i64 a.op.book, .int .i64 a.op.units, .int .i64 a.op.cust, .int .i64 a.op.amount] 181))) := (Below.refl _ w).alloc (Nat.le_refl _) _
  by_cases h : a.op.kind = 4
  · have EE : Hid (sref a = 2) := if_pos h
    have g1 : (a.op.kind == 4) = true := by rw [h]; rfl
    generalize sref a = y at *
    unfold spv
    clear h
    go_enter Tryz.func130, Tryz.ntmps130
    go_wp2_with fail
    go_ret
    rw [EE.out]
    exact ⟨rfl, be.out⟩
  · have EE : Hid (sref a = 1) := if_neg h
    have g1 : (a.op.kind == 4) = false := beq_eq_false_iff_ne.2 h
    generalize sref a = y at *
    unfold spv
    clear h
    go_enter Tryz.func130, Tryz.ntmps130
    go_wp2_with fail
    go_ret
    rw [EE.out]
    exact ⟨rfl, be.out⟩
end Sg
end Go.Proofs.YtpkdigegkemogaaGreatDoor
