/- Parts of the claim: SgB, SgC, SbM, SgF -/
import Derived.Test.YtpkdigegkemogaaGreatDoorSgB2T
import Derived.Test.YtpkdigegkemogaaGreatDoorWtXbT
import Derived.Test.YtpkdigegkemogaaGreatDoorSgXaT
namespace Go.Proofs.YtpkdigegkemogaaGreatDoor
set_option maxRecDepth 100000
open Go.RowKit
open Go.Proofs.YtpkdigegkemogaaGreatDoor.Pk (one_at one_free one_set lt_some grown_set grown_trans grown_refl)
namespace Sg
open Wt (Wan may Opn mayOp may_any refmay_any below_drewN inR)
open Pl (Stp fwd bck cap z0 wanv spv RowT rt_form rt_mono rfwd_any rbck_any fwd_any bck_any cap_any)

theorem smay_no1 {s : Sag} (h : may s.w = false) : smay s = false := by unfold smay; rw [h]; rfl
theorem smay_no2 {s : Sag} (h : s.si < 0 ∨ 1099511627776 < s.si) : smay s = false := by
  have : inR s.si 0 1099511627776 = false := decide_eq_false (by omega)
  unfold smay; rw [this]; simp
theorem smay_in {s : Sag} (h : may s.w = true) (h1 : 0 ≤ s.si) (h2 : s.si ≤ 1099511627776) : smay s = phs s := by
  have : inR s.si 0 1099511627776 = true := decide_eq_true ⟨h1, h2⟩
  unfold smay; rw [h, this]; rfl
theorem phs_1 {s : Sag} (h : s.ph = 1) : phs s = (decide (0 ≤ s.st) && decide (s.st < nF s) && s.rs == 0) := by unfold phs; rw [if_pos h]
theorem phs_2 {s : Sag} (h : s.ph = 2 ∨ s.ph = 4) : phs s = (s.st == 0 && s.rs == 0) := by unfold phs; rw [if_neg (by omega), if_pos h]
theorem phs_3 {s : Sag} (h : s.ph = 3) : phs s = (decide (0 ≤ s.st) && decide (s.st < nB s) && why s) := by unfold phs; rw [if_neg (by omega), if_neg (by omega), if_pos h]
theorem phs_5 {s : Sag} (h : s.ph = 5) : phs s = (s.st == 0 && why s) := by unfold phs; rw [if_neg (by omega), if_neg (by omega), if_neg (by omega), if_pos h]
theorem phs_0 {s : Sag} (h : s.ph < 1 ∨ 5 < s.ph) : phs s = false := by unfold phs; rw [if_neg (by omega), if_neg (by omega), if_neg (by omega), if_neg (by omega)]
set_option maxHeartbeats 6400000 in
theorem rsmay_any (w : World) (s : Sag) : Calls Tryz.prog 44 #[sgv s] w fun e w' => e = .returned (.bool (smay s)) ∧ Below w.heap.size w w' := by
  obtain ⟨W0, hW0⟩ : ∃ W0, W0 = w.alloc (.cells (sgc s) 57) := ⟨_, rfl⟩
  have B0 : BoxS W0 w.heap.size s := by rw [hW0]; exact heap_alloc_new _ _
  have be0 : Hid (Below w.heap.size w W0) := by rw [hW0]; exact (Below.refl _ w).alloc (Nat.le_refl _) _
  have CB : Hid (∀ w', Below W0.heap.size W0 w' → CellS w' w.heap.size s ∧ w.heap.size < w'.heap.size) := fun w' h => ⟨(B0.below h B0.lt).cells, (B0.below h B0.lt).lt⟩
  have M := refmay_any W0 s.w
  have RF : Hid (∀ w', Calls Tryz.prog 76 #[wanv s.w] w' fun e w'' => ∃ A c, e = .returned (.slice A (fwd s.w).length c) ∧ RowT 125 w'' w'.heap.size (.slice A (fwd s.w).length c) (fwd s.w).length (fwd s.w) ∧ Below w'.heap.size w' w'') := fun w' => rf_len w' s.w
  have RB : Hid (∀ w', Calls Tryz.prog 77 #[wanv s.w] w' fun e w'' => ∃ A c, e = .returned (.slice A (bck s.w).length c) ∧ RowT 125 w'' w'.heap.size (.slice A (bck s.w).length c) (bck s.w).length (bck s.w) ∧ Below w'.heap.size w' w'') := fun w' => rb_len w' s.w
  have n1 := smay_no1 (s := s)
  have n2 := smay_no2 (s := s)
  have n3 := smay_in (s := s)
  have p1 := phs_1 (s := s)
  have p2 := phs_2 (s := s)
  have p3 := phs_3 (s := s)
  have p5 := phs_5 (s := s)
  have p0 := phs_0 (s := s)
  have hwy : why s = why s := rfl
  conv at hwy => rhs; unfold why
  unfold nF nB at *
  generalize smay s = r at *
  generalize phs s = pr at *
  generalize why s = wy at *
  generalize hlf : (fwd s.w).length = lf at *
  generalize hlb : (bck s.w).length = lb at *
  obtain ⟨x, ph, st, rs, si⟩ := s
  unfold sgv sgc
  unfold sgc at hW0
  unfold wanv at RF RB
  simp only at *
  replace p1 := Lib.hid p1
  replace p2 := Lib.hid p2
  replace p3 := Lib.hid p3
  replace p5 := Lib.hid p5
  replace p0 := Lib.hid p0
  replace hwy := Lib.hid hwy
  replace hW0 := Lib.hid hW0
  replace n3 := Lib.hid n3
  replace n2 := Lib.hid n2
  replace n1 := Lib.hid n1
  replace M := Lib.hid M
  clear B0
  go_enter Tryz.func44, Tryz.ntmps44
  go_wp2_with fail
  rw [← hW0.out]
  refine M.out.mono ?_
  rintro e w1 ⟨rfl, h1⟩
  obtain ⟨⟨c0, c1, c2, c3, c4, c5, c6, c7, c8, c9, ca⟩, hwl⟩ := CB.out _ h1
  simp only at c0 c1 c2 c3 c4 c5 c6 c7 c8 c9 ca
  have HB : Hid (Below w.heap.size w w1) := be0.out.trans (h1.mono be0.out.size)
  have CB1 : Hid (∀ w', Below w1.heap.size w1 w' → CellS w' w.heap.size ⟨x, ph, st, rs, si⟩ ∧ w.heap.size < w'.heap.size) := fun w' h => CB.out w' (h1.trans (h.mono h1.size))
  clear M CB be0 hW0 h1
  cases hm : may x with
  | false =>
    have E := n1.out hm
    clear n1 n2 n3 hm
    go_wp2_with fail
    go_ret
    rw [E]
    exact ⟨rfl, HB.out⟩
  | true =>
    by_cases s0 : si < 0
    · have E := n2.out (.inl s0)
      clear n1 n2 n3 hm
      go_wp2_with fail
      go_ret
      rw [E]
      exact ⟨rfl, HB.out⟩
    by_cases s1 : 1099511627776 < si
    · have E := n2.out (.inr s1)
      clear n1 n2 n3 hm
      go_wp2_with fail
      go_ret
      rw [E]
      exact ⟨rfl, HB.out⟩
    have E := n3.out hm (by omega) (by omega)
    subst E
    clear n1 n2 n3 hm
    go_upto_region 3 with fail
    go_cut [3] from 18 to 36 (fun s3 wx => s3 = .bool wy ∧ wx = w1)
    case first =>
      by_cases g1 : 1 ≤ rs
      case neg =>
        go_wp2_with fail
        go_meet
        exact ⟨by rw [hwy.out, show decide (1 ≤ rs) = false from decide_eq_false (by omega)]; rfl, rfl⟩
      by_cases g2 : rs ≤ 4
      case neg =>
        go_wp2_with fail
        go_meet
        exact ⟨by rw [hwy.out, show decide (rs ≤ 4) = false from decide_eq_false (by omega)]; simp, rfl⟩
      by_cases g3 : rs = 3
      · subst g3
        go_wp2_with fail
        go_meet
        exact ⟨by rw [hwy.out]; rfl, rfl⟩
      · go_wp2_with fail
        go_meet
        exact ⟨by rw [hwy.out, show decide (1 ≤ rs) = true from decide_eq_true (by omega), show decide (rs ≤ 4) = true from decide_eq_true (by omega), show (rs == 3) = false from beq_eq_false_iff_ne.2 g3]; rfl, rfl⟩
    case rest =>
      obtain ⟨rfl, rfl⟩ := hcut
      clear hwy s0 s1
      rcases (by omega : ph = 1 ∨ ph = 2 ∨ ph = 3 ∨ ph = 4 ∨ ph = 5 ∨ (ph < 1 ∨ 5 < ph)) with rfl | rfl | rfl | rfl | rfl | hp
      · have e1 := p1.out rfl
        clear p1 p2 p3 p5 p0
        have FF : Hid (∀ w', Below wc.heap.size wc w' → Calls Tryz.prog 76 #[.agg #[.int .i64 x.book, .int .i64 x.cust, .int .i64 x.dead, .int .i64 x.u0, .int .i64 x.u1, .int .i64 x.u2, .int .i64 x.price]] w' fun e w'' => (∃ A c, e = .returned (.slice A lf c)) ∧ Below wc.heap.size wc w'') := fun w' h => (RF.out w').mono fun _ _ ⟨A, c, h1, _, h2⟩ => ⟨⟨A, c, h1⟩, h.trans (h2.mono h.size)⟩
        have CC : Hid (∀ w', Below wc.heap.size wc w' → CellS w' w.heap.size ⟨x, 1, st, rs, si⟩) := fun w' h => (CB1.out w' h).1
        by_cases t0 : 0 ≤ st
        case neg =>
          have E : r = false := by rw [e1]; simp [*]
          subst E
          clear e1
          go_upto_region 6 with fail
          refine rm6a _ _ _ _ _ _ _ _ _ _ _ _ _ _ _ _ _ _ _ _ _ _ _ _ _ _ _ _ _ _ _ _ _ _ _ _ _ _ _ _ _ _ _ _ _ _ _ _ _ _ _ _ _ _ _ _ _ _ _ _ _ _ _ _ _ _ _ _ _ _ _ _ _ _ _ _ _ _ _ _ _ _ _ _ _ _ _ _ _ _ _ _ _ wc w.heap.size lf ⟨x, 1, st, rs, si⟩ CC FF t0 _ (fun _ _ d _ _ h => by cases d <;> exact h) (fun _ _ _ _ _ _ _ _ _ _ _ _ _ _ _ _ _ w6 h7 => ?_)
          replace h7 := Lib.hid h7
          go_wp2_with fail
          go_ret
          exact ⟨rfl, HB.out.trans (h7.out.mono HB.out.size)⟩
        by_cases t1 : st < (lf : Int)
        case neg =>
          have E : r = false := by rw [e1]; simp [*]
          subst E
          clear e1
          go_upto_region 6 with fail
          refine rm6b _ _ _ _ _ _ _ _ _ _ _ _ _ _ _ _ _ _ _ _ _ _ _ _ _ _ _ _ _ _ _ _ _ _ _ _ _ _ _ _ _ _ _ _ _ _ _ _ _ _ _ _ _ _ _ _ _ _ _ _ _ _ _ _ _ _ _ _ _ _ _ _ _ _ _ _ _ _ _ _ _ _ _ _ _ _ _ _ _ _ _ _ _ wc w.heap.size lf ⟨x, 1, st, rs, si⟩ CC FF t0 t1 _ (fun _ _ d _ _ h => by cases d <;> exact h) (fun _ _ _ _ _ _ _ _ _ _ _ _ _ _ _ _ _ w6 h7 => ?_)
          replace h7 := Lib.hid h7
          go_wp2_with fail
          go_ret
          exact ⟨rfl, HB.out.trans (h7.out.mono HB.out.size)⟩
        have e2 : (decide (0 ≤ st) && decide (st < (lf : Int)) && rs == 0) = (rs == 0) := by simp [*]
        rw [e2] at e1
        subst e1
        clear e2
        go_upto_region 6 with fail
        refine rm6c _ _ _ _ _ _ _ _ _ _ _ _ _ _ _ _ _ _ _ _ _ _ _ _ _ _ _ _ _ _ _ _ _ _ _ _ _ _ _ _ _ _ _ _ _ _ _ _ _ _ _ _ _ _ _ _ _ _ _ _ _ _ _ _ _ _ _ _ _ _ _ _ _ _ _ _ _ _ _ _ _ _ _ _ _ _ _ _ _ _ _ _ _ wc w.heap.size lf ⟨x, 1, st, rs, si⟩ CC FF t0 t1 _ (fun _ _ d _ _ h => by cases d <;> exact h) (fun _ _ _ _ _ _ _ _ _ _ _ _ _ _ _ _ _ w6 h7 => ?_)
        replace h7 := Lib.hid h7
        go_wp2_with fail
        go_ret
        exact ⟨rfl, HB.out.trans (h7.out.mono HB.out.size)⟩
      · have e1 := p2.out (.inl rfl)
        clear p1 p2 p3 p5 p0
        by_cases t0 : st = 0
        case neg =>
          have t1 : (st == 0) = false := beq_eq_false_iff_ne.2 t0
          have E : r = false := by rw [e1]; simp [*]
          subst E
          clear e1
          go_wp2_with fail
          go_ret
          exact ⟨rfl, HB.out⟩
        subst t0
        by_cases r0 : rs = 0
        · subst r0
          have E : r = true := by rw [e1]; simp [*]
          subst E
          clear e1
          go_wp2_with fail
          go_ret
          exact ⟨rfl, HB.out⟩
        · have r1 : (rs == 0) = false := beq_eq_false_iff_ne.2 r0
          have E : r = false := by rw [e1]; simp [*]
          subst E
          clear e1
          go_wp2_with fail
          go_ret
          exact ⟨rfl, HB.out⟩
      · have e1 := p3.out rfl
        clear p1 p2 p3 p5 p0
        have FB : Hid (∀ w', Below wc.heap.size wc w' → Calls Tryz.prog 77 #[.agg #[.int .i64 x.book, .int .i64 x.cust, .int .i64 x.dead, .int .i64 x.u0, .int .i64 x.u1, .int .i64 x.u2, .int .i64 x.price]] w' fun e w'' => (∃ A c, e = .returned (.slice A lb c)) ∧ Below wc.heap.size wc w'') := fun w' h => (RB.out w').mono fun _ _ ⟨A, c, h1, _, h2⟩ => ⟨⟨A, c, h1⟩, h.trans (h2.mono h.size)⟩
        have CC : Hid (∀ w', Below wc.heap.size wc w' → CellS w' w.heap.size ⟨x, 3, st, rs, si⟩) := fun w' h => (CB1.out w' h).1
        by_cases t0 : 0 ≤ st
        case neg =>
          have E : r = false := by rw [e1]; simp [*]
          subst E
          clear e1
          go_upto_region 11 with fail
          refine rm11a _ _ _ _ _ _ _ _ _ _ _ _ _ _ _ _ _ _ _ _ _ _ _ _ _ _ _ _ _ _ _ _ _ _ _ _ _ _ _ _ _ _ _ _ _ _ _ _ _ _ _ _ _ _ _ _ _ _ _ _ _ _ _ _ _ _ _ _ _ _ _ _ _ _ _ _ _ _ _ _ _ _ _ _ _ _ _ _ _ _ _ _ wc w.heap.size lb ⟨x, 3, st, rs, si⟩ wy CC FB t0 _ (fun _ _ d _ _ h => by cases d <;> exact h) (fun _ _ _ _ _ _ _ _ _ _ _ _ _ _ _ w6 h7 => ?_)
          replace h7 := Lib.hid h7
          go_wp2_with fail
          go_ret
          exact ⟨rfl, HB.out.trans (h7.out.mono HB.out.size)⟩
        by_cases t1 : st < (lb : Int)
        case neg =>
          have E : r = false := by rw [e1]; simp [*]
          subst E
          clear e1
          go_upto_region 11 with fail
          refine rm11b _ _ _ _ _ _ _ _ _ _ _ _ _ _ _ _ _ _ _ _ _ _ _ _ _ _ _ _ _ _ _ _ _ _ _ _ _ _ _ _ _ _ _ _ _ _ _ _ _ _ _ _ _ _ _ _ _ _ _ _ _ _ _ _ _ _ _ _ _ _ _ _ _ _ _ _ _ _ _ _ _ _ _ _ _ _ _ _ _ _ _ _ wc w.heap.size lb ⟨x, 3, st, rs, si⟩ wy CC FB t0 t1 _ (fun _ _ d _ _ h => by cases d <;> exact h) (fun _ _ _ _ _ _ _ _ _ _ _ _ _ _ _ w6 h7 => ?_)
          replace h7 := Lib.hid h7
          go_wp2_with fail
          go_ret
          exact ⟨rfl, HB.out.trans (h7.out.mono HB.out.size)⟩
        have e2 : (decide (0 ≤ st) && decide (st < (lb : Int)) && wy) = wy := by simp [*]
        rw [e2] at e1
        subst e1
        clear e2
        go_upto_region 11 with fail
        refine rm11c _ _ _ _ _ _ _ _ _ _ _ _ _ _ _ _ _ _ _ _ _ _ _ _ _ _ _ _ _ _ _ _ _ _ _ _ _ _ _ _ _ _ _ _ _ _ _ _ _ _ _ _ _ _ _ _ _ _ _ _ _ _ _ _ _ _ _ _ _ _ _ _ _ _ _ _ _ _ _ _ _ _ _ _ _ _ _ _ _ _ _ _ wc w.heap.size lb ⟨x, 3, st, rs, si⟩ r CC FB t0 t1 _ (fun _ _ d _ _ h => by cases d <;> exact h) (fun _ _ _ _ _ _ _ _ _ _ _ _ _ _ _ w6 h7 => ?_)
        replace h7 := Lib.hid h7
        go_wp2_with fail
        go_ret
        exact ⟨rfl, HB.out.trans (h7.out.mono HB.out.size)⟩
      · have e1 := p2.out (.inr rfl)
        clear p1 p2 p3 p5 p0
        by_cases t0 : st = 0
        case neg =>
          have t1 : (st == 0) = false := beq_eq_false_iff_ne.2 t0
          have E : r = false := by rw [e1]; simp [*]
          subst E
          clear e1
          go_wp2_with fail
          go_ret
          exact ⟨rfl, HB.out⟩
        subst t0
        by_cases r0 : rs = 0
        · subst r0
          have E : r = true := by rw [e1]; simp [*]
          subst E
          clear e1
          go_wp2_with fail
          go_ret
          exact ⟨rfl, HB.out⟩
        · have r1 : (rs == 0) = false := beq_eq_false_iff_ne.2 r0
          have E : r = false := by rw [e1]; simp [*]
          subst E
          clear e1
          go_wp2_with fail
          go_ret
          exact ⟨rfl, HB.out⟩
      · have e1 := p5.out rfl
        clear p1 p2 p3 p5 p0
        by_cases t0 : st = 0
        case neg =>
          have t1 : (st == 0) = false := beq_eq_false_iff_ne.2 t0
          have E : r = false := by rw [e1]; simp [*]
          subst E
          clear e1
          go_wp2_with fail
          go_ret
          exact ⟨rfl, HB.out⟩
        subst t0
        cases wy with
        | false =>
          have E : r = false := by rw [e1]; simp [*]
          subst E
          clear e1
          go_wp2_with fail
          go_ret
          exact ⟨rfl, HB.out⟩
        | true =>
          have E : r = true := by rw [e1]; simp [*]
          subst E
          clear e1
          go_wp2_with fail
          go_ret
          exact ⟨rfl, HB.out⟩
      · have e1 := p0.out hp
        clear p1 p2 p3 p5 p0
        have g1 : (ph == 1) = false := beq_eq_false_iff_ne.2 (by omega)
        have g2 : (ph == 2) = false := beq_eq_false_iff_ne.2 (by omega)
        have g3 : (ph == 3) = false := beq_eq_false_iff_ne.2 (by omega)
        have g4 : (ph == 4) = false := beq_eq_false_iff_ne.2 (by omega)
        have g5 : (ph == 5) = false := beq_eq_false_iff_ne.2 (by omega)
        subst e1
        go_wp2_with fail
        go_ret
        exact ⟨rfl, HB.out⟩
end Sg
end Go.Proofs.YtpkdigegkemogaaGreatDoor
namespace Go.Proofs.YtpkdigegkemogaaGreatDoor
set_option maxRecDepth 100000
open Go.RowKit
open Go.Proofs.YtpkdigegkemogaaGreatDoor.Pk (one_at one_free one_set lt_some grown_set grown_trans grown_refl)
namespace Sg
open Wt (Wan may Opn mayOp may_any refmay_any below_drewN inR)
open Pl (Stp fwd bck cap z0 wanv spv RowT rt_form rt_mono rt_cell At rfwd_any rbck_any fwd_any bck_any cap_any regionAt one6 wpList_store_row setRow_below)

theorem smay_true {s : Sag} (h : smay s = true) : may s.w = true ∧ (0 ≤ s.si ∧ s.si ≤ 1099511627776) ∧ ((s.ph = 1 ∧ 0 ≤ s.st ∧ s.st < nF s ∧ s.rs = 0) ∨ (s.ph = 2 ∧ s.st = 0 ∧ s.rs = 0) ∨ (s.ph = 3 ∧ 0 ≤ s.st ∧ s.st < nB s ∧ why s = true) ∨ (s.ph = 4 ∧ s.st = 0 ∧ s.rs = 0) ∨ (s.ph = 5 ∧ s.st = 0 ∧ why s = true)) := by
  unfold smay at h
  simp only [Bool.and_eq_true] at h
  obtain ⟨⟨h1, h2⟩, h3⟩ := h
  have h2' := of_decide_eq_true h2
  refine ⟨h1, ⟨h2'.1, h2'.2⟩, ?_⟩
  rcases (by omega : s.ph = 1 ∨ s.ph = 2 ∨ s.ph = 3 ∨ s.ph = 4 ∨ s.ph = 5 ∨ (s.ph < 1 ∨ 5 < s.ph)) with hp | hp | hp | hp | hp | hp
  · rw [phs_1 hp] at h3
    simp only [Bool.and_eq_true, decide_eq_true_iff, beq_iff_eq] at h3
    exact .inl ⟨hp, h3.1.1, h3.1.2, h3.2⟩
  · rw [phs_2 (.inl hp)] at h3
    simp only [Bool.and_eq_true, beq_iff_eq] at h3
    exact .inr (.inl ⟨hp, h3.1, h3.2⟩)
  · rw [phs_3 hp] at h3
    simp only [Bool.and_eq_true, decide_eq_true_iff] at h3
    exact .inr (.inr (.inl ⟨hp, h3.1.1, h3.1.2, h3.2⟩))
  · rw [phs_2 (.inr hp)] at h3
    simp only [Bool.and_eq_true, beq_iff_eq] at h3
    exact .inr (.inr (.inr (.inl ⟨hp, h3.1, h3.2⟩)))
  · rw [phs_5 hp] at h3
    simp only [Bool.and_eq_true, beq_iff_eq] at h3
    exact .inr (.inr (.inr (.inr ⟨hp, h3.1, h3.2⟩)))
  · rw [phs_0 hp] at h3
    cases h3
theorem snext_no {s : Sag} (h : smay s = false) : snext s = (z0, false) := by unfold snext; rw [if_neg (by rw [h]; decide)]
theorem snext_1 {s : Sag} (h : smay s = true) (hp : s.ph = 1) : snext s = (atF s, true) := by unfold snext; rw [if_pos h, if_pos hp]
theorem snext_2 {s : Sag} (h : smay s = true) (hp : s.ph = 2) : snext s = (cap s.w, true) := by unfold snext; rw [if_pos h, if_neg (by omega), if_pos hp]
theorem snext_3 {s : Sag} (h : smay s = true) (hp : s.ph = 3) : snext s = (atB s, true) := by unfold snext; rw [if_pos h, if_neg (by omega), if_neg (by omega), if_pos hp]
theorem snext_4 {s : Sag} (h : smay s = true) (hp : s.ph = 4 ∨ s.ph = 5) : snext s = (z0, false) := by unfold snext; rw [if_pos h, if_neg (by omega), if_neg (by omega), if_neg (by omega)]
theorem at_F {s : Sag} (h0 : 0 ≤ s.st) (h1 : s.st < nF s) : (fwd s.w)[s.st.toNat]? = some (atF s) := by
  unfold nF at h1
  unfold atF
  rw [List.getElem?_eq_getElem (by omega)]
  rfl
theorem at_B {s : Sag} (h0 : 0 ≤ s.st) (h1 : s.st < nB s) : (bck s.w)[s.st.toNat]? = some (atB s) := by
  unfold nB at h1
  unfold atB
  rw [List.getElem?_eq_getElem (by omega)]
  rfl
end Sg
end Go.Proofs.YtpkdigegkemogaaGreatDoor
namespace Go.Proofs.YtpkdigegkemogaaGreatDoor
open Go.RowKit
open Go.Proofs.YtpkdigegkemogaaGreatDoor.Pk
namespace Sb
open Go.Proofs.YtpkdigegkemogaaGreatDoor.Sg
open Wt (Wan may inR wz raw may_I I cat cat_app cat_cons cat_len)

def szs (s : Sag) : List Int := wz s.w ++ [s.ph, s.st, s.rs, s.si]
def sput (s : Sag) : List UInt8 := cat (szs s)
theorem szs_len (s : Sag) : (szs s).length = 11 := rfl
theorem sput_eq (s : Sag) : sput s = raw s.w ++ cat [s.ph, s.st, s.rs, s.si] := cat_app _ _
theorem tail_in {s : Sag} (h : smay s = true) : (0 ≤ s.ph ∧ s.ph ≤ 5) ∧ (0 ≤ s.st ∧ s.st ≤ 7) ∧ (0 ≤ s.rs ∧ s.rs ≤ 4) ∧ 0 ≤ s.si ∧ s.si ≤ 1099511627776 := by
  obtain ⟨-, h2, hc⟩ := smay_true h
  have l1 := Pl.fwd_len s.w
  have l2 := Pl.bck_len s.w
  unfold nF nB at hc
  have hw : why s = true → 0 ≤ s.rs ∧ s.rs ≤ 4 := fun h => by
    unfold why at h
    simp only [Bool.and_eq_true, decide_eq_true_iff] at h
    omega
  rcases hc with ⟨hp, h0, h1, hr⟩ | ⟨hp, h0, hr⟩ | ⟨hp, h0, h1, hr⟩ | ⟨hp, h0, hr⟩ | ⟨hp, h0, hr⟩
  · omega
  · omega
  · have := hw hr; omega
  · omega
  · have := hw hr; omega
theorem szs_I {s : Sag} (h : smay s = true) : ∀ z ∈ szs s, I z := by
  intro z hz
  have ht := tail_in h
  unfold szs at hz
  rcases List.mem_append.1 hz with hz | hz
  · exact may_I (smay_true h).1 z hz
  · simp only [List.mem_cons, List.not_mem_nil, or_false] at hz
    unfold I
    rcases hz with rfl | rfl | rfl | rfl <;> omega
theorem sput_len {s : Sag} (h : smay s = true) : (sput s).length ≤ 110 := by
  have := cat_len (szs s) (szs_I h)
  rw [szs_len] at this
  exact this
end Sb
end Go.Proofs.YtpkdigegkemogaaGreatDoor
namespace Go.Proofs.YtpkdigegkemogaaGreatDoor
set_option maxRecDepth 100000
open Go.RowKit
namespace Sg
open Wt (Wan may Opn mayOp)
open Pl (Stp spv)

theorem eq_op9 (w : World) (x y : Opn) : (Op.equalIn 9999 34 (.agg #[.int .i64 x.kind, .int .i64 x.book, .int .i64 x.units, .int .i64 x.cust, .int .i64 x.amount]) (.agg #[.int .i64 y.kind, .int .i64 y.book, .int .i64 y.units, .int .i64 y.cust, .int .i64 y.amount])).run Tryz.prog w = .ok (decide (x = y)) w := by
  have u3 := Tryz.underlying3
  have a3 := Tryz.isAgg3
  have z3 := Tryz.sizeOf3
  have u2 := Tryz.underlying2
  have a2 := Tryz.isAgg2
  have z2 := Tryz.sizeOf2
  have hS : Tryz.prog.underlying 34 = some (.struct (Tryz.prog.fieldsOf 34)) := by kernel_rfl
  rw [show (9999 : Nat) = 9998 + 1 from rfl, run_equalIn_agg w 9998 34 _ _ hS Tryz.stoodInHeld34]
  simp only [Program.fieldsOf, Tryz.underlying34]
  go_simp
  obtain ⟨a, b, c, d, e⟩ := x
  obtain ⟨a', b', c', d', e'⟩ := y
  simp only [Opn.mk.injEq]
  by_cases h1 : a = a' <;> by_cases h2 : b = b' <;> by_cases h3 : c = c' <;> by_cases h4 : d = d' <;> by_cases h5 : e = e' <;> simp [h1, h2, h3, h4, h5]
theorem eq_pask (w : World) (x y : Stp) : (Op.equalIn 10000 181 (spv x) (spv y)).run Tryz.prog w = .ok (decide (x = y)) w := by
  have u3 := Tryz.underlying3
  have a3 := Tryz.isAgg3
  have z3 := Tryz.sizeOf3
  have aO := Tryz.isAgg34
  have zO := Tryz.sizeOf34
  have EO := eq_op9
  have hS : Tryz.prog.underlying 181 = some (.struct (Tryz.prog.fieldsOf 181)) := by kernel_rfl
  unfold spv
  rw [show (10000 : Nat) = 9999 + 1 from rfl, run_equalIn_agg w 9999 181 _ _ hS Tryz.stoodInHeld181]
  simp only [Program.fieldsOf, Tryz.underlying181]
  go_simp
  obtain ⟨n, o⟩ := x
  obtain ⟨n', o'⟩ := y
  simp only [Stp.mk.injEq]
  by_cases h1 : n = n' <;> by_cases h2 : o = o' <;> simp [h1, h2]
theorem eq_arr8 (w : World) (a b c x y z : Int) : (Op.equalIn 9998 53 (.agg #[.int .i64 a, .int .i64 b, .int .i64 c]) (.agg #[.int .i64 x, .int .i64 y, .int .i64 z])).run Tryz.prog w = .ok (a == x && (b == y && c == z)) w := by
  have u3 := Tryz.underlying3
  have a3 := Tryz.isAgg3
  have z3 := Tryz.sizeOf3
  rw [show (9998 : Nat) = 9997 + 1 from rfl, Op.equalIn]
  simp only [Sem.run_bind, run_underlying Tryz.underlying53, Result.andThen_ok]
  simp only [Std.Legacy.Range.forIn_eq_forIn_range', Std.Legacy.Range.size, Nat.sub_zero, Nat.add_sub_cancel, Nat.div_one, List.range'_succ, List.range'_zero, List.forIn_cons, List.forIn_nil]
  go_simp
  by_cases h1 : a = x <;> by_cases h2 : b = y <;> by_cases h3 : c = z <;> simp [h1, h2, h3]
theorem eq_wan9 (w : World) (x y : Wan) : (Op.equalIn 9999 55 (.agg #[.int .i64 x.book, .int .i64 x.cust, .int .i64 x.dead, .int .i64 x.u0, .int .i64 x.u1, .int .i64 x.u2, .int .i64 x.price]) (.agg #[.int .i64 y.book, .int .i64 y.cust, .int .i64 y.dead, .int .i64 y.u0, .int .i64 y.u1, .int .i64 y.u2, .int .i64 y.price])).run Tryz.prog w = .ok (decide (x = y)) w := by
  have q22 := eq_arr8
  have u3 := Tryz.underlying3
  have a3 := Tryz.isAgg3
  have z3 := Tryz.sizeOf3
  have u2 := Tryz.underlying2
  have a2 := Tryz.isAgg2
  have z2 := Tryz.sizeOf2
  have a22 := Tryz.isAgg53
  have z22 := Tryz.sizeOf53
  have hS : Tryz.prog.underlying 55 = some (.struct (Tryz.prog.fieldsOf 55)) := by kernel_rfl
  rw [show (9999 : Nat) = 9998 + 1 from rfl, run_equalIn_agg w 9998 55 _ _ hS Tryz.stoodInHeld55]
  simp only [Program.fieldsOf, Tryz.underlying55]
  go_simp
  obtain ⟨a, b, c, d, e, f, g⟩ := x
  obtain ⟨a', b', c', d', e', f', g'⟩ := y
  simp only [Wan.mk.injEq]
  by_cases h1 : a = a' <;> by_cases h2 : b = b' <;> by_cases h3 : c = c' <;> by_cases h4 : d = d' <;> by_cases h5 : e = e' <;> by_cases h6 : f = f' <;> by_cases h7 : g = g' <;> simp [h1, h2, h3, h4, h5, h6, h7]
theorem eq_sag (w : World) (s t : Sag) : (Op.equalIn 10000 57 (sgv s) (sgv t)).run Tryz.prog w = .ok (decide (s = t)) w := by
  have u3 := Tryz.underlying3
  have a3 := Tryz.isAgg3
  have z3 := Tryz.sizeOf3
  have aW := Tryz.isAgg55
  have zW := Tryz.sizeOf55
  have EW := eq_wan9
  have hS : Tryz.prog.underlying 57 = some (.struct (Tryz.prog.fieldsOf 57)) := by kernel_rfl
  unfold sgv sgc
  rw [show (10000 : Nat) = 9999 + 1 from rfl, run_equalIn_agg w 9999 57 _ _ hS Tryz.stoodInHeld57]
  simp only [Program.fieldsOf, Tryz.underlying57]
  go_simp
  obtain ⟨x, a, b, c, d⟩ := s
  obtain ⟨x', a', b', c', d'⟩ := t
  simp only [Sag.mk.injEq]
  by_cases h0 : x = x' <;> by_cases h1 : a = a' <;> by_cases h2 : b = b' <;> by_cases h3 : c = c' <;> by_cases h4 : d = d' <;> simp [h0, h1, h2, h3, h4]
end Sg
end Go.Proofs.YtpkdigegkemogaaGreatDoor
