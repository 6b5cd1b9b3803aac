/- The document's back, Cancel, Late, Tells, New of a saga. -/
import Derived.Test.YtakicogelkdofaaDoorSgC
namespace Go.Proofs.YtakicogelkdofaaDoor
set_option maxRecDepth 100000
open Go.RowKit
open Go.Proofs.YtakicogelkdofaaDoor.Pk (one_at one_free one_set lt_some grown_set grown_trans below_grown grown_refl)
namespace Sg
open Wt (Wan may Opn mayOp may_any refmay_any below_drewN inR)
open Pl (Stp fwd bck cap z0 wanv spv BoxW regionAt wpList_store_row setRow_below below_of_grown)

theorem rback_results : Tryd.f46.results = #[.cell 4 26, .tmp 5] := by kernel_rfl
set_option maxHeartbeats 3200000 in
theorem rback_any (w : World) (s : Sag) (r : Int) : Calls Tryd.prog 46 #[sgv s, .int .i64 r] w fun e w' => e = .returned (.tuple #[sgv (sback s r), .bool true]) ∧ Below w.heap.size w w' := by
  have Z0 : Hid (((w.alloc (.cells #[.int .i64 s.w.book, .int .i64 s.w.cust, .int .i64 s.w.dead, .int .i64 s.w.u0, .int .i64 s.w.u1, .int .i64 s.w.u2, .int .i64 s.w.price, .int .i64 s.ph, .int .i64 s.st, .int .i64 s.rs, .int .i64 s.si] 26)).alloc (.cells #[.int .i64 0, .int .i64 0, .int .i64 0, .int .i64 0, .int .i64 0, .int .i64 0, .int .i64 0, .int .i64 0, .int .i64 0, .int .i64 0, .int .i64 0] 26)).heap[w.heap.size + 1]? = some (.cells #[.int .i64 0, .int .i64 0, .int .i64 0, .int .i64 0, .int .i64 0, .int .i64 0, .int .i64 0, .int .i64 0, .int .i64 0, .int .i64 0, .int .i64 0] 26 (0, 0))) := by
    have := heap_alloc_new (w.alloc (.cells #[.int .i64 s.w.book, .int .i64 s.w.cust, .int .i64 s.w.dead, .int .i64 s.w.u0, .int .i64 s.w.u1, .int .i64 s.w.u2, .int .i64 s.w.price, .int .i64 s.ph, .int .i64 s.st, .int .i64 s.rs, .int .i64 s.si] 26)) (.cells #[.int .i64 0, .int .i64 0, .int .i64 0, .int .i64 0, .int .i64 0, .int .i64 0, .int .i64 0, .int .i64 0, .int .i64 0, .int .i64 0, .int .i64 0] 26)
    rwa [show (w.alloc (.cells #[.int .i64 s.w.book, .int .i64 s.w.cust, .int .i64 s.w.dead, .int .i64 s.w.u0, .int .i64 s.w.u1, .int .i64 s.w.u2, .int .i64 s.w.price, .int .i64 s.ph, .int .i64 s.st, .int .i64 s.rs, .int .i64 s.si] 26)).heap.size = w.heap.size + 1 by simp] at this
  unfold sgv sgc sback
  go_enter Tryd.func46, Tryd.ntmps46
  go_wp2_with fail
  refine bodyPost_ret (res_row rback_results _ _ (w.heap.size + 1) 26 #[.int .i64 s.w.book, .int .i64 s.w.cust, .int .i64 s.w.dead, .int .i64 s.w.u0, .int .i64 s.w.u1, .int .i64 s.w.u2, .int .i64 s.w.price, .int .i64 3, .int .i64 0, .int .i64 r, .int .i64 s.si] (0, 0) _ rfl (by
    have := heap_alloc_new (w.alloc (.cells #[.int .i64 s.w.book, .int .i64 s.w.cust, .int .i64 s.w.dead, .int .i64 s.w.u0, .int .i64 s.w.u1, .int .i64 s.w.u2, .int .i64 s.w.price, .int .i64 3, .int .i64 0, .int .i64 r, .int .i64 s.si] 26)) (.cells #[.int .i64 s.w.book, .int .i64 s.w.cust, .int .i64 s.w.dead, .int .i64 s.w.u0, .int .i64 s.w.u1, .int .i64 s.w.u2, .int .i64 s.w.price, .int .i64 3, .int .i64 0, .int .i64 r, .int .i64 s.si] 26)
    rwa [show (w.alloc (.cells #[.int .i64 s.w.book, .int .i64 s.w.cust, .int .i64 s.w.dead, .int .i64 s.w.u0, .int .i64 s.w.u1, .int .i64 s.w.u2, .int .i64 s.w.price, .int .i64 3, .int .i64 0, .int .i64 r, .int .i64 s.si] 26)).heap.size = w.heap.size + 1 by simp] at this) Tryd.underlying26 rfl sag_size) rfl ?_
  exact ⟨rfl, ((Below.refl _ w).alloc (Nat.le_refl _) _).alloc (by simp) _⟩
theorem rcan_results : Tryd.f21.results = #[.cell 2 26, .tmp 3] := by kernel_rfl
set_option maxHeartbeats 6400000 in
theorem rcan_any (w : World) (s : Sag) : Calls Tryd.prog 21 #[sgv s] w fun e w' => e = .returned (.tuple #[sgv (scan s).1, .bool (scan s).2]) ∧ Below w.heap.size w w' := by
  obtain ⟨W0, hW0⟩ : ∃ W0, W0 = (w.alloc (.cells #[.int .i64 s.w.book, .int .i64 s.w.cust, .int .i64 s.w.dead, .int .i64 s.w.u0, .int .i64 s.w.u1, .int .i64 s.w.u2, .int .i64 s.w.price, .int .i64 s.ph, .int .i64 s.st, .int .i64 s.rs, .int .i64 s.si] 26)).alloc (.cells #[.int .i64 0, .int .i64 0, .int .i64 0, .int .i64 0, .int .i64 0, .int .i64 0, .int .i64 0, .int .i64 0, .int .i64 0, .int .i64 0, .int .i64 0] 26) := ⟨_, rfl⟩
  have B0 : BoxS W0 w.heap.size s := by rw [hW0]; exact heap_alloc2_old _ _ _
  have Z0 : W0.heap[w.heap.size + 1]? = some (.cells #[.int .i64 0, .int .i64 0, .int .i64 0, .int .i64 0, .int .i64 0, .int .i64 0, .int .i64 0, .int .i64 0, .int .i64 0, .int .i64 0, .int .i64 0] 26 (0, 0)) := by
    have := heap_alloc_new (w.alloc (.cells #[.int .i64 s.w.book, .int .i64 s.w.cust, .int .i64 s.w.dead, .int .i64 s.w.u0, .int .i64 s.w.u1, .int .i64 s.w.u2, .int .i64 s.w.price, .int .i64 s.ph, .int .i64 s.st, .int .i64 s.rs, .int .i64 s.si] 26)) (.cells #[.int .i64 0, .int .i64 0, .int .i64 0, .int .i64 0, .int .i64 0, .int .i64 0, .int .i64 0, .int .i64 0, .int .i64 0, .int .i64 0, .int .i64 0] 26)
    rw [show (w.alloc (.cells #[.int .i64 s.w.book, .int .i64 s.w.cust, .int .i64 s.w.dead, .int .i64 s.w.u0, .int .i64 s.w.u1, .int .i64 s.w.u2, .int .i64 s.w.price, .int .i64 s.ph, .int .i64 s.st, .int .i64 s.rs, .int .i64 s.si] 26)).heap.size = w.heap.size + 1 by simp] at this
    rw [hW0]
    exact this
  have be0 : Below w.heap.size w W0 := by rw [hW0]; exact ((Below.refl _ w).alloc (Nat.le_refl _) _).alloc (by simp) _
  have M := Lib.hid (rsmay_any W0 s)
  have s0 : w.heap.size + 1 < W0.heap.size := lt_some Z0
  unfold sgv sgc at *
  replace hW0 := Lib.hid hW0
  go_enter Tryd.func21, Tryd.ntmps21
  go_wp2_with fail
  rw [← hW0.out]
  refine M.out.mono ?_
  rintro e w1 ⟨rfl, h1⟩
  have B1 := B0.below h1 B0.lt
  have Z1 := Lib.hid ((h1.block _ s0).trans Z0)
  have b1 : Hid (Below w.heap.size w w1) := be0.trans (h1.mono be0.size)
  have s1 : w.heap.size + 1 < w1.heap.size := lt_some Z1.out
  obtain ⟨c0, c1, c2, c3, c4, c5, c6, c7, c8, c9, ca⟩ := B1.cells
  have hwl : w.heap.size < w1.heap.size := by omega
  clear M h1 B0 Z0 be0 hW0 s0 B1
  by_cases h : smay s = true ∧ s.ph = 1
  · have EE : Hid (scan s = (sback s 4, true)) := by unfold Hid scan; rw [if_pos h]
    rw [h.2] at c7
    rw [h.1]
    have K := rback_any w1 s 4
    unfold sgv sgc at K
    rw [h.2] at K
    replace K := Lib.hid K
    clear h
    go_wp2_with fail
    refine K.out.mono ?_
    rintro e w3 ⟨rfl, h3⟩
    have Z3 := Lib.hid ((h3.block _ s1).trans Z1.out)
    have b3 : Hid (Below w.heap.size w w3) := b1.out.trans (h3.mono b1.out.size)
    clear K h3 c0 c1 c2 c3 c4 c5 c6 c7 c8 c9 ca
    go_wp2_with (refine wpList_store_row rfl 26 (.tmp 2) (.tmp 15) rfl (w.heap.size + 1) (sgc (sback s 4)) rfl rfl 26 _ Z3.out sag_size rfl (one11 (sback s 4)) ?_)
    refine bodyPost_ret (res_row rcan_results _ _ (w.heap.size + 1) 26 (sgc (sback s 4)) (0, 0) _ rfl (setRow_heap _ _ _ _ _ _ Z3.out) Tryd.underlying26 rfl sag_size) rfl ?_
    exact ⟨by rw [EE.out]; rfl, b3.out.trans (setRow_below _ (Nat.le_succ _))⟩
  · have EE : Hid (scan s = (s, false)) := by unfold Hid scan; rw [if_neg h]
    cases hm : smay s with
    | false =>
      clear h hm
      go_wp2_with (refine wpList_store_row rfl 26 (.tmp 2) (.tmp 12) rfl (w.heap.size + 1) #[.int .i64 s.w.book, .int .i64 s.w.cust, .int .i64 s.w.dead, .int .i64 s.w.u0, .int .i64 s.w.u1, .int .i64 s.w.u2, .int .i64 s.w.price, .int .i64 s.ph, .int .i64 s.st, .int .i64 s.rs, .int .i64 s.si] rfl rfl 26 _ Z1.out sag_size rfl (one11 s) ?_)
      refine bodyPost_ret (res_row rcan_results _ _ (w.heap.size + 1) 26 #[.int .i64 s.w.book, .int .i64 s.w.cust, .int .i64 s.w.dead, .int .i64 s.w.u0, .int .i64 s.w.u1, .int .i64 s.w.u2, .int .i64 s.w.price, .int .i64 s.ph, .int .i64 s.st, .int .i64 s.rs, .int .i64 s.si] (0, 0) _ rfl (setRow_heap _ _ _ _ _ _ Z1.out) Tryd.underlying26 rfl sag_size) rfl ?_
      exact ⟨by rw [EE.out]; rfl, b1.out.trans (setRow_below _ (Nat.le_succ _))⟩
    | true =>
      have g1 : (s.ph == 1) = false := beq_eq_false_iff_ne.2 fun e => h ⟨hm, e⟩
      clear h hm
      go_wp2_with (refine wpList_store_row rfl 26 (.tmp 2) (.tmp 12) rfl (w.heap.size + 1) #[.int .i64 s.w.book, .int .i64 s.w.cust, .int .i64 s.w.dead, .int .i64 s.w.u0, .int .i64 s.w.u1, .int .i64 s.w.u2, .int .i64 s.w.price, .int .i64 s.ph, .int .i64 s.st, .int .i64 s.rs, .int .i64 s.si] rfl rfl 26 _ Z1.out sag_size rfl (one11 s) ?_)
      refine bodyPost_ret (res_row rcan_results _ _ (w.heap.size + 1) 26 #[.int .i64 s.w.book, .int .i64 s.w.cust, .int .i64 s.w.dead, .int .i64 s.w.u0, .int .i64 s.w.u1, .int .i64 s.w.u2, .int .i64 s.w.price, .int .i64 s.ph, .int .i64 s.st, .int .i64 s.rs, .int .i64 s.si] (0, 0) _ rfl (setRow_heap _ _ _ _ _ _ Z1.out) Tryd.underlying26 rfl sag_size) rfl ?_
      exact ⟨by rw [EE.out]; rfl, b1.out.trans (setRow_below _ (Nat.le_succ _))⟩
theorem rlate_results : Tryd.f23.results = #[.cell 4 26, .tmp 5] := by kernel_rfl
set_option maxHeartbeats 6400000 in
theorem rlate_any (w : World) (s : Sag) (now : Int) : Calls Tryd.prog 23 #[sgv s, .int .i64 now] w fun e w' => e = .returned (.tuple #[sgv (slate s now).1, .bool (slate s now).2]) ∧ Below w.heap.size w w' := by
  have IN : smay s = true → 0 ≤ s.si ∧ s.si ≤ 1099511627776 ∧ 0 ≤ s.w.dead ∧ s.w.dead ≤ 1099511627776 := fun h => by
    obtain ⟨h1, h2, -⟩ := smay_true h
    have h3 := h1
    simp only [may, Bool.and_eq_true] at h3
    have h4 := of_decide_eq_true h3.1.1.2
    exact ⟨h2.1, h2.2, h4.1, h4.2⟩
  have LY : smay s = true ∧ s.ph = 1 ∧ 0 < s.w.dead ∧ now ≤ 1099511627776 ∧ s.si + s.w.dead ≤ now → slate s now = (sback s 3, true) := fun h => by unfold slate; rw [if_pos h]
  have LN : ¬ (smay s = true ∧ s.ph = 1 ∧ 0 < s.w.dead ∧ now ≤ 1099511627776 ∧ s.si + s.w.dead ≤ now) → slate s now = (s, false) := fun h => by unfold slate; rw [if_neg h]
  have MY := rsmay_any
  obtain ⟨W0, hW0⟩ : ∃ W0, W0 = (w.alloc (.cells #[.int .i64 s.w.book, .int .i64 s.w.cust, .int .i64 s.w.dead, .int .i64 s.w.u0, .int .i64 s.w.u1, .int .i64 s.w.u2, .int .i64 s.w.price, .int .i64 s.ph, .int .i64 s.st, .int .i64 s.rs, .int .i64 s.si] 26)).alloc (.cells #[.int .i64 0, .int .i64 0, .int .i64 0, .int .i64 0, .int .i64 0, .int .i64 0, .int .i64 0, .int .i64 0, .int .i64 0, .int .i64 0, .int .i64 0] 26) := ⟨_, rfl⟩
  have B0 : BoxS W0 w.heap.size s := by rw [hW0]; exact heap_alloc2_old _ _ _
  have Z0 : W0.heap[w.heap.size + 1]? = some (.cells #[.int .i64 0, .int .i64 0, .int .i64 0, .int .i64 0, .int .i64 0, .int .i64 0, .int .i64 0, .int .i64 0, .int .i64 0, .int .i64 0, .int .i64 0] 26 (0, 0)) := by
    have := heap_alloc_new (w.alloc (.cells #[.int .i64 s.w.book, .int .i64 s.w.cust, .int .i64 s.w.dead, .int .i64 s.w.u0, .int .i64 s.w.u1, .int .i64 s.w.u2, .int .i64 s.w.price, .int .i64 s.ph, .int .i64 s.st, .int .i64 s.rs, .int .i64 s.si] 26)) (.cells #[.int .i64 0, .int .i64 0, .int .i64 0, .int .i64 0, .int .i64 0, .int .i64 0, .int .i64 0, .int .i64 0, .int .i64 0, .int .i64 0, .int .i64 0] 26)
    rw [show (w.alloc (.cells #[.int .i64 s.w.book, .int .i64 s.w.cust, .int .i64 s.w.dead, .int .i64 s.w.u0, .int .i64 s.w.u1, .int .i64 s.w.u2, .int .i64 s.w.price, .int .i64 s.ph, .int .i64 s.st, .int .i64 s.rs, .int .i64 s.si] 26)).heap.size = w.heap.size + 1 by simp] at this
    rw [hW0]
    exact this
  have be0 : Below w.heap.size w W0 := by rw [hW0]; exact ((Below.refl _ w).alloc (Nat.le_refl _) _).alloc (by simp) _
  have M := rsmay_any W0 s
  have RB : Hid (∀ w', Calls Tryd.prog 46 #[sgv s, .int .i64 3] w' fun e w'' => e = .returned (.tuple #[sgv (sback s 3), .bool true]) ∧ Below w'.heap.size w' w'') := fun w' => rback_any w' s 3
  clear MY
  generalize slate s now = y at *
  generalize smay s = m at *
  have s0 : w.heap.size + 1 < W0.heap.size := lt_some Z0
  have B0' : Hid (∀ w', Below W0.heap.size W0 w' → CellS w' w.heap.size s) := fun w' h => (B0.below h B0.lt).cells
  obtain ⟨⟨bk, cu, de, u0, u1, u2, pr⟩, ph, st, rs, si⟩ := s
  unfold sgv sgc at *
  unfold sback at *
  simp only at *
  replace hW0 := Lib.hid hW0
  replace IN := Lib.hid IN
  replace LY := Lib.hid LY
  replace LN := Lib.hid LN
  replace M := Lib.hid M
  go_enter Tryd.func23, Tryd.ntmps23
  go_wp2_with fail
  rw [← hW0.out]
  refine M.out.mono ?_
  rintro e w1 ⟨rfl, h1⟩
  have Z1 := Lib.hid ((h1.block _ s0).trans Z0)
  have b1 : Hid (Below w.heap.size w w1) := be0.trans (h1.mono be0.size)
  have s1 : w.heap.size + 1 < w1.heap.size := lt_some Z1.out
  obtain ⟨c0, c1, c2, c3, c4, c5, c6, c7, c8, c9, ca⟩ := B0'.out _ h1
  simp only at c0 c1 c2 c3 c4 c5 c6 c7 c8 c9 ca
  have hwl : w.heap.size < w1.heap.size := by omega
  clear M h1 B0 B0' Z0 be0 hW0 s0
  cases m with
  | false =>
    have EE := LN.out (by simp)
    replace EE := Lib.hid EE
    clear LY LN IN RB
    go_wp2_with (refine wpList_store_row rfl 26 (.tmp 4) (.tmp 40) rfl (w.heap.size + 1) _ rfl rfl 26 _ Z1.out sag_size rfl (by simp [Value.oneCell']) ?_)
    refine bodyPost_ret (res_row rlate_results _ _ (w.heap.size + 1) 26 _ (0, 0) _ rfl (setRow_heap _ _ _ _ _ _ Z1.out) Tryd.underlying26 rfl sag_size) rfl ?_
    exact ⟨by rw [EE.out]; rfl, b1.out.trans (setRow_below _ (Nat.le_succ _))⟩
  | true =>
    obtain ⟨i1, i2, i3, i4⟩ := IN.out rfl
    by_cases hp : ph = 1
    case neg =>
      have EE := LN.out (by simp [hp])
      have g1 : (ph == 1) = false := beq_eq_false_iff_ne.2 hp
      replace EE := Lib.hid EE
      clear LY LN IN RB
      go_wp2_with (refine wpList_store_row rfl 26 (.tmp 4) (.tmp 40) rfl (w.heap.size + 1) _ rfl rfl 26 _ Z1.out sag_size rfl (by simp [Value.oneCell']) ?_)
      refine bodyPost_ret (res_row rlate_results _ _ (w.heap.size + 1) 26 _ (0, 0) _ rfl (setRow_heap _ _ _ _ _ _ Z1.out) Tryd.underlying26 rfl sag_size) rfl ?_
      exact ⟨by rw [EE.out]; rfl, b1.out.trans (setRow_below _ (Nat.le_succ _))⟩
    subst hp
    by_cases hd : de = 0
    case pos =>
      subst hd
      have EE := LN.out (by simp)
      replace EE := Lib.hid EE
      clear LY LN IN RB
      go_wp2_with (refine wpList_store_row rfl 26 (.tmp 4) (.tmp 40) rfl (w.heap.size + 1) _ rfl rfl 26 _ Z1.out sag_size rfl (by simp [Value.oneCell']) ?_)
      refine bodyPost_ret (res_row rlate_results _ _ (w.heap.size + 1) 26 _ (0, 0) _ rfl (setRow_heap _ _ _ _ _ _ Z1.out) Tryd.underlying26 rfl sag_size) rfl ?_
      exact ⟨by rw [EE.out]; rfl, b1.out.trans (setRow_below _ (Nat.le_succ _))⟩
    have d1 : (de == 0) = false := beq_eq_false_iff_ne.2 hd
    by_cases hn : 1099511627776 < now
    case pos =>
      have EE := LN.out (by omega)
      replace EE := Lib.hid EE
      clear LY LN IN RB
      go_wp2_with (refine wpList_store_row rfl 26 (.tmp 4) (.tmp 40) rfl (w.heap.size + 1) _ rfl rfl 26 _ Z1.out sag_size rfl (by simp [Value.oneCell']) ?_)
      refine bodyPost_ret (res_row rlate_results _ _ (w.heap.size + 1) 26 _ (0, 0) _ rfl (setRow_heap _ _ _ _ _ _ Z1.out) Tryd.underlying26 rfl sag_size) rfl ?_
      exact ⟨by rw [EE.out]; rfl, b1.out.trans (setRow_below _ (Nat.le_succ _))⟩
    by_cases hs : now < si
    case pos =>
      have EE := LN.out (by omega)
      replace EE := Lib.hid EE
      clear LY LN IN RB
      go_wp2_with (refine wpList_store_row rfl 26 (.tmp 4) (.tmp 40) rfl (w.heap.size + 1) _ rfl rfl 26 _ Z1.out sag_size rfl (by simp [Value.oneCell']) ?_)
      refine bodyPost_ret (res_row rlate_results _ _ (w.heap.size + 1) 26 _ (0, 0) _ rfl (setRow_heap _ _ _ _ _ _ Z1.out) Tryd.underlying26 rfl sag_size) rfl ?_
      exact ⟨by rw [EE.out]; rfl, b1.out.trans (setRow_below _ (Nat.le_succ _))⟩
    by_cases ht : now - si < de
    case pos =>
      have EE := LN.out (by omega)
      replace EE := Lib.hid EE
      clear LY LN IN RB
      go_wp2_with (refine wpList_store_row rfl 26 (.tmp 4) (.tmp 40) rfl (w.heap.size + 1) _ rfl rfl 26 _ Z1.out sag_size rfl (by simp [Value.oneCell']) ?_)
      refine bodyPost_ret (res_row rlate_results _ _ (w.heap.size + 1) 26 _ (0, 0) _ rfl (setRow_heap _ _ _ _ _ _ Z1.out) Tryd.underlying26 rfl sag_size) rfl ?_
      exact ⟨by rw [EE.out]; rfl, b1.out.trans (setRow_below _ (Nat.le_succ _))⟩
    have EE := LY.out ⟨rfl, rfl, by omega, by omega, by omega⟩
    have K := Lib.hid (RB.out w1)
    replace EE := Lib.hid EE
    clear LY LN IN RB
    go_wp2_with fail
    refine K.out.mono ?_
    rintro e w3 ⟨rfl, h3⟩
    have Z3 := Lib.hid ((h3.block _ s1).trans Z1.out)
    have b3 : Hid (Below w.heap.size w w3) := b1.out.trans (h3.mono b1.out.size)
    clear K h3 c0 c1 c2 c3 c4 c5 c6 c7 c8 c9 ca
    go_wp2_with (refine wpList_store_row rfl 26 (.tmp 4) (.tmp 43) rfl (w.heap.size + 1) _ rfl rfl 26 _ Z3.out sag_size rfl (by simp [Value.oneCell']) ?_)
    refine bodyPost_ret (res_row rlate_results _ _ (w.heap.size + 1) 26 _ (0, 0) _ rfl (setRow_heap _ _ _ _ _ _ Z3.out) Tryd.underlying26 rfl sag_size) rfl ?_
    exact ⟨by rw [EE.out]; rfl, b3.out.trans (setRow_below _ (Nat.le_succ _))⟩
set_option maxHeartbeats 3200000 in
theorem rtells_any (w : World) (s : Sag) : Calls Tryd.prog 16 #[sgv s] w fun e w' => e = .returned (.int .i64 (stells s)) ∧ Below w.heap.size w w' := by
  obtain ⟨W0, hW0⟩ : ∃ W0, W0 = w.alloc (.cells #[.int .i64 s.w.book, .int .i64 s.w.cust, .int .i64 s.w.dead, .int .i64 s.w.u0, .int .i64 s.w.u1, .int .i64 s.w.u2, .int .i64 s.w.price, .int .i64 s.ph, .int .i64 s.st, .int .i64 s.rs, .int .i64 s.si] 26) := ⟨_, rfl⟩
  have B0 : BoxS W0 w.heap.size s := by rw [hW0]; exact heap_alloc_new _ _
  have be0 : Below w.heap.size w W0 := by rw [hW0]; exact (Below.refl _ w).alloc (Nat.le_refl _) _
  have M := rsmay_any W0 s
  have LN : smay s = false → stells s = 0 := fun h => by unfold stells; rw [h]; rfl
  have L4 : smay s = true → s.ph = 4 → stells s = 3 := fun h h2 => by unfold stells; rw [if_pos h, if_pos h2]
  have L5 : smay s = true → s.ph = 5 → stells s = 4 := fun h h2 => by unfold stells; rw [if_pos h, if_neg (by omega), if_pos h2]
  have L2 : smay s = true → ¬ s.ph = 4 → ¬ s.ph = 5 → stells s = 2 := fun h h2 h3 => by unfold stells; rw [if_pos h, if_neg h2, if_neg h3]
  have B0' : Hid (∀ w', Below W0.heap.size W0 w' → CellS w' w.heap.size s ∧ w.heap.size < w'.heap.size) := fun w' h => ⟨(B0.below h B0.lt).cells, (B0.below h B0.lt).lt⟩
  generalize stells s = y at *
  generalize smay s = m at *
  obtain ⟨⟨bk, cu, de, u0, u1, u2, pr⟩, ph, st, rs, si⟩ := s
  unfold sgv sgc at *
  simp only at *
  replace hW0 := Lib.hid hW0
  replace LN := Lib.hid LN
  replace L4 := Lib.hid L4
  replace L5 := Lib.hid L5
  replace L2 := Lib.hid L2
  replace M := Lib.hid M
  clear B0
  go_enter Tryd.func16, Tryd.ntmps16
  go_wp2_with fail
  rw [← hW0.out]
  refine M.out.mono ?_
  rintro e w1 ⟨rfl, h1⟩
  obtain ⟨⟨c0, c1, c2, c3, c4, c5, c6, c7, c8, c9, ca⟩, hwl⟩ := B0'.out _ h1
  simp only at c0 c1 c2 c3 c4 c5 c6 c7 c8 c9 ca
  have b1 : Hid (Below w.heap.size w w1) := be0.trans (h1.mono be0.size)
  clear M h1 B0' be0 hW0
  cases m with
  | false =>
    have E := LN.out rfl
    subst E
    clear L4 L5 L2 LN
    go_wp2_with fail
    go_ret
    exact ⟨rfl, b1.out⟩
  | true =>
    by_cases p4 : ph = 4
    · subst p4
      have E := L4.out rfl rfl
      subst E
      clear L4 L5 L2 LN
      go_wp2_with fail
      go_ret
      exact ⟨rfl, b1.out⟩
    · by_cases p5 : ph = 5
      · subst p5
        have E := L5.out rfl rfl
        subst E
        clear L4 L5 L2 LN p4
        go_wp2_with fail
        go_ret
        exact ⟨rfl, b1.out⟩
      · have E := L2.out rfl p4 p5
        subst E
        have g4 : (ph == 4) = false := beq_eq_false_iff_ne.2 p4
        have g5 : (ph == 5) = false := beq_eq_false_iff_ne.2 p5
        clear L4 L5 L2 LN p4 p5
        go_wp2_with fail
        go_ret
        exact ⟨rfl, b1.out⟩
theorem rnew_results : Tryd.f25.results = #[.cell 4 26, .tmp 5] := by kernel_rfl
set_option maxHeartbeats 6400000 in
theorem rnew_any (w : World) (x : Wan) (now : Int) : Calls Tryd.prog 25 #[wanv x, .int .i64 now] w fun e w' => e = .returned (.tuple #[sgv (snew x now).1, .int .i64 (snew x now).2]) ∧ Below w.heap.size w w' := by
  obtain ⟨W0, hW0⟩ : ∃ W0, W0 = (w.alloc (.cells #[.int .i64 x.book, .int .i64 x.cust, .int .i64 x.dead, .int .i64 x.u0, .int .i64 x.u1, .int .i64 x.u2, .int .i64 x.price] 24)).alloc (.cells #[.int .i64 0, .int .i64 0, .int .i64 0, .int .i64 0, .int .i64 0, .int .i64 0, .int .i64 0, .int .i64 0, .int .i64 0, .int .i64 0, .int .i64 0] 26) := ⟨_, rfl⟩
  have B0 : BoxW W0 w.heap.size x := by rw [hW0]; exact heap_alloc2_old _ _ _
  have Z0 : W0.heap[w.heap.size + 1]? = some (.cells #[.int .i64 0, .int .i64 0, .int .i64 0, .int .i64 0, .int .i64 0, .int .i64 0, .int .i64 0, .int .i64 0, .int .i64 0, .int .i64 0, .int .i64 0] 26 (0, 0)) := by
    have := heap_alloc_new (w.alloc (.cells #[.int .i64 x.book, .int .i64 x.cust, .int .i64 x.dead, .int .i64 x.u0, .int .i64 x.u1, .int .i64 x.u2, .int .i64 x.price] 24)) (.cells #[.int .i64 0, .int .i64 0, .int .i64 0, .int .i64 0, .int .i64 0, .int .i64 0, .int .i64 0, .int .i64 0, .int .i64 0, .int .i64 0, .int .i64 0] 26)
    rw [show (w.alloc (.cells #[.int .i64 x.book, .int .i64 x.cust, .int .i64 x.dead, .int .i64 x.u0, .int .i64 x.u1, .int .i64 x.u2, .int .i64 x.price] 24)).heap.size = w.heap.size + 1 by simp] at this
    rw [hW0]
    exact this
  have be0 : Below w.heap.size w W0 := by rw [hW0]; exact ((Below.refl _ w).alloc (Nat.le_refl _) _).alloc (by simp) _
  have M := refmay_any W0 x
  have s0 : w.heap.size + 1 < W0.heap.size := lt_some Z0
  have LY : may x = true → 0 ≤ now → now ≤ 1099511627776 → snew x now = (⟨x, 1, 0, 0, now⟩, 0) := fun h h1 h2 => by unfold snew; rw [if_pos ⟨h, decide_eq_true ⟨h1, h2⟩⟩]
  have LN : (may x = false ∨ now < 0 ∨ 1099511627776 < now) → snew x now = (sz, 1) := fun h => by
    unfold snew
    rw [if_neg]
    rintro ⟨h1, h2⟩
    have h3 := of_decide_eq_true h2
    rcases h with h | h | h
    · rw [h1] at h; cases h
    · omega
    · omega
  unfold sz at LN
  generalize snew x now = y at *
  generalize may x = m at *
  unfold wanv
  replace hW0 := Lib.hid hW0
  replace LY := Lib.hid LY
  replace LN := Lib.hid LN
  replace M := Lib.hid M
  go_enter Tryd.func25, Tryd.ntmps25
  go_wp2_with fail
  rw [← hW0.out]
  refine M.out.mono ?_
  rintro e w1 ⟨rfl, h1⟩
  obtain ⟨c0, c1, c2, c3, c4, c5, c6⟩ := (B0.below h1 B0.lt).cells
  have hwl := (B0.below h1 B0.lt).lt
  have Z1 := Lib.hid ((h1.block _ s0).trans Z0)
  have b1 : Hid (Below w.heap.size w w1) := be0.trans (h1.mono be0.size)
  have s1 : w.heap.size + 1 < w1.heap.size := lt_some Z1.out
  clear M h1 B0 Z0 be0 hW0 s0
  cases m with
  | false =>
    have EE := Lib.hid (LN.out (.inl rfl))
    clear LY LN
    go_wp2_with (refine wpList_store_row rfl 26 (.tmp 4) (.tmp 17) rfl (w.heap.size + 1) _ rfl rfl 26 _ Z1.out sag_size rfl (by simp [Value.oneCell']) ?_)
    refine bodyPost_ret (res_row rnew_results _ _ (w.heap.size + 1) 26 _ (0, 0) _ rfl (setRow_heap _ _ _ _ _ _ Z1.out) Tryd.underlying26 rfl sag_size) rfl ?_
    exact ⟨by rw [EE.out]; rfl, b1.out.trans (setRow_below _ (Nat.le_succ _))⟩
  | true =>
    by_cases hn : now < 0
    case pos =>
      have EE := Lib.hid (LN.out (.inr (.inl hn)))
      clear LY LN
      go_wp2_with (refine wpList_store_row rfl 26 (.tmp 4) (.tmp 17) rfl (w.heap.size + 1) _ rfl rfl 26 _ Z1.out sag_size rfl (by simp [Value.oneCell']) ?_)
      refine bodyPost_ret (res_row rnew_results _ _ (w.heap.size + 1) 26 _ (0, 0) _ rfl (setRow_heap _ _ _ _ _ _ Z1.out) Tryd.underlying26 rfl sag_size) rfl ?_
      exact ⟨by rw [EE.out]; rfl, b1.out.trans (setRow_below _ (Nat.le_succ _))⟩
    by_cases hx : 1099511627776 < now
    case pos =>
      have EE := Lib.hid (LN.out (.inr (.inr hx)))
      clear LY LN
      go_wp2_with (refine wpList_store_row rfl 26 (.tmp 4) (.tmp 17) rfl (w.heap.size + 1) _ rfl rfl 26 _ Z1.out sag_size rfl (by simp [Value.oneCell']) ?_)
      refine bodyPost_ret (res_row rnew_results _ _ (w.heap.size + 1) 26 _ (0, 0) _ rfl (setRow_heap _ _ _ _ _ _ Z1.out) Tryd.underlying26 rfl sag_size) rfl ?_
      exact ⟨by rw [EE.out]; rfl, b1.out.trans (setRow_below _ (Nat.le_succ _))⟩
    have EE := Lib.hid (LY.out rfl (by omega) (by omega))
    clear LY LN
    go_wp2_with (refine wpList_store_row rfl 26 (.tmp 4) (.tmp 20) rfl (w.heap.size + 1) _ rfl rfl 26 _ Z1.out sag_size rfl (by simp [Value.oneCell']) ?_)
    refine bodyPost_ret (res_row rnew_results _ _ (w.heap.size + 1) 26 _ (0, 0) _ rfl (setRow_heap _ _ _ _ _ _ Z1.out) Tryd.underlying26 rfl sag_size) rfl ?_
    exact ⟨by rw [EE.out]; rfl, b1.out.trans (setRow_below _ (Nat.le_succ _))⟩
end Sg
end Go.Proofs.YtakicogelkdofaaDoor
