/- The program's Late of a saga. -/
import Derived.Test.YtakicogelkdofaaDoorSgQ3
namespace Go.Proofs.YtakicogelkdofaaDoor
set_option maxRecDepth 100000
open Go.RowKit
open Go.Proofs.YtakicogelkdofaaDoor.Pk (one_at one_free one_set lt_some grown_set grown_trans below_grown grown_refl)
namespace Sg
open Wt (Wan may Opn mayOp may_any inR)
open Pl (Stp fwd bck cap z0 wanv spv BoxW wpList_store_row setRow_below below_of_grown)

theorem qlate_results : Tryd.f22.results = #[.cell 4 26, .tmp 5] := by kernel_rfl
set_option maxHeartbeats 6400000 in
theorem qlate_any (w : World) (t : Tab w) (s : Sag) (now : Int) : Calls Tryd.prog 22 #[sgv s, .int .i64 now] w fun e w' => e = .returned (.tuple #[sgv (slate s now).1, .bool (slate s now).2]) ∧ Below w.heap.size w w' := by
  have IN : smay s = true → 0 ≤ s.si ∧ s.si ≤ 1099511627776 ∧ 0 ≤ s.w.dead ∧ s.w.dead ≤ 1099511627776 := fun h => by
    obtain ⟨h1, h2, -⟩ := smay_true h
    have h3 := h1
    simp only [may, Bool.and_eq_true] at h3
    have h4 := of_decide_eq_true h3.1.1.2
    exact ⟨h2.1, h2.2, h4.1, h4.2⟩
  obtain ⟨sm, em⟩ : ∃ sm, sm = wrap64 (s.si + s.w.dead) := ⟨_, rfl⟩
  have SM : smay s = true → sm = s.si + s.w.dead := fun h => by have := IN h; rw [em]; unfold wrap64; omega
  have LN : (s.w.dead ≤ 0 ∨ now < sm ∨ inR now 0 1099511627776 = false) → slate s now = (s, false) := fun h => by
    unfold slate
    rw [if_neg]
    rintro ⟨h1, h2, h3, h4, h5⟩
    have h6 := IN h1
    have h7 := SM h1
    rcases h with h | h | h
    · omega
    · omega
    · rw [show inR now 0 1099511627776 = true by unfold inR; rw [decide_eq_true_iff]; omega] at h
      cases h
  have LY : ¬ s.w.dead ≤ 0 → ¬ now < sm → inR now 0 1099511627776 = true → stn s 3 = slate s now := fun h1 h2 h3 => by
    unfold stn slate
    have h4 := of_decide_eq_true h3
    by_cases h : smay s = true ∧ s.ph = 1
    · have := SM h.1
      rw [if_pos h, if_pos ⟨h.1, h.2, by omega, h4.2, by omega⟩]
    · rw [if_neg h, if_neg (fun g => h ⟨g.1, g.2.1⟩)]
  obtain ⟨W0, hW0⟩ : ∃ W0, W0 = (w.alloc (.cells #[.int .i64 s.w.book, .int .i64 s.w.cust, .int .i64 s.w.dead, .int .i64 s.w.u0, .int .i64 s.w.u1, .int .i64 s.w.u2, .int .i64 s.w.price, .int .i64 s.ph, .int .i64 s.st, .int .i64 s.rs, .int .i64 s.si] 26)).alloc (.cells #[.int .i64 0, .int .i64 0, .int .i64 0, .int .i64 0, .int .i64 0, .int .i64 0, .int .i64 0, .int .i64 0, .int .i64 0, .int .i64 0, .int .i64 0] 26) := ⟨_, rfl⟩
  have B0 : BoxS W0 w.heap.size s := by rw [hW0]; exact heap_alloc2_old _ _ _
  have Z0 : W0.heap[w.heap.size + 1]? = some (.cells #[.int .i64 0, .int .i64 0, .int .i64 0, .int .i64 0, .int .i64 0, .int .i64 0, .int .i64 0, .int .i64 0, .int .i64 0, .int .i64 0, .int .i64 0] 26 (0, 0)) := by
    have := heap_alloc_new (w.alloc (.cells #[.int .i64 s.w.book, .int .i64 s.w.cust, .int .i64 s.w.dead, .int .i64 s.w.u0, .int .i64 s.w.u1, .int .i64 s.w.u2, .int .i64 s.w.price, .int .i64 s.ph, .int .i64 s.st, .int .i64 s.rs, .int .i64 s.si] 26)) (.cells #[.int .i64 0, .int .i64 0, .int .i64 0, .int .i64 0, .int .i64 0, .int .i64 0, .int .i64 0, .int .i64 0, .int .i64 0, .int .i64 0, .int .i64 0] 26)
    rw [show (w.alloc (.cells #[.int .i64 s.w.book, .int .i64 s.w.cust, .int .i64 s.w.dead, .int .i64 s.w.u0, .int .i64 s.w.u1, .int .i64 s.w.u2, .int .i64 s.w.price, .int .i64 s.ph, .int .i64 s.st, .int .i64 s.rs, .int .i64 s.si] 26)).heap.size = w.heap.size + 1 by simp] at this
    rw [hW0]
    exact this
  have be0 : Below w.heap.size w W0 := by rw [hW0]; exact ((Below.refl _ w).alloc (Nat.le_refl _) _).alloc (by simp) _
  have s0 : w.heap.size + 1 < W0.heap.size := lt_some Z0
  have K : Hid (∀ w', Below W0.heap.size W0 w' → Calls Tryd.prog 44 #[sgv s, .int .i64 3] w' fun e w'' => e = .returned (.tuple #[sgv (stn s 3).1, .bool (stn s 3).2]) ∧ Below w'.heap.size w' w'') := fun w' h => stn_any w' ((t.below be0).below h) s 3
  have TK := fun w => stick_any w now
  have cells := B0.cells
  generalize inR now 0 1099511627776 = tk at *
  generalize slate s now = y at *
  generalize stn s 3 = ys at *
  have e2 : IntKind.i64.wrap (s.si + s.w.dead) = sm := by rw [em, IntKind.wrap_i64]; simp only [wrap64]
  replace em := em.symm
  unfold sgv sgc at *
  clear t IN SM
  replace hW0 := Lib.hid hW0
  replace TK := Lib.hid TK
  replace LY := Lib.hid LY
  replace LN := Lib.hid LN
  obtain ⟨c0, c1, c2, c3, c4, c5, c6, c7, c8, c9, ca⟩ := cells
  replace Z0 := Lib.hid Z0
  replace be0 := Lib.hid be0
  clear B0
  have hwl : w.heap.size < W0.heap.size := by omega
  by_cases hd : s.w.dead ≤ 0
  case pos =>
    have EE := Lib.hid (LN.out (.inl hd))
    clear LY LN K TK em e2
    go_enter Tryd.func22, Tryd.ntmps22
    go_upto_region 1 with fail
    rw [← hW0.out]
    go_wp2_with (refine wpList_store_row rfl 26 (.tmp 4) (.tmp 25) rfl (w.heap.size + 1) #[.int .i64 s.w.book, .int .i64 s.w.cust, .int .i64 s.w.dead, .int .i64 s.w.u0, .int .i64 s.w.u1, .int .i64 s.w.u2, .int .i64 s.w.price, .int .i64 s.ph, .int .i64 s.st, .int .i64 s.rs, .int .i64 s.si] rfl rfl 26 _ Z0.out sag_size rfl (by simp [Value.oneCell']) ?_)
    refine bodyPost_ret (res_row qlate_results _ _ (w.heap.size + 1) 26 _ (0, 0) _ rfl (setRow_heap _ _ _ _ _ _ Z0.out) Tryd.underlying26 rfl sag_size) rfl ?_
    exact ⟨by rw [EE.out]; rfl, be0.out.trans (setRow_below _ (Nat.le_succ _))⟩
  have hd2 : 0 < s.w.dead := by omega
  by_cases hn : now < sm
  case pos =>
    have EE := Lib.hid (LN.out (.inr (.inl hn)))
    clear LY LN K TK
    go_enter Tryd.func22, Tryd.ntmps22
    go_upto_region 1 with fail
    rw [← hW0.out]
    go_wp2_with (refine wpList_store_row rfl 26 (.tmp 4) (.tmp 25) rfl (w.heap.size + 1) #[.int .i64 s.w.book, .int .i64 s.w.cust, .int .i64 s.w.dead, .int .i64 s.w.u0, .int .i64 s.w.u1, .int .i64 s.w.u2, .int .i64 s.w.price, .int .i64 s.ph, .int .i64 s.st, .int .i64 s.rs, .int .i64 s.si] rfl rfl 26 _ Z0.out sag_size rfl (by simp [Value.oneCell']) ?_)
    refine bodyPost_ret (res_row qlate_results _ _ (w.heap.size + 1) 26 _ (0, 0) _ rfl (setRow_heap _ _ _ _ _ _ Z0.out) Tryd.underlying26 rfl sag_size) rfl ?_
    exact ⟨by rw [EE.out]; rfl, be0.out.trans (setRow_below _ (Nat.le_succ _))⟩
  go_enter Tryd.func22, Tryd.ntmps22
  go_upto_region 1 with fail
  rw [← hW0.out]
  go_wp2_with fail
  refine (TK.out _).mono ?_
  rintro e w1 ⟨rfl, rfl⟩
  cases tk with
  | false =>
    have EE := Lib.hid (LN.out (.inr (.inr rfl)))
    clear LY LN K TK
    go_wp2_with (refine wpList_store_row rfl 26 (.tmp 4) (.tmp 25) rfl (w.heap.size + 1) #[.int .i64 s.w.book, .int .i64 s.w.cust, .int .i64 s.w.dead, .int .i64 s.w.u0, .int .i64 s.w.u1, .int .i64 s.w.u2, .int .i64 s.w.price, .int .i64 s.ph, .int .i64 s.st, .int .i64 s.rs, .int .i64 s.si] rfl rfl 26 _ Z0.out sag_size rfl (by simp [Value.oneCell']) ?_)
    refine bodyPost_ret (res_row qlate_results _ _ (w.heap.size + 1) 26 _ (0, 0) _ rfl (setRow_heap _ _ _ _ _ _ Z0.out) Tryd.underlying26 rfl sag_size) rfl ?_
    exact ⟨by rw [EE.out]; rfl, be0.out.trans (setRow_below _ (Nat.le_succ _))⟩
  | true =>
    have EE := Lib.hid (LY.out hd hn rfl)
    clear LY LN TK
    go_wp2_with fail
    refine (K.out _ (Below.refl _ _)).mono ?_
    rintro e w3 ⟨rfl, h3⟩
    have Z3 := Lib.hid ((h3.block _ s0).trans Z0.out)
    have b3 : Hid (Below w.heap.size w w3) := be0.out.trans (h3.mono be0.out.size)
    clear K h3 c0 c1 c2 c3 c4 c5 c6 c7 c8 c9 ca em e2
    go_wp2_with (refine wpList_store_row rfl 26 (.tmp 4) (.tmp 28) rfl (w.heap.size + 1) _ rfl rfl 26 _ Z3.out sag_size rfl (by simp [Value.oneCell']) ?_)
    refine bodyPost_ret (res_row qlate_results _ _ (w.heap.size + 1) 26 _ (0, 0) _ rfl (setRow_heap _ _ _ _ _ _ Z3.out) Tryd.underlying26 rfl sag_size) rfl ?_
    exact ⟨by rw [EE.out]; rfl, b3.out.trans (setRow_below _ (Nat.le_succ _))⟩
end Sg
end Go.Proofs.YtakicogelkdofaaDoor
