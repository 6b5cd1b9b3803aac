/- The document's own Get and GetOp. -/
import Derived.Test.YtmmediadgoejpaaWtR
namespace Go.Proofs.Ytmmediadgoejpaa
open Go.RowKit Go.Proofs.Ytmmediadgoejpaa.Pk
namespace Wt

theorem rget_results : Try.f19.results = #[.cell 2 24, .tmp 3] := by kernel_rfl
theorem rgetop_results : Try.f21.results = #[.cell 2 35, .tmp 3] := by kernel_rfl
set_option maxHeartbeats 3200000 in
theorem rget_any (w : World) (bs : List UInt8) (hl : bs.length ≤ 400) :
    Calls Try.prog 19 #[.string (str bs)] w (GetTo w (getW (some bs))) := by
  obtain ⟨w0, e0⟩ : ∃ z, z = (w.alloc (.cells #[.int .i64 0, .int .i64 0, .int .i64 0, .int .i64 0, .int .i64 0, .int .i64 0, .int .i64 0] 24)).alloc (.cells #[.string (str bs), .bool false] 70) := ⟨_, rfl⟩
  have be0 : Hid (Below w.heap.size w w0) := by rw [e0]; exact ((Below.refl _ w).alloc (Nat.le_refl _) _).alloc (by simp) _
  have ha0 : Hid (w0.heap[w.heap.size]? = some (.cells #[.int .i64 0, .int .i64 0, .int .i64 0, .int .i64 0, .int .i64 0, .int .i64 0, .int .i64 0] 24 (0, 0))) := by rw [e0]; exact heap_alloc2_old _ _ _
  have hR0 : Rx w0 (w.heap.size + 1) (some bs) := by rw [e0]; exact ⟨bs, false, heap_alloc2_new _ _ _, hl, rfl⟩
  obtain ⟨x, hx⟩ : ∃ x, x = wanOf (rdk 7 (some bs)).1 := ⟨_, rfl⟩
  have T := Lib.hid (rtake _ w0 _ hR0 x hx)
  rw [e0] at T
  replace hx := Lib.hid hx
  clear hR0
  go_enter Try.func19, Try.ntmps19
  go_wp2_with fail
  refine T.out.mono ?_
  rintro e w1 ⟨rfl, h1⟩
  rw [← e0] at h1
  have hsz : w.heap.size + 1 < w0.heap.size := by rw [e0]; simp
  have be1 : Hid (Below w.heap.size w w1) := be0.out.trans ⟨h1.gr.os, h1.gr.tape, h1.gr.output, h1.gr.size, fun i hi => h1.gr.block i (by omega) (fun e => by injection e with e; omega)⟩
  have hra1 : Hid (w1.heap[w.heap.size]? = some (.cells #[.int .i64 0, .int .i64 0, .int .i64 0, .int .i64 0, .int .i64 0, .int .i64 0, .int .i64 0] 24 (0, 0))) := (h1.gr.block _ (by omega) (fun e => by injection e with e; omega)).trans ha0.out
  have hrx1 := h1.rx
  clear h1 T e0 be0 ha0 hsz
  obtain ⟨W, eW⟩ : ∃ z, z = w1.alloc (.cells #[.int .i64 x.book, .int .i64 x.cust, .int .i64 x.dead, .int .i64 x.u0, .int .i64 x.u1, .int .i64 x.u2, .int .i64 x.price] 24) := ⟨_, rfl⟩
  have bew : Hid (Below w.heap.size w W) := by rw [eW]; exact be1.out.alloc be1.out.size _
  have hra : Hid (W.heap[w.heap.size]? = some (.cells #[.int .i64 0, .int .i64 0, .int .i64 0, .int .i64 0, .int .i64 0, .int .i64 0, .int .i64 0] 24 (0, 0))) := by rw [eW]; exact stay1 hra1 _
  have hbox : Hid (W.heap[w1.heap.size]? = some (.cells #[.int .i64 x.book, .int .i64 x.cust, .int .i64 x.dead, .int .i64 x.u0, .int .i64 x.u1, .int .i64 x.u2, .int .i64 x.price] 24 (0, 0))) := by rw [eW]; exact heap_alloc_new _ _
  have hrx : Hid (Rx W (w.heap.size + 1) (rdk 7 (some bs)).2) := by rw [eW]; exact hrx1.same (heap_alloc_old _ _ hrx1.lt)
  clear hra1 hrx1 be1
  go_upto_region 3 with fail
  rw [← eW]
  clear eW
  generalize hb1 : w1.heap.size = b at *
  generalize hp1 : w.heap.size + 1 = p at *
  obtain ⟨kq, hkq⟩ : ∃ k, k = rEnd (rdk 7 (some bs)).2 := ⟨_, rfl⟩
  have E := Lib.hid (xend p W _ hrx.out)
  rw [← hkq] at E
  by_cases h0 : kq = 0
  case neg =>
    have F : Hid (getW (some bs) = none) := getW_no (by rw [← hkq]; exact h0)
    replace hkq := Lib.hid hkq
    have h0' : (kq != 0) = true := by simpa using h0
    clear h0
    go_wp2_with (first | (go_at_call 34; ((with_reducible refine E.out.mono ?_); rintro e w' ⟨rfl, rfl⟩)) | (refine wpList_store_row rfl 24 (.tmp 2) (.tmp 19) rfl w.heap.size #[.int .i64 0, .int .i64 0, .int .i64 0, .int .i64 0, .int .i64 0, .int .i64 0, .int .i64 0] rfl rfl 24 #[.int .i64 0, .int .i64 0, .int .i64 0, .int .i64 0, .int .i64 0, .int .i64 0, .int .i64 0] hra.out want_info rfl (one7 _ _ _ _ _ _ _) ?_))
    refine bodyPost_ret (res_row rget_results _ _ w.heap.size 24 #[.int .i64 0, .int .i64 0, .int .i64 0, .int .i64 0, .int .i64 0, .int .i64 0, .int .i64 0] (0, 0) _ rfl (setRow_heap _ _ _ _ _ _ hra.out) Try.underlying24 rfl want_info) rfl ?_
    exact ⟨bew.out.trans (setRow_below _ (Nat.le_refl _)), fun x h => (by rw [F.out] at h; cases h), fun _ => rfl⟩
  case pos =>
    subst h0
    have M := Lib.hid (refmay_any W x)
    have c0 : W.cell? ⟨b, 0, none⟩ = some (.int .i64 x.book) := one_at hbox.out
    have c1 : W.cell? ⟨b, 1, none⟩ = some (.int .i64 x.cust) := one_at hbox.out
    have c2 : W.cell? ⟨b, 2, none⟩ = some (.int .i64 x.dead) := one_at hbox.out
    have c3 : W.cell? ⟨b, 3, none⟩ = some (.int .i64 x.u0) := one_at hbox.out
    have c4 : W.cell? ⟨b, 4, none⟩ = some (.int .i64 x.u1) := one_at hbox.out
    have c5 : W.cell? ⟨b, 5, none⟩ = some (.int .i64 x.u2) := one_at hbox.out
    have c6 : W.cell? ⟨b, 6, none⟩ = some (.int .i64 x.price) := one_at hbox.out
    rcases Bool.eq_false_or_eq_true (may x) with hm | hm
    · have F : Hid (getW (some bs) = some x) := getW_yes hx.out hkq.symm hm
      rw [hm] at M
      replace hkq := Lib.hid hkq
      clear hm
      go_wp2_with (first | (go_at_call 34; ((with_reducible refine E.out.mono ?_); rintro e w' ⟨rfl, rfl⟩)) | (go_at_call 11; ((with_reducible refine M.out.mono ?_); rintro e w4 ⟨rfl, b4⟩; have be4 : Hid (Below w.heap.size w w4) := bew.out.trans (b4.mono bew.out.size); have hr4 : Hid (w4.heap[w.heap.size]? = some (.cells #[.int .i64 0, .int .i64 0, .int .i64 0, .int .i64 0, .int .i64 0, .int .i64 0, .int .i64 0] 24 (0, 0))) := stay hra b4; have hb4 : Hid (w4.heap[b]? = some (.cells #[.int .i64 x.book, .int .i64 x.cust, .int .i64 x.dead, .int .i64 x.u0, .int .i64 x.u1, .int .i64 x.u2, .int .i64 x.price] 24 (0, 0))) := stay hbox b4; clear b4)) | (refine wpList_load_row rfl 24 (.tmp 5) rfl b rfl 24 #[.int .i64 x.book, .int .i64 x.cust, .int .i64 x.dead, .int .i64 x.u0, .int .i64 x.u1, .int .i64 x.u2, .int .i64 x.price] (0, 0) _ hb4.out Try.underlying24 rfl want_info ?_) | (refine wpList_store_row rfl 24 (.tmp 2) (.tmp 19) rfl w.heap.size #[.int .i64 0, .int .i64 0, .int .i64 0, .int .i64 0, .int .i64 0, .int .i64 0, .int .i64 0] rfl rfl 24 #[.int .i64 0, .int .i64 0, .int .i64 0, .int .i64 0, .int .i64 0, .int .i64 0, .int .i64 0] hr4.out want_info rfl (one7 _ _ _ _ _ _ _) ?_) | (refine wpList_store_row rfl 24 (.tmp 2) (.tmp 20) rfl w.heap.size #[.int .i64 x.book, .int .i64 x.cust, .int .i64 x.dead, .int .i64 x.u0, .int .i64 x.u1, .int .i64 x.u2, .int .i64 x.price] rfl rfl 24 #[.int .i64 0, .int .i64 0, .int .i64 0, .int .i64 0, .int .i64 0, .int .i64 0, .int .i64 0] hr4.out want_info rfl (one7 _ _ _ _ _ _ _) ?_))
      refine bodyPost_ret (res_row rget_results _ _ w.heap.size 24 #[.int .i64 x.book, .int .i64 x.cust, .int .i64 x.dead, .int .i64 x.u0, .int .i64 x.u1, .int .i64 x.u2, .int .i64 x.price] (0, 0) _ rfl (setRow_heap _ _ _ _ _ _ hr4.out) Try.underlying24 rfl want_info) rfl ?_
      exact ⟨be4.out.trans (setRow_below _ (Nat.le_refl _)), fun y h => (by rw [F.out] at h; cases h; rfl), fun h => (by rw [F.out] at h; cases h)⟩
    · have F : Hid (getW (some bs) = none) := getW_not hx.out hm
      rw [hm] at M
      replace hkq := Lib.hid hkq
      clear hm
      go_wp2_with (first | (go_at_call 34; ((with_reducible refine E.out.mono ?_); rintro e w' ⟨rfl, rfl⟩)) | (go_at_call 11; ((with_reducible refine M.out.mono ?_); rintro e w4 ⟨rfl, b4⟩; have be4 : Hid (Below w.heap.size w w4) := bew.out.trans (b4.mono bew.out.size); have hr4 : Hid (w4.heap[w.heap.size]? = some (.cells #[.int .i64 0, .int .i64 0, .int .i64 0, .int .i64 0, .int .i64 0, .int .i64 0, .int .i64 0] 24 (0, 0))) := stay hra b4; have hb4 : Hid (w4.heap[b]? = some (.cells #[.int .i64 x.book, .int .i64 x.cust, .int .i64 x.dead, .int .i64 x.u0, .int .i64 x.u1, .int .i64 x.u2, .int .i64 x.price] 24 (0, 0))) := stay hbox b4; clear b4)) | (refine wpList_load_row rfl 24 (.tmp 5) rfl b rfl 24 #[.int .i64 x.book, .int .i64 x.cust, .int .i64 x.dead, .int .i64 x.u0, .int .i64 x.u1, .int .i64 x.u2, .int .i64 x.price] (0, 0) _ hb4.out Try.underlying24 rfl want_info ?_) | (refine wpList_store_row rfl 24 (.tmp 2) (.tmp 19) rfl w.heap.size #[.int .i64 0, .int .i64 0, .int .i64 0, .int .i64 0, .int .i64 0, .int .i64 0, .int .i64 0] rfl rfl 24 #[.int .i64 0, .int .i64 0, .int .i64 0, .int .i64 0, .int .i64 0, .int .i64 0, .int .i64 0] hr4.out want_info rfl (one7 _ _ _ _ _ _ _) ?_) | (refine wpList_store_row rfl 24 (.tmp 2) (.tmp 20) rfl w.heap.size #[.int .i64 x.book, .int .i64 x.cust, .int .i64 x.dead, .int .i64 x.u0, .int .i64 x.u1, .int .i64 x.u2, .int .i64 x.price] rfl rfl 24 #[.int .i64 0, .int .i64 0, .int .i64 0, .int .i64 0, .int .i64 0, .int .i64 0, .int .i64 0] hr4.out want_info rfl (one7 _ _ _ _ _ _ _) ?_))
      refine bodyPost_ret (res_row rget_results _ _ w.heap.size 24 #[.int .i64 0, .int .i64 0, .int .i64 0, .int .i64 0, .int .i64 0, .int .i64 0, .int .i64 0] (0, 0) _ rfl (setRow_heap _ _ _ _ _ _ hr4.out) Try.underlying24 rfl want_info) rfl ?_
      exact ⟨be4.out.trans (setRow_below _ (Nat.le_refl _)), fun x h => (by rw [F.out] at h; cases h), fun _ => rfl⟩

set_option maxHeartbeats 6400000 in
set_option maxRecDepth 100000 in
theorem rgetop_any (w : World) (bs : List UInt8) (hl : bs.length ≤ 400) :
    Calls Try.prog 21 #[.string (str bs)] w (GetOTo w (getO (some bs))) := by
  obtain ⟨w0, e0⟩ : ∃ z, z = (w.alloc (.cells #[.int .i64 0, .int .i64 0, .int .i64 0, .int .i64 0, .int .i64 0] 35)).alloc (.cells #[.string (str bs), .bool false] 70) := ⟨_, rfl⟩
  have be0 : Hid (Below w.heap.size w w0) := by rw [e0]; exact ((Below.refl _ w).alloc (Nat.le_refl _) _).alloc (by simp) _
  have ha0 : Hid (w0.heap[w.heap.size]? = some (.cells #[.int .i64 0, .int .i64 0, .int .i64 0, .int .i64 0, .int .i64 0] 35 (0, 0))) := by rw [e0]; exact heap_alloc2_old _ _ _
  have hR0 : Rx w0 (w.heap.size + 1) (some bs) := by rw [e0]; exact ⟨bs, false, heap_alloc2_new _ _ _, hl, rfl⟩
  have hsz : w.heap.size + 1 < w0.heap.size := by rw [e0]; simp
  obtain ⟨v0, hv0⟩ : ∃ v, v = (rInt (-9223372036854775808) 9223372036854775807 (some bs)).1 := ⟨_, rfl⟩
  have C0 : Hid (Calls Try.prog 35 #[.pointer (some ⟨w.heap.size + 1, 0, none⟩), .int .i64 (-9223372036854775808), .int .i64 9223372036854775807] w0 fun e w' => e = .returned (.int .i64 v0) ∧ RxTo w0 (w.heap.size + 1) (rInt (-9223372036854775808) 9223372036854775807 (some bs)).2 w') := by
    rw [hv0]; exact xint _ _ _ _ _ hR0
  rw [e0] at C0
  replace hv0 := Lib.hid hv0
  clear hR0
  go_enter Try.func21, Try.ntmps21
  go_wp2_with fail
  refine C0.out.mono ?_
  rintro e w1 ⟨rfl, r0⟩
  rw [← e0] at r0
  have ha1x : Hid (w1.heap[w.heap.size]? = some (.cells #[.int .i64 0, .int .i64 0, .int .i64 0, .int .i64 0, .int .i64 0] 35 (0, 0))) := (r0.gr.block _ (by omega) (fun e => by injection e with e; omega)).trans ha0.out
  have hp1 : w.heap.size + 1 < w1.heap.size := r0.rx.lt
  have be1 : Hid (Below w.heap.size w w1) := be0.out.trans ⟨r0.gr.os, r0.gr.tape, r0.gr.output, r0.gr.size, fun i hi => r0.gr.block i (by omega) (fun e => by injection e with e; omega)⟩
  have h1 : Hid (TkX w1 (w.heap.size + 1) w1.heap.size #[.int .i64 0, .int .i64 0, .int .i64 0, .int .i64 0, .int .i64 0] 35 (rdk 1 (some bs)) (w1.alloc (.cells #[.int .i64 v0, .int .i64 0, .int .i64 0, .int .i64 0, .int .i64 0] 35))) := by
    refine ⟨r0.rx.same (heap_alloc_old _ _ r0.rx.lt), ?_, Gr2.of_below ((Below.refl _ w1).alloc (Nat.le_refl _) _)⟩
    rw [heap_alloc_new, hv0.out]
    rfl
  clear r0 C0 hv0 be0 ha0 hsz e0
  obtain ⟨W1, eW1⟩ : ∃ z, z = w1.alloc (.cells #[.int .i64 v0, .int .i64 0, .int .i64 0, .int .i64 0, .int .i64 0] 35) := ⟨_, rfl⟩
  have ha1 : Hid (W1.heap[w.heap.size]? = some (.cells #[.int .i64 0, .int .i64 0, .int .i64 0, .int .i64 0, .int .i64 0] 35 (0, 0))) := by rw [eW1]; exact stay1 ha1x _
  clear ha1x
  go_upto_region 4 with fail
  rw [← eW1] at h1 ⊢
  clear eW1
  have bsz := be1.out.size
  obtain ⟨p, ep⟩ : ∃ z, z = w.heap.size + 1 := ⟨_, rfl⟩
  obtain ⟨b, eb⟩ : ∃ z, z = w1.heap.size := ⟨_, rfl⟩
  obtain ⟨a, ea⟩ : ∃ z, z = w.heap.size := ⟨_, rfl⟩
  have hpb : p ≠ b := by omega
  have hap : a ≠ p := by omega
  have hab : a ≠ b := by omega
  have hpa : a ≤ p := by omega
  have hba : a ≤ b := by omega
  rw [← ep, ← eb] at h1
  rw [← ep]
  rw [← eb]
  rw [← ea] at ha1
  rw [← ea]
  replace ep := Lib.hid ep
  replace ea := Lib.hid ea
  replace eb := Lib.hid eb
  clear hp1 bsz
  obtain ⟨v1, hv1⟩ : ∃ v, v = (rInt (-9223372036854775808) 9223372036854775807 (rdk 1 (some bs)).2).1 := ⟨_, rfl⟩
  have C1 : Hid (Calls Try.prog 35 #[.pointer (some ⟨p, 0, none⟩), .int .i64 (-9223372036854775808), .int .i64 9223372036854775807] W1 fun e w' => e = .returned (.int .i64 v1) ∧ RxTo W1 p (rInt (-9223372036854775808) 9223372036854775807 (rdk 1 (some bs)).2).2 w') := by rw [hv1]; exact xint p _ _ _ _ h1.out.rx
  replace hv1 := Lib.hid hv1
  go_wp2_with fail
  refine C1.out.mono ?_
  rintro e u1 ⟨rfl, r1⟩
  have hb1 : u1.heap[b]? = _ := (r1.gr.block b (lt_some h1.out.bl) (fun e => hpb (by injection e with e; exact e.symm))).trans h1.out.bl
  have ha10 : Hid (u1.heap[a]? = some (.cells #[.int .i64 0, .int .i64 0, .int .i64 0, .int .i64 0, .int .i64 0] 35 (0, 0))) := (r1.gr.block a (lt_some ha1.out) (fun e => hap (by injection e))).trans ha1.out
  have ha2 : Hid ((u1.setCell ⟨b, 1, none⟩ (.int .i64 v1)).heap[a]? = some (.cells #[.int .i64 0, .int .i64 0, .int .i64 0, .int .i64 0, .int .i64 0] 35 (0, 0))) := (Below.heap_setCell _ ⟨b, 1, none⟩ _ a hab).trans ha10.out
  obtain ⟨y1, hy1⟩ : ∃ y, (setL #[.int .i64 0, .int .i64 0, .int .i64 0, .int .i64 0, .int .i64 0] 0 (rdk 1 (some bs)).1)[1]? = some y := ⟨_, Array.getElem?_eq_getElem (by rw [setL_size]; decide)⟩
  have d1 : u1.cell? ⟨b, 1, none⟩ = some y1 := (one_at hb1).trans hy1
  have f1 : u1.frozen? ⟨b, 1, none⟩ = false := one_free hb1
  have h2 : Hid (TkX w1 p b #[.int .i64 0, .int .i64 0, .int .i64 0, .int .i64 0, .int .i64 0] 35 (rdk 2 (some bs)) (u1.setCell ⟨b, 1, none⟩ (.int .i64 v1))) := by rw [hv1.out]; exact tx_step h1.out hpb r1
  clear r1 hb1 hy1 C1 h1 hv1 ha1 ha10
  obtain ⟨v2, hv2⟩ : ∃ v, v = (rInt (-9223372036854775808) 9223372036854775807 (rdk 2 (some bs)).2).1 := ⟨_, rfl⟩
  have C2 : Hid (Calls Try.prog 35 #[.pointer (some ⟨p, 0, none⟩), .int .i64 (-9223372036854775808), .int .i64 9223372036854775807] (u1.setCell ⟨b, 1, none⟩ (.int .i64 v1)) fun e w' => e = .returned (.int .i64 v2) ∧ RxTo (u1.setCell ⟨b, 1, none⟩ (.int .i64 v1)) p (rInt (-9223372036854775808) 9223372036854775807 (rdk 2 (some bs)).2).2 w') := by rw [hv2]; exact xint p _ _ _ _ h2.out.rx
  replace hv2 := Lib.hid hv2
  go_wp2_with fail
  refine C2.out.mono ?_
  rintro e u2 ⟨rfl, r2⟩
  have hb2 : u2.heap[b]? = _ := (r2.gr.block b (lt_some h2.out.bl) (fun e => hpb (by injection e with e; exact e.symm))).trans h2.out.bl
  have ha20 : Hid (u2.heap[a]? = some (.cells #[.int .i64 0, .int .i64 0, .int .i64 0, .int .i64 0, .int .i64 0] 35 (0, 0))) := (r2.gr.block a (lt_some ha2.out) (fun e => hap (by injection e))).trans ha2.out
  have ha3 : Hid ((u2.setCell ⟨b, 2, none⟩ (.int .i64 v2)).heap[a]? = some (.cells #[.int .i64 0, .int .i64 0, .int .i64 0, .int .i64 0, .int .i64 0] 35 (0, 0))) := (Below.heap_setCell _ ⟨b, 2, none⟩ _ a hab).trans ha20.out
  obtain ⟨y2, hy2⟩ : ∃ y, (setL #[.int .i64 0, .int .i64 0, .int .i64 0, .int .i64 0, .int .i64 0] 0 (rdk 2 (some bs)).1)[2]? = some y := ⟨_, Array.getElem?_eq_getElem (by rw [setL_size]; decide)⟩
  have d2 : u2.cell? ⟨b, 2, none⟩ = some y2 := (one_at hb2).trans hy2
  have f2 : u2.frozen? ⟨b, 2, none⟩ = false := one_free hb2
  have h3 : Hid (TkX w1 p b #[.int .i64 0, .int .i64 0, .int .i64 0, .int .i64 0, .int .i64 0] 35 (rdk 3 (some bs)) (u2.setCell ⟨b, 2, none⟩ (.int .i64 v2))) := by rw [hv2.out]; exact tx_step h2.out hpb r2
  clear r2 hb2 hy2 C2 h2 hv2 ha2 ha20
  obtain ⟨v3, hv3⟩ : ∃ v, v = (rInt (-9223372036854775808) 9223372036854775807 (rdk 3 (some bs)).2).1 := ⟨_, rfl⟩
  have C3 : Hid (Calls Try.prog 35 #[.pointer (some ⟨p, 0, none⟩), .int .i64 (-9223372036854775808), .int .i64 9223372036854775807] (u2.setCell ⟨b, 2, none⟩ (.int .i64 v2)) fun e w' => e = .returned (.int .i64 v3) ∧ RxTo (u2.setCell ⟨b, 2, none⟩ (.int .i64 v2)) p (rInt (-9223372036854775808) 9223372036854775807 (rdk 3 (some bs)).2).2 w') := by rw [hv3]; exact xint p _ _ _ _ h3.out.rx
  replace hv3 := Lib.hid hv3
  go_wp2_with fail
  refine C3.out.mono ?_
  rintro e u3 ⟨rfl, r3⟩
  have hb3 : u3.heap[b]? = _ := (r3.gr.block b (lt_some h3.out.bl) (fun e => hpb (by injection e with e; exact e.symm))).trans h3.out.bl
  have ha30 : Hid (u3.heap[a]? = some (.cells #[.int .i64 0, .int .i64 0, .int .i64 0, .int .i64 0, .int .i64 0] 35 (0, 0))) := (r3.gr.block a (lt_some ha3.out) (fun e => hap (by injection e))).trans ha3.out
  have ha4 : Hid ((u3.setCell ⟨b, 3, none⟩ (.int .i64 v3)).heap[a]? = some (.cells #[.int .i64 0, .int .i64 0, .int .i64 0, .int .i64 0, .int .i64 0] 35 (0, 0))) := (Below.heap_setCell _ ⟨b, 3, none⟩ _ a hab).trans ha30.out
  obtain ⟨y3, hy3⟩ : ∃ y, (setL #[.int .i64 0, .int .i64 0, .int .i64 0, .int .i64 0, .int .i64 0] 0 (rdk 3 (some bs)).1)[3]? = some y := ⟨_, Array.getElem?_eq_getElem (by rw [setL_size]; decide)⟩
  have d3 : u3.cell? ⟨b, 3, none⟩ = some y3 := (one_at hb3).trans hy3
  have f3 : u3.frozen? ⟨b, 3, none⟩ = false := one_free hb3
  have h4 : Hid (TkX w1 p b #[.int .i64 0, .int .i64 0, .int .i64 0, .int .i64 0, .int .i64 0] 35 (rdk 4 (some bs)) (u3.setCell ⟨b, 3, none⟩ (.int .i64 v3))) := by rw [hv3.out]; exact tx_step h3.out hpb r3
  clear r3 hb3 hy3 C3 h3 hv3 ha3 ha30
  obtain ⟨v4, hv4⟩ : ∃ v, v = (rInt (-9223372036854775808) 9223372036854775807 (rdk 4 (some bs)).2).1 := ⟨_, rfl⟩
  have C4 : Hid (Calls Try.prog 35 #[.pointer (some ⟨p, 0, none⟩), .int .i64 (-9223372036854775808), .int .i64 9223372036854775807] (u3.setCell ⟨b, 3, none⟩ (.int .i64 v3)) fun e w' => e = .returned (.int .i64 v4) ∧ RxTo (u3.setCell ⟨b, 3, none⟩ (.int .i64 v3)) p (rInt (-9223372036854775808) 9223372036854775807 (rdk 4 (some bs)).2).2 w') := by rw [hv4]; exact xint p _ _ _ _ h4.out.rx
  replace hv4 := Lib.hid hv4
  go_wp2_with fail
  refine C4.out.mono ?_
  rintro e u4 ⟨rfl, r4⟩
  have hb4 : u4.heap[b]? = _ := (r4.gr.block b (lt_some h4.out.bl) (fun e => hpb (by injection e with e; exact e.symm))).trans h4.out.bl
  have ha40 : Hid (u4.heap[a]? = some (.cells #[.int .i64 0, .int .i64 0, .int .i64 0, .int .i64 0, .int .i64 0] 35 (0, 0))) := (r4.gr.block a (lt_some ha4.out) (fun e => hap (by injection e))).trans ha4.out
  have ha5 : Hid ((u4.setCell ⟨b, 4, none⟩ (.int .i64 v4)).heap[a]? = some (.cells #[.int .i64 0, .int .i64 0, .int .i64 0, .int .i64 0, .int .i64 0] 35 (0, 0))) := (Below.heap_setCell _ ⟨b, 4, none⟩ _ a hab).trans ha40.out
  obtain ⟨y4, hy4⟩ : ∃ y, (setL #[.int .i64 0, .int .i64 0, .int .i64 0, .int .i64 0, .int .i64 0] 0 (rdk 4 (some bs)).1)[4]? = some y := ⟨_, Array.getElem?_eq_getElem (by rw [setL_size]; decide)⟩
  have d4 : u4.cell? ⟨b, 4, none⟩ = some y4 := (one_at hb4).trans hy4
  have f4 : u4.frozen? ⟨b, 4, none⟩ = false := one_free hb4
  have h5 : Hid (TkX w1 p b #[.int .i64 0, .int .i64 0, .int .i64 0, .int .i64 0, .int .i64 0] 35 (rdk 5 (some bs)) (u4.setCell ⟨b, 4, none⟩ (.int .i64 v4))) := by rw [hv4.out]; exact tx_step h4.out hpb r4
  clear r4 hb4 hy4 C4 h4 hv4 ha4 ha40
  have hrx : Hid (Rx (u4.setCell ⟨b, 4, none⟩ (.int .i64 v4)) p (rdk 5 (some bs)).2) := h5.out.rx
  have hra := ha5
  obtain ⟨o, hx⟩ : ∃ o, o = opnOf (rdk 5 (some bs)).1 := ⟨_, rfl⟩
  have hbox : Hid ((u4.setCell ⟨b, 4, none⟩ (.int .i64 v4)).heap[b]? = some (.cells #[.int .i64 o.kind, .int .i64 o.book, .int .i64 o.units, .int .i64 o.cust, .int .i64 o.amount] 35 (0, 0))) := by unfold Hid; rw [h5.out.bl, boxO _ o hx]
  replace hx := Lib.hid hx
  have bew : Hid (Below w.heap.size w (u4.setCell ⟨b, 4, none⟩ (.int .i64 v4))) := be1.out.trans (h5.out.gr.below (by rw [← ea.out]; exact hpa) (by rw [← ea.out]; exact hba) be1.out.size)
  clear h5 ha5
  go_upto_region 8 with fail
  obtain ⟨W, eW⟩ : ∃ z, z = (u4.setCell ⟨b, 4, none⟩ (.int .i64 v4)) := ⟨_, rfl⟩
  rw [← eW] at hrx hra hbox bew ⊢
  clear eW d4 f4 be1
  obtain ⟨kq, hkq⟩ : ∃ k, k = rEnd (rdk 5 (some bs)).2 := ⟨_, rfl⟩
  have E := Lib.hid (xend p W _ hrx.out)
  rw [← hkq] at E
  by_cases h0 : kq = 0
  case neg =>
    have F : Hid (getO (some bs) = none) := getO_no (by rw [← hkq]; exact h0)
    replace hkq := Lib.hid hkq
    have h0' : (kq != 0) = true := by simpa using h0
    clear h0
    go_wp2_with (first | (go_at_call 34; ((with_reducible refine E.out.mono ?_); rintro e w' ⟨rfl, rfl⟩)) | (refine wpList_store_row rfl 35 (.tmp 2) (.tmp 44) rfl a #[.int .i64 0, .int .i64 0, .int .i64 0, .int .i64 0, .int .i64 0] rfl rfl 35 #[.int .i64 0, .int .i64 0, .int .i64 0, .int .i64 0, .int .i64 0] hra.out op_info rfl (one5 _ _ _ _ _) ?_))
    refine bodyPost_ret (res_row rgetop_results _ _ a 35 #[.int .i64 0, .int .i64 0, .int .i64 0, .int .i64 0, .int .i64 0] (0, 0) _ rfl (setRow_heap _ _ _ _ _ _ hra.out) Try.underlying35 rfl op_info) rfl ?_
    exact ⟨bew.out.trans (setRow_below _ (Nat.le_of_eq ea.out.symm)), fun o h => (by rw [F.out] at h; cases h), fun _ => rfl⟩
  case pos =>
    subst h0
    have M := Lib.hid (refmayop_any W o)
    have c0 : W.cell? ⟨b, 0, none⟩ = some (.int .i64 o.kind) := one_at hbox.out
    have c1 : W.cell? ⟨b, 1, none⟩ = some (.int .i64 o.book) := one_at hbox.out
    have c2 : W.cell? ⟨b, 2, none⟩ = some (.int .i64 o.units) := one_at hbox.out
    have c3 : W.cell? ⟨b, 3, none⟩ = some (.int .i64 o.cust) := one_at hbox.out
    have c4 : W.cell? ⟨b, 4, none⟩ = some (.int .i64 o.amount) := one_at hbox.out
    rcases Bool.eq_false_or_eq_true (mayOp o) with hm | hm
    · have F : Hid (getO (some bs) = some o) := getO_yes hx.out hkq.symm hm
      rw [hm] at M
      replace hkq := Lib.hid hkq
      clear hm
      go_wp2_with (first | (go_at_call 34; ((with_reducible refine E.out.mono ?_); rintro e w' ⟨rfl, rfl⟩)) | (go_at_call 14; ((with_reducible refine M.out.mono ?_); rintro e w4 ⟨rfl, b4⟩; have be4 : Hid (Below w.heap.size w w4) := bew.out.trans (b4.mono bew.out.size); have hr4 : Hid (w4.heap[a]? = some (.cells #[.int .i64 0, .int .i64 0, .int .i64 0, .int .i64 0, .int .i64 0] 35 (0, 0))) := stay hra b4; have hb4 : Hid (w4.heap[b]? = some (.cells #[.int .i64 o.kind, .int .i64 o.book, .int .i64 o.units, .int .i64 o.cust, .int .i64 o.amount] 35 (0, 0))) := stay hbox b4; clear b4)) | (refine wpList_load_row rfl 35 (.tmp 7) rfl b rfl 35 #[.int .i64 o.kind, .int .i64 o.book, .int .i64 o.units, .int .i64 o.cust, .int .i64 o.amount] (0, 0) _ hb4.out Try.underlying35 rfl op_info ?_) | (refine wpList_store_row rfl 35 (.tmp 2) (.tmp 44) rfl a #[.int .i64 0, .int .i64 0, .int .i64 0, .int .i64 0, .int .i64 0] rfl rfl 35 #[.int .i64 0, .int .i64 0, .int .i64 0, .int .i64 0, .int .i64 0] hr4.out op_info rfl (one5 _ _ _ _ _) ?_) | (refine wpList_store_row rfl 35 (.tmp 2) (.tmp 45) rfl a #[.int .i64 o.kind, .int .i64 o.book, .int .i64 o.units, .int .i64 o.cust, .int .i64 o.amount] rfl rfl 35 #[.int .i64 0, .int .i64 0, .int .i64 0, .int .i64 0, .int .i64 0] hr4.out op_info rfl (one5 _ _ _ _ _) ?_))
      refine bodyPost_ret (res_row rgetop_results _ _ a 35 #[.int .i64 o.kind, .int .i64 o.book, .int .i64 o.units, .int .i64 o.cust, .int .i64 o.amount] (0, 0) _ rfl (setRow_heap _ _ _ _ _ _ hr4.out) Try.underlying35 rfl op_info) rfl ?_
      exact ⟨be4.out.trans (setRow_below _ (Nat.le_of_eq ea.out.symm)), fun y h => (by rw [F.out] at h; cases h; rfl), fun h => (by rw [F.out] at h; cases h)⟩
    · have F : Hid (getO (some bs) = none) := getO_not hx.out hm
      rw [hm] at M
      replace hkq := Lib.hid hkq
      clear hm
      go_wp2_with (first | (go_at_call 34; ((with_reducible refine E.out.mono ?_); rintro e w' ⟨rfl, rfl⟩)) | (go_at_call 14; ((with_reducible refine M.out.mono ?_); rintro e w4 ⟨rfl, b4⟩; have be4 : Hid (Below w.heap.size w w4) := bew.out.trans (b4.mono bew.out.size); have hr4 : Hid (w4.heap[a]? = some (.cells #[.int .i64 0, .int .i64 0, .int .i64 0, .int .i64 0, .int .i64 0] 35 (0, 0))) := stay hra b4; have hb4 : Hid (w4.heap[b]? = some (.cells #[.int .i64 o.kind, .int .i64 o.book, .int .i64 o.units, .int .i64 o.cust, .int .i64 o.amount] 35 (0, 0))) := stay hbox b4; clear b4)) | (refine wpList_load_row rfl 35 (.tmp 7) rfl b rfl 35 #[.int .i64 o.kind, .int .i64 o.book, .int .i64 o.units, .int .i64 o.cust, .int .i64 o.amount] (0, 0) _ hb4.out Try.underlying35 rfl op_info ?_) | (refine wpList_store_row rfl 35 (.tmp 2) (.tmp 44) rfl a #[.int .i64 0, .int .i64 0, .int .i64 0, .int .i64 0, .int .i64 0] rfl rfl 35 #[.int .i64 0, .int .i64 0, .int .i64 0, .int .i64 0, .int .i64 0] hr4.out op_info rfl (one5 _ _ _ _ _) ?_) | (refine wpList_store_row rfl 35 (.tmp 2) (.tmp 45) rfl a #[.int .i64 o.kind, .int .i64 o.book, .int .i64 o.units, .int .i64 o.cust, .int .i64 o.amount] rfl rfl 35 #[.int .i64 0, .int .i64 0, .int .i64 0, .int .i64 0, .int .i64 0] hr4.out op_info rfl (one5 _ _ _ _ _) ?_))
      refine bodyPost_ret (res_row rgetop_results _ _ a 35 #[.int .i64 0, .int .i64 0, .int .i64 0, .int .i64 0, .int .i64 0] (0, 0) _ rfl (setRow_heap _ _ _ _ _ _ hr4.out) Try.underlying35 rfl op_info) rfl ?_
      exact ⟨be4.out.trans (setRow_below _ (Nat.le_of_eq ea.out.symm)), fun o h => (by rw [F.out] at h; cases h), fun _ => rfl⟩
end Wt
end Go.Proofs.Ytmmediadgoejpaa
