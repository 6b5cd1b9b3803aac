/- The document's own readers of bookings and of operations. -/
import Derived.Test.YtmmediadgoejpaaWtO
import Derived.Test.YtmmediadgoejpaaPkT
namespace Go.Proofs.Ytmmediadgoejpaa
open Go.RowKit Go.Proofs.Ytmmediadgoejpaa.Pk
namespace Wt

/-- What so many reads have done: the numbers lie in block b; block p is the reader's. -/
structure TkX (w : World) (p b : Nat) (Z : Array Value) (t : TypeId) (q : List Int × St) (w' : World) : Prop where
  rx : Rx w' p q.2
  bl : w'.heap[b]? = some (Obj.cells (setL Z 0 q.1) t (0, 0))
  gr : Gr2 w p b w'
theorem tx_step {w wr w2 : World} {p b k : Nat} {Z : Array Value} {t : TypeId} {s : St} (h : TkX w p b Z t (rdk k s) wr) (hpb : p ≠ b)
    (h2 : RxTo wr p (rInt (-9223372036854775808) 9223372036854775807 (rdk k s).2).2 w2) :
    TkX w p b Z t (rdk (k + 1) s) (w2.setCell ⟨b, k, none⟩ (.int .i64 (rInt (-9223372036854775808) 9223372036854775807 (rdk k s).2).1)) := by
  have hb2 : w2.heap[b]? = some (Obj.cells (setL Z 0 (rdk k s).1) t (0, 0)) := (h2.gr.block b (lt_some h.bl) (fun e => hpb (by injection e with e; exact e.symm))).trans h.bl
  refine ⟨h2.rx.same (Below.heap_setCell _ ⟨b, k, none⟩ _ p hpb), ?_, h.gr.trans ((Gr2.of_p h2.gr).trans (Gr2.of_b (grown_set _ b _ _)))⟩
  rw [one_set hb2, rdk, setL_snoc, rdk_len, Nat.zero_add]
theorem tx_first {w w1 : World} {p : Nat} {s : St} {t tz : TypeId} {Z Z' : Array Value} (h1 : RxTo (w.alloc (.cells Z tz)) p (rInt (-9223372036854775808) 9223372036854775807 s).2 w1)
    (hZ : Z' = Z.setIfInBounds 0 (.int .i64 (rInt (-9223372036854775808) 9223372036854775807 s).1)) :
    TkX w p w1.heap.size Z t (rdk 1 s) (w1.alloc (.cells Z' t)) := by
  refine ⟨h1.rx.same (heap_alloc_old _ _ h1.rx.lt), ?_, (Gr2.of_below ((Below.refl _ w).alloc (Nat.le_refl _) _)).trans ((Gr2.of_p h1.gr).trans (Gr2.of_below ((Below.refl _ w1).alloc (Nat.le_refl _) _)))⟩
  rw [heap_alloc_new, hZ]
  rfl
theorem boxW (s : St) (x : Wan) (hx : x = wanOf (rdk 7 s).1) : setL #[.int .i64 0, .int .i64 0, .int .i64 0, .int .i64 0, .int .i64 0, .int .i64 0, .int .i64 0] 0 (rdk 7 s).1 = #[.int .i64 x.book, .int .i64 x.cust, .int .i64 x.dead, .int .i64 x.u0, .int .i64 x.u1, .int .i64 x.u2, .int .i64 x.price] := by
  have hl := rdk_len 7 s
  rw [hx]
  generalize (rdk 7 s).1 = l at hl
  match l, hl with
  | [a, b, c, d, e, f, g], _ => rfl
theorem boxO (s : St) (x : Opn) (hx : x = opnOf (rdk 5 s).1) : setL #[.int .i64 0, .int .i64 0, .int .i64 0, .int .i64 0, .int .i64 0] 0 (rdk 5 s).1 = #[.int .i64 x.kind, .int .i64 x.book, .int .i64 x.units, .int .i64 x.cust, .int .i64 x.amount] := by
  have hl := rdk_len 5 s
  rw [hx]
  generalize (rdk 5 s).1 = l at hl
  match l, hl with
  | [a, b, c, d, e], _ => rfl

theorem take_results : Try.f33.results = #[.cell 2 24] := by kernel_rfl
set_option maxHeartbeats 3200000 in
set_option maxRecDepth 100000 in
theorem rtake (p : Nat) (w : World) (s : St) (h : Rx w p s) (x : Wan) (hx : x = wanOf (rdk 7 s).1) :
    Calls Try.prog 33 #[.pointer (some ⟨p, 0, none⟩)] w fun e w' => e = .returned (.agg #[.int .i64 x.book, .int .i64 x.cust, .int .i64 x.dead, .int .i64 x.u0, .int .i64 x.u1, .int .i64 x.u2, .int .i64 x.price]) ∧ RxTo w p (rdk 7 s).2 w' := by
  have hpw := h.lt
  obtain ⟨v0, hv0⟩ : ∃ v, v = (rInt (-9223372036854775808) 9223372036854775807 s).1 := ⟨_, rfl⟩
  have C0 : Hid (Calls Try.prog 35 #[.pointer (some ⟨p, 0, none⟩), .int .i64 (-9223372036854775808), .int .i64 9223372036854775807] (w.alloc (.cells #[.int .i64 0, .int .i64 0, .int .i64 0, .int .i64 0, .int .i64 0, .int .i64 0, .int .i64 0] 24)) fun e w' => e = .returned (.int .i64 v0) ∧ RxTo (w.alloc (.cells #[.int .i64 0, .int .i64 0, .int .i64 0, .int .i64 0, .int .i64 0, .int .i64 0, .int .i64 0] 24)) p (rInt (-9223372036854775808) 9223372036854775807 s).2 w') := by
    rw [hv0]; exact xint p _ _ _ _ (h.same (heap_alloc_old _ _ hpw))
  replace hv0 := Lib.hid hv0
  go_enter Try.func33, Try.ntmps33
  go_wp2_with fail
  refine C0.out.mono ?_
  rintro e w1 ⟨rfl, r0⟩
  have ha1 : Hid (w1.heap[w.heap.size]? = some (.cells #[.int .i64 0, .int .i64 0, .int .i64 0, .int .i64 0, .int .i64 0, .int .i64 0, .int .i64 0] 24 (0, 0))) := (r0.gr.block _ (by simp) (fun e => by injection e with e; omega)).trans (heap_alloc_new _ _)
  have la1 := lt_some ha1.out
  have hp1 : p < w1.heap.size := r0.rx.lt
  have h1 : Hid (TkX w p w1.heap.size #[.int .i64 0, .int .i64 0, .int .i64 0, .int .i64 0, .int .i64 0, .int .i64 0, .int .i64 0] 24 (rdk 1 s) (w1.alloc (.cells #[.int .i64 v0, .int .i64 0, .int .i64 0, .int .i64 0, .int .i64 0, .int .i64 0, .int .i64 0] 24))) := tx_first r0 (by rw [hv0.out]; rfl)
  clear r0 C0 hv0
  obtain ⟨W1, eW1⟩ : ∃ z, z = w1.alloc (.cells #[.int .i64 v0, .int .i64 0, .int .i64 0, .int .i64 0, .int .i64 0, .int .i64 0, .int .i64 0] 24) := ⟨_, rfl⟩
  have hpb : p ≠ w1.heap.size := by omega
  have hab : w.heap.size ≠ w1.heap.size := by omega
  have hwb : w.heap.size < w1.heap.size := la1
  have haw : Hid (W1.heap[w.heap.size]? = some (.cells #[.int .i64 0, .int .i64 0, .int .i64 0, .int .i64 0, .int .i64 0, .int .i64 0, .int .i64 0] 24 (0, 0))) := by rw [eW1]; exact stay1 ha1 _
  go_upto_region 3 with fail
  rw [← eW1] at h1 ⊢
  clear eW1
  generalize w1.heap.size = b at *
  generalize hsz : w.heap.size = a at *
  have hap : a ≠ p := by omega
  have ha1' := haw
  clear ha1
  have ha1 := ha1'
  clear ha1' haw la1 hp1
  obtain ⟨v1, hv1⟩ : ∃ v, v = (rInt (-9223372036854775808) 9223372036854775807 (rdk 1 s).2).1 := ⟨_, rfl⟩
  have C1 : Hid (Calls Try.prog 35 #[.pointer (some ⟨p, 0, none⟩), .int .i64 (-9223372036854775808), .int .i64 9223372036854775807] W1 fun e w' => e = .returned (.int .i64 v1) ∧ RxTo W1 p (rInt (-9223372036854775808) 9223372036854775807 (rdk 1 s).2).2 w') := by rw [hv1]; exact xint p _ _ _ _ h1.out.rx
  replace hv1 := Lib.hid hv1
  go_wp2_with fail
  refine C1.out.mono ?_
  rintro e u1 ⟨rfl, r1⟩
  have hb1 : u1.heap[b]? = _ := (r1.gr.block b (lt_some h1.out.bl) (fun e => hpb (by injection e with e; exact e.symm))).trans h1.out.bl
  have ha10 : Hid (u1.heap[a]? = some (.cells #[.int .i64 0, .int .i64 0, .int .i64 0, .int .i64 0, .int .i64 0, .int .i64 0, .int .i64 0] 24 (0, 0))) := (r1.gr.block a (lt_some ha1.out) (fun e => hap (by injection e))).trans ha1.out
  have ha2 : Hid ((u1.setCell ⟨b, 1, none⟩ (.int .i64 v1)).heap[a]? = some (.cells #[.int .i64 0, .int .i64 0, .int .i64 0, .int .i64 0, .int .i64 0, .int .i64 0, .int .i64 0] 24 (0, 0))) := (Below.heap_setCell _ ⟨b, 1, none⟩ _ a hab).trans ha10.out
  obtain ⟨y1, hy1⟩ : ∃ y, (setL #[.int .i64 0, .int .i64 0, .int .i64 0, .int .i64 0, .int .i64 0, .int .i64 0, .int .i64 0] 0 (rdk 1 s).1)[1]? = some y := ⟨_, Array.getElem?_eq_getElem (by rw [setL_size]; decide)⟩
  have d1 : u1.cell? ⟨b, 1, none⟩ = some y1 := (one_at hb1).trans hy1
  have f1 : u1.frozen? ⟨b, 1, none⟩ = false := one_free hb1
  have h2 : Hid (TkX w p b #[.int .i64 0, .int .i64 0, .int .i64 0, .int .i64 0, .int .i64 0, .int .i64 0, .int .i64 0] 24 (rdk 2 s) (u1.setCell ⟨b, 1, none⟩ (.int .i64 v1))) := by rw [hv1.out]; exact tx_step h1.out hpb r1
  clear r1 hb1 hy1 C1 h1 hv1 ha1 ha10
  obtain ⟨v2, hv2⟩ : ∃ v, v = (rInt (-9223372036854775808) 9223372036854775807 (rdk 2 s).2).1 := ⟨_, rfl⟩
  have C2 : Hid (Calls Try.prog 35 #[.pointer (some ⟨p, 0, none⟩), .int .i64 (-9223372036854775808), .int .i64 9223372036854775807] (u1.setCell ⟨b, 1, none⟩ (.int .i64 v1)) fun e w' => e = .returned (.int .i64 v2) ∧ RxTo (u1.setCell ⟨b, 1, none⟩ (.int .i64 v1)) p (rInt (-9223372036854775808) 9223372036854775807 (rdk 2 s).2).2 w') := by rw [hv2]; exact xint p _ _ _ _ h2.out.rx
  replace hv2 := Lib.hid hv2
  go_wp2_with fail
  refine C2.out.mono ?_
  rintro e u2 ⟨rfl, r2⟩
  have hb2 : u2.heap[b]? = _ := (r2.gr.block b (lt_some h2.out.bl) (fun e => hpb (by injection e with e; exact e.symm))).trans h2.out.bl
  have ha20 : Hid (u2.heap[a]? = some (.cells #[.int .i64 0, .int .i64 0, .int .i64 0, .int .i64 0, .int .i64 0, .int .i64 0, .int .i64 0] 24 (0, 0))) := (r2.gr.block a (lt_some ha2.out) (fun e => hap (by injection e))).trans ha2.out
  have ha3 : Hid ((u2.setCell ⟨b, 2, none⟩ (.int .i64 v2)).heap[a]? = some (.cells #[.int .i64 0, .int .i64 0, .int .i64 0, .int .i64 0, .int .i64 0, .int .i64 0, .int .i64 0] 24 (0, 0))) := (Below.heap_setCell _ ⟨b, 2, none⟩ _ a hab).trans ha20.out
  obtain ⟨y2, hy2⟩ : ∃ y, (setL #[.int .i64 0, .int .i64 0, .int .i64 0, .int .i64 0, .int .i64 0, .int .i64 0, .int .i64 0] 0 (rdk 2 s).1)[2]? = some y := ⟨_, Array.getElem?_eq_getElem (by rw [setL_size]; decide)⟩
  have d2 : u2.cell? ⟨b, 2, none⟩ = some y2 := (one_at hb2).trans hy2
  have f2 : u2.frozen? ⟨b, 2, none⟩ = false := one_free hb2
  have h3 : Hid (TkX w p b #[.int .i64 0, .int .i64 0, .int .i64 0, .int .i64 0, .int .i64 0, .int .i64 0, .int .i64 0] 24 (rdk 3 s) (u2.setCell ⟨b, 2, none⟩ (.int .i64 v2))) := by rw [hv2.out]; exact tx_step h2.out hpb r2
  clear r2 hb2 hy2 C2 h2 hv2 ha2 ha20
  obtain ⟨v3, hv3⟩ : ∃ v, v = (rInt (-9223372036854775808) 9223372036854775807 (rdk 3 s).2).1 := ⟨_, rfl⟩
  have C3 : Hid (Calls Try.prog 35 #[.pointer (some ⟨p, 0, none⟩), .int .i64 (-9223372036854775808), .int .i64 9223372036854775807] (u2.setCell ⟨b, 2, none⟩ (.int .i64 v2)) fun e w' => e = .returned (.int .i64 v3) ∧ RxTo (u2.setCell ⟨b, 2, none⟩ (.int .i64 v2)) p (rInt (-9223372036854775808) 9223372036854775807 (rdk 3 s).2).2 w') := by rw [hv3]; exact xint p _ _ _ _ h3.out.rx
  replace hv3 := Lib.hid hv3
  go_wp2_with fail
  refine wp_loop_rounds 4 ?_
  rw [rounds_succ]
  go_wp2_with fail
  refine C3.out.mono ?_
  rintro e u3 ⟨rfl, r3⟩
  have hb3 : u3.heap[b]? = _ := (r3.gr.block b (lt_some h3.out.bl) (fun e => hpb (by injection e with e; exact e.symm))).trans h3.out.bl
  have ha30 : Hid (u3.heap[a]? = some (.cells #[.int .i64 0, .int .i64 0, .int .i64 0, .int .i64 0, .int .i64 0, .int .i64 0, .int .i64 0] 24 (0, 0))) := (r3.gr.block a (lt_some ha3.out) (fun e => hap (by injection e))).trans ha3.out
  have ha4 : Hid ((u3.setCell ⟨b, 3, none⟩ (.int .i64 v3)).heap[a]? = some (.cells #[.int .i64 0, .int .i64 0, .int .i64 0, .int .i64 0, .int .i64 0, .int .i64 0, .int .i64 0] 24 (0, 0))) := (Below.heap_setCell _ ⟨b, 3, none⟩ _ a hab).trans ha30.out
  obtain ⟨y3, hy3⟩ : ∃ y, (setL #[.int .i64 0, .int .i64 0, .int .i64 0, .int .i64 0, .int .i64 0, .int .i64 0, .int .i64 0] 0 (rdk 3 s).1)[3]? = some y := ⟨_, Array.getElem?_eq_getElem (by rw [setL_size]; decide)⟩
  have d3 : u3.cell? ⟨b, 3, none⟩ = some y3 := (one_at hb3).trans hy3
  have f3 : u3.frozen? ⟨b, 3, none⟩ = false := one_free hb3
  have h4 : Hid (TkX w p b #[.int .i64 0, .int .i64 0, .int .i64 0, .int .i64 0, .int .i64 0, .int .i64 0, .int .i64 0] 24 (rdk 4 s) (u3.setCell ⟨b, 3, none⟩ (.int .i64 v3))) := by rw [hv3.out]; exact tx_step h3.out hpb r3
  clear r3 hb3 hy3 C3 h3 hv3 ha3 ha30
  obtain ⟨v4, hv4⟩ : ∃ v, v = (rInt (-9223372036854775808) 9223372036854775807 (rdk 4 s).2).1 := ⟨_, rfl⟩
  have C4 : Hid (Calls Try.prog 35 #[.pointer (some ⟨p, 0, none⟩), .int .i64 (-9223372036854775808), .int .i64 9223372036854775807] (u3.setCell ⟨b, 3, none⟩ (.int .i64 v3)) fun e w' => e = .returned (.int .i64 v4) ∧ RxTo (u3.setCell ⟨b, 3, none⟩ (.int .i64 v3)) p (rInt (-9223372036854775808) 9223372036854775807 (rdk 4 s).2).2 w') := by rw [hv4]; exact xint p _ _ _ _ h4.out.rx
  replace hv4 := Lib.hid hv4
  go_wp2_with fail
  rw [rounds_succ]
  go_wp2_with fail
  refine C4.out.mono ?_
  rintro e u4 ⟨rfl, r4⟩
  have hb4 : u4.heap[b]? = _ := (r4.gr.block b (lt_some h4.out.bl) (fun e => hpb (by injection e with e; exact e.symm))).trans h4.out.bl
  have ha40 : Hid (u4.heap[a]? = some (.cells #[.int .i64 0, .int .i64 0, .int .i64 0, .int .i64 0, .int .i64 0, .int .i64 0, .int .i64 0] 24 (0, 0))) := (r4.gr.block a (lt_some ha4.out) (fun e => hap (by injection e))).trans ha4.out
  have ha5 : Hid ((u4.setCell ⟨b, 4, none⟩ (.int .i64 v4)).heap[a]? = some (.cells #[.int .i64 0, .int .i64 0, .int .i64 0, .int .i64 0, .int .i64 0, .int .i64 0, .int .i64 0] 24 (0, 0))) := (Below.heap_setCell _ ⟨b, 4, none⟩ _ a hab).trans ha40.out
  obtain ⟨y4, hy4⟩ : ∃ y, (setL #[.int .i64 0, .int .i64 0, .int .i64 0, .int .i64 0, .int .i64 0, .int .i64 0, .int .i64 0] 0 (rdk 4 s).1)[4]? = some y := ⟨_, Array.getElem?_eq_getElem (by rw [setL_size]; decide)⟩
  have d4 : u4.cell? ⟨b, 4, none⟩ = some y4 := (one_at hb4).trans hy4
  have f4 : u4.frozen? ⟨b, 4, none⟩ = false := one_free hb4
  have h5 : Hid (TkX w p b #[.int .i64 0, .int .i64 0, .int .i64 0, .int .i64 0, .int .i64 0, .int .i64 0, .int .i64 0] 24 (rdk 5 s) (u4.setCell ⟨b, 4, none⟩ (.int .i64 v4))) := by rw [hv4.out]; exact tx_step h4.out hpb r4
  clear r4 hb4 hy4 C4 h4 hv4 ha4 ha40
  obtain ⟨v5, hv5⟩ : ∃ v, v = (rInt (-9223372036854775808) 9223372036854775807 (rdk 5 s).2).1 := ⟨_, rfl⟩
  have C5 : Hid (Calls Try.prog 35 #[.pointer (some ⟨p, 0, none⟩), .int .i64 (-9223372036854775808), .int .i64 9223372036854775807] (u4.setCell ⟨b, 4, none⟩ (.int .i64 v4)) fun e w' => e = .returned (.int .i64 v5) ∧ RxTo (u4.setCell ⟨b, 4, none⟩ (.int .i64 v4)) p (rInt (-9223372036854775808) 9223372036854775807 (rdk 5 s).2).2 w') := by rw [hv5]; exact xint p _ _ _ _ h5.out.rx
  replace hv5 := Lib.hid hv5
  go_wp2_with fail
  rw [rounds_succ]
  go_wp2_with fail
  refine C5.out.mono ?_
  rintro e u5 ⟨rfl, r5⟩
  have hb5 : u5.heap[b]? = _ := (r5.gr.block b (lt_some h5.out.bl) (fun e => hpb (by injection e with e; exact e.symm))).trans h5.out.bl
  have ha50 : Hid (u5.heap[a]? = some (.cells #[.int .i64 0, .int .i64 0, .int .i64 0, .int .i64 0, .int .i64 0, .int .i64 0, .int .i64 0] 24 (0, 0))) := (r5.gr.block a (lt_some ha5.out) (fun e => hap (by injection e))).trans ha5.out
  have ha6 : Hid ((u5.setCell ⟨b, 5, none⟩ (.int .i64 v5)).heap[a]? = some (.cells #[.int .i64 0, .int .i64 0, .int .i64 0, .int .i64 0, .int .i64 0, .int .i64 0, .int .i64 0] 24 (0, 0))) := (Below.heap_setCell _ ⟨b, 5, none⟩ _ a hab).trans ha50.out
  obtain ⟨y5, hy5⟩ : ∃ y, (setL #[.int .i64 0, .int .i64 0, .int .i64 0, .int .i64 0, .int .i64 0, .int .i64 0, .int .i64 0] 0 (rdk 5 s).1)[5]? = some y := ⟨_, Array.getElem?_eq_getElem (by rw [setL_size]; decide)⟩
  have d5 : u5.cell? ⟨b, 5, none⟩ = some y5 := (one_at hb5).trans hy5
  have f5 : u5.frozen? ⟨b, 5, none⟩ = false := one_free hb5
  have h6 : Hid (TkX w p b #[.int .i64 0, .int .i64 0, .int .i64 0, .int .i64 0, .int .i64 0, .int .i64 0, .int .i64 0] 24 (rdk 6 s) (u5.setCell ⟨b, 5, none⟩ (.int .i64 v5))) := by rw [hv5.out]; exact tx_step h5.out hpb r5
  clear r5 hb5 hy5 C5 h5 hv5 ha5 ha50
  obtain ⟨v6, hv6⟩ : ∃ v, v = (rInt (-9223372036854775808) 9223372036854775807 (rdk 6 s).2).1 := ⟨_, rfl⟩
  have C6 : Hid (Calls Try.prog 35 #[.pointer (some ⟨p, 0, none⟩), .int .i64 (-9223372036854775808), .int .i64 9223372036854775807] (u5.setCell ⟨b, 5, none⟩ (.int .i64 v5)) fun e w' => e = .returned (.int .i64 v6) ∧ RxTo (u5.setCell ⟨b, 5, none⟩ (.int .i64 v5)) p (rInt (-9223372036854775808) 9223372036854775807 (rdk 6 s).2).2 w') := by rw [hv6]; exact xint p _ _ _ _ h6.out.rx
  replace hv6 := Lib.hid hv6
  go_wp2_with fail
  rw [rounds_succ]
  go_wp2_with fail
  refine C6.out.mono ?_
  rintro e u6 ⟨rfl, r6⟩
  have hb6 : u6.heap[b]? = _ := (r6.gr.block b (lt_some h6.out.bl) (fun e => hpb (by injection e with e; exact e.symm))).trans h6.out.bl
  have ha60 : Hid (u6.heap[a]? = some (.cells #[.int .i64 0, .int .i64 0, .int .i64 0, .int .i64 0, .int .i64 0, .int .i64 0, .int .i64 0] 24 (0, 0))) := (r6.gr.block a (lt_some ha6.out) (fun e => hap (by injection e))).trans ha6.out
  have ha7 : Hid ((u6.setCell ⟨b, 6, none⟩ (.int .i64 v6)).heap[a]? = some (.cells #[.int .i64 0, .int .i64 0, .int .i64 0, .int .i64 0, .int .i64 0, .int .i64 0, .int .i64 0] 24 (0, 0))) := (Below.heap_setCell _ ⟨b, 6, none⟩ _ a hab).trans ha60.out
  obtain ⟨y6, hy6⟩ : ∃ y, (setL #[.int .i64 0, .int .i64 0, .int .i64 0, .int .i64 0, .int .i64 0, .int .i64 0, .int .i64 0] 0 (rdk 6 s).1)[6]? = some y := ⟨_, Array.getElem?_eq_getElem (by rw [setL_size]; decide)⟩
  have d6 : u6.cell? ⟨b, 6, none⟩ = some y6 := (one_at hb6).trans hy6
  have f6 : u6.frozen? ⟨b, 6, none⟩ = false := one_free hb6
  have h7 : Hid (TkX w p b #[.int .i64 0, .int .i64 0, .int .i64 0, .int .i64 0, .int .i64 0, .int .i64 0, .int .i64 0] 24 (rdk 7 s) (u6.setCell ⟨b, 6, none⟩ (.int .i64 v6))) := by rw [hv6.out]; exact tx_step h6.out hpb r6
  clear r6 hb6 hy6 C6 h6 hv6 ha6 ha60
  have hb7 : Hid ((u6.setCell ⟨b, 6, none⟩ (.int .i64 v6)).heap[b]? = some (.cells #[.int .i64 x.book, .int .i64 x.cust, .int .i64 x.dead, .int .i64 x.u0, .int .i64 x.u1, .int .i64 x.u2, .int .i64 x.price] 24 (0, 0))) := by unfold Hid; rw [h7.out.bl, boxW s x hx]
  have g7 : Hid (RxTo w p (rdk 7 s).2 ((u6.setCell ⟨b, 6, none⟩ (.int .i64 v6)).setRow a #[.int .i64 x.book, .int .i64 x.cust, .int .i64 x.dead, .int .i64 x.u0, .int .i64 x.u1, .int .i64 x.u2, .int .i64 x.price])) := by
    have hg := h7.out.gr
    refine ⟨h7.out.rx.same (setRow_other _ _ _ _ (fun e => hap e.symm)), hg.os, hg.tape, hg.output, by have := hg.size; simpa [World.setRow] using this, fun i hi hne => ?_⟩
    rw [setRow_other _ _ _ _ (by omega : i ≠ a)]
    exact hg.block i hi (fun e => hne (by rw [e])) (by omega)
  go_wp2_with (first | (refine wpList_load_row rfl 24 (.tmp 5) rfl b rfl 24 #[.int .i64 x.book, .int .i64 x.cust, .int .i64 x.dead, .int .i64 x.u0, .int .i64 x.u1, .int .i64 x.u2, .int .i64 x.price] (0, 0) _ hb7.out Try.underlying24 rfl want_info ?_) | (refine wpList_store_row rfl 24 (.tmp 2) (.tmp 38) rfl a #[.int .i64 x.book, .int .i64 x.cust, .int .i64 x.dead, .int .i64 x.u0, .int .i64 x.u1, .int .i64 x.u2, .int .i64 x.price] rfl rfl 24 #[.int .i64 0, .int .i64 0, .int .i64 0, .int .i64 0, .int .i64 0, .int .i64 0, .int .i64 0] ha7.out want_info rfl (one7 _ _ _ _ _ _ _) ?_))
  refine bodyPost_ret (results_cell_row take_results _ _ a 24 #[.int .i64 x.book, .int .i64 x.cust, .int .i64 x.dead, .int .i64 x.u0, .int .i64 x.u1, .int .i64 x.u2, .int .i64 x.price] (0, 0) _ rfl (setRow_heap _ _ _ _ _ _ ha7.out) Try.underlying24 rfl want_info) rfl ?_
  exact ⟨rfl, g7.out⟩
end Wt
end Go.Proofs.Ytmmediadgoejpaa
