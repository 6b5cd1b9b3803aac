/- Each inventory whose units are wanted is held and confirmed once (PlanHolds): any units up to 1,000, any price that may be. -/
import Derived.Test.YtnljfnhndnkckaaPlO
import Derived.Test.YtnljfnhndnkckaaPlP
import Derived.Deep.CutBlock
import Derived.Deep.CutRange
import Derived.BigQuiet
import Derived.Lib.QuietBelow
import Derived.JoinedRecord
import Derived.HandedShaped
namespace Go.Proofs.Ytnljfnhndnkckaa.planHolds
set_option maxRecDepth 100000
open Go.ChangeShapes Go.WideShapes Go.ChangeAt Go.WideMaps Go.WideElems Go.RowKit
open Go.Proofs.Ytnljfnhndnkckaa.Pk (one_at one_free one_set lt_some grown_set grown_trans below_grown grown_refl)
open Go.Proofs.Ytnljfnhndnkckaa.Pl
open Go.Proofs.Ytnljfnhndnkckaa.Wt (Wan may Opn mayOp may_any refmay_any refmayop_any below_drewN)


theorem usm_big (z : Int) {n : Nat} (hn : 0 < n) (hs : n ≤ 4611686018427387904) : wrap64 ((IntKind.u64.wrap z).tmod (n : Int)) = (usm z n : Int) := by
  have h0 : 0 ≤ IntKind.u64.wrap z := by rw [IntKind.wrap_u64]; omega
  have h1 := usm_lt z hn
  rw [Int.tmod_eq_emod_of_nonneg h0, IntKind.wrap_u64, usm_is z hn, IntWalk.wrap64_in _ (by omega)]
theorem eq_arr3 (w : World) (a b c x y z : Int) : (Op.equalIn 10000 22 (.agg #[.int .i64 a, .int .i64 b, .int .i64 c]) (.agg #[.int .i64 x, .int .i64 y, .int .i64 z])).run Try.prog w = .ok (a == x && (b == y && c == z)) w := by
  have u3 := Try.underlying3
  have a3 := Try.isAgg3
  have z3 := Try.sizeOf3
  rw [show (10000 : Nat) = 9999 + 1 from rfl, Op.equalIn]
  simp only [Sem.run_bind, run_underlying Try.underlying22, Result.andThen_ok]
  simp only [Std.Legacy.Range.forIn_eq_forIn_range', Std.Legacy.Range.size, Nat.sub_zero, Nat.add_sub_cancel, Nat.div_one, List.range'_succ, List.range'_zero, List.forIn_cons, List.forIn_nil]
  go_simp
  by_cases h1 : a = x <;> by_cases h2 : b = y <;> by_cases h3 : c = z <;> simp [h1, h2, h3]
theorem eq_ask0 (w : World) : (Op.equalIn 10000 28 (.agg #[.int .i64 0, .int .i64 0, .int .i64 0, .int .i64 0, .int .i64 0, .int .i64 0]) (.agg #[.int .i64 0, .int .i64 0, .int .i64 0, .int .i64 0, .int .i64 0, .int .i64 0])).run Try.prog w = .ok true w := by kernel_rfl
/-- While the steps are gone over: both arrays at g, and behind it. -/
structure HlAt (x : Wan) (l : List Stp) (W : World) (g : Nat) (k : Nat) (st : Hs) (wr : World) : Prop where
  run : hrun x (l.take k) hs0 = some st
  hh : wr.heap[g]? = some (.cells #[.int .i64 (st.h 0), .int .i64 (st.h 1), .int .i64 (st.h 2)] 22 (0, 0))
  hc : wr.heap[g + 1]? = some (.cells #[.int .i64 (st.c 0), .int .i64 (st.c 1), .int .i64 (st.c 2)] 22 (0, 0))
  be : Below W.heap.size W wr
def LzAt (W : World) (i : Value) (wr : World) : Prop := ∃ (k : Nat) (z : Int), i = .int .i64 z ∧ z = (k : Int) ∧ k ≤ 3 ∧ Below W.heap.size W wr
def HlAs (x : Wan) (l : List Stp) (W : World) (g N : Nat) (v i : Value) (wr : World) : Prop := ∃ (k : Nat) (st : Hs), i = .int .i64 (k : Int) ∧ v = .int .i64 st.au ∧ k ≤ N ∧ HlAt x l W g k st wr
set_option maxHeartbeats 12800000 in
theorem walk (w : World) (a b c d e : Int) (x : Wan) (hb9 : x.book = 9) (hd0 : x.dead = 0) (ea : wrap64 ((IntKind.u64.wrap a).tmod 1001) = x.u0) (eb : wrap64 ((IntKind.u64.wrap b).tmod 1001) = x.u1) (ec : wrap64 ((IntKind.u64.wrap c).tmod 1001) = x.u2) (ed : wrap64 ((IntKind.u64.wrap d).tmod 1099511627777) = x.price) (ee : wrap64 ((IntKind.u64.wrap e).tmod 4) = x.cust)
    (h0 : 0 ≤ x.u0 ∧ x.u0 ≤ 1000) (h1 : 0 ≤ x.u1 ∧ x.u1 ≤ 1000) (h2 : 0 ≤ x.u2 ∧ x.u2 ≤ 1000) (h3 : 0 ≤ x.price ∧ x.price ≤ 1099511627776) (h4 : 0 ≤ x.cust ∧ x.cust ≤ 3) :
    Calls Try.prog 5 #[.int .i64 a, .int .i64 b, .int .i64 c, .int .i64 d, .int .i64 e] w fun e w' => e = .returned (.bool true) ∧ Below w.heap.size w w' := by
  have hmy : Hid (may x = decide (0 < x.u0 ∨ 0 < x.u1 ∨ 0 < x.u2)) := by
    have e1 : Wt.inR 9 1 200 = true := by decide
    have e2 : Wt.inR x.cust 0 3 = true := decide_eq_true h4
    have e3 : Wt.inR 0 0 1099511627776 = true := by decide
    have e4 : Wt.inR x.price 0 1099511627776 = true := decide_eq_true h3
    have e5 : Wt.mayU x.u0 x.u1 x.u2 = decide (0 < x.u0 ∨ 0 < x.u1 ∨ 0 < x.u2) := by unfold Wt.mayU; rw [decide_eq_decide]; omega
    unfold Hid may
    simp only [hb9, hd0, e1, e2, e3, e4, e5, Bool.true_and, Bool.and_true]
  have wx : wanv x = .agg #[.int .i64 9, .int .i64 x.cust, .int .i64 0, .int .i64 x.u0, .int .i64 x.u1, .int .i64 x.u2, .int .i64 x.price] := by unfold wanv; rw [hb9, hd0]
  obtain ⟨W0, hW0⟩ : ∃ W0, W0 = w.alloc (.cells #[.int .i64 9, .int .i64 x.cust, .int .i64 0, .int .i64 x.u0, .int .i64 x.u1, .int .i64 x.u2, .int .i64 x.price] 24) := ⟨_, rfl⟩
  have B0 : BoxW W0 w.heap.size x := by unfold BoxW; rw [hW0, hb9, hd0]; exact heap_alloc_new _ _
  have be0 : Hid (Below w.heap.size w W0) := by rw [hW0]; exact (Below.refl _ w).alloc (Nat.le_refl _) _
  have CB0 : Hid (∀ w', Below W0.heap.size W0 w' → BoxW w' w.heap.size x) := fun w' h => B0.below h B0.lt
  have F := fwd_any W0 x
  have TD : Hid (∀ w', Calls Try.prog 15 #[] w' fun e w'' => e = .returned (.bool true) ∧ Below w'.heap.size w' w'') := told_any
  have KB : Hid (∀ w', Calls Try.prog 11 #[.agg #[.int .i64 9, .int .i64 x.cust, .int .i64 0, .int .i64 x.u0, .int .i64 x.u1, .int .i64 x.u2, .int .i64 x.price]] w' (StpsTo 28 w' (bck x))) := fun w' => by rw [← wx]; exact bck_any w' x
  have KP : Hid (∀ w', Calls Try.prog 13 #[.agg #[.int .i64 9, .int .i64 x.cust, .int .i64 0, .int .i64 x.u0, .int .i64 x.u1, .int .i64 x.u2, .int .i64 x.price]] w' (NumsTo w' (parts x))) := fun w' => by rw [← wx]; exact parts_any w' x
  have KC : Hid (∀ w', Calls Try.prog 6 #[.agg #[.int .i64 9, .int .i64 x.cust, .int .i64 0, .int .i64 x.u0, .int .i64 x.u1, .int .i64 x.u2, .int .i64 x.price]] w' fun e w'' => e = .returned (spv (cap x)) ∧ Below w'.heap.size w' w'') := fun w' => by rw [← wx]; exact cap_any w' x
  rw [wx] at F
  have EQ := eq_arr3
  replace hW0 := Lib.hid hW0
  replace F := Lib.hid F
  replace h0 := Lib.hid h0
  replace h1 := Lib.hid h1
  replace h2 := Lib.hid h2
  replace hb9 := Lib.hid hb9
  replace hd0 := Lib.hid hd0
  clear B0 h3 h4 wx
  go_enter Try.func5, Try.ntmps5
  go_wp2_with fail
  rw [← hW0.out]
  refine F.out.mono ?_
  rintro e w2 ⟨v, rfl, hF, h2b⟩
  obtain ⟨A, cf, rfl, -⟩ := rt_form hF
  have few := fwd_len x
  have b2 : Hid (Below w.heap.size w w2) := be0.out.trans (h2b.mono be0.out.size)
  have CB : Hid (∀ w', Below w2.heap.size w2 w' → BoxW w' w.heap.size x) := fun w' h => CB0.out w' (h2b.trans (h.mono h2b.size))
  have RF : Hid (∀ w', Below w2.heap.size w2 w' → RowT 28 w' W0.heap.size (.slice A (fwd x).length cf) (fwd x).length (fwd x)) := fun w' h => rt_below hF h
  have hwl : w.heap.size < w2.heap.size := (CB.out _ (Below.refl _ _)).lt
  obtain ⟨c0, c1, c2, c3, c4, c5, c6⟩ := (CB.out _ (Below.refl _ _)).cells
  rw [hb9.out] at c0
  rw [hd0.out] at c2
  clear F hF h2b be0 hW0 CB0 ea eb ec ed ee
  by_cases hz : x.u0 = 0 ∧ x.u1 = 0 ∧ x.u2 = 0
  · have hno : may x = false := by rw [hmy.out, decide_eq_false_iff_not]; omega
    have q0 : (x.u0 == 0) = true := by rw [hz.1]; rfl
    have q1 : (x.u1 == 0) = true := by rw [hz.2.1]; rfl
    have q2 : (x.u2 == 0) = true := by rw [hz.2.2]; rfl
    have hl : (fwd x).length = 0 := by rw [fwd_no hno]; rfl
    rw [bck_no hno] at KB
    rw [parts_no hno] at KP
    rw [show cap x = z0 by unfold cap; rw [hno]; rfl] at KC
    rw [hl]
    have EA := eq_ask0
    have T2 := Lib.hid (TD.out w2)
    replace KB := Lib.hid KB.out
    replace KP := Lib.hid KP.out
    replace KC := Lib.hid KC.out
    clear hz hno hl RF few hmy h0 h1 h2 TD
    go_wp2_with fail
    refine T2.out.mono ?_
    rintro e w3 ⟨rfl, h3⟩
    clear c0 c1 c2 c3 c4 c5 c6 hwl T2
    obtain ⟨c0, c1, c2, c3, c4, c5, c6⟩ := (CB.out _ h3).cells
    rw [hb9.out] at c0
    rw [hd0.out] at c2
    have hwl3 : w.heap.size < w3.heap.size := block_lt_of_cell c0
    have B3 := Lib.hid (KB.out w3)
    replace h3 := Lib.hid h3
    clear KB
    go_wp2_with fail
    refine B3.out.mono ?_
    rintro e w4 ⟨v4, rfl, r4, h4⟩
    obtain ⟨A4, d4, rfl, -⟩ := rt_form r4
    have hb4 : Hid (Below w2.heap.size w2 w4) := h3.out.trans (h4.mono h3.out.size)
    clear c0 c1 c2 c3 c4 c5 c6 hwl3 r4 h4 h3 B3
    obtain ⟨c0, c1, c2, c3, c4, c5, c6⟩ := (CB.out _ hb4.out).cells
    rw [hb9.out] at c0
    rw [hd0.out] at c2
    have hwl4 : w.heap.size < w4.heap.size := block_lt_of_cell c0
    have P4 := Lib.hid (KP.out w4)
    clear KP
    go_wp2_with fail
    refine P4.out.mono ?_
    rintro e w5 ⟨v5, rfl, r5, h5⟩
    obtain ⟨A5, d5, rfl, -⟩ := ri_form r5
    have hb5 : Hid (Below w2.heap.size w2 w5) := hb4.out.trans (h5.mono hb4.out.size)
    clear c0 c1 c2 c3 c4 c5 c6 hwl4 r5 h5 hb4 P4
    obtain ⟨c0, c1, c2, c3, c4, c5, c6⟩ := (CB.out _ hb5.out).cells
    rw [hb9.out] at c0
    rw [hd0.out] at c2
    have hwl5 : w.heap.size < w5.heap.size := block_lt_of_cell c0
    have C5 := KC.out w5
    unfold z0 at C5
    replace C5 := Lib.hid C5
    clear KC
    go_wp2_with fail
    refine C5.out.mono ?_
    rintro e w6 ⟨rfl, h6⟩
    have E : Hid (Below w.heap.size w w6) := b2.out.trans ((hb5.out.trans (h6.mono hb5.out.size)).mono b2.out.size)
    clear c0 c1 c2 c3 c4 c5 c6 hwl5 h6 hb5 C5
    go_wp2_with fail
    go_ret
    exact ⟨rfl, E.out⟩
  · have hz0 := h0.out
    have hz1 := h1.out
    have hz2 := h2.out
    have hme : may x = true := by rw [hmy.out, decide_eq_true_iff]; omega
    have q0 : (x.u0 == 0 && (x.u1 == 0 && x.u2 == 0)) = false := by
      by_cases g0 : x.u0 = 0
      · by_cases g1 : x.u1 = 0
        · have g2 : ¬ x.u2 = 0 := fun g => hz ⟨g0, g1, g⟩
          simp [g2]
        · simp [g1]
      · simp [g0]
    obtain ⟨fin, hfin, ends⟩ := fwd_run hme
    generalize fwd x = l at *
    generalize hN : l.length = N at *
    obtain ⟨W4, hW4⟩ : ∃ W4, W4 = (w2.alloc (.cells #[.int .i64 0, .int .i64 0, .int .i64 0] 22)).alloc (.cells #[.int .i64 0, .int .i64 0, .int .i64 0] 22) := ⟨_, rfl⟩
    have st : Hid (HlAs x l w2 w2.heap.size N (.int .i64 (-1)) (.int .i64 0) W4) := by
      refine ⟨0, hs0, rfl, rfl, Nat.zero_le _, rfl, ?_, ?_, ?_⟩
      · rw [hW4]; exact heap_alloc2_old _ _ _
      · have := heap_alloc_new (w2.alloc (.cells #[.int .i64 0, .int .i64 0, .int .i64 0] 22)) (.cells #[.int .i64 0, .int .i64 0, .int .i64 0] 22)
        rw [hW4]
        rwa [show (w2.alloc (.cells #[.int .i64 0, .int .i64 0, .int .i64 0] 22)).heap.size = w2.heap.size + 1 by simp] at this
      · rw [hW4]; exact ((Below.refl _ _).alloc (Nat.le_refl _) _).alloc (by simp) _
    replace hW4 := Lib.hid hW4
    replace hfin := Lib.hid hfin
    replace ends := Lib.hid ends
    replace hN := Lib.hid hN
    clear hz hz0 hz1 hz2 KB KP KC hmy hme
    go_wp2_with fail
    rw [← hW4.out]
    clear hW4 q0 c0 c1 c2 c3 c4 c5 c6 EQ
    go_loopw [15, 16] (fun v i wr => HlAs x l w2 w2.heap.size N v i wr) (fun _ i _ => N - (intOf i).toNat)
    case atStart => exact st.out
    case round =>
      clear st
      obtain ⟨k, st, rfl, rfl, hk, H⟩ := hrel
      have hbx := CB.out wr H.be
      obtain ⟨c0, c1, c2, c3, c4, c5, c6⟩ := hbx.cells
      have hwr : w.heap.size < wr.heap.size := hbx.lt
      have gl1 : w2.heap.size < wr.heap.size := lt_some H.hh
      have gl2 : w2.heap.size + 1 < wr.heap.size := lt_some H.hc
      by_cases hlt : k < N
      · obtain ⟨s, hs⟩ : ∃ s, l[k]? = some s := ⟨_, List.getElem?_eq_getElem (by rw [hN.out]; exact hlt)⟩
        obtain ⟨g, rfl, hat⟩ := rt_cell (RF.out wr H.be) hs
        obtain ⟨st', hst, hrn⟩ := hrun_next hs hfin.out H.run
        have hi : st.i = (k : Int) := by
          have := hrun_i _ _ _ H.run
          rw [this, List.length_take, show hs0.i = 0 from rfl]
          have := hN.out
          omega
        have i1 : (k : Int) < (N : Int) := by omega
        have i2 : (0 : Int) ≤ (k : Int) := by omega
        have gl := block_lt_of_cell hat.1
        obtain ⟨a0, a1, a2, a3, a4, a5⟩ := hat
        have H' := Lib.hid H
        clear hbx H hs
        go_upto_region 10 with fail
        go_region
        obtain ⟨W5, hW5⟩ : ∃ W5, W5 = (wr.alloc (.cells #[.int .i64 s.op.kind, .int .i64 s.op.book, .int .i64 s.op.units, .int .i64 s.op.cust, .int .i64 s.op.amount] 26)).drew := ⟨_, rfl⟩
        have bW : Below wr.heap.size wr W5 := by rw [hW5]; exact ((Below.refl _ _).alloc (Nat.le_refl _) _).drew
        have OB : W5.heap[wr.heap.size]? = some (.cells #[.int .i64 s.op.kind, .int .i64 s.op.book, .int .i64 s.op.units, .int .i64 s.op.cust, .int .i64 s.op.amount] 26 (0, 0)) := by rw [hW5]; exact heap_alloc_new _ _
        have H5 : HlAt x l w2 w2.heap.size k st W5 := ⟨H'.out.run, (bW.block _ gl1).trans H'.out.hh, (bW.block _ gl2).trans H'.out.hc, H'.out.be.trans (bW.mono H'.out.be.size)⟩
        rw [← hW5]
        clear c0 c1 c2 c3 c4 c5 c6 hwr gl1 gl2 gl a0 a1 a2 a3 a4 a5 hW5 H' bW
        have hbx := CB.out W5 H5.be
        obtain ⟨c0, c1, -, c3, c4, c5, c6⟩ := hbx.cells
        have hwr : w.heap.size < W5.heap.size := hbx.lt
        have gl1 : w2.heap.size < W5.heap.size := lt_some H5.hh
        have gl2 : w2.heap.size + 1 < W5.heap.size := lt_some H5.hc
        have gl3 : wr.heap.size < W5.heap.size := lt_some OB
        obtain ⟨nd, kd, bk, us, cs, am⟩ := s
        simp only at OB hst
        have o0 : W5.cell? ⟨wr.heap.size, 0, none⟩ = some (.int .i64 kd) := one_at OB
        have o2 : W5.cell? ⟨wr.heap.size, 2, none⟩ = some (.int .i64 us) := one_at OB
        have o3 : W5.cell? ⟨wr.heap.size, 3, none⟩ = some (.int .i64 cs) := one_at OB
        have o4 : W5.cell? ⟨wr.heap.size, 4, none⟩ = some (.int .i64 am) := one_at OB
        have hk' := hstep_kind hst
        simp only at hk'
        replace hrn := Lib.hid hrn
        replace H5 := Lib.hid H5
        clear OB hbx hst
        rcases hk' with ⟨rfl, hnd, hau, rfl, hh0, rfl⟩ | ⟨rfl, hnd, hau, hh1, hc0, rfl⟩ | ⟨rfl, hau, rfl, rfl, rfl, rfl⟩
        · rcases hnd with rfl | rfl | rfl
          · have na : ¬ (0 : Int) ≤ st.au := by omega
            have qu : (x.u0 != x.u0) = false := by simp
            have ux : un x 0 = x.u0 := rfl
            rw [ux] at o2
            have y0 : W5.cell? ⟨w2.heap.size, 0, none⟩ = some (.int .i64 0) := (one_at H5.out.hh).trans (by show some (Value.int .i64 (st.h 0)) = _; rw [hh0])
            have fz : W5.frozen? ⟨w2.heap.size, 0, none⟩ = false := one_free H5.out.hh
            have nx : Hid (∀ m, HlAs x l w2 w2.heap.size N (.int .i64 st.au) (.int .i64 ((k : Int) + 1)) ((W5.drewN m).setCell ⟨w2.heap.size, 0, none⟩ (.int .i64 1))) := fun m => by
              have e1 : (W5.drewN m).heap[w2.heap.size]? = _ := H5.out.hh
              have e2 : (W5.drewN m).heap[w2.heap.size + 1]? = _ := H5.out.hc
              have gs := grown_set (W5.drewN m) w2.heap.size 0 (.int .i64 1)
              refine ⟨k + 1, ⟨upd st.h 0 1, st.c, st.au, st.i + 1⟩, by simp, rfl, hlt, hrn.out, ?_, ?_, ?_⟩
              · rw [one_set e1]
                rfl
              · rw [gs.block _ (lt_some e2) (by intro e; injection e with e; omega)]
                exact e2
              · exact (H5.out.be.trans (below_drewN _ _ H5.out.be.size)).trans (below_of_grown gs H5.out.be.size fun j hj => by injection hj with hj; omega)
            clear hh0 hau hrn H5
            go_upto_region 14 with fail
            go_quiet (fail)
            go_wp2_with fail
            exact ⟨nx.out _, by simp [intOf]; omega⟩
          · have na : ¬ (0 : Int) ≤ st.au := by omega
            have qu : (x.u1 != x.u1) = false := by simp
            have ux : un x 1 = x.u1 := rfl
            rw [ux] at o2
            have y0 : W5.cell? ⟨w2.heap.size, 1, none⟩ = some (.int .i64 0) := (one_at H5.out.hh).trans (by show some (Value.int .i64 (st.h 1)) = _; rw [hh0])
            have fz : W5.frozen? ⟨w2.heap.size, 1, none⟩ = false := one_free H5.out.hh
            have nx : Hid (∀ m, HlAs x l w2 w2.heap.size N (.int .i64 st.au) (.int .i64 ((k : Int) + 1)) ((W5.drewN m).setCell ⟨w2.heap.size, 1, none⟩ (.int .i64 1))) := fun m => by
              have e1 : (W5.drewN m).heap[w2.heap.size]? = _ := H5.out.hh
              have e2 : (W5.drewN m).heap[w2.heap.size + 1]? = _ := H5.out.hc
              have gs := grown_set (W5.drewN m) w2.heap.size 1 (.int .i64 1)
              refine ⟨k + 1, ⟨upd st.h 1 1, st.c, st.au, st.i + 1⟩, by simp, rfl, hlt, hrn.out, ?_, ?_, ?_⟩
              · rw [one_set e1]
                rfl
              · rw [gs.block _ (lt_some e2) (by intro e; injection e with e; omega)]
                exact e2
              · exact (H5.out.be.trans (below_drewN _ _ H5.out.be.size)).trans (below_of_grown gs H5.out.be.size fun j hj => by injection hj with hj; omega)
            clear hh0 hau hrn H5
            go_upto_region 14 with fail
            go_quiet (fail)
            go_wp2_with fail
            exact ⟨nx.out _, by simp [intOf]; omega⟩
          · have na : ¬ (0 : Int) ≤ st.au := by omega
            have qu : (x.u2 != x.u2) = false := by simp
            have ux : un x 2 = x.u2 := rfl
            rw [ux] at o2
            have y0 : W5.cell? ⟨w2.heap.size, 2, none⟩ = some (.int .i64 0) := (one_at H5.out.hh).trans (by show some (Value.int .i64 (st.h 2)) = _; rw [hh0])
            have fz : W5.frozen? ⟨w2.heap.size, 2, none⟩ = false := one_free H5.out.hh
            have nx : Hid (∀ m, HlAs x l w2 w2.heap.size N (.int .i64 st.au) (.int .i64 ((k : Int) + 1)) ((W5.drewN m).setCell ⟨w2.heap.size, 2, none⟩ (.int .i64 1))) := fun m => by
              have e1 : (W5.drewN m).heap[w2.heap.size]? = _ := H5.out.hh
              have e2 : (W5.drewN m).heap[w2.heap.size + 1]? = _ := H5.out.hc
              have gs := grown_set (W5.drewN m) w2.heap.size 2 (.int .i64 1)
              refine ⟨k + 1, ⟨upd st.h 2 1, st.c, st.au, st.i + 1⟩, by simp, rfl, hlt, hrn.out, ?_, ?_, ?_⟩
              · rw [one_set e1]
                rfl
              · rw [gs.block _ (lt_some e2) (by intro e; injection e with e; omega)]
                exact e2
              · exact (H5.out.be.trans (below_drewN _ _ H5.out.be.size)).trans (below_of_grown gs H5.out.be.size fun j hj => by injection hj with hj; omega)
            clear hh0 hau hrn H5
            go_upto_region 14 with fail
            go_quiet (fail)
            go_wp2_with fail
            exact ⟨nx.out _, by simp [intOf]; omega⟩
        · rcases hnd with rfl | rfl | rfl
          · have na : ¬ st.au < 0 := by omega
            have y0 : W5.cell? ⟨w2.heap.size, 0, none⟩ = some (.int .i64 1) := (one_at H5.out.hh).trans (by show some (Value.int .i64 (st.h 0)) = _; rw [hh1])
            have y1 : W5.cell? ⟨w2.heap.size + 1, 0, none⟩ = some (.int .i64 0) := (one_at H5.out.hc).trans (by show some (Value.int .i64 (st.c 0)) = _; rw [hc0])
            have fz : W5.frozen? ⟨w2.heap.size + 1, 0, none⟩ = false := one_free H5.out.hc
            have nx : Hid (HlAs x l w2 w2.heap.size N (.int .i64 st.au) (.int .i64 ((k : Int) + 1)) (W5.setCell ⟨w2.heap.size + 1, 0, none⟩ (.int .i64 1))) := by
              have gs := grown_set W5 (w2.heap.size + 1) 0 (.int .i64 1)
              refine ⟨k + 1, ⟨st.h, upd st.c 0 1, st.au, st.i + 1⟩, by simp, rfl, hlt, hrn.out, ?_, ?_, ?_⟩
              · rw [gs.block _ (lt_some H5.out.hh) (by intro e; injection e with e; omega)]
                exact H5.out.hh
              · rw [one_set H5.out.hc]
                rfl
              · exact H5.out.be.trans (below_of_grown gs H5.out.be.size fun j hj => by injection hj with hj; omega)
            clear hh1 hc0 hau hrn H5
            go_wp2_with fail
            exact ⟨nx.out, by simp [intOf]; omega⟩
          · have na : ¬ st.au < 0 := by omega
            have y0 : W5.cell? ⟨w2.heap.size, 1, none⟩ = some (.int .i64 1) := (one_at H5.out.hh).trans (by show some (Value.int .i64 (st.h 1)) = _; rw [hh1])
            have y1 : W5.cell? ⟨w2.heap.size + 1, 1, none⟩ = some (.int .i64 0) := (one_at H5.out.hc).trans (by show some (Value.int .i64 (st.c 1)) = _; rw [hc0])
            have fz : W5.frozen? ⟨w2.heap.size + 1, 1, none⟩ = false := one_free H5.out.hc
            have nx : Hid (HlAs x l w2 w2.heap.size N (.int .i64 st.au) (.int .i64 ((k : Int) + 1)) (W5.setCell ⟨w2.heap.size + 1, 1, none⟩ (.int .i64 1))) := by
              have gs := grown_set W5 (w2.heap.size + 1) 1 (.int .i64 1)
              refine ⟨k + 1, ⟨st.h, upd st.c 1 1, st.au, st.i + 1⟩, by simp, rfl, hlt, hrn.out, ?_, ?_, ?_⟩
              · rw [gs.block _ (lt_some H5.out.hh) (by intro e; injection e with e; omega)]
                exact H5.out.hh
              · rw [one_set H5.out.hc]
                rfl
              · exact H5.out.be.trans (below_of_grown gs H5.out.be.size fun j hj => by injection hj with hj; omega)
            clear hh1 hc0 hau hrn H5
            go_wp2_with fail
            exact ⟨nx.out, by simp [intOf]; omega⟩
          · have na : ¬ st.au < 0 := by omega
            have y0 : W5.cell? ⟨w2.heap.size, 2, none⟩ = some (.int .i64 1) := (one_at H5.out.hh).trans (by show some (Value.int .i64 (st.h 2)) = _; rw [hh1])
            have y1 : W5.cell? ⟨w2.heap.size + 1, 2, none⟩ = some (.int .i64 0) := (one_at H5.out.hc).trans (by show some (Value.int .i64 (st.c 2)) = _; rw [hc0])
            have fz : W5.frozen? ⟨w2.heap.size + 1, 2, none⟩ = false := one_free H5.out.hc
            have nx : Hid (HlAs x l w2 w2.heap.size N (.int .i64 st.au) (.int .i64 ((k : Int) + 1)) (W5.setCell ⟨w2.heap.size + 1, 2, none⟩ (.int .i64 1))) := by
              have gs := grown_set W5 (w2.heap.size + 1) 2 (.int .i64 1)
              refine ⟨k + 1, ⟨st.h, upd st.c 2 1, st.au, st.i + 1⟩, by simp, rfl, hlt, hrn.out, ?_, ?_, ?_⟩
              · rw [gs.block _ (lt_some H5.out.hh) (by intro e; injection e with e; omega)]
                exact H5.out.hh
              · rw [one_set H5.out.hc]
                rfl
              · exact H5.out.be.trans (below_of_grown gs H5.out.be.size fun j hj => by injection hj with hj; omega)
            clear hh1 hc0 hau hrn H5
            go_wp2_with fail
            exact ⟨nx.out, by simp [intOf]; omega⟩
        · have na : ¬ (0 : Int) ≤ st.au := by omega
          have q1 : (x.price != x.price) = false := by simp
          have q2 : (x.cust != x.cust) = false := by simp
          have nx : Hid (∀ m, HlAs x l w2 w2.heap.size N (.int .i64 (k : Int)) (.int .i64 ((k : Int) + 1)) (W5.drewN m)) := fun m => by
            refine ⟨k + 1, ⟨st.h, st.c, st.i, st.i + 1⟩, by simp, by rw [hi], hlt, hrn.out, H5.out.hh, H5.out.hc, H5.out.be.trans (below_drewN _ _ H5.out.be.size)⟩
          clear hau hrn H5 hi
          go_wp2_with fail
          exact ⟨nx.out 0, by simp [intOf]; omega⟩
      · have hk2 : l.take k = l := List.take_of_length_le (by rw [hN.out]; omega)
        have hr := H.run
        rw [hk2, hfin.out] at hr
        injection hr with hr
        subst hr
        have ed := ends.out
        obtain ⟨wd, ewd⟩ : ∃ x, x = wr := ⟨_, rfl⟩
        subst ewd
        have Hh0 : wd.heap[w2.heap.size]? = some (.cells #[.int .i64 (want x 0), .int .i64 (want x 1), .int .i64 (want x 2)] 22 (0, 0)) := by
          have := H.hh
          rw [ed.h0, ed.h1, ed.h2] at this
          exact this
        have Hc0 : wd.heap[w2.heap.size + 1]? = some (.cells #[.int .i64 (want x 0), .int .i64 (want x 1), .int .i64 (want x 2)] 22 (0, 0)) := by
          have := H.hc
          rw [ed.c0, ed.c1, ed.c2] at this
          exact this
        have hau : 0 ≤ fin.au := ed.au
        have bd : Hid (Below w2.heap.size w2 wd) := H.be
        have BA : Hid (∀ w', Below wd.heap.size wd w' → BoxW w' w.heap.size x ∧ w'.heap[w2.heap.size]? = some (.cells #[.int .i64 (want x 0), .int .i64 (want x 1), .int .i64 (want x 2)] 22 (0, 0)) ∧ w'.heap[w2.heap.size + 1]? = some (.cells #[.int .i64 (want x 0), .int .i64 (want x 1), .int .i64 (want x 2)] 22 (0, 0))) := fun w' h => ⟨CB.out w' (bd.out.trans (h.mono bd.out.size)), (h.block _ gl1).trans Hh0, (h.block _ gl2).trans Hc0⟩
        have i1 : ¬ (k : Int) < (N : Int) := by omega
        have st2 : Hid (LzAt wd (.int .i64 0) wd) := ⟨0, 0, rfl, rfl, by omega, Below.refl _ _⟩
        clear H hk2 hfin ends ed Hh0 Hc0 c0 c1 c2 c3 c4 c5 c6 hbx CB RF hwr gl1 gl2
        go_wp2_with fail
        go_loopw [19] (fun i wr => LzAt wd i wr) (fun i _ => (3 - intOf i).toNat)
        case atStart => exact st2.out
        case round =>
          clear st2
          obtain ⟨k, z, rfl, hz, hk3, hbq⟩ := hrel
          obtain ⟨hbx, Hh, Hc⟩ := BA.out wr hbq
          obtain ⟨c0, c1, -, c3, c4, c5, c6⟩ := hbx.cells
          have hwr : w.heap.size < wr.heap.size := hbx.lt
          have gl1 : w2.heap.size < wr.heap.size := lt_some Hh
          have gl2 : w2.heap.size + 1 < wr.heap.size := lt_some Hc
          clear hbx
          rcases (by omega : k = 0 ∨ k = 1 ∨ k = 2 ∨ k = 3) with rfl | rfl | rfl | rfl
          · obtain rfl : z = 0 := by omega
            by_cases hu : 0 < x.u0
            · have e0 : want x 0 = 1 := if_pos hu
              have y0 : wr.cell? ⟨w2.heap.size, 0, none⟩ = some (.int .i64 1) := (one_at Hh).trans (by show some (Value.int .i64 (want x 0)) = _; rw [e0])
              have y1 : wr.cell? ⟨w2.heap.size + 1, 0, none⟩ = some (.int .i64 1) := (one_at Hc).trans (by show some (Value.int .i64 (want x 0)) = _; rw [e0])
              have nx : Hid (LzAt wd (.int .i64 1) wr) := ⟨1, 1, rfl, rfl, by omega, hbq⟩
              clear Hh Hc hbq e0 hz hk3
              go_wp2_with fail
              exact ⟨nx.out, by simp [intOf]⟩
            · have e0 : want x 0 = 0 := if_neg hu
              have y0 : wr.cell? ⟨w2.heap.size, 0, none⟩ = some (.int .i64 0) := (one_at Hh).trans (by show some (Value.int .i64 (want x 0)) = _; rw [e0])
              have y1 : wr.cell? ⟨w2.heap.size + 1, 0, none⟩ = some (.int .i64 0) := (one_at Hc).trans (by show some (Value.int .i64 (want x 0)) = _; rw [e0])
              have nx : Hid (LzAt wd (.int .i64 1) wr) := ⟨1, 1, rfl, rfl, by omega, hbq⟩
              clear Hh Hc hbq e0 hz hk3
              go_wp2_with fail
              exact ⟨nx.out, by simp [intOf]⟩
          · obtain rfl : z = 1 := by omega
            by_cases hu : 0 < x.u1
            · have e0 : want x 1 = 1 := if_pos hu
              have y0 : wr.cell? ⟨w2.heap.size, 1, none⟩ = some (.int .i64 1) := (one_at Hh).trans (by show some (Value.int .i64 (want x 1)) = _; rw [e0])
              have y1 : wr.cell? ⟨w2.heap.size + 1, 1, none⟩ = some (.int .i64 1) := (one_at Hc).trans (by show some (Value.int .i64 (want x 1)) = _; rw [e0])
              have nx : Hid (LzAt wd (.int .i64 2) wr) := ⟨2, 2, rfl, rfl, by omega, hbq⟩
              clear Hh Hc hbq e0 hz hk3
              go_wp2_with fail
              exact ⟨nx.out, by simp [intOf]⟩
            · have e0 : want x 1 = 0 := if_neg hu
              have y0 : wr.cell? ⟨w2.heap.size, 1, none⟩ = some (.int .i64 0) := (one_at Hh).trans (by show some (Value.int .i64 (want x 1)) = _; rw [e0])
              have y1 : wr.cell? ⟨w2.heap.size + 1, 1, none⟩ = some (.int .i64 0) := (one_at Hc).trans (by show some (Value.int .i64 (want x 1)) = _; rw [e0])
              have nx : Hid (LzAt wd (.int .i64 2) wr) := ⟨2, 2, rfl, rfl, by omega, hbq⟩
              clear Hh Hc hbq e0 hz hk3
              go_wp2_with fail
              exact ⟨nx.out, by simp [intOf]⟩
          · obtain rfl : z = 2 := by omega
            by_cases hu : 0 < x.u2
            · have e0 : want x 2 = 1 := if_pos hu
              have y0 : wr.cell? ⟨w2.heap.size, 2, none⟩ = some (.int .i64 1) := (one_at Hh).trans (by show some (Value.int .i64 (want x 2)) = _; rw [e0])
              have y1 : wr.cell? ⟨w2.heap.size + 1, 2, none⟩ = some (.int .i64 1) := (one_at Hc).trans (by show some (Value.int .i64 (want x 2)) = _; rw [e0])
              have nx : Hid (LzAt wd (.int .i64 3) wr) := ⟨3, 3, rfl, rfl, by omega, hbq⟩
              clear Hh Hc hbq e0 hz hk3
              go_wp2_with fail
              exact ⟨nx.out, by simp [intOf]⟩
            · have e0 : want x 2 = 0 := if_neg hu
              have y0 : wr.cell? ⟨w2.heap.size, 2, none⟩ = some (.int .i64 0) := (one_at Hh).trans (by show some (Value.int .i64 (want x 2)) = _; rw [e0])
              have y1 : wr.cell? ⟨w2.heap.size + 1, 2, none⟩ = some (.int .i64 0) := (one_at Hc).trans (by show some (Value.int .i64 (want x 2)) = _; rw [e0])
              have nx : Hid (LzAt wd (.int .i64 3) wr) := ⟨3, 3, rfl, rfl, by omega, hbq⟩
              clear Hh Hc hbq e0 hz hk3
              go_wp2_with fail
              exact ⟨nx.out, by simp [intOf]⟩
          · obtain rfl : z = 3 := by omega
            have HBr : Hid (Below w.heap.size w wr) := b2.out.trans ((bd.out.trans (hbq.mono bd.out.size)).mono b2.out.size)
            have T7 := Lib.hid (TD.out wr)
            clear Hh Hc hbq hz hk3 c0 c1 c3 c4 c5 c6 hwr gl1 gl2
            go_wp2_with fail
            refine T7.out.mono ?_
            rintro e w7 ⟨rfl, h7⟩
            have E : Hid (Below w.heap.size w w7) := HBr.out.trans (h7.mono HBr.out.size)
            clear T7 h7
            go_wp2_with fail
            go_ret
            exact ⟨rfl, E.out⟩
theorem walkd (a : Int) (_wa : (Lit.int .i64 a).wf = true) (b : Int) (_wb : (Lit.int .i64 b).wf = true) (c : Int) (_wc : (Lit.int .i64 c).wf = true) (d : Int) (_wd : (Lit.int .i64 d).wf = true) (e : Int) (_we : (Lit.int .i64 e).wf = true) (W : World) :
    Calls Try.prog 5 #[.int .i64 a, .int .i64 b, .int .i64 c, .int .i64 d, .int .i64 e] W fun e w' => e = .returned (.bool true) ∧ Below W.heap.size W w' := by
  have l0 := usm_lt a (n := 1001) (by omega)
  have l1 := usm_lt b (n := 1001) (by omega)
  have l2 := usm_lt c (n := 1001) (by omega)
  have l3 := usm_lt d (n := 1099511627777) (by omega)
  have l4 := usm_lt e (n := 4) (by omega)
  exact walk W a b c d e ⟨9, usm e 4, 0, usm a 1001, usm b 1001, usm c 1001, usm d 1099511627777⟩ rfl rfl (usm_slot a (n := 1001) (by omega) (by omega)) (usm_slot b (n := 1001) (by omega) (by omega)) (usm_slot c (n := 1001) (by omega) (by omega)) (usm_big d (n := 1099511627777) (by omega) (by omega)) (usm_slot e (n := 4) (by omega) (by omega)) ⟨by simp, by simp; omega⟩ ⟨by simp, by simp; omega⟩ ⟨by simp, by simp; omega⟩ ⟨by simp, by simp; omega⟩ ⟨by simp, by simp; omega⟩


/-! The row: every input. -/
set_option linter.unusedVariables false
set_option maxRecDepth 100000 in
theorem lifted (os : Os) (started : os.Started) (H : Type) (enc : TypeId × Value → H) :
    ReturnsInHanded {} Try.checked os 5 .any (Rows.planHoldsSpec.pre6 enc Try.prog Try.f5 Rows.planHoldsRow.domain false) (Rows.planHoldsSpec.post enc Try.prog Try.f5 false true false false) := by
  refine returnsInHanded_of_change (C := Try.checked) own started (by kernel_rfl) Try.func5
    (ChangeSpec.witness6 (enc := enc) (C := Try.checked) false ⟨#[], #[.int .i64 0, .int .i64 0, .int .i64 0, .int .i64 0, .int .i64 0], []⟩ 8 (by kernel_rfl) (by kernel_rfl) (by kernel_rfl) (by kernel_rfl)) ?_
  intro W base args ds gs before hval0 hW _ _
  have hval : ∀ (j : Nat) t v, Try.f5.params[j]? = some t → args[j]? = some v → Value.okWide Try.prog W .any base t v := hval0
  have hW' := hW
  obtain ⟨p, q, hA0, hV, rfl, hfz, hnd⟩ := hW
  have hA : DataW.TrodAll enc Try.prog W 0 (fun _ => true) true Try.f5.params.toList args.toList ds p := hA0
  rw [Try.params5] at hA hval
  obtain ⟨v0, vs0, d0, ds0, p0, q0, hargs, rfl, rfl, h0, r0⟩ := trodAll_cons hA
  obtain ⟨v1, vs1, d1, ds1, p1, q1, rfl, rfl, rfl, h1, r1⟩ := trodAll_cons r0
  obtain ⟨v2, vs2, d2, ds2, p2, q2, rfl, rfl, rfl, h2, r2⟩ := trodAll_cons r1
  obtain ⟨v3, vs3, d3, ds3, p3, q3, rfl, rfl, rfl, h3, r3⟩ := trodAll_cons r2
  obtain ⟨v4, vs4, d4, ds4, p4, q4, rfl, rfl, rfl, h4, r4⟩ := trodAll_cons r3
  obtain ⟨rfl, rfl, rfl⟩ := trodAll_nil r4
  obtain rfl : args = #[v0, v1, v2, v3, v4] := by cases args; simp_all
  obtain ⟨rfl, rfl⟩ := trodVars_none hV
  obtain ⟨a0, rfl, rfl, rfl, w0⟩ := open_int Try.underlying3 (hval 0 3 v0 rfl rfl) h0
  obtain ⟨a1, rfl, rfl, rfl, w1⟩ := open_int Try.underlying3 (hval 1 3 v1 rfl rfl) h1
  obtain ⟨a2, rfl, rfl, rfl, w2⟩ := open_int Try.underlying3 (hval 2 3 v2 rfl rfl) h2
  obtain ⟨a3, rfl, rfl, rfl, w3⟩ := open_int Try.underlying2 (hval 3 2 v3 rfl rfl) h3
  obtain ⟨a4, rfl, rfl, rfl, w4⟩ := open_int Try.underlying3 (hval 4 3 v4 rfl rfl) h4
  clear hA0 hval0
  simp only [List.append_nil] at hW'
  refine (walkd a0 w0 a1 w1 a2 w2 a3 w3 a4 w4 W).mono fun e W' ⟨he, hb⟩ => ?_
  subst he
  exact ⟨_, rfl, post_below (pa := []) (pv := []) hW' (fun _ _ _ => (trodAll_cons_mk (shut_bool Try.underlying4 _) trodAll_mk0)) (fun sp hsp => (trodAll_cons_mk (shut_int Try.underlying3 w0) (trodAll_cons_mk (shut_int Try.underlying3 w1) (trodAll_cons_mk (shut_int Try.underlying3 w2) (trodAll_cons_mk (shut_int Try.underlying2 w3) (trodAll_cons_mk (shut_int Try.underlying3 w4) trodAll_mk0)))))) (fun _ _ => rfl) (by simp)
    hb (ok_one (by kernel_rfl) rfl (okWide_bool_mk Try.underlying4 _))⟩

theorem proved : Rows.PlanHoldsSaid :=
  OpenClaim.holds_of_wide 5 Try.f5 rfl rfl rfl rfl rfl rfl rfl ⟨rfl, rfl, rfl, rfl, rfl⟩ rfl rfl rfl rfl rfl (by kernel_rfl) Try.func5 (by kernel_rfl)
    (of_decide_eq_true (by kernel_rfl)) (by unfold Func.isWrapper; first | (rw [if_pos (by decide +kernel)]; kernel_rfl) | (rw [if_neg (by decide +kernel)]; exact ⟨rfl, rfl⟩))
    (fun os started H enc _ => lifted os started H enc)
#print axioms proved

end Go.Proofs.Ytnljfnhndnkckaa.planHolds
