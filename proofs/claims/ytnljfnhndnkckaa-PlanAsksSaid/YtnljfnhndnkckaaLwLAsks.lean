/- The steps of a booking are what the document says (PlanAsks): any booking, raw ones too. -/
import Derived.Test.YtnljfnhndnkckaaPlX
import Derived.JoinedRecord
import Derived.HandedShaped
namespace Go.Proofs.Ytnljfnhndnkckaa.planAsks
set_option maxRecDepth 100000
open Go.ChangeShapes Go.WideShapes Go.ChangeAt Go.WideMaps Go.WideElems Go.RowKit
open Go.Proofs.Ytnljfnhndnkckaa.Pk (one_at one_free one_set lt_some grown_set grown_trans below_grown grown_refl)
open Go.Proofs.Ytnljfnhndnkckaa.Pl
open Go.Proofs.Ytnljfnhndnkckaa.Wt (Wan may Opn mayOp may_any refmay_any refmayop_any below_drewN)


theorem filter_at {α : Type} {l : List α} {p : α → Bool} {k : Nat} {s : α} (h : l[k]? = some s) (hp : p s = true) : (l.filter p)[((l.take k).filter p).length]? = some s := by
  obtain ⟨hl, rfl⟩ := List.getElem?_eq_some_iff.1 h
  have e : l.filter p = (l.take k).filter p ++ (l[k] :: (l.drop (k + 1)).filter p) := by
    conv => lhs; rw [show l = l.take k ++ l[k] :: l.drop (k + 1) by rw [← List.drop_eq_getElem_cons hl, List.take_append_drop]]
    rw [List.filter_append, List.filter_cons_of_pos hp]
  rw [e, List.getElem?_append_right (Nat.le_refl _), Nat.sub_self]
  rfl
def pn (x : Wan) (k : Nat) : Nat := ((three.take k).filter (isPart x)).length
theorem pn_yes {x : Wan} {k : Nat} {i : Int} (h : three[k]? = some i) (hp : isPart x i = true) : pn x (k + 1) = pn x k + 1 := by unfold pn; rw [fil_next h hp, List.length_append]; rfl
theorem pn_no {x : Wan} {k : Nat} {i : Int} (h : three[k]? = some i) (hp : isPart x i = false) : pn x (k + 1) = pn x k := by unfold pn; rw [fil_same h hp]
theorem pn_at {x : Wan} {k : Nat} {i : Int} (h : three[k]? = some i) (hp : isPart x i = true) : (parts x)[pn x k]? = some i := filter_at h hp
theorem pn_len (x : Wan) : pn x 3 = (parts x).length := rfl
theorem pn_le (x : Wan) (k : Nat) : pn x k ≤ 3 := Nat.le_trans (List.length_filter_le ..) (by rw [List.length_take]; show min k 3 ≤ 3; omega)
def LpAt (x : Wan) (W0 : World) (n i : Value) (wr : World) : Prop := ∃ (k : Nat) (z : Int) (m : Nat), i = .int .i64 z ∧ z = (k : Int) ∧ k ≤ 3 ∧ n = .int .i64 (m : Int) ∧ m = pn x k ∧ Below W0.heap.size W0 wr
set_option maxHeartbeats 12800000 in
theorem walkd (x : Wan) (W' : World) {w : World} (_hW : W' = w) : Calls Try.prog 3 #[.agg #[.int .i64 x.book, .int .i64 x.cust, .int .i64 x.dead, .int .i64 x.u0, .int .i64 x.u1, .int .i64 x.u2, .int .i64 x.price]] w fun e w' => e = .returned (.bool true) ∧ Below w.heap.size w w' := by
  obtain ⟨W0, hW0⟩ : ∃ W0, W0 = w.alloc (.cells #[.int .i64 x.book, .int .i64 x.cust, .int .i64 x.dead, .int .i64 x.u0, .int .i64 x.u1, .int .i64 x.u2, .int .i64 x.price] 24) := ⟨_, rfl⟩
  have B0 : BoxW W0 w.heap.size x := by rw [hW0]; exact heap_alloc_new _ _
  have be0 : Hid (Below w.heap.size w W0) := by rw [hW0]; exact (Below.refl _ w).alloc (Nat.le_refl _) _
  have CB : Hid (∀ w', Below W0.heap.size W0 w' → BoxW w' w.heap.size x) := fun w' h => B0.below h B0.lt
  have F1 : Hid (∀ w', Below W0.heap.size W0 w' → Calls Try.prog 6 #[.agg #[.int .i64 x.book, .int .i64 x.cust, .int .i64 x.dead, .int .i64 x.u0, .int .i64 x.u1, .int .i64 x.u2, .int .i64 x.price]] w' fun e w'' => e = .returned (spv (cap x)) ∧ Below W0.heap.size W0 w'' ∧ Below w'.heap.size w' w'') := fun w' h => (cap_any w' x).mono fun _ _ ⟨h1, h2⟩ => ⟨h1, h.trans (h2.mono h.size), h2⟩
  have F2 : Hid (∀ w', Below W0.heap.size W0 w' → Calls Try.prog 7 #[.agg #[.int .i64 x.book, .int .i64 x.cust, .int .i64 x.dead, .int .i64 x.u0, .int .i64 x.u1, .int .i64 x.u2, .int .i64 x.price]] w' fun e w'' => e = .returned (spv (cap x)) ∧ Below W0.heap.size W0 w'' ∧ Below w'.heap.size w' w'') := fun w' h => (rcap_any w' x).mono fun _ _ ⟨h1, h2⟩ => ⟨h1, h.trans (h2.mono h.size), h2⟩
  replace hW0 := Lib.hid hW0
  clear B0
  go_enter Try.func3, Try.ntmps3
  go_upto_region 1 with fail
  rw [← hW0.out]
  refine pa1 _ _ _ _ _ _ _ _ _ _ _ _ _ _ _ _ _ _ _ _ _ _ _ _ _ _ _ _ _ _ _ _ _ _ _ _ _ _ _ _ _ _ _ _ _ _ _ _ _ _ _ _ _ _ _ _ _ _ _ _ _ _ _ _ _ _ _ _ _ _ _ _ _ _ _ W0 w.heap.size x (cap x) CB F1 F2 _ (fun _ _ d _ _ h => by cases d <;> exact h) (fun y8 y9 y10 y11 g3 g4 w3 hb3 hg3 hg4 => ?_)
  clear F1 F2
  go_upto_region 2 with fail
  have CB3 : Hid (∀ w', Below w3.heap.size w3 w' → BoxW w' w.heap.size x) := fun w' h => CB.out w' (hb3.trans (h.mono hb3.size))
  have CC : Hid (∀ w', Below w3.heap.size w3 w' → w'.heap[g3]? = _ ∧ w'.heap[g4]? = _) := fun w' h => ⟨(h.block _ (lt_some hg3)).trans hg3, (h.block _ (lt_some hg4)).trans hg4⟩
  have EQ := fun w => eq_op_same w (cap x).op.kind (cap x).op.book (cap x).op.units (cap x).op.cust (cap x).op.amount
  have F1 : Hid (∀ w', Below w3.heap.size w3 w' → Calls Try.prog 9 #[.agg #[.int .i64 x.book, .int .i64 x.cust, .int .i64 x.dead, .int .i64 x.u0, .int .i64 x.u1, .int .i64 x.u2, .int .i64 x.price]] w' fun e w'' => ∃ A k, e = .returned (.slice A (fwd x).length k) ∧ RowT 28 w'' w3.heap.size (.slice A (fwd x).length k) (fwd x).length (fwd x) ∧ Below w3.heap.size w3 w'' ∧ Below w'.heap.size w' w'') := fun w' h => (fwd_any w' x).mono fun e w'' ⟨v, h1, h2, h3⟩ => by
    obtain ⟨A, k, rfl, -⟩ := rt_form h2
    exact ⟨A, k, h1, rt_mono h2 h.size, h.trans (h3.mono h.size), h3⟩
  have F2 : Hid (∀ w', Below w3.heap.size w3 w' → Calls Try.prog 10 #[.agg #[.int .i64 x.book, .int .i64 x.cust, .int .i64 x.dead, .int .i64 x.u0, .int .i64 x.u1, .int .i64 x.u2, .int .i64 x.price]] w' fun e w'' => ∃ A k, e = .returned (.slice A (fwd x).length k) ∧ RowT 30 w'' w3.heap.size (.slice A (fwd x).length k) (fwd x).length (fwd x) ∧ Below w3.heap.size w3 w'' ∧ Below w'.heap.size w' w'') := fun w' h => (rfwd_any w' x).mono fun e w'' ⟨v, h1, h2, h3⟩ => by
    obtain ⟨A, k, rfl, -⟩ := rt_form h2
    exact ⟨A, k, h1, rt_mono h2 h.size, h.trans (h3.mono h.size), h3⟩
  have F3 : Hid (∀ w', Below w3.heap.size w3 w' → Calls Try.prog 11 #[.agg #[.int .i64 x.book, .int .i64 x.cust, .int .i64 x.dead, .int .i64 x.u0, .int .i64 x.u1, .int .i64 x.u2, .int .i64 x.price]] w' fun e w'' => ∃ A k, e = .returned (.slice A (bck x).length k) ∧ RowT 28 w'' w3.heap.size (.slice A (bck x).length k) (bck x).length (bck x) ∧ Below w3.heap.size w3 w'' ∧ Below w'.heap.size w' w'') := fun w' h => (bck_any w' x).mono fun e w'' ⟨v, h1, h2, h3⟩ => by
    obtain ⟨A, k, rfl, -⟩ := rt_form h2
    exact ⟨A, k, h1, rt_mono h2 h.size, h.trans (h3.mono h.size), h3⟩
  have F4 : Hid (∀ w', Below w3.heap.size w3 w' → Calls Try.prog 12 #[.agg #[.int .i64 x.book, .int .i64 x.cust, .int .i64 x.dead, .int .i64 x.u0, .int .i64 x.u1, .int .i64 x.u2, .int .i64 x.price]] w' fun e w'' => ∃ A k, e = .returned (.slice A (bck x).length k) ∧ RowT 30 w'' w3.heap.size (.slice A (bck x).length k) (bck x).length (bck x) ∧ Below w3.heap.size w3 w'' ∧ Below w'.heap.size w' w'') := fun w' h => (rbck_any w' x).mono fun e w'' ⟨v, h1, h2, h3⟩ => by
    obtain ⟨A, k, rfl, -⟩ := rt_form h2
    exact ⟨A, k, h1, rt_mono h2 h.size, h.trans (h3.mono h.size), h3⟩
  have S1 : Hid (∀ w' A k B d, Below w3.heap.size w3 w' → RowT 28 w' w3.heap.size (.slice A (fwd x).length k) (fwd x).length (fwd x) → RowT 30 w' w3.heap.size (.slice B (fwd x).length d) (fwd x).length (fwd x) → Calls Try.prog 8 #[.slice A (fwd x).length k, .slice B (fwd x).length d] w' fun e w'' => e = .returned (.bool true) ∧ Below w3.heap.size w3 w'') := fun w' A k B d h h1 h2 => (same_any w' _ _ _ _ _ _ _ _ (by have := fwd_len x; omega) h1 h2).mono fun _ _ ⟨e1, e2⟩ => ⟨e1, h.trans (e2.mono h.size)⟩
  have S2 : Hid (∀ w' A k B d, Below w3.heap.size w3 w' → RowT 28 w' w3.heap.size (.slice A (bck x).length k) (bck x).length (bck x) → RowT 30 w' w3.heap.size (.slice B (bck x).length d) (bck x).length (bck x) → Calls Try.prog 8 #[.slice A (bck x).length k, .slice B (bck x).length d] w' fun e w'' => e = .returned (.bool true) ∧ Below w3.heap.size w3 w'') := fun w' A k B d h h1 h2 => (same_any w' _ _ _ _ _ _ _ _ (by have := bck_len x; omega) h1 h2).mono fun _ _ ⟨e1, e2⟩ => ⟨e1, h.trans (e2.mono h.size)⟩

  refine pa2 _ _ _ _ _ _ _ _ _ _ _ _ _ _ _ _ _ _ _ _ _ _ _ _ _ _ _ _ _ _ _ _ _ _ _ _ _ _ _ _ _ _ _ _ _ _ _ _ _ _ _ _ _ _ _ _ _ _ _ _ _ _ _ _ _ _ _ _ _ _ _ _ _ w3 w.heap.size g3 g4 x (cap x) (fwd x) (bck x) CB3 CC F1 F2 F3 F4 S1 S2 EQ _ (fun _ _ d _ _ h => by cases d <;> exact h) (fun y12 y13 y14 y15 y16 y17 y18 y19 y20 y21 y22 y23 y24 y25 y26 y27 y28 y29 y30 y31 y32 y33 y34 y35 y36 y37 y38 w4 hb4 => ?_)
  have hb : Hid (Below W0.heap.size W0 w4) := hb3.trans (hb4.mono hb3.size)
  clear F1 F2 F3 F4 S1 S2 EQ CC CB3 hb4 hb3 hg3 hg4
  have P := parts_any w4 x
  have B4 := CB.out _ hb.out
  obtain ⟨c0, c1, c2, c3, c4, c5, c6⟩ := B4.cells
  have hwl : w.heap.size < w4.heap.size := B4.lt
  unfold wanv at P
  replace P := Lib.hid P
  clear B4
  go_wp2_with fail
  refine P.out.mono ?_
  rintro e w5 ⟨v, rfl, hP, h5⟩
  clear P c0 c1 c2 c3 c4 c5 c6 hwl
  obtain ⟨A, c, rfl, -⟩ := ri_form hP
  have hb5 : Hid (Below W0.heap.size W0 w5) := hb.out.trans (h5.mono hb.out.size)
  have CP : Hid (∀ wr k i, Below w5.heap.size w5 wr → three[k]? = some i → isPart x i = true → pn x k < (parts x).length ∧ ∃ g, A = some ⟨g, 0, none⟩ ∧ wr.cell? ⟨g, pn x k, none⟩ = some (.int .i64 i)) := fun wr k i hbw h hp => by
    have hh := pn_at h hp
    exact ⟨(List.getElem?_eq_some_iff.1 hh).1, ri_cell (ri_below hP hbw) hh⟩
  have few := parts_len x
  have st : Hid (LpAt x w5 (.int .i64 0) (.int .i64 0) w5) := ⟨0, 0, 0, rfl, rfl, by omega, rfl, rfl, Below.refl _ _⟩
  have TD : Hid (∀ w', Calls Try.prog 15 #[] w' fun e w'' => e = .returned (.bool true) ∧ Below w'.heap.size w' w'') := told_any
  have pl := Lib.hid (pn_len x)
  have pz : Hid (may x = false → (parts x).length = 0) := fun h => by rw [parts_no h]; rfl
  generalize hL : (parts x).length = L at *
  replace hL := Lib.hid hL
  clear hb h5 hP
  go_wp2_with fail
  go_loopw [6, 7] (fun n i wr => LpAt x w5 n i wr) (fun _ i _ => (3 - intOf i).toNat)
  case atStart => exact st.out
  case round =>
    clear st
    obtain ⟨k, z, m, rfl, hz, hk, rfl, hm, hbw⟩ := hrel
    have hbr : Hid (Below W0.heap.size W0 wr) := hb5.out.trans (hbw.mono hb5.out.size)
    have BX := CB.out _ hbr.out
    obtain ⟨c0, c1, c2, c3, c4, c5, c6⟩ := BX.cells
    have hwl : w.heap.size < wr.heap.size := BX.lt
    have MY := refmay_any wr x
    have TDr := Lib.hid (TD.out wr)
    clear BX
    cases hmy : may x with
    | false =>
      rw [hmy] at MY
      replace MY := Lib.hid MY
      have h0 := pz.out hmy
      subst h0
      have hm0 : m = 0 := by
        have : pn x k = 0 := by
          have := List.length_filter_le (isPart x) (three.take k)
          unfold pn
          rw [show (three.take k).filter (isPart x) = [] from List.filter_eq_nil_iff.2 fun i _ => by simp [isPart, hmy]]
          rfl
        omega
      subst hm0
      clear hm hmy pz pl CP few
      rcases (by omega : k = 0 ∨ k = 1 ∨ k = 2 ∨ k = 3) with rfl | rfl | rfl | rfl
      · obtain rfl : z = 0 := by omega
        clear hz hk
        go_wp2_with fail
        refine MY.out.mono ?_
        rintro e w6 ⟨rfl, h6⟩
        have hb6 : Hid (Below W0.heap.size W0 w6) := hbr.out.trans (h6.mono hbr.out.size)
        have TD6 := Lib.hid (TD.out w6)
        clear c0 c1 c2 c3 c4 c5 c6 MY h6 hbr TDr
        go_wp2_with fail
        refine TD6.out.mono ?_
        rintro e w7 ⟨rfl, h7⟩
        have E : Hid (Below w.heap.size w w7) := be0.out.trans ((hb6.out.trans (h7.mono hb6.out.size)).mono be0.out.size)
        clear TD6 h7
        go_wp2_with fail
        go_ret
        exact ⟨rfl, E.out⟩
      · obtain rfl : z = 1 := by omega
        clear hz hk
        go_wp2_with fail
        refine MY.out.mono ?_
        rintro e w6 ⟨rfl, h6⟩
        have hb6 : Hid (Below W0.heap.size W0 w6) := hbr.out.trans (h6.mono hbr.out.size)
        have TD6 := Lib.hid (TD.out w6)
        clear c0 c1 c2 c3 c4 c5 c6 MY h6 hbr TDr
        go_wp2_with fail
        refine TD6.out.mono ?_
        rintro e w7 ⟨rfl, h7⟩
        have E : Hid (Below w.heap.size w w7) := be0.out.trans ((hb6.out.trans (h7.mono hb6.out.size)).mono be0.out.size)
        clear TD6 h7
        go_wp2_with fail
        go_ret
        exact ⟨rfl, E.out⟩
      · obtain rfl : z = 2 := by omega
        clear hz hk
        go_wp2_with fail
        refine MY.out.mono ?_
        rintro e w6 ⟨rfl, h6⟩
        have hb6 : Hid (Below W0.heap.size W0 w6) := hbr.out.trans (h6.mono hbr.out.size)
        have TD6 := Lib.hid (TD.out w6)
        clear c0 c1 c2 c3 c4 c5 c6 MY h6 hbr TDr
        go_wp2_with fail
        refine TD6.out.mono ?_
        rintro e w7 ⟨rfl, h7⟩
        have E : Hid (Below w.heap.size w w7) := be0.out.trans ((hb6.out.trans (h7.mono hb6.out.size)).mono be0.out.size)
        clear TD6 h7
        go_wp2_with fail
        go_ret
        exact ⟨rfl, E.out⟩
      · obtain rfl : z = 3 := by omega
        clear hz hk
        clear c0 c1 c2 c3 c4 c5 c6 MY
        go_wp2_with fail
        refine TDr.out.mono ?_
        rintro e w7 ⟨rfl, h7⟩
        have E : Hid (Below w.heap.size w w7) := be0.out.trans ((hbr.out.trans (h7.mono hbr.out.size)).mono be0.out.size)
        clear TDr h7
        go_wp2_with fail
        go_ret
        exact ⟨rfl, E.out⟩
    | true =>
      rw [hmy] at MY
      replace MY := Lib.hid MY
      have isp : ∀ i, isPart x i = decide (0 < un x i) := fun i => by unfold isPart; rw [hmy]; rfl
      clear hmy pz
      rcases (by omega : k = 0 ∨ k = 1 ∨ k = 2 ∨ k = 3) with rfl | rfl | rfl | rfl
      · obtain rfl : z = 0 := by omega
        clear hz hk
        have hs : three[0]? = some 0 := rfl
        by_cases hu : 0 < x.u0
        · have hp : isPart x 0 = true := by rw [isp]; exact decide_eq_true hu
          have nm := pn_yes hs hp
          have CPx := fun wr hbx => CP.out wr 0 0 hbx hs hp
          rw [← hm] at nm
          simp only [← hm] at CPx
          have hml : m < L := (CPx wr hbw).1
          have i1 : ¬ (L : Int) ≤ (m : Int) := by omega
          have i2 : (m : Int) < (L : Int) := by omega
          have i3 : (0 : Int) ≤ (m : Int) := by omega
          have i4 : m ≤ 3 := by rw [hm]; exact pn_le x 0
          obtain ⟨g, rfl, -⟩ := (CPx wr hbw).2
          have CPy : Hid (∀ wr, Below w5.heap.size w5 wr → wr.cell? ⟨g, m, none⟩ = some (.int .i64 0)) := fun wr hbx => by
            obtain ⟨g2, e, h⟩ := (CPx wr hbx).2
            injection e with e
            injection e with e _ _
            rw [e]
            exact h
          replace hbw := Lib.hid hbw
          clear hs hp CPx isp hm few
          go_wp2_with fail
          refine MY.out.mono ?_
          rintro e w6 ⟨rfl, h6⟩
          have hb6 : Below w5.heap.size w5 w6 := hbw.out.trans (h6.mono hbw.out.size)
          have pc := CPy.out w6 hb6
          have gl := block_lt_of_cell pc
          have BX := CB.out _ (hb5.out.trans (hb6.mono hb5.out.size))
          have hwl6 : w.heap.size < w6.heap.size := BX.lt
          clear c0 c1 c2 c3 c4 c5 c6 MY h6 hbr TDr hwl
          obtain ⟨c0, c1, c2, c3, c4, c5, c6⟩ := BX.cells
          have nx : Hid (LpAt x w5 (.int .i64 ((m : Int) + 1)) (.int .i64 1) w6) := ⟨1, 1, m + 1, rfl, rfl, by omega, by simp, nm.symm, hb6⟩
          clear BX hb6 nm CPy
          go_wp2_with fail
          exact ⟨nx.out, by simp [intOf]⟩
        · have hp : isPart x 0 = false := by rw [isp]; exact decide_eq_false hu
          have nm := pn_no hs hp
          rw [← hm] at nm
          replace hbw := Lib.hid hbw
          clear hs hp isp hm few
          go_wp2_with fail
          refine MY.out.mono ?_
          rintro e w6 ⟨rfl, h6⟩
          have hb6 : Below w5.heap.size w5 w6 := hbw.out.trans (h6.mono hbw.out.size)
          have BX := CB.out _ (hb5.out.trans (hb6.mono hb5.out.size))
          have hwl6 : w.heap.size < w6.heap.size := BX.lt
          clear c0 c1 c2 c3 c4 c5 c6 MY h6 hbr TDr hwl
          obtain ⟨c0, c1, c2, c3, c4, c5, c6⟩ := BX.cells
          have nx : Hid (LpAt x w5 (.int .i64 (m : Int)) (.int .i64 1) w6) := ⟨1, 1, m, rfl, rfl, by omega, rfl, nm.symm, hb6⟩
          clear BX hb6 nm
          go_wp2_with fail
          exact ⟨nx.out, by simp [intOf]⟩
      · obtain rfl : z = 1 := by omega
        clear hz hk
        have hs : three[1]? = some 1 := rfl
        by_cases hu : 0 < x.u1
        · have hp : isPart x 1 = true := by rw [isp]; exact decide_eq_true hu
          have nm := pn_yes hs hp
          have CPx := fun wr hbx => CP.out wr 1 1 hbx hs hp
          rw [← hm] at nm
          simp only [← hm] at CPx
          have hml : m < L := (CPx wr hbw).1
          have i1 : ¬ (L : Int) ≤ (m : Int) := by omega
          have i2 : (m : Int) < (L : Int) := by omega
          have i3 : (0 : Int) ≤ (m : Int) := by omega
          have i4 : m ≤ 3 := by rw [hm]; exact pn_le x 1
          obtain ⟨g, rfl, -⟩ := (CPx wr hbw).2
          have CPy : Hid (∀ wr, Below w5.heap.size w5 wr → wr.cell? ⟨g, m, none⟩ = some (.int .i64 1)) := fun wr hbx => by
            obtain ⟨g2, e, h⟩ := (CPx wr hbx).2
            injection e with e
            injection e with e _ _
            rw [e]
            exact h
          replace hbw := Lib.hid hbw
          clear hs hp CPx isp hm few
          go_wp2_with fail
          refine MY.out.mono ?_
          rintro e w6 ⟨rfl, h6⟩
          have hb6 : Below w5.heap.size w5 w6 := hbw.out.trans (h6.mono hbw.out.size)
          have pc := CPy.out w6 hb6
          have gl := block_lt_of_cell pc
          have BX := CB.out _ (hb5.out.trans (hb6.mono hb5.out.size))
          have hwl6 : w.heap.size < w6.heap.size := BX.lt
          clear c0 c1 c2 c3 c4 c5 c6 MY h6 hbr TDr hwl
          obtain ⟨c0, c1, c2, c3, c4, c5, c6⟩ := BX.cells
          have nx : Hid (LpAt x w5 (.int .i64 ((m : Int) + 1)) (.int .i64 2) w6) := ⟨2, 2, m + 1, rfl, rfl, by omega, by simp, nm.symm, hb6⟩
          clear BX hb6 nm CPy
          go_wp2_with fail
          exact ⟨nx.out, by simp [intOf]⟩
        · have hp : isPart x 1 = false := by rw [isp]; exact decide_eq_false hu
          have nm := pn_no hs hp
          rw [← hm] at nm
          replace hbw := Lib.hid hbw
          clear hs hp isp hm few
          go_wp2_with fail
          refine MY.out.mono ?_
          rintro e w6 ⟨rfl, h6⟩
          have hb6 : Below w5.heap.size w5 w6 := hbw.out.trans (h6.mono hbw.out.size)
          have BX := CB.out _ (hb5.out.trans (hb6.mono hb5.out.size))
          have hwl6 : w.heap.size < w6.heap.size := BX.lt
          clear c0 c1 c2 c3 c4 c5 c6 MY h6 hbr TDr hwl
          obtain ⟨c0, c1, c2, c3, c4, c5, c6⟩ := BX.cells
          have nx : Hid (LpAt x w5 (.int .i64 (m : Int)) (.int .i64 2) w6) := ⟨2, 2, m, rfl, rfl, by omega, rfl, nm.symm, hb6⟩
          clear BX hb6 nm
          go_wp2_with fail
          exact ⟨nx.out, by simp [intOf]⟩
      · obtain rfl : z = 2 := by omega
        clear hz hk
        have hs : three[2]? = some 2 := rfl
        by_cases hu : 0 < x.u2
        · have hp : isPart x 2 = true := by rw [isp]; exact decide_eq_true hu
          have nm := pn_yes hs hp
          have CPx := fun wr hbx => CP.out wr 2 2 hbx hs hp
          rw [← hm] at nm
          simp only [← hm] at CPx
          have hml : m < L := (CPx wr hbw).1
          have i1 : ¬ (L : Int) ≤ (m : Int) := by omega
          have i2 : (m : Int) < (L : Int) := by omega
          have i3 : (0 : Int) ≤ (m : Int) := by omega
          have i4 : m ≤ 3 := by rw [hm]; exact pn_le x 2
          obtain ⟨g, rfl, -⟩ := (CPx wr hbw).2
          have CPy : Hid (∀ wr, Below w5.heap.size w5 wr → wr.cell? ⟨g, m, none⟩ = some (.int .i64 2)) := fun wr hbx => by
            obtain ⟨g2, e, h⟩ := (CPx wr hbx).2
            injection e with e
            injection e with e _ _
            rw [e]
            exact h
          replace hbw := Lib.hid hbw
          clear hs hp CPx isp hm few
          go_wp2_with fail
          refine MY.out.mono ?_
          rintro e w6 ⟨rfl, h6⟩
          have hb6 : Below w5.heap.size w5 w6 := hbw.out.trans (h6.mono hbw.out.size)
          have pc := CPy.out w6 hb6
          have gl := block_lt_of_cell pc
          have BX := CB.out _ (hb5.out.trans (hb6.mono hb5.out.size))
          have hwl6 : w.heap.size < w6.heap.size := BX.lt
          clear c0 c1 c2 c3 c4 c5 c6 MY h6 hbr TDr hwl
          obtain ⟨c0, c1, c2, c3, c4, c5, c6⟩ := BX.cells
          have nx : Hid (LpAt x w5 (.int .i64 ((m : Int) + 1)) (.int .i64 3) w6) := ⟨3, 3, m + 1, rfl, rfl, by omega, by simp, nm.symm, hb6⟩
          clear BX hb6 nm CPy
          go_wp2_with fail
          exact ⟨nx.out, by simp [intOf]⟩
        · have hp : isPart x 2 = false := by rw [isp]; exact decide_eq_false hu
          have nm := pn_no hs hp
          rw [← hm] at nm
          replace hbw := Lib.hid hbw
          clear hs hp isp hm few
          go_wp2_with fail
          refine MY.out.mono ?_
          rintro e w6 ⟨rfl, h6⟩
          have hb6 : Below w5.heap.size w5 w6 := hbw.out.trans (h6.mono hbw.out.size)
          have BX := CB.out _ (hb5.out.trans (hb6.mono hb5.out.size))
          have hwl6 : w.heap.size < w6.heap.size := BX.lt
          clear c0 c1 c2 c3 c4 c5 c6 MY h6 hbr TDr hwl
          obtain ⟨c0, c1, c2, c3, c4, c5, c6⟩ := BX.cells
          have nx : Hid (LpAt x w5 (.int .i64 (m : Int)) (.int .i64 3) w6) := ⟨3, 3, m, rfl, rfl, by omega, rfl, nm.symm, hb6⟩
          clear BX hb6 nm
          go_wp2_with fail
          exact ⟨nx.out, by simp [intOf]⟩
      · obtain rfl : z = 3 := by omega
        have hmL : m = L := by rw [hm]; exact pl.out
        subst hmL
        clear hz hk hm isp few CP c0 c1 c2 c3 c4 c5 c6 MY hbw pl hwl
        go_wp2_with fail
        refine TDr.out.mono ?_
        rintro e w7 ⟨rfl, h7⟩
        have E : Hid (Below w.heap.size w w7) := be0.out.trans ((hbr.out.trans (h7.mono hbr.out.size)).mono be0.out.size)
        clear TDr h7
        go_wp2_with fail
        go_ret
        exact ⟨rfl, E.out⟩


/-! The row: every input. -/
set_option linter.unusedVariables false
set_option maxRecDepth 100000 in
theorem lifted (os : Os) (started : os.Started) (H : Type) (enc : TypeId × Value → H) :
    ReturnsInHanded {} Try.checked os 3 .any (Rows.planAsksSpec.pre6 enc Try.prog Try.f3 Rows.planAsksRow.domain false) (Rows.planAsksSpec.post enc Try.prog Try.f3 false true false false) := by
  refine returnsInHanded_of_change (C := Try.checked) own started (by kernel_rfl) Try.func3
    (ChangeSpec.witness6 (enc := enc) (C := Try.checked) false ⟨#[], #[.agg #[.int .i64 0, .int .i64 0, .int .i64 0, .int .i64 0, .int .i64 0, .int .i64 0, .int .i64 0]], []⟩ 8 (by kernel_rfl) (by kernel_rfl) (by kernel_rfl) (by kernel_rfl)) ?_
  intro W base args ds gs before hval0 hW _ _
  have hval : ∀ (j : Nat) t v, Try.f3.params[j]? = some t → args[j]? = some v → Value.okWide Try.prog W .any base t v := hval0
  have hW' := hW
  obtain ⟨p, q, hA0, hV, rfl, hfz, hnd⟩ := hW
  have hA : DataW.TrodAll enc Try.prog W 0 (fun _ => true) true Try.f3.params.toList args.toList ds p := hA0
  rw [Try.params3] at hA hval
  obtain ⟨v0, vs0, d0, ds0, p0, q0, hargs, rfl, rfl, h0, r0⟩ := trodAll_cons hA
  obtain ⟨rfl, rfl, rfl⟩ := trodAll_nil r0
  obtain rfl : args = #[v0] := by cases args; simp_all
  obtain ⟨rfl, rfl⟩ := trodVars_none hV
  obtain ⟨x0, rfl⟩ := view_want (hval 0 24 v0 rfl rfl) h0
  clear hA0 hval0
  simp only [List.append_nil] at hW'
  refine (walkd x0 W rfl).mono fun e W' ⟨he, hb⟩ => ?_
  subst he
  exact ⟨_, rfl, post_below (pa := p0 ++ []) (pv := []) hW' (fun _ _ _ => (trodAll_cons_mk (shut_bool Try.underlying4 _) trodAll_mk0)) (fun sp hsp => (trodAll_cons_mk (Trod_stays laidOut (by kernel_rfl) (of_decide_eq_true (by kernel_rfl)) h0 (fun x hx => hb.same (hW'.lt x (by simp [hx]))) (fun x hx => hsp x (by simp [hx]))) trodAll_mk0)) (fun _ _ => rfl) (by simp)
    hb (ok_one (by kernel_rfl) rfl (okWide_bool_mk Try.underlying4 _))⟩

theorem proved : Rows.PlanAsksSaid :=
  OpenClaim.holds_of_wide 3 Try.f3 rfl rfl rfl rfl rfl rfl rfl ⟨rfl, rfl, rfl, rfl, rfl⟩ rfl rfl rfl rfl rfl (by kernel_rfl) Try.func3 (by kernel_rfl)
    (of_decide_eq_true (by kernel_rfl)) (by unfold Func.isWrapper; first | (rw [if_pos (by decide +kernel)]; kernel_rfl) | (rw [if_neg (by decide +kernel)]; exact ⟨rfl, rfl⟩))
    (fun os started H enc _ => lifted os started H enc)
#print axioms proved

end Go.Proofs.Ytnljfnhndnkckaa.planAsks
