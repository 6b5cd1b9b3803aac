/- The document's Next of a saga. -/
import Derived.Test.YtakicogelkdofaaDoorSgB
namespace Go.Proofs.YtakicogelkdofaaDoor
set_option maxRecDepth 100000
open Go.RowKit
open Go.Proofs.YtakicogelkdofaaDoor.Pk (one_at one_free one_set lt_some grown_set grown_trans below_grown grown_refl)
namespace Sg
open Wt (Wan may Opn mayOp may_any refmay_any below_drewN inR)
open Pl (Stp fwd bck cap z0 wanv spv RowT rt_form rt_mono rt_cell At rfwd_any rbck_any rcap_any fwd_any bck_any cap_any regionAt rask_size one6 wpList_store_row setRow_below)

noncomputable def nx_5 : Code := (Tryd.f11.body.bind (regionAt 5)).getD .skip
set_option maxHeartbeats 12800000 in
theorem nx5 (z0 z3 z4 z5 z6 z7 z8 z9 z10 z11 z12 z13 z14 z15 z16 z17 z18 z19 z20 z21 z22 z23 z24 z25 z26 z27 z28 z29 z30 z31 z32 z33 : Value) (W : World) (q q2 n k : Nat) (s : Sag) (a : Stp) (l : List Stp)
    (CB : Hid (∀ w', Below q2 W w' → CellS w' q s))
    (F : Hid (∀ w', Below q2 W w' → Calls Tryd.prog 36 #[.agg #[.int .i64 s.w.book, .int .i64 s.w.cust, .int .i64 s.w.dead, .int .i64 s.w.u0, .int .i64 s.w.u1, .int .i64 s.w.u2, .int .i64 s.w.price]] w' fun e w'' => ∃ A c, e = .returned (.slice A n c) ∧ RowT 33 w'' q2 (.slice A n c) n l ∧ Below q2 W w'' ∧ Below w'.heap.size w' w''))
    (Z : W.heap[q2]? = some (.cells #[.int .i64 0, .int .i64 0, .int .i64 0, .int .i64 0, .int .i64 0, .int .i64 0] 33 (0, 0)))
    (hk : s.st = (k : Int))
    (hl : l[k]? = some a)
    (i1 : (k : Int) < (n : Int))
    (Q : Exit → Act → World → Prop)
    (hP : ∀ c a d v w, Q (.panic c) (Act.put a d v) w → Q (.panic c) a w)
    (hQ : ∀ (y12 y13 y14 y15 y16 y17 y18 : Value)  (W3 : World), W3.heap[q2]? = some (.cells #[Value.int .i64 a.node, .int .i64 a.op.kind, .int .i64 a.op.book, .int .i64 a.op.units, .int .i64 a.op.cust, .int .i64 a.op.amount] 33 (0, 0)) → Below q2 W W3 → Q .normal ⟨#[z0, .pointer (some ⟨q, 0, none⟩), .pointer (some ⟨q2, 0, none⟩), .bool true, z4, z5, z6, z7, z8, z9, z10, z11, y12, y13, y14, y15, y16, y17, y18, z19, z20, z21, z22, z23, z24, z25, z26, z27, z28, z29, z30, z31, z32, z33], []⟩ W3) :
    Code.wp Tryd.prog nx_5 Q ⟨#[z0, .pointer (some ⟨q, 0, none⟩), .pointer (some ⟨q2, 0, none⟩), z3, z4, z5, z6, z7, z8, z9, z10, z11, z12, z13, z14, z15, z16, z17, z18, z19, z20, z21, z22, z23, z24, z25, z26, z27, z28, z29, z30, z31, z32, z33], []⟩ W := by
  conv => arg 2; whnf
  have b0 : Below q2 W W.drew := ⟨rfl, rfl, rfl, Nat.le_refl _, fun _ _ => rfl⟩
  refine wp_region_held_drew (S := fun w => Below q2 W w) (by kernel_rfl) b0 (fun hHeld => ?_)
  replace hQ := Lib.hid hQ
  clear b0
  obtain ⟨v0, hv⟩ : ∃ v, v = W.drew := ⟨_, rfl⟩
  have Z0 : v0.heap[q2]? = some (.cells #[.int .i64 0, .int .i64 0, .int .i64 0, .int .i64 0, .int .i64 0, .int .i64 0] 33 (0, 0)) := by rw [hv]; exact Z
  have i2 : (0 : Int) ≤ (k : Int) := by omega
  rw [← hv] at hHeld ⊢
  clear hv
  refine' wpAnyH_take (i := 0) (oi := ?o1) (v := ?v1) ?hi1 (by kernel_rfl) (by kernel_rfl) (by kernel_rfl) (fun c a w h => hP c a _ _ w h) (Or.inl ⟨?hw1, ?hy1⟩) hHeld ?rest1
  case hi1 => simp only [List.getElem?_toArray, List.getElem?_cons_zero]; rfl
  case hw1 => rfl
  case hy1 =>
    intro w _
    go_simp
    try with_reducible rfl
  simp only [Act.put, List.setIfInBounds_toArray, List.set_cons_zero, List.set_cons_succ]
  refine' wpAnyH_take (i := 1) (oi := ?o2) (v := ?v2) ?hi2 (by kernel_rfl) (by kernel_rfl) (by kernel_rfl) (fun c a w h => hP c a _ _ w h) (Or.inl ⟨?hw2, ?hy2⟩) hHeld ?rest2
  case hi2 => simp only [List.getElem?_toArray, List.getElem?_cons_succ, List.getElem?_cons_zero]; rfl
  case hw2 => rfl
  case hy2 =>
    intro w hSw
    obtain ⟨c0, c1, c2, c3, c4, c5, c6, c7, c8, c9, ca⟩ := CB.out _ hSw; rw [hk] at c8
    go_simp
    try with_reducible rfl
  simp only [Act.put, List.setIfInBounds_toArray, List.set_cons_zero, List.set_cons_succ]
  refine' wpAnyH_take (i := 3) (oi := ?o3) (v := ?v3) ?hi3 (by kernel_rfl) (by kernel_rfl) (by kernel_rfl) (fun c a w h => hP c a _ _ w h) (Or.inl ⟨?hw3, ?hy3⟩) hHeld ?rest3
  case hi3 => simp only [List.getElem?_toArray, List.getElem?_cons_succ, List.getElem?_cons_zero]; rfl
  case hw3 => rfl
  case hy3 =>
    intro w _
    go_simp
    try with_reducible rfl
  simp only [Act.put, List.setIfInBounds_toArray, List.set_cons_zero, List.set_cons_succ]
  refine' wpAnyH_take (i := 4) (oi := ?o4) (v := ?v4) ?hi4 (by kernel_rfl) (by kernel_rfl) (by kernel_rfl) (fun c a w h => hP c a _ _ w h) (Or.inl ⟨?hw4, ?hy4⟩) hHeld ?rest4
  case hi4 => simp only [List.getElem?_toArray, List.getElem?_cons_succ, List.getElem?_cons_zero]; rfl
  case hw4 => rfl
  case hy4 =>
    intro w hSw
    obtain ⟨c0, c1, c2, c3, c4, c5, c6, c7, c8, c9, ca⟩ := CB.out _ hSw; rw [hk] at c8
    go_simp
    try with_reducible rfl
  simp only [Act.put, List.setIfInBounds_toArray, List.set_cons_zero, List.set_cons_succ]
  refine wpAnyH_ready (rs := [2]) (by kernel_rfl) (by simp) ?_
  refine' AllReadyH.cons (i := 2) (o := ?o5) ?hi5 (fun K hK => ?st5) ?mo5
  case hi5 => simp only [List.getElem?_toArray, List.getElem?_cons_succ, List.getElem?_cons_zero]; rfl
  case st5 =>
    go_simp
    refine (F.out _ hHeld).mono ?_
    rintro e v1 ⟨A, c, rfl, hR, h6, h7⟩
    replace Z0 := (h7.block _ (lt_some Z0)).trans Z0
    obtain ⟨g, rfl, a0, a1, a2, a3, a4, a5⟩ := rt_cell hR hl
    clear hR h7 hHeld
    go_simp
    refine hK.out _ _ h6 (fun hHeld => ?_)
    clear hK K h6
    try simp only [Act.put, List.setIfInBounds_toArray, List.set_cons_zero, List.set_cons_succ]
    refine' wpAnyH_take (i := 5) (oi := ?o6) (v := ?v6) ?hi6 (by kernel_rfl) (by kernel_rfl) (by kernel_rfl) (fun c a w h => hP c a _ _ w h) (Or.inl ⟨?hw6, ?hy6⟩) hHeld ?rest6
    case hi6 => simp only [List.getElem?_toArray, List.getElem?_cons_succ, List.getElem?_cons_zero]; rfl
    case hw6 => rfl
    case hy6 =>
      intro w _
      go_simp
      try with_reducible rfl
    simp only [Act.put, List.setIfInBounds_toArray, List.set_cons_zero, List.set_cons_succ]
    refine wpAnyH_ready (rs := [6]) (by kernel_rfl) (by simp) ?_
    refine' AllReadyH.cons (i := 6) (o := ?o7) ?hi7 (fun K hK => ?st7) ?mo7
    case hi7 => simp only [List.getElem?_toArray, List.getElem?_cons_succ, List.getElem?_cons_zero]; rfl
    case st7 =>
      go_simp
      refine hK.out _ _ hHeld (fun hHeld2 => ?_)
      clear hK K hHeld2
      try simp only [Act.put, List.setIfInBounds_toArray, List.set_cons_zero, List.set_cons_succ]
      refine wpAnyH_ready (rs := [7]) (by kernel_rfl) (by simp) ?_
      refine' AllReadyH.cons (i := 7) (o := ?o8) ?hi8 (fun K hK => ?st8) ?mo8
      case hi8 => simp only [List.getElem?_toArray, List.getElem?_cons_succ, List.getElem?_cons_zero]; rfl
      case st8 =>
        refine step_store_row rfl 33 (.tmp 2) (.tmp 18) rfl q2 #[Value.int .i64 a.node, .int .i64 a.op.kind, .int .i64 a.op.book, .int .i64 a.op.units, .int .i64 a.op.cust, .int .i64 a.op.amount] rfl rfl 33 _ Z0 rask_size rfl (one6 _ _ _ _ _ _) ?_
        refine hK.out _ _ (hHeld.trans (setRow_below _ (Nat.le_refl _))) (fun hHeld2 => ?_)
        clear hK K
        try simp only [Act.put]
        replace Z0 : (v1.setRow q2 #[Value.int .i64 a.node, .int .i64 a.op.kind, .int .i64 a.op.book, .int .i64 a.op.units, .int .i64 a.op.cust, .int .i64 a.op.amount]).heap[q2]? = some (.cells #[Value.int .i64 a.node, .int .i64 a.op.kind, .int .i64 a.op.book, .int .i64 a.op.units, .int .i64 a.op.cust, .int .i64 a.op.amount] 33 (0, 0)) := setRow_heap _ _ _ _ _ _ Z0
        obtain ⟨v2, hv⟩ : ∃ v, v = v1.setRow q2 #[Value.int .i64 a.node, .int .i64 a.op.kind, .int .i64 a.op.book, .int .i64 a.op.units, .int .i64 a.op.cust, .int .i64 a.op.amount] := ⟨_, rfl⟩
        rw [← hv] at Z0 hHeld2 ⊢
        clear hv hHeld
        have hHeld := hHeld2
        clear hHeld2
        refine' wpAnyH_take (i := 8) (oi := ?o9) (v := ?v9) ?hi9 (by kernel_rfl) (by kernel_rfl) (by kernel_rfl) (fun c a w h => hP c a _ _ w h) (Or.inl ⟨?hw9, ?hy9⟩) hHeld ?rest9
        case hi9 => simp only [List.getElem?_toArray, List.getElem?_cons_succ, List.getElem?_cons_zero]; rfl
        case hw9 => rfl
        case hy9 =>
          intro w _
          go_simp
          try with_reducible rfl
        simp only [Act.put, List.setIfInBounds_toArray, List.set_cons_zero, List.set_cons_succ]
        refine wpAnyH_done (by kernel_rfl) ?_ _
        exact hQ.out _ _ _ _ _ _ _ _ Z0 hHeld
      case mo8 => exact AllReadyH.nil
    case mo7 => exact AllReadyH.nil
  case mo5 => exact AllReadyH.nil
noncomputable def nx_9 : Code := (Tryd.f11.body.bind (regionAt 9)).getD .skip
set_option maxHeartbeats 12800000 in
theorem nx9 (z0 z3 z4 z5 z6 z7 z8 z9 z10 z11 z12 z13 z14 z15 z16 z17 z18 z19 z20 z21 z22 z23 z24 z25 z26 z27 z28 z29 z30 z31 z32 z33 : Value) (W : World) (q q2 n k : Nat) (s : Sag) (a : Stp) (l : List Stp)
    (CB : Hid (∀ w', Below q2 W w' → CellS w' q s))
    (F : Hid (∀ w', Below q2 W w' → Calls Tryd.prog 38 #[.agg #[.int .i64 s.w.book, .int .i64 s.w.cust, .int .i64 s.w.dead, .int .i64 s.w.u0, .int .i64 s.w.u1, .int .i64 s.w.u2, .int .i64 s.w.price]] w' fun e w'' => ∃ A c, e = .returned (.slice A n c) ∧ RowT 33 w'' q2 (.slice A n c) n l ∧ Below q2 W w'' ∧ Below w'.heap.size w' w''))
    (Z : W.heap[q2]? = some (.cells #[.int .i64 0, .int .i64 0, .int .i64 0, .int .i64 0, .int .i64 0, .int .i64 0] 33 (0, 0)))
    (hk : s.st = (k : Int))
    (hl : l[k]? = some a)
    (i1 : (k : Int) < (n : Int))
    (Q : Exit → Act → World → Prop)
    (hP : ∀ c a d v w, Q (.panic c) (Act.put a d v) w → Q (.panic c) a w)
    (hQ : ∀ (y26 y27 y28 y29 y30 y31 y32 : Value)  (W3 : World), W3.heap[q2]? = some (.cells #[Value.int .i64 a.node, .int .i64 a.op.kind, .int .i64 a.op.book, .int .i64 a.op.units, .int .i64 a.op.cust, .int .i64 a.op.amount] 33 (0, 0)) → Below q2 W W3 → Q .normal ⟨#[z0, .pointer (some ⟨q, 0, none⟩), .pointer (some ⟨q2, 0, none⟩), .bool true, z4, z5, z6, z7, z8, z9, z10, z11, z12, z13, z14, z15, z16, z17, z18, z19, z20, z21, z22, z23, z24, z25, y26, y27, y28, y29, y30, y31, y32, z33], []⟩ W3) :
    Code.wp Tryd.prog nx_9 Q ⟨#[z0, .pointer (some ⟨q, 0, none⟩), .pointer (some ⟨q2, 0, none⟩), z3, z4, z5, z6, z7, z8, z9, z10, z11, z12, z13, z14, z15, z16, z17, z18, z19, z20, z21, z22, z23, z24, z25, z26, z27, z28, z29, z30, z31, z32, z33], []⟩ W := by
  conv => arg 2; whnf
  have b0 : Below q2 W W.drew := ⟨rfl, rfl, rfl, Nat.le_refl _, fun _ _ => rfl⟩
  refine wp_region_held_drew (S := fun w => Below q2 W w) (by kernel_rfl) b0 (fun hHeld => ?_)
  replace hQ := Lib.hid hQ
  clear b0
  obtain ⟨v0, hv⟩ : ∃ v, v = W.drew := ⟨_, rfl⟩
  have Z0 : v0.heap[q2]? = some (.cells #[.int .i64 0, .int .i64 0, .int .i64 0, .int .i64 0, .int .i64 0, .int .i64 0] 33 (0, 0)) := by rw [hv]; exact Z
  have i2 : (0 : Int) ≤ (k : Int) := by omega
  rw [← hv] at hHeld ⊢
  clear hv
  refine' wpAnyH_take (i := 0) (oi := ?o1) (v := ?v1) ?hi1 (by kernel_rfl) (by kernel_rfl) (by kernel_rfl) (fun c a w h => hP c a _ _ w h) (Or.inl ⟨?hw1, ?hy1⟩) hHeld ?rest1
  case hi1 => simp only [List.getElem?_toArray, List.getElem?_cons_zero]; rfl
  case hw1 => rfl
  case hy1 =>
    intro w _
    go_simp
    try with_reducible rfl
  simp only [Act.put, List.setIfInBounds_toArray, List.set_cons_zero, List.set_cons_succ]
  refine' wpAnyH_take (i := 1) (oi := ?o2) (v := ?v2) ?hi2 (by kernel_rfl) (by kernel_rfl) (by kernel_rfl) (fun c a w h => hP c a _ _ w h) (Or.inl ⟨?hw2, ?hy2⟩) hHeld ?rest2
  case hi2 => simp only [List.getElem?_toArray, List.getElem?_cons_succ, List.getElem?_cons_zero]; rfl
  case hw2 => rfl
  case hy2 =>
    intro w hSw
    obtain ⟨c0, c1, c2, c3, c4, c5, c6, c7, c8, c9, ca⟩ := CB.out _ hSw; rw [hk] at c8
    go_simp
    try with_reducible rfl
  simp only [Act.put, List.setIfInBounds_toArray, List.set_cons_zero, List.set_cons_succ]
  refine' wpAnyH_take (i := 3) (oi := ?o3) (v := ?v3) ?hi3 (by kernel_rfl) (by kernel_rfl) (by kernel_rfl) (fun c a w h => hP c a _ _ w h) (Or.inl ⟨?hw3, ?hy3⟩) hHeld ?rest3
  case hi3 => simp only [List.getElem?_toArray, List.getElem?_cons_succ, List.getElem?_cons_zero]; rfl
  case hw3 => rfl
  case hy3 =>
    intro w _
    go_simp
    try with_reducible rfl
  simp only [Act.put, List.setIfInBounds_toArray, List.set_cons_zero, List.set_cons_succ]
  refine' wpAnyH_take (i := 4) (oi := ?o4) (v := ?v4) ?hi4 (by kernel_rfl) (by kernel_rfl) (by kernel_rfl) (fun c a w h => hP c a _ _ w h) (Or.inl ⟨?hw4, ?hy4⟩) hHeld ?rest4
  case hi4 => simp only [List.getElem?_toArray, List.getElem?_cons_succ, List.getElem?_cons_zero]; rfl
  case hw4 => rfl
  case hy4 =>
    intro w hSw
    obtain ⟨c0, c1, c2, c3, c4, c5, c6, c7, c8, c9, ca⟩ := CB.out _ hSw; rw [hk] at c8
    go_simp
    try with_reducible rfl
  simp only [Act.put, List.setIfInBounds_toArray, List.set_cons_zero, List.set_cons_succ]
  refine wpAnyH_ready (rs := [2]) (by kernel_rfl) (by simp) ?_
  refine' AllReadyH.cons (i := 2) (o := ?o5) ?hi5 (fun K hK => ?st5) ?mo5
  case hi5 => simp only [List.getElem?_toArray, List.getElem?_cons_succ, List.getElem?_cons_zero]; rfl
  case st5 =>
    go_simp
    refine (F.out _ hHeld).mono ?_
    rintro e v1 ⟨A, c, rfl, hR, h6, h7⟩
    replace Z0 := (h7.block _ (lt_some Z0)).trans Z0
    obtain ⟨g, rfl, a0, a1, a2, a3, a4, a5⟩ := rt_cell hR hl
    clear hR h7 hHeld
    go_simp
    refine hK.out _ _ h6 (fun hHeld => ?_)
    clear hK K h6
    try simp only [Act.put, List.setIfInBounds_toArray, List.set_cons_zero, List.set_cons_succ]
    refine' wpAnyH_take (i := 5) (oi := ?o6) (v := ?v6) ?hi6 (by kernel_rfl) (by kernel_rfl) (by kernel_rfl) (fun c a w h => hP c a _ _ w h) (Or.inl ⟨?hw6, ?hy6⟩) hHeld ?rest6
    case hi6 => simp only [List.getElem?_toArray, List.getElem?_cons_succ, List.getElem?_cons_zero]; rfl
    case hw6 => rfl
    case hy6 =>
      intro w _
      go_simp
      try with_reducible rfl
    simp only [Act.put, List.setIfInBounds_toArray, List.set_cons_zero, List.set_cons_succ]
    refine wpAnyH_ready (rs := [6]) (by kernel_rfl) (by simp) ?_
    refine' AllReadyH.cons (i := 6) (o := ?o7) ?hi7 (fun K hK => ?st7) ?mo7
    case hi7 => simp only [List.getElem?_toArray, List.getElem?_cons_succ, List.getElem?_cons_zero]; rfl
    case st7 =>
      go_simp
      refine hK.out _ _ hHeld (fun hHeld2 => ?_)
      clear hK K hHeld2
      try simp only [Act.put, List.setIfInBounds_toArray, List.set_cons_zero, List.set_cons_succ]
      refine wpAnyH_ready (rs := [7]) (by kernel_rfl) (by simp) ?_
      refine' AllReadyH.cons (i := 7) (o := ?o8) ?hi8 (fun K hK => ?st8) ?mo8
      case hi8 => simp only [List.getElem?_toArray, List.getElem?_cons_succ, List.getElem?_cons_zero]; rfl
      case st8 =>
        refine step_store_row rfl 33 (.tmp 2) (.tmp 32) rfl q2 #[Value.int .i64 a.node, .int .i64 a.op.kind, .int .i64 a.op.book, .int .i64 a.op.units, .int .i64 a.op.cust, .int .i64 a.op.amount] rfl rfl 33 _ Z0 rask_size rfl (one6 _ _ _ _ _ _) ?_
        refine hK.out _ _ (hHeld.trans (setRow_below _ (Nat.le_refl _))) (fun hHeld2 => ?_)
        clear hK K
        try simp only [Act.put]
        replace Z0 : (v1.setRow q2 #[Value.int .i64 a.node, .int .i64 a.op.kind, .int .i64 a.op.book, .int .i64 a.op.units, .int .i64 a.op.cust, .int .i64 a.op.amount]).heap[q2]? = some (.cells #[Value.int .i64 a.node, .int .i64 a.op.kind, .int .i64 a.op.book, .int .i64 a.op.units, .int .i64 a.op.cust, .int .i64 a.op.amount] 33 (0, 0)) := setRow_heap _ _ _ _ _ _ Z0
        obtain ⟨v2, hv⟩ : ∃ v, v = v1.setRow q2 #[Value.int .i64 a.node, .int .i64 a.op.kind, .int .i64 a.op.book, .int .i64 a.op.units, .int .i64 a.op.cust, .int .i64 a.op.amount] := ⟨_, rfl⟩
        rw [← hv] at Z0 hHeld2 ⊢
        clear hv hHeld
        have hHeld := hHeld2
        clear hHeld2
        refine' wpAnyH_take (i := 8) (oi := ?o9) (v := ?v9) ?hi9 (by kernel_rfl) (by kernel_rfl) (by kernel_rfl) (fun c a w h => hP c a _ _ w h) (Or.inl ⟨?hw9, ?hy9⟩) hHeld ?rest9
        case hi9 => simp only [List.getElem?_toArray, List.getElem?_cons_succ, List.getElem?_cons_zero]; rfl
        case hw9 => rfl
        case hy9 =>
          intro w _
          go_simp
          try with_reducible rfl
        simp only [Act.put, List.setIfInBounds_toArray, List.set_cons_zero, List.set_cons_succ]
        refine wpAnyH_done (by kernel_rfl) ?_ _
        exact hQ.out _ _ _ _ _ _ _ _ Z0 hHeld
      case mo8 => exact AllReadyH.nil
    case mo7 => exact AllReadyH.nil
  case mo5 => exact AllReadyH.nil
theorem smay_true {s : Sag} (h : smay s = true) : may s.w = true ∧ (0 ≤ s.si ∧ s.si ≤ 1099511627776) ∧ ((s.ph = 1 ∧ 0 ≤ s.st ∧ s.st < nF s ∧ s.rs = 0) ∨ (s.ph = 2 ∧ s.st = 0 ∧ s.rs = 0) ∨ (s.ph = 3 ∧ 0 ≤ s.st ∧ s.st < nB s ∧ why s = true) ∨ (s.ph = 4 ∧ s.st = 0 ∧ s.rs = 0) ∨ (s.ph = 5 ∧ s.st = 0 ∧ why s = true)) := by
  unfold smay at h
  simp only [Bool.and_eq_true] at h
  obtain ⟨⟨h1, h2⟩, h3⟩ := h
  have h2' := of_decide_eq_true h2
  refine ⟨h1, ⟨h2'.1, h2'.2⟩, ?_⟩
  rcases (by omega : s.ph = 1 ∨ s.ph = 2 ∨ s.ph = 3 ∨ s.ph = 4 ∨ s.ph = 5 ∨ (s.ph < 1 ∨ 5 < s.ph)) with hp | hp | hp | hp | hp | hp
  · rw [phs_1 hp] at h3
    simp only [Bool.and_eq_true, decide_eq_true_iff, beq_iff_eq] at h3
    exact .inl ⟨hp, h3.1.1, h3.1.2, h3.2⟩
  · rw [phs_2 (.inl hp)] at h3
    simp only [Bool.and_eq_true, beq_iff_eq] at h3
    exact .inr (.inl ⟨hp, h3.1, h3.2⟩)
  · rw [phs_3 hp] at h3
    simp only [Bool.and_eq_true, decide_eq_true_iff] at h3
    exact .inr (.inr (.inl ⟨hp, h3.1.1, h3.1.2, h3.2⟩))
  · rw [phs_2 (.inr hp)] at h3
    simp only [Bool.and_eq_true, beq_iff_eq] at h3
    exact .inr (.inr (.inr (.inl ⟨hp, h3.1, h3.2⟩)))
  · rw [phs_5 hp] at h3
    simp only [Bool.and_eq_true, beq_iff_eq] at h3
    exact .inr (.inr (.inr (.inr ⟨hp, h3.1, h3.2⟩)))
  · rw [phs_0 hp] at h3
    cases h3
theorem snext_no {s : Sag} (h : smay s = false) : snext s = (z0, false) := by unfold snext; rw [if_neg (by rw [h]; decide)]
theorem snext_1 {s : Sag} (h : smay s = true) (hp : s.ph = 1) : snext s = (atF s, true) := by unfold snext; rw [if_pos h, if_pos hp]
theorem snext_2 {s : Sag} (h : smay s = true) (hp : s.ph = 2) : snext s = (cap s.w, true) := by unfold snext; rw [if_pos h, if_neg (by omega), if_pos hp]
theorem snext_3 {s : Sag} (h : smay s = true) (hp : s.ph = 3) : snext s = (atB s, true) := by unfold snext; rw [if_pos h, if_neg (by omega), if_neg (by omega), if_pos hp]
theorem snext_4 {s : Sag} (h : smay s = true) (hp : s.ph = 4 ∨ s.ph = 5) : snext s = (z0, false) := by unfold snext; rw [if_pos h, if_neg (by omega), if_neg (by omega), if_neg (by omega)]
theorem at_F {s : Sag} (h0 : 0 ≤ s.st) (h1 : s.st < nF s) : (fwd s.w)[s.st.toNat]? = some (atF s) := by
  unfold nF at h1
  unfold atF
  rw [List.getElem?_eq_getElem (by omega)]
  rfl
theorem at_B {s : Sag} (h0 : 0 ≤ s.st) (h1 : s.st < nB s) : (bck s.w)[s.st.toNat]? = some (atB s) := by
  unfold nB at h1
  unfold atB
  rw [List.getElem?_eq_getElem (by omega)]
  rfl
theorem rnext_results : Tryd.f11.results = #[.cell 2 33, .tmp 3] := by kernel_rfl
set_option maxHeartbeats 6400000 in
theorem rnext_any (w : World) (s : Sag) : Calls Tryd.prog 11 #[sgv s] w fun e w' => e = .returned (.tuple #[spv (snext s).1, .bool (snext s).2]) ∧ Below w.heap.size w w' := by
  obtain ⟨W0, hW0⟩ : ∃ W0, W0 = (w.alloc (.cells (sgc s) 26)).alloc (.cells #[.int .i64 0, .int .i64 0, .int .i64 0, .int .i64 0, .int .i64 0, .int .i64 0] 33) := ⟨_, rfl⟩
  have B0 : BoxS W0 w.heap.size s := by rw [hW0]; exact heap_alloc2_old _ _ _
  have Z0 : W0.heap[w.heap.size + 1]? = some (.cells #[.int .i64 0, .int .i64 0, .int .i64 0, .int .i64 0, .int .i64 0, .int .i64 0] 33 (0, 0)) := by
    have := heap_alloc_new (w.alloc (.cells (sgc s) 26)) (.cells #[.int .i64 0, .int .i64 0, .int .i64 0, .int .i64 0, .int .i64 0, .int .i64 0] 33)
    rw [show (w.alloc (.cells (sgc s) 26)).heap.size = w.heap.size + 1 by simp] at this
    rw [hW0]
    exact this
  have be0 : Below w.heap.size w W0 := by rw [hW0]; exact ((Below.refl _ w).alloc (Nat.le_refl _) _).alloc (by simp) _
  have M := Lib.hid (rsmay_any W0 s)
  have s0 : w.heap.size + 1 < W0.heap.size := lt_some Z0
  unfold sgv at *
  unfold sgc at *
  replace hW0 := Lib.hid hW0
  go_enter Tryd.func11, Tryd.ntmps11
  go_wp2_with fail
  rw [← hW0.out]
  refine M.out.mono ?_
  rintro e w1 ⟨rfl, h1⟩
  have B1 := B0.below h1 B0.lt
  have Z1 := (h1.block _ s0).trans Z0
  have b1 : Hid (Below w.heap.size w w1) := be0.trans (h1.mono be0.size)
  have s1 : w.heap.size + 1 < w1.heap.size := lt_some Z1
  have C1 := B1.cells
  have CB : Hid (∀ w', Below (w.heap.size + 1) w1 w' → CellS w' w.heap.size s) := fun w' h => (B1.below h (Nat.lt_succ_self _)).cells
  replace Z1 := Lib.hid Z1
  clear M h1 B0 Z0 be0 hW0 s0 B1
  obtain ⟨c0, c1, c2, c3, c4, c5, c6, c7, c8, c9, ca⟩ := C1
  have hwl : w.heap.size < w1.heap.size := by omega
  cases hm : smay s with
  | false =>
    have EE := snext_no hm
    unfold z0 at EE
    replace EE := Lib.hid EE
    clear hm
    go_wp2_with (refine wpList_store_row rfl 33 (.tmp 2) (.tmp 7) rfl (w.heap.size + 1) #[.int .i64 0, .int .i64 0, .int .i64 0, .int .i64 0, .int .i64 0, .int .i64 0] rfl rfl 33 _ Z1.out rask_size rfl (one6 _ _ _ _ _ _) ?_)
    refine bodyPost_ret (res_row rnext_results _ _ (w.heap.size + 1) 33 #[.int .i64 0, .int .i64 0, .int .i64 0, .int .i64 0, .int .i64 0, .int .i64 0] (0, 0) _ rfl (setRow_heap _ _ _ _ _ _ Z1.out) Tryd.underlying33 rfl rask_size) rfl ?_
    exact ⟨by rw [EE.out]; rfl, b1.out.trans (setRow_below _ (Nat.le_succ _))⟩
  | true =>
    obtain ⟨-, -, hc⟩ := smay_true hm
    rcases hc with ⟨hp, h0, h1, -⟩ | ⟨hp, -, -⟩ | ⟨hp, h0, h1, -⟩ | ⟨hp, -, -⟩ | ⟨hp, -, -⟩
    · have EE := snext_1 hm hp
      rw [hp] at c7
      have hl := at_F h0 h1
      obtain ⟨k, hk⟩ : ∃ k : Nat, s.st = (k : Int) := ⟨s.st.toNat, by omega⟩
      rw [show s.st.toNat = k by omega] at hl
      unfold nF at h1
      rw [hk] at h1
      have F : Hid (∀ w', Below (w.heap.size + 1) w1 w' → Calls Tryd.prog 36 #[.agg #[.int .i64 s.w.book, .int .i64 s.w.cust, .int .i64 s.w.dead, .int .i64 s.w.u0, .int .i64 s.w.u1, .int .i64 s.w.u2, .int .i64 s.w.price]] w' fun e w'' => ∃ A c, e = .returned (.slice A (fwd s.w).length c) ∧ RowT 33 w'' (w.heap.size + 1) (.slice A (fwd s.w).length c) (fwd s.w).length (fwd s.w) ∧ Below (w.heap.size + 1) w1 w'' ∧ Below w'.heap.size w' w'') := fun w' h => (rf_len w' s.w).mono fun _ _ ⟨A, c, h1, h2, h3⟩ => ⟨A, c, h1, rt_mono h2 (by have := h.size; omega), h.trans (h3.mono (by have := h.size; omega)), h3⟩
      generalize atF s = a at *
      replace EE := Lib.hid EE
      clear hm h0 c8
      go_upto_region 5 with fail
      refine nx5 _ _ _ _ _ _ _ _ _ _ _ _ _ _ _ _ _ _ _ _ _ _ _ _ _ _ _ _ _ _ _ _ w1 w.heap.size (w.heap.size + 1) _ k s a _ CB F Z1.out hk hl h1 _ (fun _ _ d _ _ h => by cases d <;> exact h) (fun _ _ _ _ _ _ _ w3 hz hb => ?_)
      have E : Hid (Below w.heap.size w w3) := b1.out.trans (hb.mono (Nat.le_succ _))
      replace hz := Lib.hid hz
      clear hb F hl hk h1 CB c0 c1 c2 c3 c4 c5 c6 c7 c9 ca
      go_wp2_with fail
      refine bodyPost_ret (res_row rnext_results _ _ (w.heap.size + 1) 33 #[Value.int .i64 a.node, .int .i64 a.op.kind, .int .i64 a.op.book, .int .i64 a.op.units, .int .i64 a.op.cust, .int .i64 a.op.amount] (0, 0) _ rfl hz.out Tryd.underlying33 rfl rask_size) rfl ?_
      exact ⟨by rw [EE.out]; rfl, E.out⟩
    · have EE := snext_2 hm hp
      rw [hp] at c7
      have K := rcap_any w1 s.w
      unfold wanv at K
      replace K := Lib.hid K
      replace EE := Lib.hid EE
      clear hm CB
      go_wp2_with fail
      refine K.out.mono ?_
      rintro e w3 ⟨rfl, h3⟩
      have Z3 := Lib.hid ((h3.block _ s1).trans Z1.out)
      have b3 : Hid (Below w.heap.size w w3) := b1.out.trans (h3.mono b1.out.size)
      replace EE := EE.out
      generalize cap s.w = a at *
      replace EE := Lib.hid EE
      clear K h3 c0 c1 c2 c3 c4 c5 c6 c7 c8 c9 ca
      unfold spv
      go_wp2_with (refine wpList_store_row rfl 33 (.tmp 2) (.tmp 23) rfl (w.heap.size + 1) #[Value.int .i64 a.node, .int .i64 a.op.kind, .int .i64 a.op.book, .int .i64 a.op.units, .int .i64 a.op.cust, .int .i64 a.op.amount] rfl rfl 33 _ Z3.out rask_size rfl (one6 _ _ _ _ _ _) ?_)
      refine bodyPost_ret (res_row rnext_results _ _ (w.heap.size + 1) 33 #[Value.int .i64 a.node, .int .i64 a.op.kind, .int .i64 a.op.book, .int .i64 a.op.units, .int .i64 a.op.cust, .int .i64 a.op.amount] (0, 0) _ rfl (setRow_heap _ _ _ _ _ _ Z3.out) Tryd.underlying33 rfl rask_size) rfl ?_
      exact ⟨by rw [EE.out]; rfl, b3.out.trans (setRow_below _ (Nat.le_succ _))⟩
    · have EE := snext_3 hm hp
      rw [hp] at c7
      have hl := at_B h0 h1
      obtain ⟨k, hk⟩ : ∃ k : Nat, s.st = (k : Int) := ⟨s.st.toNat, by omega⟩
      rw [show s.st.toNat = k by omega] at hl
      unfold nB at h1
      rw [hk] at h1
      have F : Hid (∀ w', Below (w.heap.size + 1) w1 w' → Calls Tryd.prog 38 #[.agg #[.int .i64 s.w.book, .int .i64 s.w.cust, .int .i64 s.w.dead, .int .i64 s.w.u0, .int .i64 s.w.u1, .int .i64 s.w.u2, .int .i64 s.w.price]] w' fun e w'' => ∃ A c, e = .returned (.slice A (bck s.w).length c) ∧ RowT 33 w'' (w.heap.size + 1) (.slice A (bck s.w).length c) (bck s.w).length (bck s.w) ∧ Below (w.heap.size + 1) w1 w'' ∧ Below w'.heap.size w' w'') := fun w' h => (rb_len w' s.w).mono fun _ _ ⟨A, c, h1, h2, h3⟩ => ⟨A, c, h1, rt_mono h2 (by have := h.size; omega), h.trans (h3.mono (by have := h.size; omega)), h3⟩
      generalize atB s = a at *
      replace EE := Lib.hid EE
      clear hm h0 c8
      go_upto_region 9 with fail
      refine nx9 _ _ _ _ _ _ _ _ _ _ _ _ _ _ _ _ _ _ _ _ _ _ _ _ _ _ _ _ _ _ _ _ w1 w.heap.size (w.heap.size + 1) _ k s a _ CB F Z1.out hk hl h1 _ (fun _ _ d _ _ h => by cases d <;> exact h) (fun _ _ _ _ _ _ _ w3 hz hb => ?_)
      have E : Hid (Below w.heap.size w w3) := b1.out.trans (hb.mono (Nat.le_succ _))
      replace hz := Lib.hid hz
      clear hb F hl hk h1 CB c0 c1 c2 c3 c4 c5 c6 c7 c9 ca
      go_wp2_with fail
      refine bodyPost_ret (res_row rnext_results _ _ (w.heap.size + 1) 33 #[Value.int .i64 a.node, .int .i64 a.op.kind, .int .i64 a.op.book, .int .i64 a.op.units, .int .i64 a.op.cust, .int .i64 a.op.amount] (0, 0) _ rfl hz.out Tryd.underlying33 rfl rask_size) rfl ?_
      exact ⟨by rw [EE.out]; rfl, E.out⟩
    · have EE := snext_4 hm (.inl hp)
      rw [hp] at c7
      unfold z0 at EE
      replace EE := Lib.hid EE
      clear hm CB
      go_wp2_with (refine wpList_store_row rfl 33 (.tmp 2) (.tmp 33) rfl (w.heap.size + 1) #[.int .i64 0, .int .i64 0, .int .i64 0, .int .i64 0, .int .i64 0, .int .i64 0] rfl rfl 33 _ Z1.out rask_size rfl (one6 _ _ _ _ _ _) ?_)
      refine bodyPost_ret (res_row rnext_results _ _ (w.heap.size + 1) 33 #[.int .i64 0, .int .i64 0, .int .i64 0, .int .i64 0, .int .i64 0, .int .i64 0] (0, 0) _ rfl (setRow_heap _ _ _ _ _ _ Z1.out) Tryd.underlying33 rfl rask_size) rfl ?_
      exact ⟨by rw [EE.out]; rfl, b1.out.trans (setRow_below _ (Nat.le_succ _))⟩
    · have EE := snext_4 hm (.inr hp)
      rw [hp] at c7
      unfold z0 at EE
      replace EE := Lib.hid EE
      clear hm CB
      go_wp2_with (refine wpList_store_row rfl 33 (.tmp 2) (.tmp 33) rfl (w.heap.size + 1) #[.int .i64 0, .int .i64 0, .int .i64 0, .int .i64 0, .int .i64 0, .int .i64 0] rfl rfl 33 _ Z1.out rask_size rfl (one6 _ _ _ _ _ _) ?_)
      refine bodyPost_ret (res_row rnext_results _ _ (w.heap.size + 1) 33 #[.int .i64 0, .int .i64 0, .int .i64 0, .int .i64 0, .int .i64 0, .int .i64 0] (0, 0) _ rfl (setRow_heap _ _ _ _ _ _ Z1.out) Tryd.underlying33 rfl rask_size) rfl ?_
      exact ⟨by rw [EE.out]; rfl, b1.out.trans (setRow_below _ (Nat.le_succ _))⟩
end Sg
end Go.Proofs.YtakicogelkdofaaDoor
