/- The program's stepped and Next of a saga. -/
import Derived.Test.YtakicogelkdofaaDoorSgQ3
namespace Go.Proofs.YtakicogelkdofaaDoor
set_option maxRecDepth 100000
open Go.RowKit
open Go.Proofs.YtakicogelkdofaaDoor.Pk (one_at one_free one_set lt_some grown_set grown_trans below_grown grown_refl)
namespace Sg
open Wt (Wan may Opn mayOp may_any inR)
open Pl (Stp fwd bck cap z0 wanv spv RowT rt_form rt_mono rt_cell At regionAt one6 BoxW wpList_store_row setRow_below below_of_grown)

noncomputable def qs_2 : Code := (Tryd.f43.body.bind (regionAt 2)).getD .skip
set_option maxHeartbeats 12800000 in
theorem qs2 (z0 z2 z3 z4 z5 z6 z7 z8 z9 z10 z11 z12 z13 z14 z15 z16 z17 z18 z19 z20 : Value) (W : World) (q n : Nat) (s : Sag)
    (CB : Hid (∀ w', Below W.heap.size W w' → CellS w' q s))
    (F : Hid (∀ w', Below W.heap.size W w' → Calls Tryd.prog 35 #[.agg #[.int .i64 s.w.book, .int .i64 s.w.cust, .int .i64 s.w.dead, .int .i64 s.w.u0, .int .i64 s.w.u1, .int .i64 s.w.u2, .int .i64 s.w.price, .int .i64 s.ph, .int .i64 s.st, .int .i64 s.rs, .int .i64 s.si]] w' fun e w'' => (∃ A c, e = .returned (.slice A n c)) ∧ Below W.heap.size W w''))
    (Q : Exit → Act → World → Prop)
    (hP : ∀ c a d v w, Q (.panic c) (Act.put a d v) w → Q (.panic c) a w)
    (hQ : ∀ (y7 y8 y9 y10 y11 : Value)  (W3 : World), Below W.heap.size W W3 → Q .normal ⟨#[z0, .pointer (some ⟨q, 0, none⟩), z2, z3, z4, z5, z6, y7, y8, y9, y10, y11, .bool (s.st == (n : Int)), z13, z14, z15, z16, z17, z18, z19, z20], []⟩ W3) :
    Code.wp Tryd.prog qs_2 Q ⟨#[z0, .pointer (some ⟨q, 0, none⟩), z2, z3, z4, z5, z6, z7, z8, z9, z10, z11, z12, z13, z14, z15, z16, z17, z18, z19, z20], []⟩ W := by
  conv => arg 2; whnf
  have b0 : Below W.heap.size W W.drew := ⟨rfl, rfl, rfl, Nat.le_refl _, fun _ _ => rfl⟩
  refine wp_region_held_drew (S := fun w => Below W.heap.size W w) (by kernel_rfl) b0 (fun hHeld => ?_)
  replace hQ := Lib.hid hQ
  clear b0
  obtain ⟨v0, hv⟩ : ∃ v, v = W.drew := ⟨_, rfl⟩
  rw [← hv] at hHeld ⊢
  clear hv
  refine' wpAnyH_take (i := 0) (oi := ?o1) (v := ?v1) ?hi1 (by kernel_rfl) (by kernel_rfl) (by kernel_rfl) (fun c a w h => hP c a _ _ w h) (Or.inl ⟨?hw1, ?hy1⟩) hHeld ?rest1
  case hi1 => simp only [List.getElem?_toArray, List.getElem?_cons_zero]; rfl
  case hw1 => rfl
  case hy1 =>
    intro w _
    go_simp
    try with_reducible rfl
  simp only [Act.put, List.setIfInBounds_toArray, List.set_cons_zero, List.set_cons_succ]
  refine' wpAnyH_take (i := 1) (oi := ?o2) (v := ?v2) ?hi2 (by kernel_rfl) (by kernel_rfl) (by kernel_rfl) (fun c a w h => hP c a _ _ w h) (Or.inl ⟨?hw2, ?hy2⟩) hHeld ?rest2
  case hi2 => simp only [List.getElem?_toArray, List.getElem?_cons_succ, List.getElem?_cons_zero]; rfl
  case hw2 => rfl
  case hy2 =>
    intro w hSw
    obtain ⟨c0, c1, c2, c3, c4, c5, c6, c7, c8, c9, ca⟩ := CB.out _ hSw
    go_simp
    try with_reducible rfl
  simp only [Act.put, List.setIfInBounds_toArray, List.set_cons_zero, List.set_cons_succ]
  refine' wpAnyH_take (i := 2) (oi := ?o3) (v := ?v3) ?hi3 (by kernel_rfl) (by kernel_rfl) (by kernel_rfl) (fun c a w h => hP c a _ _ w h) (Or.inl ⟨?hw3, ?hy3⟩) hHeld ?rest3
  case hi3 => simp only [List.getElem?_toArray, List.getElem?_cons_succ, List.getElem?_cons_zero]; rfl
  case hw3 => rfl
  case hy3 =>
    intro w hSw
    obtain ⟨c0, c1, c2, c3, c4, c5, c6, c7, c8, c9, ca⟩ := CB.out _ hSw
    go_simp
    try with_reducible rfl
  simp only [Act.put, List.setIfInBounds_toArray, List.set_cons_zero, List.set_cons_succ]
  refine wpAnyH_ready (rs := [3]) (by kernel_rfl) (by simp) ?_
  refine' AllReadyH.cons (i := 3) (o := ?o4) ?hi4 (fun K hK => ?st4) ?mo4
  case hi4 => simp only [List.getElem?_toArray, List.getElem?_cons_succ, List.getElem?_cons_zero]; rfl
  case st4 =>
    go_simp
    refine (F.out _ hHeld).mono ?_
    rintro e v1 ⟨⟨A, c, rfl⟩, h6⟩
    clear hHeld
    go_simp
    refine hK.out _ _ h6 (fun hHeld => ?_)
    clear hK K h6
    try simp only [Act.put, List.setIfInBounds_toArray, List.set_cons_zero, List.set_cons_succ]
    refine' wpAnyH_take (i := 4) (oi := ?o5) (v := ?v5) ?hi5 (by kernel_rfl) (by kernel_rfl) (by kernel_rfl) (fun c a w h => hP c a _ _ w h) (Or.inl ⟨?hw5, ?hy5⟩) hHeld ?rest5
    case hi5 => simp only [List.getElem?_toArray, List.getElem?_cons_succ, List.getElem?_cons_zero]; rfl
    case hw5 => rfl
    case hy5 =>
      intro w _
      go_simp
      try with_reducible rfl
    simp only [Act.put, List.setIfInBounds_toArray, List.set_cons_zero, List.set_cons_succ]
    refine' wpAnyH_take (i := 5) (oi := ?o6) (v := ?v6) ?hi6 (by kernel_rfl) (by kernel_rfl) (by kernel_rfl) (fun c a w h => hP c a _ _ w h) (Or.inl ⟨?hw6, ?hy6⟩) hHeld ?rest6
    case hi6 => simp only [List.getElem?_toArray, List.getElem?_cons_succ, List.getElem?_cons_zero]; rfl
    case hw6 => rfl
    case hy6 =>
      intro w _
      go_simp
      try with_reducible rfl
    simp only [Act.put, List.setIfInBounds_toArray, List.set_cons_zero, List.set_cons_succ]
    refine wpAnyH_done (by kernel_rfl) ?_ _
    exact hQ.out _ _ _ _ _ _  hHeld
  case mo4 => exact AllReadyH.nil
noncomputable def qn_3 : Code := (Tryd.f10.body.bind (regionAt 3)).getD .skip
set_option maxHeartbeats 12800000 in
theorem qn3 (z0 z3 z4 z5 z6 z7 z8 z9 z10 z11 z12 z13 z14 z15 z16 z17 : Value) (W : World) (q q2 n k : Nat) (s : Sag) (a : Stp) (l : List Stp)
    (CB : Hid (∀ w', Below q2 W w' → CellS w' q s))
    (F : Hid (∀ w', Below q2 W w' → Calls Tryd.prog 35 #[.agg #[.int .i64 s.w.book, .int .i64 s.w.cust, .int .i64 s.w.dead, .int .i64 s.w.u0, .int .i64 s.w.u1, .int .i64 s.w.u2, .int .i64 s.w.price, .int .i64 s.ph, .int .i64 (k : Int), .int .i64 s.rs, .int .i64 s.si]] w' fun e w'' => ∃ A c, e = .returned (.slice A n c) ∧ RowT 30 w'' q2 (.slice A n c) n l ∧ Below q2 W w'' ∧ Below w'.heap.size w' w''))
    (Z : W.heap[q2]? = some (.cells #[.int .i64 0, .int .i64 0, .int .i64 0, .int .i64 0, .int .i64 0, .int .i64 0] 30 (0, 0)))
    (hk : s.st = (k : Int))
    (hl : l[k]? = some a)
    (i1 : (k : Int) < (n : Int))
    (Q : Exit → Act → World → Prop)
    (hP : ∀ c a d v w, Q (.panic c) (Act.put a d v) w → Q (.panic c) a w)
    (hQ : ∀ (y12 y13 y14 y15 y16 y17 : Value)  (W3 : World), W3.heap[q2]? = some (.cells #[Value.int .i64 a.node, .int .i64 a.op.kind, .int .i64 a.op.book, .int .i64 a.op.units, .int .i64 a.op.cust, .int .i64 a.op.amount] 30 (0, 0)) → Below q2 W W3 → Q .normal ⟨#[z0, .pointer (some ⟨q, 0, none⟩), .pointer (some ⟨q2, 0, none⟩), .bool true, z4, z5, z6, z7, z8, z9, z10, z11, y12, y13, y14, y15, y16, y17], []⟩ W3) :
    Code.wp Tryd.prog qn_3 Q ⟨#[z0, .pointer (some ⟨q, 0, none⟩), .pointer (some ⟨q2, 0, none⟩), z3, z4, z5, z6, z7, z8, z9, z10, z11, z12, z13, z14, z15, z16, z17], []⟩ W := by
  conv => arg 2; whnf
  have b0 : Below q2 W W.drew := ⟨rfl, rfl, rfl, Nat.le_refl _, fun _ _ => rfl⟩
  refine wp_region_held_drew (S := fun w => Below q2 W w) (by kernel_rfl) b0 (fun hHeld => ?_)
  replace hQ := Lib.hid hQ
  clear b0
  obtain ⟨v0, hv⟩ : ∃ v, v = W.drew := ⟨_, rfl⟩
  have Z0 : v0.heap[q2]? = some (.cells #[.int .i64 0, .int .i64 0, .int .i64 0, .int .i64 0, .int .i64 0, .int .i64 0] 30 (0, 0)) := by rw [hv]; exact Z
  have i2 : (0 : Int) ≤ (k : Int) := by omega
  rw [← hv] at hHeld ⊢
  clear hv
  refine' wpAnyH_take (i := 0) (oi := ?o1) (v := ?v1) ?hi1 (by kernel_rfl) (by kernel_rfl) (by kernel_rfl) (fun c a w h => hP c a _ _ w h) (Or.inl ⟨?hw1, ?hy1⟩) hHeld ?rest1
  case hi1 => simp only [List.getElem?_toArray, List.getElem?_cons_zero]; rfl
  case hw1 => rfl
  case hy1 =>
    intro w hSw
    obtain ⟨c0, c1, c2, c3, c4, c5, c6, c7, c8, c9, ca⟩ := CB.out _ hSw; rw [hk] at c8
    go_simp
    try with_reducible rfl
  simp only [Act.put, List.setIfInBounds_toArray, List.set_cons_zero, List.set_cons_succ]
  refine' wpAnyH_take (i := 2) (oi := ?o2) (v := ?v2) ?hi2 (by kernel_rfl) (by kernel_rfl) (by kernel_rfl) (fun c a w h => hP c a _ _ w h) (Or.inl ⟨?hw2, ?hy2⟩) hHeld ?rest2
  case hi2 => simp only [List.getElem?_toArray, List.getElem?_cons_succ, List.getElem?_cons_zero]; rfl
  case hw2 => rfl
  case hy2 =>
    intro w _
    go_simp
    try with_reducible rfl
  simp only [Act.put, List.setIfInBounds_toArray, List.set_cons_zero, List.set_cons_succ]
  refine' wpAnyH_take (i := 3) (oi := ?o3) (v := ?v3) ?hi3 (by kernel_rfl) (by kernel_rfl) (by kernel_rfl) (fun c a w h => hP c a _ _ w h) (Or.inl ⟨?hw3, ?hy3⟩) hHeld ?rest3
  case hi3 => simp only [List.getElem?_toArray, List.getElem?_cons_succ, List.getElem?_cons_zero]; rfl
  case hw3 => rfl
  case hy3 =>
    intro w hSw
    obtain ⟨c0, c1, c2, c3, c4, c5, c6, c7, c8, c9, ca⟩ := CB.out _ hSw; rw [hk] at c8
    go_simp
    try with_reducible rfl
  simp only [Act.put, List.setIfInBounds_toArray, List.set_cons_zero, List.set_cons_succ]
  refine wpAnyH_ready (rs := [1]) (by kernel_rfl) (by simp) ?_
  refine' AllReadyH.cons (i := 1) (o := ?o4) ?hi4 (fun K hK => ?st4) ?mo4
  case hi4 => simp only [List.getElem?_toArray, List.getElem?_cons_succ, List.getElem?_cons_zero]; rfl
  case st4 =>
    go_simp
    refine (F.out _ hHeld).mono ?_
    rintro e v1 ⟨A, c, rfl, hR, h6, h7⟩
    replace Z0 := (h7.block _ (lt_some Z0)).trans Z0
    obtain ⟨g, rfl, a0, a1, a2, a3, a4, a5⟩ := rt_cell hR hl
    clear hR h7 hHeld
    go_simp
    refine hK.out _ _ h6 (fun hHeld => ?_)
    clear hK K h6
    try simp only [Act.put, List.setIfInBounds_toArray, List.set_cons_zero, List.set_cons_succ]
    refine' wpAnyH_take (i := 4) (oi := ?o5) (v := ?v5) ?hi5 (by kernel_rfl) (by kernel_rfl) (by kernel_rfl) (fun c a w h => hP c a _ _ w h) (Or.inl ⟨?hw5, ?hy5⟩) hHeld ?rest5
    case hi5 => simp only [List.getElem?_toArray, List.getElem?_cons_succ, List.getElem?_cons_zero]; rfl
    case hw5 => rfl
    case hy5 =>
      intro w _
      go_simp
      try with_reducible rfl
    simp only [Act.put, List.setIfInBounds_toArray, List.set_cons_zero, List.set_cons_succ]
    refine wpAnyH_ready (rs := [5]) (by kernel_rfl) (by simp) ?_
    refine' AllReadyH.cons (i := 5) (o := ?o6) ?hi6 (fun K hK => ?st6) ?mo6
    case hi6 => simp only [List.getElem?_toArray, List.getElem?_cons_succ, List.getElem?_cons_zero]; rfl
    case st6 =>
      go_simp
      refine hK.out _ _ hHeld (fun hHeld2 => ?_)
      clear hK K hHeld2
      try simp only [Act.put, List.setIfInBounds_toArray, List.set_cons_zero, List.set_cons_succ]
      refine wpAnyH_ready (rs := [6]) (by kernel_rfl) (by simp) ?_
      refine' AllReadyH.cons (i := 6) (o := ?o7) ?hi7 (fun K hK => ?st7) ?mo7
      case hi7 => simp only [List.getElem?_toArray, List.getElem?_cons_succ, List.getElem?_cons_zero]; rfl
      case st7 =>
        refine step_store_row rfl 30 (.tmp 2) (.tmp 17) rfl q2 #[Value.int .i64 a.node, .int .i64 a.op.kind, .int .i64 a.op.book, .int .i64 a.op.units, .int .i64 a.op.cust, .int .i64 a.op.amount] rfl rfl 30 _ Z0 Pl.ask_size rfl (one6 _ _ _ _ _ _) ?_
        refine hK.out _ _ (hHeld.trans (setRow_below _ (Nat.le_refl _))) (fun hHeld2 => ?_)
        clear hK K
        try simp only [Act.put]
        replace Z0 : (v1.setRow q2 #[Value.int .i64 a.node, .int .i64 a.op.kind, .int .i64 a.op.book, .int .i64 a.op.units, .int .i64 a.op.cust, .int .i64 a.op.amount]).heap[q2]? = some (.cells #[Value.int .i64 a.node, .int .i64 a.op.kind, .int .i64 a.op.book, .int .i64 a.op.units, .int .i64 a.op.cust, .int .i64 a.op.amount] 30 (0, 0)) := setRow_heap _ _ _ _ _ _ Z0
        obtain ⟨v2, hv⟩ : ∃ v, v = v1.setRow q2 #[Value.int .i64 a.node, .int .i64 a.op.kind, .int .i64 a.op.book, .int .i64 a.op.units, .int .i64 a.op.cust, .int .i64 a.op.amount] := ⟨_, rfl⟩
        rw [← hv] at Z0 hHeld2 ⊢
        clear hv hHeld
        have hHeld := hHeld2
        clear hHeld2
        refine' wpAnyH_take (i := 7) (oi := ?o8) (v := ?v8) ?hi8 (by kernel_rfl) (by kernel_rfl) (by kernel_rfl) (fun c a w h => hP c a _ _ w h) (Or.inl ⟨?hw8, ?hy8⟩) hHeld ?rest8
        case hi8 => simp only [List.getElem?_toArray, List.getElem?_cons_succ, List.getElem?_cons_zero]; rfl
        case hw8 => rfl
        case hy8 =>
          intro w _
          go_simp
          try with_reducible rfl
        simp only [Act.put, List.setIfInBounds_toArray, List.set_cons_zero, List.set_cons_succ]
        refine wpAnyH_done (by kernel_rfl) ?_ _
        exact hQ.out _ _ _ _ _ _ _ Z0 hHeld
      case mo7 => exact AllReadyH.nil
    case mo6 => exact AllReadyH.nil
  case mo4 => exact AllReadyH.nil
theorem stp_results : Tryd.f43.results = #[.cell 2 26] := by kernel_rfl
set_option maxHeartbeats 12800000 in
theorem stp_any (w : World) (t : Tab w) (s : Sag) (hp : s.ph = 1 ∨ s.ph = 2 ∨ s.ph = 3) (h0 : 0 ≤ s.st) (h1 : s.st ≤ 10) (h2 : s.ph = 2 → s.st = 0) : Calls Tryd.prog 43 #[sgv s] w fun e w' => e = .returned (sgv (sdone s)) ∧ Below w.heap.size w w' := by
  obtain ⟨W0, hW0⟩ : ∃ W0, W0 = (w.alloc (.cells #[.int .i64 s.w.book, .int .i64 s.w.cust, .int .i64 s.w.dead, .int .i64 s.w.u0, .int .i64 s.w.u1, .int .i64 s.w.u2, .int .i64 s.w.price, .int .i64 s.ph, .int .i64 s.st, .int .i64 s.rs, .int .i64 s.si] 26)).alloc (.cells #[.int .i64 0, .int .i64 0, .int .i64 0, .int .i64 0, .int .i64 0, .int .i64 0, .int .i64 0, .int .i64 0, .int .i64 0, .int .i64 0, .int .i64 0] 26) := ⟨_, rfl⟩
  have B0 : BoxS W0 w.heap.size s := by rw [hW0]; exact heap_alloc2_old _ _ _
  have Z0 : W0.heap[w.heap.size + 1]? = some (.cells #[.int .i64 0, .int .i64 0, .int .i64 0, .int .i64 0, .int .i64 0, .int .i64 0, .int .i64 0, .int .i64 0, .int .i64 0, .int .i64 0, .int .i64 0] 26 (0, 0)) := by
    have := heap_alloc_new (w.alloc (.cells #[.int .i64 s.w.book, .int .i64 s.w.cust, .int .i64 s.w.dead, .int .i64 s.w.u0, .int .i64 s.w.u1, .int .i64 s.w.u2, .int .i64 s.w.price, .int .i64 s.ph, .int .i64 s.st, .int .i64 s.rs, .int .i64 s.si] 26)) (.cells #[.int .i64 0, .int .i64 0, .int .i64 0, .int .i64 0, .int .i64 0, .int .i64 0, .int .i64 0, .int .i64 0, .int .i64 0, .int .i64 0, .int .i64 0] 26)
    rw [show (w.alloc (.cells #[.int .i64 s.w.book, .int .i64 s.w.cust, .int .i64 s.w.dead, .int .i64 s.w.u0, .int .i64 s.w.u1, .int .i64 s.w.u2, .int .i64 s.w.price, .int .i64 s.ph, .int .i64 s.st, .int .i64 s.rs, .int .i64 s.si] 26)).heap.size = w.heap.size + 1 by simp] at this
    rw [hW0]
    exact this
  have be0 : Below w.heap.size w W0 := by rw [hW0]; exact ((Below.refl _ w).alloc (Nat.le_refl _) _).alloc (by simp) _
  have s0 : w.heap.size + 1 < W0.heap.size := lt_some Z0
  have D : ∀ n : Nat, n = (pst s).length → s.st + 1 = (n : Int) → sdone s = { s with ph := behind s.ph, st := 0 } := fun n hn h => by
    unfold sdone behind
    rcases hp with hp | hp | hp
    · rw [if_pos hp, if_pos hp, if_pos (by unfold nF; rw [hn] at h; unfold pst at h; rw [if_pos hp] at h; exact h)]
    · rw [if_neg (by omega), if_pos hp, if_neg (by omega), if_pos hp]
    · rw [if_neg (by omega), if_neg (by omega), if_pos (by unfold nB; rw [hn] at h; unfold pst at h; rw [if_neg (by omega), if_neg (by omega), if_pos hp] at h; exact h), if_neg (by omega), if_neg (by omega), if_pos hp]
  have D' : ∀ n : Nat, n = (pst s).length → ¬ s.st + 1 = (n : Int) → sdone s = { s with st := s.st + 1 } := fun n hn h => by
    unfold sdone
    rcases hp with hp | hp | hp
    · rw [if_pos hp, if_neg (by unfold nF; rw [hn] at h; unfold pst at h; rw [if_pos hp] at h; exact h)]
    · exact absurd (by rw [hn, h2 hp]; unfold pst; rw [if_neg (by omega), if_pos hp]; rfl) h
    · rw [if_neg (by omega), if_neg (by omega), if_neg (by unfold nB; rw [hn] at h; unfold pst at h; rw [if_neg (by omega), if_neg (by omega), if_pos hp] at h; exact h)]
  obtain ⟨W2, hW2⟩ : ∃ W2, W2 = W0.setCell ⟨w.heap.size, 8, none⟩ (.int .i64 (s.st + 1)) := ⟨_, rfl⟩
  have B2 : BoxS W2 w.heap.size { s with st := s.st + 1 } := by rw [hW2]; exact one_set B0 _
  have gs := grown_set W0 w.heap.size 8 (.int .i64 (s.st + 1))
  rw [← hW2] at gs
  have Z2 : Hid (W2.heap[w.heap.size + 1]? = some (.cells #[.int .i64 0, .int .i64 0, .int .i64 0, .int .i64 0, .int .i64 0, .int .i64 0, .int .i64 0, .int .i64 0, .int .i64 0, .int .i64 0, .int .i64 0] 26 (0, 0))) := (gs.block _ s0 (by simp)).trans Z0
  have b2 : Hid (Below w.heap.size w W2) := be0.trans (below_of_grown gs be0.size fun j hj => by injection hj with hj; omega)
  have T2 : Tab W2 := t.sub b2.out t.lt
  have CB : Hid (∀ w', Below W2.heap.size W2 w' → CellS w' w.heap.size { s with st := s.st + 1 }) := fun w' h => (B2.below h B2.lt).cells
  have F : Hid (∀ w', Below W2.heap.size W2 w' → Calls Tryd.prog 35 #[sgv { s with st := s.st + 1 }] w' fun e w'' => (∃ A c, e = .returned (.slice A (pst s).length c)) ∧ Below W2.heap.size W2 w'') := fun w' h => (steps_any w' { s with st := s.st + 1 }).mono fun _ _ ⟨A, c, a, _, b⟩ => ⟨⟨A, c, a⟩, h.trans (b.mono h.size)⟩
  have f8 : W0.frozen? ⟨w.heap.size, 8, none⟩ = false := one_free B0
  obtain ⟨c0, c1, c2, c3, c4, c5, c6, c7, c8, c9, ca⟩ := B0.cells
  have hwl : w.heap.size < W0.heap.size := B0.lt
  replace D := D _ rfl
  replace D' := D' _ rfl
  generalize sdone s = y at *
  generalize (pst s).length = n at *
  clear t gs Z0 be0 B0 h2
  obtain ⟨⟨bk, cu, de, u0, u1, u2, pr⟩, ph, st, rs, si⟩ := s
  unfold BoxS at B2
  unfold sgv sgc at *
  simp only at *
  replace hW0 := Lib.hid hW0
  replace hW2 := Lib.hid hW2
  replace B2 := Lib.hid B2
  replace T2 := Lib.hid T2
  replace D := Lib.hid D
  replace D' := Lib.hid D'
  go_enter Tryd.func43, Tryd.ntmps43
  go_upto_region 1 with fail
  rw [← hW0.out]
  go_upto_region 2 with fail
  rw [← hW2.out]
  clear c0 c1 c2 c3 c4 c5 c6 c7 c8 c9 ca f8 hW0 hW2 s0 hwl
  refine qs2 _ _ _ _ _ _ _ _ _ _ _ _ _ _ _ _ _ _ _ _ W2 w.heap.size n ⟨⟨bk, cu, de, u0, u1, u2, pr⟩, ph, st + 1, rs, si⟩ CB F _ (fun _ _ d _ _ h => by cases d <;> exact h) (fun _ _ _ _ _ w3 hb3 => ?_)
  have CB3 := CB.out _ hb3
  have B3 := (hb3.block _ (lt_some B2.out)).trans B2.out
  have Z3 : Hid (w3.heap[w.heap.size + 1]? = some (.cells #[.int .i64 0, .int .i64 0, .int .i64 0, .int .i64 0, .int .i64 0, .int .i64 0, .int .i64 0, .int .i64 0, .int .i64 0, .int .i64 0, .int .i64 0] 26 (0, 0))) := (hb3.block _ (lt_some Z2.out)).trans Z2.out
  have b3 : Hid (Below w.heap.size w w3) := b2.out.trans (hb3.mono b2.out.size)
  have T3 := T2.out.below hb3
  have hw3 : w.heap.size < w3.heap.size := lt_some B3
  have hz3 : w.heap.size + 1 < w3.heap.size := lt_some Z3.out
  clear CB F Z2 b2 B2 T2 hb3
  obtain ⟨c0, c1, c2, c3, c4, c5, c6, c7, c8, c9, ca⟩ := CB3
  simp only at c0 c1 c2 c3 c4 c5 c6 c7 c8 c9 ca
  by_cases hf : st + 1 = (n : Int)
  case neg =>
    have EE : Hid (y = ⟨⟨bk, cu, de, u0, u1, u2, pr⟩, ph, st + 1, rs, si⟩) := D'.out hf
    have g1 : (st + 1 == (n : Int)) = false := beq_eq_false_iff_ne.2 hf
    clear D D' hf T3 B3
    go_wp2_with (refine wpList_store_row rfl 26 (.tmp 2) (.tmp 20) rfl (w.heap.size + 1) #[.int .i64 bk, .int .i64 cu, .int .i64 de, .int .i64 u0, .int .i64 u1, .int .i64 u2, .int .i64 pr, .int .i64 ph, .int .i64 (st + 1), .int .i64 rs, .int .i64 si] rfl rfl 26 _ Z3.out sag_size rfl (by simp [Value.oneCell']) ?_)
    refine bodyPost_ret (results_cell_row stp_results _ _ (w.heap.size + 1) 26 _ (0, 0) _ rfl (setRow_heap _ _ _ _ _ _ Z3.out) Tryd.underlying26 rfl sag_size) rfl ?_
    exact ⟨by rw [EE.out], b3.out.trans (setRow_below _ (Nat.le_succ _))⟩
  have EE : Hid (y = ⟨⟨bk, cu, de, u0, u1, u2, pr⟩, behind ph, 0, rs, si⟩) := D.out hf
  have g1 : (st + 1 == (n : Int)) = true := by rw [hf]; simp
  have f7 : w3.frozen? ⟨w.heap.size, 7, none⟩ = false := one_free B3
  have f8 : w3.frozen? ⟨w.heap.size, 8, none⟩ = false := one_free B3
  clear D D' hf
  rcases hp with rfl | rfl | rfl
  · have gs := grown_set w3 w.heap.size 7 (.int .i64 2)
    have gt := grown_set (w3.setCell ⟨w.heap.size, 7, none⟩ (.int .i64 2)) w.heap.size 8 (.int .i64 0)
    have ZZ : Hid (((w3.setCell ⟨w.heap.size, 7, none⟩ (.int .i64 2)).setCell ⟨w.heap.size, 8, none⟩ (.int .i64 0)).heap[w.heap.size + 1]? = some (.cells #[.int .i64 0, .int .i64 0, .int .i64 0, .int .i64 0, .int .i64 0, .int .i64 0, .int .i64 0, .int .i64 0, .int .i64 0, .int .i64 0, .int .i64 0] 26 (0, 0))) := ((grown_trans gs gt).block _ hz3 (by simp)).trans Z3.out
    have bb : Hid (Below w.heap.size w ((w3.setCell ⟨w.heap.size, 7, none⟩ (.int .i64 2)).setCell ⟨w.heap.size, 8, none⟩ (.int .i64 0))) := b3.out.trans (below_of_grown (grown_trans gs gt) b3.out.size fun j hj => by injection hj with hj; omega)
    obtain ⟨d0, -, -, e0, -, -, f0, -, -, g0, -, -, i0, -, -⟩ := T3
    clear gs gt B3
    go_wp2_with (refine wpList_store_row rfl 26 (.tmp 2) (.tmp 20) rfl (w.heap.size + 1) #[.int .i64 bk, .int .i64 cu, .int .i64 de, .int .i64 u0, .int .i64 u1, .int .i64 u2, .int .i64 pr, .int .i64 2, .int .i64 0, .int .i64 rs, .int .i64 si] rfl rfl 26 _ ZZ.out sag_size rfl (by simp [Value.oneCell']) ?_)
    refine bodyPost_ret (results_cell_row stp_results _ _ (w.heap.size + 1) 26 _ (0, 0) _ rfl (setRow_heap _ _ _ _ _ _ ZZ.out) Tryd.underlying26 rfl sag_size) rfl ?_
    exact ⟨by rw [EE.out]; rfl, bb.out.trans (setRow_below _ (Nat.le_succ _))⟩
  · have gs := grown_set w3 w.heap.size 7 (.int .i64 4)
    have gt := grown_set (w3.setCell ⟨w.heap.size, 7, none⟩ (.int .i64 4)) w.heap.size 8 (.int .i64 0)
    have ZZ : Hid (((w3.setCell ⟨w.heap.size, 7, none⟩ (.int .i64 4)).setCell ⟨w.heap.size, 8, none⟩ (.int .i64 0)).heap[w.heap.size + 1]? = some (.cells #[.int .i64 0, .int .i64 0, .int .i64 0, .int .i64 0, .int .i64 0, .int .i64 0, .int .i64 0, .int .i64 0, .int .i64 0, .int .i64 0, .int .i64 0] 26 (0, 0))) := ((grown_trans gs gt).block _ hz3 (by simp)).trans Z3.out
    have bb : Hid (Below w.heap.size w ((w3.setCell ⟨w.heap.size, 7, none⟩ (.int .i64 4)).setCell ⟨w.heap.size, 8, none⟩ (.int .i64 0))) := b3.out.trans (below_of_grown (grown_trans gs gt) b3.out.size fun j hj => by injection hj with hj; omega)
    obtain ⟨d0, -, -, e0, -, -, f0, -, -, g0, -, -, i0, -, -⟩ := T3
    clear gs gt B3
    go_wp2_with (refine wpList_store_row rfl 26 (.tmp 2) (.tmp 20) rfl (w.heap.size + 1) #[.int .i64 bk, .int .i64 cu, .int .i64 de, .int .i64 u0, .int .i64 u1, .int .i64 u2, .int .i64 pr, .int .i64 4, .int .i64 0, .int .i64 rs, .int .i64 si] rfl rfl 26 _ ZZ.out sag_size rfl (by simp [Value.oneCell']) ?_)
    refine bodyPost_ret (results_cell_row stp_results _ _ (w.heap.size + 1) 26 _ (0, 0) _ rfl (setRow_heap _ _ _ _ _ _ ZZ.out) Tryd.underlying26 rfl sag_size) rfl ?_
    exact ⟨by rw [EE.out]; rfl, bb.out.trans (setRow_below _ (Nat.le_succ _))⟩
  · have gs := grown_set w3 w.heap.size 7 (.int .i64 5)
    have gt := grown_set (w3.setCell ⟨w.heap.size, 7, none⟩ (.int .i64 5)) w.heap.size 8 (.int .i64 0)
    have ZZ : Hid (((w3.setCell ⟨w.heap.size, 7, none⟩ (.int .i64 5)).setCell ⟨w.heap.size, 8, none⟩ (.int .i64 0)).heap[w.heap.size + 1]? = some (.cells #[.int .i64 0, .int .i64 0, .int .i64 0, .int .i64 0, .int .i64 0, .int .i64 0, .int .i64 0, .int .i64 0, .int .i64 0, .int .i64 0, .int .i64 0] 26 (0, 0))) := ((grown_trans gs gt).block _ hz3 (by simp)).trans Z3.out
    have bb : Hid (Below w.heap.size w ((w3.setCell ⟨w.heap.size, 7, none⟩ (.int .i64 5)).setCell ⟨w.heap.size, 8, none⟩ (.int .i64 0))) := b3.out.trans (below_of_grown (grown_trans gs gt) b3.out.size fun j hj => by injection hj with hj; omega)
    obtain ⟨d0, -, -, e0, -, -, f0, -, -, g0, -, -, i0, -, -⟩ := T3
    clear gs gt B3
    go_wp2_with (refine wpList_store_row rfl 26 (.tmp 2) (.tmp 20) rfl (w.heap.size + 1) #[.int .i64 bk, .int .i64 cu, .int .i64 de, .int .i64 u0, .int .i64 u1, .int .i64 u2, .int .i64 pr, .int .i64 5, .int .i64 0, .int .i64 rs, .int .i64 si] rfl rfl 26 _ ZZ.out sag_size rfl (by simp [Value.oneCell']) ?_)
    refine bodyPost_ret (results_cell_row stp_results _ _ (w.heap.size + 1) 26 _ (0, 0) _ rfl (setRow_heap _ _ _ _ _ _ ZZ.out) Tryd.underlying26 rfl sag_size) rfl ?_
    exact ⟨by rw [EE.out]; rfl, bb.out.trans (setRow_below _ (Nat.le_succ _))⟩
theorem qnext_results : Tryd.f10.results = #[.cell 2 30, .tmp 3] := by kernel_rfl
theorem pst_at {s : Sag} (h : smay s = true) (hv : sover s = false) : ∃ k : Nat, s.st = (k : Int) ∧ (pst s)[k]? = some (snext s).1 ∧ (snext s).2 = true := by
  obtain ⟨-, -, hc⟩ := smay_true h
  unfold sover at hv
  rw [h, Bool.true_and, Bool.or_eq_false_iff, beq_eq_false_iff_ne, beq_eq_false_iff_ne] at hv
  rcases hc with ⟨hp, h0, h1, -⟩ | ⟨hp, h0, -⟩ | ⟨hp, h0, h1, -⟩ | ⟨hp, -, -⟩ | ⟨hp, -, -⟩
  · refine ⟨s.st.toNat, by omega, ?_, by rw [snext_1 h hp]⟩
    rw [snext_1 h hp]; unfold pst; rw [if_pos hp]; exact at_F h0 h1
  · refine ⟨0, by omega, ?_, by rw [snext_2 h hp]⟩
    rw [snext_2 h hp]; unfold pst; rw [if_neg (by omega), if_pos hp]; rfl
  · refine ⟨s.st.toNat, by omega, ?_, by rw [snext_3 h hp]⟩
    rw [snext_3 h hp]; unfold pst; rw [if_neg (by omega), if_neg (by omega), if_pos hp]; exact at_B h0 h1
  · exact absurd hp hv.1
  · exact absurd hp hv.2
theorem snext_ov {s : Sag} (h : smay s = false ∨ sover s = true) : snext s = (z0, false) := by
  rcases h with h | h
  · exact snext_no h
  · unfold sover at h
    rw [Bool.and_eq_true, Bool.or_eq_true, beq_iff_eq, beq_iff_eq] at h
    exact snext_4 h.1 h.2
set_option maxHeartbeats 6400000 in
theorem qnext_any (w : World) (t : Tab w) (s : Sag) : Calls Tryd.prog 10 #[sgv s] w fun e w' => e = .returned (.tuple #[spv (snext s).1, .bool (snext s).2]) ∧ Below w.heap.size w w' := by
  obtain ⟨W0, hW0⟩ : ∃ W0, W0 = (w.alloc (.cells #[.int .i64 s.w.book, .int .i64 s.w.cust, .int .i64 s.w.dead, .int .i64 s.w.u0, .int .i64 s.w.u1, .int .i64 s.w.u2, .int .i64 s.w.price, .int .i64 s.ph, .int .i64 s.st, .int .i64 s.rs, .int .i64 s.si] 26)).alloc (.cells #[.int .i64 0, .int .i64 0, .int .i64 0, .int .i64 0, .int .i64 0, .int .i64 0] 30) := ⟨_, rfl⟩
  have B0 : BoxS W0 w.heap.size s := by rw [hW0]; exact heap_alloc2_old _ _ _
  have Z0 : W0.heap[w.heap.size + 1]? = some (.cells #[.int .i64 0, .int .i64 0, .int .i64 0, .int .i64 0, .int .i64 0, .int .i64 0] 30 (0, 0)) := by
    have := heap_alloc_new (w.alloc (.cells #[.int .i64 s.w.book, .int .i64 s.w.cust, .int .i64 s.w.dead, .int .i64 s.w.u0, .int .i64 s.w.u1, .int .i64 s.w.u2, .int .i64 s.w.price, .int .i64 s.ph, .int .i64 s.st, .int .i64 s.rs, .int .i64 s.si] 26)) (.cells #[.int .i64 0, .int .i64 0, .int .i64 0, .int .i64 0, .int .i64 0, .int .i64 0] 30)
    rw [show (w.alloc (.cells #[.int .i64 s.w.book, .int .i64 s.w.cust, .int .i64 s.w.dead, .int .i64 s.w.u0, .int .i64 s.w.u1, .int .i64 s.w.u2, .int .i64 s.w.price, .int .i64 s.ph, .int .i64 s.st, .int .i64 s.rs, .int .i64 s.si] 26)).heap.size = w.heap.size + 1 by simp] at this
    rw [hW0]
    exact this
  have be0 : Below w.heap.size w W0 := by rw [hW0]; exact ((Below.refl _ w).alloc (Nat.le_refl _) _).alloc (by simp) _
  have t0 := t.below be0
  have M := Lib.hid (smay_any W0 t0 s)
  have s0 : w.heap.size + 1 < W0.heap.size := lt_some Z0
  have V : Hid (∀ w', Below W0.heap.size W0 w' → Calls Tryd.prog 17 #[sgv s] w' fun e w'' => e = .returned (.bool (sover s)) ∧ Below w'.heap.size w' w'') := fun w' h => qover_any w' (t0.below h) s
  clear t t0
  unfold sgv at *
  unfold sgc at *
  replace hW0 := Lib.hid hW0
  go_enter Tryd.func10, Tryd.ntmps10
  go_wp2_with fail
  rw [← hW0.out]
  refine M.out.mono ?_
  rintro e w1 ⟨rfl, h1⟩
  have B1 := B0.below h1 B0.lt
  have Z1 := Lib.hid ((h1.block _ s0).trans Z0)
  have b1 : Hid (Below w.heap.size w w1) := be0.trans (h1.mono be0.size)
  have hwl : w.heap.size < w1.heap.size := B1.lt
  obtain ⟨c0, c1, c2, c3, c4, c5, c6, c7, c8, c9, ca⟩ := B1.cells
  cases hm : smay s with
  | false =>
    have EE := snext_ov (.inl hm)
    unfold z0 at EE
    replace EE := Lib.hid EE
    clear hm V M h1 B0 Z0 be0 hW0 s0 B1
    go_wp2_with (refine wpList_store_row rfl 30 (.tmp 2) (.tmp 11) rfl (w.heap.size + 1) #[.int .i64 0, .int .i64 0, .int .i64 0, .int .i64 0, .int .i64 0, .int .i64 0] rfl rfl 30 _ Z1.out Pl.ask_size rfl (one6 _ _ _ _ _ _) ?_)
    refine bodyPost_ret (res_row qnext_results _ _ (w.heap.size + 1) 30 #[.int .i64 0, .int .i64 0, .int .i64 0, .int .i64 0, .int .i64 0, .int .i64 0] (0, 0) _ rfl (setRow_heap _ _ _ _ _ _ Z1.out) Tryd.underlying30 rfl Pl.ask_size) rfl ?_
    exact ⟨by rw [EE.out]; rfl, b1.out.trans (setRow_below _ (Nat.le_succ _))⟩
  | true =>
    have K := V.out w1 h1
    clear M V B0 Z0 be0 hW0 s0 h1
    replace K := Lib.hid K
    go_wp2_with fail
    refine K.out.mono ?_
    rintro e w2 ⟨rfl, h2⟩
    have B2 := B1.below h2 B1.lt
    have Z2 := Lib.hid ((h2.block _ (lt_some Z1.out)).trans Z1.out)
    have b2 : Hid (Below w.heap.size w w2) := b1.out.trans (h2.mono b1.out.size)
    clear K c0 c1 c2 c3 c4 c5 c6 c7 c8 c9 ca Z1 b1 B1 h2 hwl
    have hwl : w.heap.size < w2.heap.size := B2.lt
    cases hv : sover s with
    | true =>
      have EE := snext_ov (.inr hv)
      unfold z0 at EE
      replace EE := Lib.hid EE
      clear hm hv B2
      go_wp2_with (refine wpList_store_row rfl 30 (.tmp 2) (.tmp 11) rfl (w.heap.size + 1) #[.int .i64 0, .int .i64 0, .int .i64 0, .int .i64 0, .int .i64 0, .int .i64 0] rfl rfl 30 _ Z2.out Pl.ask_size rfl (one6 _ _ _ _ _ _) ?_)
      refine bodyPost_ret (res_row qnext_results _ _ (w.heap.size + 1) 30 #[.int .i64 0, .int .i64 0, .int .i64 0, .int .i64 0, .int .i64 0, .int .i64 0] (0, 0) _ rfl (setRow_heap _ _ _ _ _ _ Z2.out) Tryd.underlying30 rfl Pl.ask_size) rfl ?_
      exact ⟨by rw [EE.out]; rfl, b2.out.trans (setRow_below _ (Nat.le_succ _))⟩
    | false =>
      obtain ⟨k, hk, hl, hn⟩ := pst_at hm hv
      have EE : snext s = ((snext s).1, true) := by rw [← hn]
      generalize (snext s).1 = a at *
      have CB : Hid (∀ w', Below (w.heap.size + 1) w2 w' → CellS w' w.heap.size s) := fun w' h => (B2.below h (Nat.lt_succ_self _)).cells
      have F : Hid (∀ w', Below (w.heap.size + 1) w2 w' → Calls Tryd.prog 35 #[.agg #[.int .i64 s.w.book, .int .i64 s.w.cust, .int .i64 s.w.dead, .int .i64 s.w.u0, .int .i64 s.w.u1, .int .i64 s.w.u2, .int .i64 s.w.price, .int .i64 s.ph, .int .i64 (k : Int), .int .i64 s.rs, .int .i64 s.si]] w' fun e w'' => ∃ A c, e = .returned (.slice A (pst s).length c) ∧ RowT 30 w'' (w.heap.size + 1) (.slice A (pst s).length c) (pst s).length (pst s) ∧ Below (w.heap.size + 1) w2 w'' ∧ Below w'.heap.size w' w'') := fun w' h => by
        have hz : w.heap.size + 1 ≤ w'.heap.size := by have := h.size; have := lt_some Z2.out; omega
        have := steps_any w' s
        unfold sgv sgc at this
        rw [hk] at this
        exact this.mono fun _ _ ⟨A, c, e1, e2, e3⟩ => ⟨A, c, e1, rt_mono e2 hz, h.trans (e3.mono hz), e3⟩
      have hi : (k : Int) < ((pst s).length : Int) := by have := (List.getElem?_eq_some_iff.1 hl).1; omega
      replace EE := Lib.hid EE
      clear hm hv hn B2
      go_upto_region 3 with fail
      refine qn3 _ _ _ _ _ _ _ _ _ _ _ _ _ _ _ _ w2 w.heap.size (w.heap.size + 1) _ k s a _ CB F Z2.out hk hl hi _ (fun _ _ d _ _ h => by cases d <;> exact h) (fun _ _ _ _ _ _ w3 hz hb => ?_)
      have E : Hid (Below w.heap.size w w3) := b2.out.trans (hb.mono (Nat.le_succ _))
      replace hz := Lib.hid hz
      clear hb F hl hk hi CB
      go_wp2_with fail
      refine bodyPost_ret (res_row qnext_results _ _ (w.heap.size + 1) 30 #[Value.int .i64 a.node, .int .i64 a.op.kind, .int .i64 a.op.book, .int .i64 a.op.units, .int .i64 a.op.cust, .int .i64 a.op.amount] (0, 0) _ rfl hz.out Tryd.underlying30 rfl Pl.ask_size) rfl ?_
      exact ⟨by rw [EE.out]; rfl, E.out⟩
end Sg
end Go.Proofs.YtakicogelkdofaaDoor
