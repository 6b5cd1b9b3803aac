/- Region 1 of PlanAsks, walked by hand: both captures, each in a box. -/
import Derived.Test.YtnljfnhndnkckaaPlO
import Derived.Deep.RegionHeld3
namespace Go.Proofs.Ytnljfnhndnkckaa
set_option maxRecDepth 100000
open Go.RowKit
open Go.Proofs.Ytnljfnhndnkckaa.Pk (one_at one_free one_set lt_some grown_set grown_trans below_grown grown_refl)
namespace Pl
open Wt (Wan may Opn mayOp)

/-- A whole struct stored: a step of a region that draws. -/
theorem step_store_row {P : Program} {ops : Array Oper} {o : Oper} {a : Act} {w : World} {K : Act → World → Prop} {Q : Exit → Act → World → Prop} {E : Prop} (hgd : o.guard = none) (ty : TypeId) (x y : Operand) (ho : o.op = .store ty x y)
    (g : Nat) (cells : Array Value) (hx : a.eval x = .pointer (some ⟨g, 0, none⟩)) (hy : a.eval y = .agg cells)
    (t : TypeId) (old : Array Value) (hg : w.heap[g]? = some (.cells old t (0, 0))) (hi : (P.info? ty).map (·.size) = some cells.size)
    (hold : old.size = cells.size) (h1 : cells.all (·.oneCell') = true)
    (h : K (a.put o.dst undef) (w.setRow g cells)) : if Region.wanted o (yielded ops a.tmps) = true then Oper.wp P o a w K Q else E := by
  have hw : Region.wanted o (yielded ops a.tmps) = true := by simp [Region.wanted, hgd]
  rw [if_pos hw]
  exact wp_store_row ty x y ho g cells hx hy t old hg hi hold h1 h
noncomputable def pa_1 : Code := (Try.f3.body.bind (regionAt 1)).getD .skip
set_option maxHeartbeats 12800000 in
theorem pa1 (z0 z2 z3 z4 z5 z6 z7 z8 z9 z10 z11 z12 z13 z14 z15 z16 z17 z18 z19 z20 z21 z22 z23 z24 z25 z26 z27 z28 z29 z30 z31 z32 z33 z34 z35 z36 z37 z38 z39 z40 z41 z42 z43 z44 z45 z46 z47 z48 z49 z50 z51 z52 z53 z54 z55 z56 z57 z58 z59 z60 z61 z62 z63 z64 z65 z66 z67 z68 z69 z70 z71 z72 z73 z74 z75 : Value) (W : World) (q : Nat) (x : Wan) (c : Stp)
    (CB : Hid (∀ w', Below W.heap.size W w' → BoxW w' q x))
    (F1 : Hid (∀ w', Below W.heap.size W w' → Calls Try.prog 6 #[.agg #[.int .i64 x.book, .int .i64 x.cust, .int .i64 x.dead, .int .i64 x.u0, .int .i64 x.u1, .int .i64 x.u2, .int .i64 x.price]] w' fun e w'' => e = .returned (.agg #[Value.int .i64 c.node, .int .i64 c.op.kind, .int .i64 c.op.book, .int .i64 c.op.units, .int .i64 c.op.cust, .int .i64 c.op.amount]) ∧ Below W.heap.size W w'' ∧ Below w'.heap.size w' w''))
    (F3 : Hid (∀ w', Below W.heap.size W w' → Calls Try.prog 7 #[.agg #[.int .i64 x.book, .int .i64 x.cust, .int .i64 x.dead, .int .i64 x.u0, .int .i64 x.u1, .int .i64 x.u2, .int .i64 x.price]] w' fun e w'' => e = .returned (.agg #[Value.int .i64 c.node, .int .i64 c.op.kind, .int .i64 c.op.book, .int .i64 c.op.units, .int .i64 c.op.cust, .int .i64 c.op.amount]) ∧ Below W.heap.size W w'' ∧ Below w'.heap.size w' w''))
    (Q : Exit → Act → World → Prop)
    (hP : ∀ c a d v w, Q (.panic c) (Act.put a d v) w → Q (.panic c) a w)
    (hQ : ∀ (y8 y9 y10 y11 : Value) (g3 g4 : Nat) (W3 : World), Below W.heap.size W W3 → W3.heap[g3]? = some (.cells #[Value.int .i64 c.node, .int .i64 c.op.kind, .int .i64 c.op.book, .int .i64 c.op.units, .int .i64 c.op.cust, .int .i64 c.op.amount] 28 (0, 0)) → W3.heap[g4]? = some (.cells #[Value.int .i64 c.node, .int .i64 c.op.kind, .int .i64 c.op.book, .int .i64 c.op.units, .int .i64 c.op.cust, .int .i64 c.op.amount] 30 (0, 0)) → Q .normal ⟨#[z0, .pointer (some ⟨q, 0, none⟩), z2, .pointer (some ⟨g3, 0, none⟩), .pointer (some ⟨g4, 0, none⟩), z5, z6, z7, y8, y9, y10, y11, z12, z13, z14, z15, z16, z17, z18, z19, z20, z21, z22, z23, z24, z25, z26, z27, z28, z29, z30, z31, z32, z33, z34, z35, z36, z37, z38, z39, z40, z41, z42, z43, z44, z45, z46, z47, z48, z49, z50, z51, z52, z53, z54, z55, z56, z57, z58, z59, z60, z61, z62, z63, z64, z65, z66, z67, z68, z69, z70, z71, z72, z73, z74, z75], []⟩ W3) :
    Code.wp Try.prog pa_1 Q ⟨#[z0, .pointer (some ⟨q, 0, none⟩), z2, z3, z4, z5, z6, z7, z8, z9, z10, z11, z12, z13, z14, z15, z16, z17, z18, z19, z20, z21, z22, z23, z24, z25, z26, z27, z28, z29, z30, z31, z32, z33, z34, z35, z36, z37, z38, z39, z40, z41, z42, z43, z44, z45, z46, z47, z48, z49, z50, z51, z52, z53, z54, z55, z56, z57, z58, z59, z60, z61, z62, z63, z64, z65, z66, z67, z68, z69, z70, z71, z72, z73, z74, z75], []⟩ W := by
  conv => arg 2; whnf
  have b0 : Below W.heap.size W W.drew := ⟨rfl, rfl, rfl, Nat.le_refl _, fun _ _ => rfl⟩
  refine wp_region_held_drew (S := fun w => Below W.heap.size W w) (by kernel_rfl) b0 (fun hHeld => ?_)
  replace hQ := Lib.hid hQ
  clear b0
  obtain ⟨v0, hv⟩ : ∃ v, v = W.drew := ⟨_, rfl⟩
  rw [← hv] at hHeld ⊢
  clear hv
  refine' wpAnyH_take (i := 0) (oi := ?o1) (v := ?v1) ?hi1 (by kernel_rfl) (by kernel_rfl) (by kernel_rfl) (fun c a w h => hP c a _ _ w h) (Or.inl ⟨?hw1, ?hy1⟩) hHeld ?rest1
  case hi1 => simp only [List.getElem?_toArray, List.getElem?_cons_zero]; rfl
  case hw1 => rfl
  case hy1 =>
    intro w hSw
    obtain ⟨c0, c1, c2, c3, c4, c5, c6⟩ := (CB.out _ hSw).cells
    go_simp
    try with_reducible rfl
  simp only [Act.put, List.setIfInBounds_toArray, List.set_cons_zero, List.set_cons_succ]
  refine' wpAnyH_take (i := 2) (oi := ?o2) (v := ?v2) ?hi2 (by kernel_rfl) (by kernel_rfl) (by kernel_rfl) (fun c a w h => hP c a _ _ w h) (Or.inl ⟨?hw2, ?hy2⟩) hHeld ?rest2
  case hi2 => simp only [List.getElem?_toArray, List.getElem?_cons_succ, List.getElem?_cons_zero]; rfl
  case hw2 => rfl
  case hy2 =>
    intro w hSw
    obtain ⟨c0, c1, c2, c3, c4, c5, c6⟩ := (CB.out _ hSw).cells
    go_simp
    try with_reducible rfl
  simp only [Act.put, List.setIfInBounds_toArray, List.set_cons_zero, List.set_cons_succ]
  refine wpAnyH_ready (rs := [1, 4, 5]) (by kernel_rfl) (by simp) ?_
  refine' AllReadyH.cons (i := 1) (o := ?o3) ?hi3 (fun K hK => ?st3) ?mo3
  case hi3 => simp only [List.getElem?_toArray, List.getElem?_cons_succ, List.getElem?_cons_zero]; rfl
  case st3 =>
    go_simp
    refine (F1.out _ hHeld).mono ?_
    rintro e v1 ⟨rfl, h6, h7⟩
    clear h7 hHeld
    go_simp
    refine hK.out _ _ h6 (fun hHeld => ?_)
    clear hK K h6
    try simp only [Act.put, List.setIfInBounds_toArray, List.set_cons_zero, List.set_cons_succ]
    refine wpAnyH_ready (rs := [3, 4, 5]) (by kernel_rfl) (by simp) ?_
    refine' AllReadyH.cons (i := 3) (o := ?o4) ?hi4 (fun K hK => ?st4) ?mo4
    case hi4 => simp only [List.getElem?_toArray, List.getElem?_cons_succ, List.getElem?_cons_zero]; rfl
    case st4 =>
      go_simp
      refine (F3.out _ hHeld).mono ?_
      rintro e v2 ⟨rfl, h6, h7⟩
      clear h7 hHeld
      go_simp
      refine hK.out _ _ h6 (fun hHeld => ?_)
      clear hK K h6
      try simp only [Act.put, List.setIfInBounds_toArray, List.set_cons_zero, List.set_cons_succ]
      refine wpAnyH_ready (rs := [4, 5]) (by kernel_rfl) (by simp) ?_
      refine' AllReadyH.cons (i := 4) (o := ?o5) ?hi5 (fun K hK => ?st5) ?mo5
      case hi5 => simp only [List.getElem?_toArray, List.getElem?_cons_succ, List.getElem?_cons_zero]; rfl
      case st5 =>
        go_simp
        refine hK.out _ _ (hHeld.alloc hHeld.size _) (fun hHeld2 => ?_)
        clear hK K
        try simp only [Act.put, List.setIfInBounds_toArray, List.set_cons_zero, List.set_cons_succ]
        have a4 : (v2.alloc (.cells #[.int .i64 0, .int .i64 0, .int .i64 0, .int .i64 0, .int .i64 0, .int .i64 0] 28)).heap[v2.heap.size]? = _ := heap_alloc_new _ _
        have a4l := hHeld.size
        obtain ⟨v3, hv⟩ : ∃ v, v = v2.alloc (.cells #[.int .i64 0, .int .i64 0, .int .i64 0, .int .i64 0, .int .i64 0, .int .i64 0] 28) := ⟨_, rfl⟩
        rw [← hv] at a4 hHeld2 ⊢
        clear hv hHeld
        have hHeld := hHeld2
        clear hHeld2
        obtain ⟨g4, hg⟩ : ∃ g, g = v2.heap.size := ⟨_, rfl⟩
        rw [← hg] at a4 a4l ⊢
        clear hg
        refine wpAnyH_ready (rs := [5]) (by kernel_rfl) (by simp) ?_
        refine' AllReadyH.cons (i := 5) (o := ?o6) ?hi6 (fun K hK => ?st6) ?mo6
        case hi6 => simp only [List.getElem?_toArray, List.getElem?_cons_succ, List.getElem?_cons_zero]; rfl
        case st6 =>
          go_simp
          refine hK.out _ _ (hHeld.alloc hHeld.size _) (fun hHeld2 => ?_)
          clear hK K
          try simp only [Act.put, List.setIfInBounds_toArray, List.set_cons_zero, List.set_cons_succ]
          have a5 : (v3.alloc (.cells #[.int .i64 0, .int .i64 0, .int .i64 0, .int .i64 0, .int .i64 0, .int .i64 0] 30)).heap[v3.heap.size]? = _ := heap_alloc_new _ _
          have hne := Nat.ne_of_lt (lt_some a4)
          replace a4 := (heap_alloc_old v3 (.cells #[.int .i64 0, .int .i64 0, .int .i64 0, .int .i64 0, .int .i64 0, .int .i64 0] 30) (lt_some a4)).trans a4
          have a5l := hHeld.size
          obtain ⟨v4, hv⟩ : ∃ v, v = v3.alloc (.cells #[.int .i64 0, .int .i64 0, .int .i64 0, .int .i64 0, .int .i64 0, .int .i64 0] 30) := ⟨_, rfl⟩
          rw [← hv] at a5 a4 hHeld2 ⊢
          clear hv hHeld
          have hHeld := hHeld2
          clear hHeld2
          obtain ⟨g5, hg⟩ : ∃ g, g = v3.heap.size := ⟨_, rfl⟩
          rw [← hg] at a5 a5l hne ⊢
          clear hg
          refine wpAnyH_ready (rs := [6]) (by kernel_rfl) (by simp) ?_
          refine' AllReadyH.cons (i := 6) (o := ?o7) ?hi7 (fun K hK => ?st7) ?mo7
          case hi7 => simp only [List.getElem?_toArray, List.getElem?_cons_succ, List.getElem?_cons_zero]; rfl
          case st7 =>
            refine step_store_row rfl 28 (.tmp 3) (.tmp 9) rfl g4 #[Value.int .i64 c.node, .int .i64 c.op.kind, .int .i64 c.op.book, .int .i64 c.op.units, .int .i64 c.op.cust, .int .i64 c.op.amount] rfl rfl 28 _ a4 ask_size rfl (one6 _ _ _ _ _ _) ?_
            refine hK.out _ _ (hHeld.trans (setRow_below _ a4l)) (fun hHeld2 => ?_)
            clear hK K
            try simp only [Act.put]
            replace a4 : (v4.setRow g4 #[Value.int .i64 c.node, .int .i64 c.op.kind, .int .i64 c.op.book, .int .i64 c.op.units, .int .i64 c.op.cust, .int .i64 c.op.amount]).heap[g4]? = some (.cells #[Value.int .i64 c.node, .int .i64 c.op.kind, .int .i64 c.op.book, .int .i64 c.op.units, .int .i64 c.op.cust, .int .i64 c.op.amount] 28 (0, 0)) := setRow_heap _ _ _ _ _ _ a4
            replace a5 := (setRow_other _ g4 g5 #[Value.int .i64 c.node, .int .i64 c.op.kind, .int .i64 c.op.book, .int .i64 c.op.units, .int .i64 c.op.cust, .int .i64 c.op.amount] (by omega)).trans a5
            obtain ⟨v5, hv⟩ : ∃ v, v = v4.setRow g4 #[Value.int .i64 c.node, .int .i64 c.op.kind, .int .i64 c.op.book, .int .i64 c.op.units, .int .i64 c.op.cust, .int .i64 c.op.amount] := ⟨_, rfl⟩
            rw [← hv] at a4 a5 hHeld2 ⊢
            clear hv hHeld
            have hHeld := hHeld2
            clear hHeld2
            refine wpAnyH_ready (rs := [7]) (by kernel_rfl) (by simp) ?_
            refine' AllReadyH.cons (i := 7) (o := ?o8) ?hi8 (fun K hK => ?st8) ?mo8
            case hi8 => simp only [List.getElem?_toArray, List.getElem?_cons_succ, List.getElem?_cons_zero]; rfl
            case st8 =>
              refine step_store_row rfl 30 (.tmp 4) (.tmp 11) rfl g5 #[Value.int .i64 c.node, .int .i64 c.op.kind, .int .i64 c.op.book, .int .i64 c.op.units, .int .i64 c.op.cust, .int .i64 c.op.amount] rfl rfl 30 _ a5 rask_size rfl (one6 _ _ _ _ _ _) ?_
              refine hK.out _ _ (hHeld.trans (setRow_below _ a5l)) (fun hHeld2 => ?_)
              clear hK K
              try simp only [Act.put]
              replace a5 : (v5.setRow g5 #[Value.int .i64 c.node, .int .i64 c.op.kind, .int .i64 c.op.book, .int .i64 c.op.units, .int .i64 c.op.cust, .int .i64 c.op.amount]).heap[g5]? = some (.cells #[Value.int .i64 c.node, .int .i64 c.op.kind, .int .i64 c.op.book, .int .i64 c.op.units, .int .i64 c.op.cust, .int .i64 c.op.amount] 30 (0, 0)) := setRow_heap _ _ _ _ _ _ a5
              replace a4 := (setRow_other _ g5 g4 #[Value.int .i64 c.node, .int .i64 c.op.kind, .int .i64 c.op.book, .int .i64 c.op.units, .int .i64 c.op.cust, .int .i64 c.op.amount] (by omega)).trans a4
              obtain ⟨v6, hv⟩ : ∃ v, v = v5.setRow g5 #[Value.int .i64 c.node, .int .i64 c.op.kind, .int .i64 c.op.book, .int .i64 c.op.units, .int .i64 c.op.cust, .int .i64 c.op.amount] := ⟨_, rfl⟩
              rw [← hv] at a5 a4 hHeld2 ⊢
              clear hv hHeld
              have hHeld := hHeld2
              clear hHeld2
              refine wpAnyH_done (by kernel_rfl) ?_ _
              exact hQ.out _ _ _ _ _ _ _ hHeld a4 a5
            case mo8 => exact AllReadyH.nil
          case mo7 => exact AllReadyH.nil
        case mo6 => exact AllReadyH.nil
      case mo5 =>
        refine' AllReadyH.cons (i := 5) (o := ?o9) ?hi9 (fun K hK => ?st9) ?mo9
        case hi9 => simp only [List.getElem?_toArray, List.getElem?_cons_succ, List.getElem?_cons_zero]; rfl
        case st9 =>
          go_simp
          refine hK.out _ _ (hHeld.alloc hHeld.size _) (fun hHeld2 => ?_)
          clear hK K
          try simp only [Act.put, List.setIfInBounds_toArray, List.set_cons_zero, List.set_cons_succ]
          have a5 : (v2.alloc (.cells #[.int .i64 0, .int .i64 0, .int .i64 0, .int .i64 0, .int .i64 0, .int .i64 0] 30)).heap[v2.heap.size]? = _ := heap_alloc_new _ _
          have a5l := hHeld.size
          obtain ⟨v3, hv⟩ : ∃ v, v = v2.alloc (.cells #[.int .i64 0, .int .i64 0, .int .i64 0, .int .i64 0, .int .i64 0, .int .i64 0] 30) := ⟨_, rfl⟩
          rw [← hv] at a5 hHeld2 ⊢
          clear hv hHeld
          have hHeld := hHeld2
          clear hHeld2
          obtain ⟨g5, hg⟩ : ∃ g, g = v2.heap.size := ⟨_, rfl⟩
          rw [← hg] at a5 a5l ⊢
          clear hg
          refine wpAnyH_ready (rs := [4]) (by kernel_rfl) (by simp) ?_
          refine' AllReadyH.cons (i := 4) (o := ?o10) ?hi10 (fun K hK => ?st10) ?mo10
          case hi10 => simp only [List.getElem?_toArray, List.getElem?_cons_succ, List.getElem?_cons_zero]; rfl
          case st10 =>
            go_simp
            refine hK.out _ _ (hHeld.alloc hHeld.size _) (fun hHeld2 => ?_)
            clear hK K
            try simp only [Act.put, List.setIfInBounds_toArray, List.set_cons_zero, List.set_cons_succ]
            have a4 : (v3.alloc (.cells #[.int .i64 0, .int .i64 0, .int .i64 0, .int .i64 0, .int .i64 0, .int .i64 0] 28)).heap[v3.heap.size]? = _ := heap_alloc_new _ _
            have hne := Nat.ne_of_lt (lt_some a5)
            replace a5 := (heap_alloc_old v3 (.cells #[.int .i64 0, .int .i64 0, .int .i64 0, .int .i64 0, .int .i64 0, .int .i64 0] 28) (lt_some a5)).trans a5
            have a4l := hHeld.size
            obtain ⟨v4, hv⟩ : ∃ v, v = v3.alloc (.cells #[.int .i64 0, .int .i64 0, .int .i64 0, .int .i64 0, .int .i64 0, .int .i64 0] 28) := ⟨_, rfl⟩
            rw [← hv] at a4 a5 hHeld2 ⊢
            clear hv hHeld
            have hHeld := hHeld2
            clear hHeld2
            obtain ⟨g4, hg⟩ : ∃ g, g = v3.heap.size := ⟨_, rfl⟩
            rw [← hg] at a4 a4l hne ⊢
            clear hg
            refine wpAnyH_ready (rs := [6]) (by kernel_rfl) (by simp) ?_
            refine' AllReadyH.cons (i := 6) (o := ?o11) ?hi11 (fun K hK => ?st11) ?mo11
            case hi11 => simp only [List.getElem?_toArray, List.getElem?_cons_succ, List.getElem?_cons_zero]; rfl
            case st11 =>
              refine step_store_row rfl 28 (.tmp 3) (.tmp 9) rfl g4 #[Value.int .i64 c.node, .int .i64 c.op.kind, .int .i64 c.op.book, .int .i64 c.op.units, .int .i64 c.op.cust, .int .i64 c.op.amount] rfl rfl 28 _ a4 ask_size rfl (one6 _ _ _ _ _ _) ?_
              refine hK.out _ _ (hHeld.trans (setRow_below _ a4l)) (fun hHeld2 => ?_)
              clear hK K
              try simp only [Act.put]
              replace a4 : (v4.setRow g4 #[Value.int .i64 c.node, .int .i64 c.op.kind, .int .i64 c.op.book, .int .i64 c.op.units, .int .i64 c.op.cust, .int .i64 c.op.amount]).heap[g4]? = some (.cells #[Value.int .i64 c.node, .int .i64 c.op.kind, .int .i64 c.op.book, .int .i64 c.op.units, .int .i64 c.op.cust, .int .i64 c.op.amount] 28 (0, 0)) := setRow_heap _ _ _ _ _ _ a4
              replace a5 := (setRow_other _ g4 g5 #[Value.int .i64 c.node, .int .i64 c.op.kind, .int .i64 c.op.book, .int .i64 c.op.units, .int .i64 c.op.cust, .int .i64 c.op.amount] (by omega)).trans a5
              obtain ⟨v5, hv⟩ : ∃ v, v = v4.setRow g4 #[Value.int .i64 c.node, .int .i64 c.op.kind, .int .i64 c.op.book, .int .i64 c.op.units, .int .i64 c.op.cust, .int .i64 c.op.amount] := ⟨_, rfl⟩
              rw [← hv] at a4 a5 hHeld2 ⊢
              clear hv hHeld
              have hHeld := hHeld2
              clear hHeld2
              refine wpAnyH_ready (rs := [7]) (by kernel_rfl) (by simp) ?_
              refine' AllReadyH.cons (i := 7) (o := ?o12) ?hi12 (fun K hK => ?st12) ?mo12
              case hi12 => simp only [List.getElem?_toArray, List.getElem?_cons_succ, List.getElem?_cons_zero]; rfl
              case st12 =>
                refine step_store_row rfl 30 (.tmp 4) (.tmp 11) rfl g5 #[Value.int .i64 c.node, .int .i64 c.op.kind, .int .i64 c.op.book, .int .i64 c.op.units, .int .i64 c.op.cust, .int .i64 c.op.amount] rfl rfl 30 _ a5 rask_size rfl (one6 _ _ _ _ _ _) ?_
                refine hK.out _ _ (hHeld.trans (setRow_below _ a5l)) (fun hHeld2 => ?_)
                clear hK K
                try simp only [Act.put]
                replace a5 : (v5.setRow g5 #[Value.int .i64 c.node, .int .i64 c.op.kind, .int .i64 c.op.book, .int .i64 c.op.units, .int .i64 c.op.cust, .int .i64 c.op.amount]).heap[g5]? = some (.cells #[Value.int .i64 c.node, .int .i64 c.op.kind, .int .i64 c.op.book, .int .i64 c.op.units, .int .i64 c.op.cust, .int .i64 c.op.amount] 30 (0, 0)) := setRow_heap _ _ _ _ _ _ a5
                replace a4 := (setRow_other _ g5 g4 #[Value.int .i64 c.node, .int .i64 c.op.kind, .int .i64 c.op.book, .int .i64 c.op.units, .int .i64 c.op.cust, .int .i64 c.op.amount] (by omega)).trans a4
                obtain ⟨v6, hv⟩ : ∃ v, v = v5.setRow g5 #[Value.int .i64 c.node, .int .i64 c.op.kind, .int .i64 c.op.book, .int .i64 c.op.units, .int .i64 c.op.cust, .int .i64 c.op.amount] := ⟨_, rfl⟩
                rw [← hv] at a5 a4 hHeld2 ⊢
                clear hv hHeld
                have hHeld := hHeld2
                clear hHeld2
                refine wpAnyH_done (by kernel_rfl) ?_ _
                exact hQ.out _ _ _ _ _ _ _ hHeld a4 a5
              case mo12 => exact AllReadyH.nil
            case mo11 => exact AllReadyH.nil
          case mo10 => exact AllReadyH.nil
        case mo9 => exact AllReadyH.nil
    case mo4 =>
      refine' AllReadyH.cons (i := 4) (o := ?o13) ?hi13 (fun K hK => ?st13) ?mo13
      case hi13 => simp only [List.getElem?_toArray, List.getElem?_cons_succ, List.getElem?_cons_zero]; rfl
      case st13 =>
        go_simp
        refine hK.out _ _ (hHeld.alloc hHeld.size _) (fun hHeld2 => ?_)
        clear hK K
        try simp only [Act.put, List.setIfInBounds_toArray, List.set_cons_zero, List.set_cons_succ]
        have a4 : (v1.alloc (.cells #[.int .i64 0, .int .i64 0, .int .i64 0, .int .i64 0, .int .i64 0, .int .i64 0] 28)).heap[v1.heap.size]? = _ := heap_alloc_new _ _
        have a4l := hHeld.size
        obtain ⟨v2, hv⟩ : ∃ v, v = v1.alloc (.cells #[.int .i64 0, .int .i64 0, .int .i64 0, .int .i64 0, .int .i64 0, .int .i64 0] 28) := ⟨_, rfl⟩
        rw [← hv] at a4 hHeld2 ⊢
        clear hv hHeld
        have hHeld := hHeld2
        clear hHeld2
        obtain ⟨g4, hg⟩ : ∃ g, g = v1.heap.size := ⟨_, rfl⟩
        rw [← hg] at a4 a4l ⊢
        clear hg
        refine wpAnyH_ready (rs := [3, 5]) (by kernel_rfl) (by simp) ?_
        refine' AllReadyH.cons (i := 3) (o := ?o14) ?hi14 (fun K hK => ?st14) ?mo14
        case hi14 => simp only [List.getElem?_toArray, List.getElem?_cons_succ, List.getElem?_cons_zero]; rfl
        case st14 =>
          go_simp
          refine (F3.out _ hHeld).mono ?_
          rintro e v3 ⟨rfl, h6, h7⟩
          replace a4 := (h7.block _ (lt_some a4)).trans a4
          clear h7 hHeld
          go_simp
          refine hK.out _ _ h6 (fun hHeld => ?_)
          clear hK K h6
          try simp only [Act.put, List.setIfInBounds_toArray, List.set_cons_zero, List.set_cons_succ]
          refine wpAnyH_ready (rs := [5]) (by kernel_rfl) (by simp) ?_
          refine' AllReadyH.cons (i := 5) (o := ?o15) ?hi15 (fun K hK => ?st15) ?mo15
          case hi15 => simp only [List.getElem?_toArray, List.getElem?_cons_succ, List.getElem?_cons_zero]; rfl
          case st15 =>
            go_simp
            refine hK.out _ _ (hHeld.alloc hHeld.size _) (fun hHeld2 => ?_)
            clear hK K
            try simp only [Act.put, List.setIfInBounds_toArray, List.set_cons_zero, List.set_cons_succ]
            have a5 : (v3.alloc (.cells #[.int .i64 0, .int .i64 0, .int .i64 0, .int .i64 0, .int .i64 0, .int .i64 0] 30)).heap[v3.heap.size]? = _ := heap_alloc_new _ _
            have hne := Nat.ne_of_lt (lt_some a4)
            replace a4 := (heap_alloc_old v3 (.cells #[.int .i64 0, .int .i64 0, .int .i64 0, .int .i64 0, .int .i64 0, .int .i64 0] 30) (lt_some a4)).trans a4
            have a5l := hHeld.size
            obtain ⟨v4, hv⟩ : ∃ v, v = v3.alloc (.cells #[.int .i64 0, .int .i64 0, .int .i64 0, .int .i64 0, .int .i64 0, .int .i64 0] 30) := ⟨_, rfl⟩
            rw [← hv] at a5 a4 hHeld2 ⊢
            clear hv hHeld
            have hHeld := hHeld2
            clear hHeld2
            obtain ⟨g5, hg⟩ : ∃ g, g = v3.heap.size := ⟨_, rfl⟩
            rw [← hg] at a5 a5l hne ⊢
            clear hg
            refine wpAnyH_ready (rs := [6]) (by kernel_rfl) (by simp) ?_
            refine' AllReadyH.cons (i := 6) (o := ?o16) ?hi16 (fun K hK => ?st16) ?mo16
            case hi16 => simp only [List.getElem?_toArray, List.getElem?_cons_succ, List.getElem?_cons_zero]; rfl
            case st16 =>
              refine step_store_row rfl 28 (.tmp 3) (.tmp 9) rfl g4 #[Value.int .i64 c.node, .int .i64 c.op.kind, .int .i64 c.op.book, .int .i64 c.op.units, .int .i64 c.op.cust, .int .i64 c.op.amount] rfl rfl 28 _ a4 ask_size rfl (one6 _ _ _ _ _ _) ?_
              refine hK.out _ _ (hHeld.trans (setRow_below _ a4l)) (fun hHeld2 => ?_)
              clear hK K
              try simp only [Act.put]
              replace a4 : (v4.setRow g4 #[Value.int .i64 c.node, .int .i64 c.op.kind, .int .i64 c.op.book, .int .i64 c.op.units, .int .i64 c.op.cust, .int .i64 c.op.amount]).heap[g4]? = some (.cells #[Value.int .i64 c.node, .int .i64 c.op.kind, .int .i64 c.op.book, .int .i64 c.op.units, .int .i64 c.op.cust, .int .i64 c.op.amount] 28 (0, 0)) := setRow_heap _ _ _ _ _ _ a4
              replace a5 := (setRow_other _ g4 g5 #[Value.int .i64 c.node, .int .i64 c.op.kind, .int .i64 c.op.book, .int .i64 c.op.units, .int .i64 c.op.cust, .int .i64 c.op.amount] (by omega)).trans a5
              obtain ⟨v5, hv⟩ : ∃ v, v = v4.setRow g4 #[Value.int .i64 c.node, .int .i64 c.op.kind, .int .i64 c.op.book, .int .i64 c.op.units, .int .i64 c.op.cust, .int .i64 c.op.amount] := ⟨_, rfl⟩
              rw [← hv] at a4 a5 hHeld2 ⊢
              clear hv hHeld
              have hHeld := hHeld2
              clear hHeld2
              refine wpAnyH_ready (rs := [7]) (by kernel_rfl) (by simp) ?_
              refine' AllReadyH.cons (i := 7) (o := ?o17) ?hi17 (fun K hK => ?st17) ?mo17
              case hi17 => simp only [List.getElem?_toArray, List.getElem?_cons_succ, List.getElem?_cons_zero]; rfl
              case st17 =>
                refine step_store_row rfl 30 (.tmp 4) (.tmp 11) rfl g5 #[Value.int .i64 c.node, .int .i64 c.op.kind, .int .i64 c.op.book, .int .i64 c.op.units, .int .i64 c.op.cust, .int .i64 c.op.amount] rfl rfl 30 _ a5 rask_size rfl (one6 _ _ _ _ _ _) ?_
                refine hK.out _ _ (hHeld.trans (setRow_below _ a5l)) (fun hHeld2 => ?_)
                clear hK K
                try simp only [Act.put]
                replace a5 : (v5.setRow g5 #[Value.int .i64 c.node, .int .i64 c.op.kind, .int .i64 c.op.book, .int .i64 c.op.units, .int .i64 c.op.cust, .int .i64 c.op.amount]).heap[g5]? = some (.cells #[Value.int .i64 c.node, .int .i64 c.op.kind, .int .i64 c.op.book, .int .i64 c.op.units, .int .i64 c.op.cust, .int .i64 c.op.amount] 30 (0, 0)) := setRow_heap _ _ _ _ _ _ a5
                replace a4 := (setRow_other _ g5 g4 #[Value.int .i64 c.node, .int .i64 c.op.kind, .int .i64 c.op.book, .int .i64 c.op.units, .int .i64 c.op.cust, .int .i64 c.op.amount] (by omega)).trans a4
                obtain ⟨v6, hv⟩ : ∃ v, v = v5.setRow g5 #[Value.int .i64 c.node, .int .i64 c.op.kind, .int .i64 c.op.book, .int .i64 c.op.units, .int .i64 c.op.cust, .int .i64 c.op.amount] := ⟨_, rfl⟩
                rw [← hv] at a5 a4 hHeld2 ⊢
                clear hv hHeld
                have hHeld := hHeld2
                clear hHeld2
                refine wpAnyH_done (by kernel_rfl) ?_ _
                exact hQ.out _ _ _ _ _ _ _ hHeld a4 a5
              case mo17 => exact AllReadyH.nil
            case mo16 => exact AllReadyH.nil
          case mo15 => exact AllReadyH.nil
        case mo14 =>
          refine' AllReadyH.cons (i := 5) (o := ?o18) ?hi18 (fun K hK => ?st18) ?mo18
          case hi18 => simp only [List.getElem?_toArray, List.getElem?_cons_succ, List.getElem?_cons_zero]; rfl
          case st18 =>
            go_simp
            refine hK.out _ _ (hHeld.alloc hHeld.size _) (fun hHeld2 => ?_)
            clear hK K
            try simp only [Act.put, List.setIfInBounds_toArray, List.set_cons_zero, List.set_cons_succ]
            have a5 : (v2.alloc (.cells #[.int .i64 0, .int .i64 0, .int .i64 0, .int .i64 0, .int .i64 0, .int .i64 0] 30)).heap[v2.heap.size]? = _ := heap_alloc_new _ _
            have hne := Nat.ne_of_lt (lt_some a4)
            replace a4 := (heap_alloc_old v2 (.cells #[.int .i64 0, .int .i64 0, .int .i64 0, .int .i64 0, .int .i64 0, .int .i64 0] 30) (lt_some a4)).trans a4
            have a5l := hHeld.size
            obtain ⟨v3, hv⟩ : ∃ v, v = v2.alloc (.cells #[.int .i64 0, .int .i64 0, .int .i64 0, .int .i64 0, .int .i64 0, .int .i64 0] 30) := ⟨_, rfl⟩
            rw [← hv] at a5 a4 hHeld2 ⊢
            clear hv hHeld
            have hHeld := hHeld2
            clear hHeld2
            obtain ⟨g5, hg⟩ : ∃ g, g = v2.heap.size := ⟨_, rfl⟩
            rw [← hg] at a5 a5l hne ⊢
            clear hg
            refine wpAnyH_ready (rs := [3]) (by kernel_rfl) (by simp) ?_
            refine' AllReadyH.cons (i := 3) (o := ?o19) ?hi19 (fun K hK => ?st19) ?mo19
            case hi19 => simp only [List.getElem?_toArray, List.getElem?_cons_succ, List.getElem?_cons_zero]; rfl
            case st19 =>
              go_simp
              refine (F3.out _ hHeld).mono ?_
              rintro e v4 ⟨rfl, h6, h7⟩
              replace a4 := (h7.block _ (lt_some a4)).trans a4
              replace a5 := (h7.block _ (lt_some a5)).trans a5
              clear h7 hHeld
              go_simp
              refine hK.out _ _ h6 (fun hHeld => ?_)
              clear hK K h6
              try simp only [Act.put, List.setIfInBounds_toArray, List.set_cons_zero, List.set_cons_succ]
              refine wpAnyH_ready (rs := [6]) (by kernel_rfl) (by simp) ?_
              refine' AllReadyH.cons (i := 6) (o := ?o20) ?hi20 (fun K hK => ?st20) ?mo20
              case hi20 => simp only [List.getElem?_toArray, List.getElem?_cons_succ, List.getElem?_cons_zero]; rfl
              case st20 =>
                refine step_store_row rfl 28 (.tmp 3) (.tmp 9) rfl g4 #[Value.int .i64 c.node, .int .i64 c.op.kind, .int .i64 c.op.book, .int .i64 c.op.units, .int .i64 c.op.cust, .int .i64 c.op.amount] rfl rfl 28 _ a4 ask_size rfl (one6 _ _ _ _ _ _) ?_
                refine hK.out _ _ (hHeld.trans (setRow_below _ a4l)) (fun hHeld2 => ?_)
                clear hK K
                try simp only [Act.put]
                replace a4 : (v4.setRow g4 #[Value.int .i64 c.node, .int .i64 c.op.kind, .int .i64 c.op.book, .int .i64 c.op.units, .int .i64 c.op.cust, .int .i64 c.op.amount]).heap[g4]? = some (.cells #[Value.int .i64 c.node, .int .i64 c.op.kind, .int .i64 c.op.book, .int .i64 c.op.units, .int .i64 c.op.cust, .int .i64 c.op.amount] 28 (0, 0)) := setRow_heap _ _ _ _ _ _ a4
                replace a5 := (setRow_other _ g4 g5 #[Value.int .i64 c.node, .int .i64 c.op.kind, .int .i64 c.op.book, .int .i64 c.op.units, .int .i64 c.op.cust, .int .i64 c.op.amount] (by omega)).trans a5
                obtain ⟨v5, hv⟩ : ∃ v, v = v4.setRow g4 #[Value.int .i64 c.node, .int .i64 c.op.kind, .int .i64 c.op.book, .int .i64 c.op.units, .int .i64 c.op.cust, .int .i64 c.op.amount] := ⟨_, rfl⟩
                rw [← hv] at a4 a5 hHeld2 ⊢
                clear hv hHeld
                have hHeld := hHeld2
                clear hHeld2
                refine wpAnyH_ready (rs := [7]) (by kernel_rfl) (by simp) ?_
                refine' AllReadyH.cons (i := 7) (o := ?o21) ?hi21 (fun K hK => ?st21) ?mo21
                case hi21 => simp only [List.getElem?_toArray, List.getElem?_cons_succ, List.getElem?_cons_zero]; rfl
                case st21 =>
                  refine step_store_row rfl 30 (.tmp 4) (.tmp 11) rfl g5 #[Value.int .i64 c.node, .int .i64 c.op.kind, .int .i64 c.op.book, .int .i64 c.op.units, .int .i64 c.op.cust, .int .i64 c.op.amount] rfl rfl 30 _ a5 rask_size rfl (one6 _ _ _ _ _ _) ?_
                  refine hK.out _ _ (hHeld.trans (setRow_below _ a5l)) (fun hHeld2 => ?_)
                  clear hK K
                  try simp only [Act.put]
                  replace a5 : (v5.setRow g5 #[Value.int .i64 c.node, .int .i64 c.op.kind, .int .i64 c.op.book, .int .i64 c.op.units, .int .i64 c.op.cust, .int .i64 c.op.amount]).heap[g5]? = some (.cells #[Value.int .i64 c.node, .int .i64 c.op.kind, .int .i64 c.op.book, .int .i64 c.op.units, .int .i64 c.op.cust, .int .i64 c.op.amount] 30 (0, 0)) := setRow_heap _ _ _ _ _ _ a5
                  replace a4 := (setRow_other _ g5 g4 #[Value.int .i64 c.node, .int .i64 c.op.kind, .int .i64 c.op.book, .int .i64 c.op.units, .int .i64 c.op.cust, .int .i64 c.op.amount] (by omega)).trans a4
                  obtain ⟨v6, hv⟩ : ∃ v, v = v5.setRow g5 #[Value.int .i64 c.node, .int .i64 c.op.kind, .int .i64 c.op.book, .int .i64 c.op.units, .int .i64 c.op.cust, .int .i64 c.op.amount] := ⟨_, rfl⟩
                  rw [← hv] at a5 a4 hHeld2 ⊢
                  clear hv hHeld
                  have hHeld := hHeld2
                  clear hHeld2
                  refine wpAnyH_done (by kernel_rfl) ?_ _
                  exact hQ.out _ _ _ _ _ _ _ hHeld a4 a5
                case mo21 => exact AllReadyH.nil
              case mo20 => exact AllReadyH.nil
            case mo19 => exact AllReadyH.nil
          case mo18 => exact AllReadyH.nil
      case mo13 =>
        refine' AllReadyH.cons (i := 5) (o := ?o22) ?hi22 (fun K hK => ?st22) ?mo22
        case hi22 => simp only [List.getElem?_toArray, List.getElem?_cons_succ, List.getElem?_cons_zero]; rfl
        case st22 =>
          go_simp
          refine hK.out _ _ (hHeld.alloc hHeld.size _) (fun hHeld2 => ?_)
          clear hK K
          try simp only [Act.put, List.setIfInBounds_toArray, List.set_cons_zero, List.set_cons_succ]
          have a5 : (v1.alloc (.cells #[.int .i64 0, .int .i64 0, .int .i64 0, .int .i64 0, .int .i64 0, .int .i64 0] 30)).heap[v1.heap.size]? = _ := heap_alloc_new _ _
          have a5l := hHeld.size
          obtain ⟨v2, hv⟩ : ∃ v, v = v1.alloc (.cells #[.int .i64 0, .int .i64 0, .int .i64 0, .int .i64 0, .int .i64 0, .int .i64 0] 30) := ⟨_, rfl⟩
          rw [← hv] at a5 hHeld2 ⊢
          clear hv hHeld
          have hHeld := hHeld2
          clear hHeld2
          obtain ⟨g5, hg⟩ : ∃ g, g = v1.heap.size := ⟨_, rfl⟩
          rw [← hg] at a5 a5l ⊢
          clear hg
          refine wpAnyH_ready (rs := [3, 4]) (by kernel_rfl) (by simp) ?_
          refine' AllReadyH.cons (i := 3) (o := ?o23) ?hi23 (fun K hK => ?st23) ?mo23
          case hi23 => simp only [List.getElem?_toArray, List.getElem?_cons_succ, List.getElem?_cons_zero]; rfl
          case st23 =>
            go_simp
            refine (F3.out _ hHeld).mono ?_
            rintro e v3 ⟨rfl, h6, h7⟩
            replace a5 := (h7.block _ (lt_some a5)).trans a5
            clear h7 hHeld
            go_simp
            refine hK.out _ _ h6 (fun hHeld => ?_)
            clear hK K h6
            try simp only [Act.put, List.setIfInBounds_toArray, List.set_cons_zero, List.set_cons_succ]
            refine wpAnyH_ready (rs := [4]) (by kernel_rfl) (by simp) ?_
            refine' AllReadyH.cons (i := 4) (o := ?o24) ?hi24 (fun K hK => ?st24) ?mo24
            case hi24 => simp only [List.getElem?_toArray, List.getElem?_cons_succ, List.getElem?_cons_zero]; rfl
            case st24 =>
              go_simp
              refine hK.out _ _ (hHeld.alloc hHeld.size _) (fun hHeld2 => ?_)
              clear hK K
              try simp only [Act.put, List.setIfInBounds_toArray, List.set_cons_zero, List.set_cons_succ]
              have a4 : (v3.alloc (.cells #[.int .i64 0, .int .i64 0, .int .i64 0, .int .i64 0, .int .i64 0, .int .i64 0] 28)).heap[v3.heap.size]? = _ := heap_alloc_new _ _
              have hne := Nat.ne_of_lt (lt_some a5)
              replace a5 := (heap_alloc_old v3 (.cells #[.int .i64 0, .int .i64 0, .int .i64 0, .int .i64 0, .int .i64 0, .int .i64 0] 28) (lt_some a5)).trans a5
              have a4l := hHeld.size
              obtain ⟨v4, hv⟩ : ∃ v, v = v3.alloc (.cells #[.int .i64 0, .int .i64 0, .int .i64 0, .int .i64 0, .int .i64 0, .int .i64 0] 28) := ⟨_, rfl⟩
              rw [← hv] at a4 a5 hHeld2 ⊢
              clear hv hHeld
              have hHeld := hHeld2
              clear hHeld2
              obtain ⟨g4, hg⟩ : ∃ g, g = v3.heap.size := ⟨_, rfl⟩
              rw [← hg] at a4 a4l hne ⊢
              clear hg
              refine wpAnyH_ready (rs := [6]) (by kernel_rfl) (by simp) ?_
              refine' AllReadyH.cons (i := 6) (o := ?o25) ?hi25 (fun K hK => ?st25) ?mo25
              case hi25 => simp only [List.getElem?_toArray, List.getElem?_cons_succ, List.getElem?_cons_zero]; rfl
              case st25 =>
                refine step_store_row rfl 28 (.tmp 3) (.tmp 9) rfl g4 #[Value.int .i64 c.node, .int .i64 c.op.kind, .int .i64 c.op.book, .int .i64 c.op.units, .int .i64 c.op.cust, .int .i64 c.op.amount] rfl rfl 28 _ a4 ask_size rfl (one6 _ _ _ _ _ _) ?_
                refine hK.out _ _ (hHeld.trans (setRow_below _ a4l)) (fun hHeld2 => ?_)
                clear hK K
                try simp only [Act.put]
                replace a4 : (v4.setRow g4 #[Value.int .i64 c.node, .int .i64 c.op.kind, .int .i64 c.op.book, .int .i64 c.op.units, .int .i64 c.op.cust, .int .i64 c.op.amount]).heap[g4]? = some (.cells #[Value.int .i64 c.node, .int .i64 c.op.kind, .int .i64 c.op.book, .int .i64 c.op.units, .int .i64 c.op.cust, .int .i64 c.op.amount] 28 (0, 0)) := setRow_heap _ _ _ _ _ _ a4
                replace a5 := (setRow_other _ g4 g5 #[Value.int .i64 c.node, .int .i64 c.op.kind, .int .i64 c.op.book, .int .i64 c.op.units, .int .i64 c.op.cust, .int .i64 c.op.amount] (by omega)).trans a5
                obtain ⟨v5, hv⟩ : ∃ v, v = v4.setRow g4 #[Value.int .i64 c.node, .int .i64 c.op.kind, .int .i64 c.op.book, .int .i64 c.op.units, .int .i64 c.op.cust, .int .i64 c.op.amount] := ⟨_, rfl⟩
                rw [← hv] at a4 a5 hHeld2 ⊢
                clear hv hHeld
                have hHeld := hHeld2
                clear hHeld2
                refine wpAnyH_ready (rs := [7]) (by kernel_rfl) (by simp) ?_
                refine' AllReadyH.cons (i := 7) (o := ?o26) ?hi26 (fun K hK => ?st26) ?mo26
                case hi26 => simp only [List.getElem?_toArray, List.getElem?_cons_succ, List.getElem?_cons_zero]; rfl
                case st26 =>
                  refine step_store_row rfl 30 (.tmp 4) (.tmp 11) rfl g5 #[Value.int .i64 c.node, .int .i64 c.op.kind, .int .i64 c.op.book, .int .i64 c.op.units, .int .i64 c.op.cust, .int .i64 c.op.amount] rfl rfl 30 _ a5 rask_size rfl (one6 _ _ _ _ _ _) ?_
                  refine hK.out _ _ (hHeld.trans (setRow_below _ a5l)) (fun hHeld2 => ?_)
                  clear hK K
                  try simp only [Act.put]
                  replace a5 : (v5.setRow g5 #[Value.int .i64 c.node, .int .i64 c.op.kind, .int .i64 c.op.book, .int .i64 c.op.units, .int .i64 c.op.cust, .int .i64 c.op.amount]).heap[g5]? = some (.cells #[Value.int .i64 c.node, .int .i64 c.op.kind, .int .i64 c.op.book, .int .i64 c.op.units, .int .i64 c.op.cust, .int .i64 c.op.amount] 30 (0, 0)) := setRow_heap _ _ _ _ _ _ a5
                  replace a4 := (setRow_other _ g5 g4 #[Value.int .i64 c.node, .int .i64 c.op.kind, .int .i64 c.op.book, .int .i64 c.op.units, .int .i64 c.op.cust, .int .i64 c.op.amount] (by omega)).trans a4
                  obtain ⟨v6, hv⟩ : ∃ v, v = v5.setRow g5 #[Value.int .i64 c.node, .int .i64 c.op.kind, .int .i64 c.op.book, .int .i64 c.op.units, .int .i64 c.op.cust, .int .i64 c.op.amount] := ⟨_, rfl⟩
                  rw [← hv] at a5 a4 hHeld2 ⊢
                  clear hv hHeld
                  have hHeld := hHeld2
                  clear hHeld2
                  refine wpAnyH_done (by kernel_rfl) ?_ _
                  exact hQ.out _ _ _ _ _ _ _ hHeld a4 a5
                case mo26 => exact AllReadyH.nil
              case mo25 => exact AllReadyH.nil
            case mo24 => exact AllReadyH.nil
          case mo23 =>
            refine' AllReadyH.cons (i := 4) (o := ?o27) ?hi27 (fun K hK => ?st27) ?mo27
            case hi27 => simp only [List.getElem?_toArray, List.getElem?_cons_succ, List.getElem?_cons_zero]; rfl
            case st27 =>
              go_simp
              refine hK.out _ _ (hHeld.alloc hHeld.size _) (fun hHeld2 => ?_)
              clear hK K
              try simp only [Act.put, List.setIfInBounds_toArray, List.set_cons_zero, List.set_cons_succ]
              have a4 : (v2.alloc (.cells #[.int .i64 0, .int .i64 0, .int .i64 0, .int .i64 0, .int .i64 0, .int .i64 0] 28)).heap[v2.heap.size]? = _ := heap_alloc_new _ _
              have hne := Nat.ne_of_lt (lt_some a5)
              replace a5 := (heap_alloc_old v2 (.cells #[.int .i64 0, .int .i64 0, .int .i64 0, .int .i64 0, .int .i64 0, .int .i64 0] 28) (lt_some a5)).trans a5
              have a4l := hHeld.size
              obtain ⟨v3, hv⟩ : ∃ v, v = v2.alloc (.cells #[.int .i64 0, .int .i64 0, .int .i64 0, .int .i64 0, .int .i64 0, .int .i64 0] 28) := ⟨_, rfl⟩
              rw [← hv] at a4 a5 hHeld2 ⊢
              clear hv hHeld
              have hHeld := hHeld2
              clear hHeld2
              obtain ⟨g4, hg⟩ : ∃ g, g = v2.heap.size := ⟨_, rfl⟩
              rw [← hg] at a4 a4l hne ⊢
              clear hg
              refine wpAnyH_ready (rs := [3]) (by kernel_rfl) (by simp) ?_
              refine' AllReadyH.cons (i := 3) (o := ?o28) ?hi28 (fun K hK => ?st28) ?mo28
              case hi28 => simp only [List.getElem?_toArray, List.getElem?_cons_succ, List.getElem?_cons_zero]; rfl
              case st28 =>
                go_simp
                refine (F3.out _ hHeld).mono ?_
                rintro e v4 ⟨rfl, h6, h7⟩
                replace a4 := (h7.block _ (lt_some a4)).trans a4
                replace a5 := (h7.block _ (lt_some a5)).trans a5
                clear h7 hHeld
                go_simp
                refine hK.out _ _ h6 (fun hHeld => ?_)
                clear hK K h6
                try simp only [Act.put, List.setIfInBounds_toArray, List.set_cons_zero, List.set_cons_succ]
                refine wpAnyH_ready (rs := [6]) (by kernel_rfl) (by simp) ?_
                refine' AllReadyH.cons (i := 6) (o := ?o29) ?hi29 (fun K hK => ?st29) ?mo29
                case hi29 => simp only [List.getElem?_toArray, List.getElem?_cons_succ, List.getElem?_cons_zero]; rfl
                case st29 =>
                  refine step_store_row rfl 28 (.tmp 3) (.tmp 9) rfl g4 #[Value.int .i64 c.node, .int .i64 c.op.kind, .int .i64 c.op.book, .int .i64 c.op.units, .int .i64 c.op.cust, .int .i64 c.op.amount] rfl rfl 28 _ a4 ask_size rfl (one6 _ _ _ _ _ _) ?_
                  refine hK.out _ _ (hHeld.trans (setRow_below _ a4l)) (fun hHeld2 => ?_)
                  clear hK K
                  try simp only [Act.put]
                  replace a4 : (v4.setRow g4 #[Value.int .i64 c.node, .int .i64 c.op.kind, .int .i64 c.op.book, .int .i64 c.op.units, .int .i64 c.op.cust, .int .i64 c.op.amount]).heap[g4]? = some (.cells #[Value.int .i64 c.node, .int .i64 c.op.kind, .int .i64 c.op.book, .int .i64 c.op.units, .int .i64 c.op.cust, .int .i64 c.op.amount] 28 (0, 0)) := setRow_heap _ _ _ _ _ _ a4
                  replace a5 := (setRow_other _ g4 g5 #[Value.int .i64 c.node, .int .i64 c.op.kind, .int .i64 c.op.book, .int .i64 c.op.units, .int .i64 c.op.cust, .int .i64 c.op.amount] (by omega)).trans a5
                  obtain ⟨v5, hv⟩ : ∃ v, v = v4.setRow g4 #[Value.int .i64 c.node, .int .i64 c.op.kind, .int .i64 c.op.book, .int .i64 c.op.units, .int .i64 c.op.cust, .int .i64 c.op.amount] := ⟨_, rfl⟩
                  rw [← hv] at a4 a5 hHeld2 ⊢
                  clear hv hHeld
                  have hHeld := hHeld2
                  clear hHeld2
                  refine wpAnyH_ready (rs := [7]) (by kernel_rfl) (by simp) ?_
                  refine' AllReadyH.cons (i := 7) (o := ?o30) ?hi30 (fun K hK => ?st30) ?mo30
                  case hi30 => simp only [List.getElem?_toArray, List.getElem?_cons_succ, List.getElem?_cons_zero]; rfl
                  case st30 =>
                    refine step_store_row rfl 30 (.tmp 4) (.tmp 11) rfl g5 #[Value.int .i64 c.node, .int .i64 c.op.kind, .int .i64 c.op.book, .int .i64 c.op.units, .int .i64 c.op.cust, .int .i64 c.op.amount] rfl rfl 30 _ a5 rask_size rfl (one6 _ _ _ _ _ _) ?_
                    refine hK.out _ _ (hHeld.trans (setRow_below _ a5l)) (fun hHeld2 => ?_)
                    clear hK K
                    try simp only [Act.put]
                    replace a5 : (v5.setRow g5 #[Value.int .i64 c.node, .int .i64 c.op.kind, .int .i64 c.op.book, .int .i64 c.op.units, .int .i64 c.op.cust, .int .i64 c.op.amount]).heap[g5]? = some (.cells #[Value.int .i64 c.node, .int .i64 c.op.kind, .int .i64 c.op.book, .int .i64 c.op.units, .int .i64 c.op.cust, .int .i64 c.op.amount] 30 (0, 0)) := setRow_heap _ _ _ _ _ _ a5
                    replace a4 := (setRow_other _ g5 g4 #[Value.int .i64 c.node, .int .i64 c.op.kind, .int .i64 c.op.book, .int .i64 c.op.units, .int .i64 c.op.cust, .int .i64 c.op.amount] (by omega)).trans a4
                    obtain ⟨v6, hv⟩ : ∃ v, v = v5.setRow g5 #[Value.int .i64 c.node, .int .i64 c.op.kind, .int .i64 c.op.book, .int .i64 c.op.units, .int .i64 c.op.cust, .int .i64 c.op.amount] := ⟨_, rfl⟩
                    rw [← hv] at a5 a4 hHeld2 ⊢
                    clear hv hHeld
                    have hHeld := hHeld2
                    clear hHeld2
                    refine wpAnyH_done (by kernel_rfl) ?_ _
                    exact hQ.out _ _ _ _ _ _ _ hHeld a4 a5
                  case mo30 => exact AllReadyH.nil
                case mo29 => exact AllReadyH.nil
              case mo28 => exact AllReadyH.nil
            case mo27 => exact AllReadyH.nil
        case mo22 => exact AllReadyH.nil
  case mo3 =>
    refine' AllReadyH.cons (i := 4) (o := ?o31) ?hi31 (fun K hK => ?st31) ?mo31
    case hi31 => simp only [List.getElem?_toArray, List.getElem?_cons_succ, List.getElem?_cons_zero]; rfl
    case st31 =>
      go_simp
      refine hK.out _ _ (hHeld.alloc hHeld.size _) (fun hHeld2 => ?_)
      clear hK K
      try simp only [Act.put, List.setIfInBounds_toArray, List.set_cons_zero, List.set_cons_succ]
      have a4 : (v0.alloc (.cells #[.int .i64 0, .int .i64 0, .int .i64 0, .int .i64 0, .int .i64 0, .int .i64 0] 28)).heap[v0.heap.size]? = _ := heap_alloc_new _ _
      have a4l := hHeld.size
      obtain ⟨v1, hv⟩ : ∃ v, v = v0.alloc (.cells #[.int .i64 0, .int .i64 0, .int .i64 0, .int .i64 0, .int .i64 0, .int .i64 0] 28) := ⟨_, rfl⟩
      rw [← hv] at a4 hHeld2 ⊢
      clear hv hHeld
      have hHeld := hHeld2
      clear hHeld2
      obtain ⟨g4, hg⟩ : ∃ g, g = v0.heap.size := ⟨_, rfl⟩
      rw [← hg] at a4 a4l ⊢
      clear hg
      refine wpAnyH_ready (rs := [1, 5]) (by kernel_rfl) (by simp) ?_
      refine' AllReadyH.cons (i := 1) (o := ?o32) ?hi32 (fun K hK => ?st32) ?mo32
      case hi32 => simp only [List.getElem?_toArray, List.getElem?_cons_succ, List.getElem?_cons_zero]; rfl
      case st32 =>
        go_simp
        refine (F1.out _ hHeld).mono ?_
        rintro e v2 ⟨rfl, h6, h7⟩
        replace a4 := (h7.block _ (lt_some a4)).trans a4
        clear h7 hHeld
        go_simp
        refine hK.out _ _ h6 (fun hHeld => ?_)
        clear hK K h6
        try simp only [Act.put, List.setIfInBounds_toArray, List.set_cons_zero, List.set_cons_succ]
        refine wpAnyH_ready (rs := [3, 5]) (by kernel_rfl) (by simp) ?_
        refine' AllReadyH.cons (i := 3) (o := ?o33) ?hi33 (fun K hK => ?st33) ?mo33
        case hi33 => simp only [List.getElem?_toArray, List.getElem?_cons_succ, List.getElem?_cons_zero]; rfl
        case st33 =>
          go_simp
          refine (F3.out _ hHeld).mono ?_
          rintro e v3 ⟨rfl, h6, h7⟩
          replace a4 := (h7.block _ (lt_some a4)).trans a4
          clear h7 hHeld
          go_simp
          refine hK.out _ _ h6 (fun hHeld => ?_)
          clear hK K h6
          try simp only [Act.put, List.setIfInBounds_toArray, List.set_cons_zero, List.set_cons_succ]
          refine wpAnyH_ready (rs := [5]) (by kernel_rfl) (by simp) ?_
          refine' AllReadyH.cons (i := 5) (o := ?o34) ?hi34 (fun K hK => ?st34) ?mo34
          case hi34 => simp only [List.getElem?_toArray, List.getElem?_cons_succ, List.getElem?_cons_zero]; rfl
          case st34 =>
            go_simp
            refine hK.out _ _ (hHeld.alloc hHeld.size _) (fun hHeld2 => ?_)
            clear hK K
            try simp only [Act.put, List.setIfInBounds_toArray, List.set_cons_zero, List.set_cons_succ]
            have a5 : (v3.alloc (.cells #[.int .i64 0, .int .i64 0, .int .i64 0, .int .i64 0, .int .i64 0, .int .i64 0] 30)).heap[v3.heap.size]? = _ := heap_alloc_new _ _
            have hne := Nat.ne_of_lt (lt_some a4)
            replace a4 := (heap_alloc_old v3 (.cells #[.int .i64 0, .int .i64 0, .int .i64 0, .int .i64 0, .int .i64 0, .int .i64 0] 30) (lt_some a4)).trans a4
            have a5l := hHeld.size
            obtain ⟨v4, hv⟩ : ∃ v, v = v3.alloc (.cells #[.int .i64 0, .int .i64 0, .int .i64 0, .int .i64 0, .int .i64 0, .int .i64 0] 30) := ⟨_, rfl⟩
            rw [← hv] at a5 a4 hHeld2 ⊢
            clear hv hHeld
            have hHeld := hHeld2
            clear hHeld2
            obtain ⟨g5, hg⟩ : ∃ g, g = v3.heap.size := ⟨_, rfl⟩
            rw [← hg] at a5 a5l hne ⊢
            clear hg
            refine wpAnyH_ready (rs := [6]) (by kernel_rfl) (by simp) ?_
            refine' AllReadyH.cons (i := 6) (o := ?o35) ?hi35 (fun K hK => ?st35) ?mo35
            case hi35 => simp only [List.getElem?_toArray, List.getElem?_cons_succ, List.getElem?_cons_zero]; rfl
            case st35 =>
              refine step_store_row rfl 28 (.tmp 3) (.tmp 9) rfl g4 #[Value.int .i64 c.node, .int .i64 c.op.kind, .int .i64 c.op.book, .int .i64 c.op.units, .int .i64 c.op.cust, .int .i64 c.op.amount] rfl rfl 28 _ a4 ask_size rfl (one6 _ _ _ _ _ _) ?_
              refine hK.out _ _ (hHeld.trans (setRow_below _ a4l)) (fun hHeld2 => ?_)
              clear hK K
              try simp only [Act.put]
              replace a4 : (v4.setRow g4 #[Value.int .i64 c.node, .int .i64 c.op.kind, .int .i64 c.op.book, .int .i64 c.op.units, .int .i64 c.op.cust, .int .i64 c.op.amount]).heap[g4]? = some (.cells #[Value.int .i64 c.node, .int .i64 c.op.kind, .int .i64 c.op.book, .int .i64 c.op.units, .int .i64 c.op.cust, .int .i64 c.op.amount] 28 (0, 0)) := setRow_heap _ _ _ _ _ _ a4
              replace a5 := (setRow_other _ g4 g5 #[Value.int .i64 c.node, .int .i64 c.op.kind, .int .i64 c.op.book, .int .i64 c.op.units, .int .i64 c.op.cust, .int .i64 c.op.amount] (by omega)).trans a5
              obtain ⟨v5, hv⟩ : ∃ v, v = v4.setRow g4 #[Value.int .i64 c.node, .int .i64 c.op.kind, .int .i64 c.op.book, .int .i64 c.op.units, .int .i64 c.op.cust, .int .i64 c.op.amount] := ⟨_, rfl⟩
              rw [← hv] at a4 a5 hHeld2 ⊢
              clear hv hHeld
              have hHeld := hHeld2
              clear hHeld2
              refine wpAnyH_ready (rs := [7]) (by kernel_rfl) (by simp) ?_
              refine' AllReadyH.cons (i := 7) (o := ?o36) ?hi36 (fun K hK => ?st36) ?mo36
              case hi36 => simp only [List.getElem?_toArray, List.getElem?_cons_succ, List.getElem?_cons_zero]; rfl
              case st36 =>
                refine step_store_row rfl 30 (.tmp 4) (.tmp 11) rfl g5 #[Value.int .i64 c.node, .int .i64 c.op.kind, .int .i64 c.op.book, .int .i64 c.op.units, .int .i64 c.op.cust, .int .i64 c.op.amount] rfl rfl 30 _ a5 rask_size rfl (one6 _ _ _ _ _ _) ?_
                refine hK.out _ _ (hHeld.trans (setRow_below _ a5l)) (fun hHeld2 => ?_)
                clear hK K
                try simp only [Act.put]
                replace a5 : (v5.setRow g5 #[Value.int .i64 c.node, .int .i64 c.op.kind, .int .i64 c.op.book, .int .i64 c.op.units, .int .i64 c.op.cust, .int .i64 c.op.amount]).heap[g5]? = some (.cells #[Value.int .i64 c.node, .int .i64 c.op.kind, .int .i64 c.op.book, .int .i64 c.op.units, .int .i64 c.op.cust, .int .i64 c.op.amount] 30 (0, 0)) := setRow_heap _ _ _ _ _ _ a5
                replace a4 := (setRow_other _ g5 g4 #[Value.int .i64 c.node, .int .i64 c.op.kind, .int .i64 c.op.book, .int .i64 c.op.units, .int .i64 c.op.cust, .int .i64 c.op.amount] (by omega)).trans a4
                obtain ⟨v6, hv⟩ : ∃ v, v = v5.setRow g5 #[Value.int .i64 c.node, .int .i64 c.op.kind, .int .i64 c.op.book, .int .i64 c.op.units, .int .i64 c.op.cust, .int .i64 c.op.amount] := ⟨_, rfl⟩
                rw [← hv] at a5 a4 hHeld2 ⊢
                clear hv hHeld
                have hHeld := hHeld2
                clear hHeld2
                refine wpAnyH_done (by kernel_rfl) ?_ _
                exact hQ.out _ _ _ _ _ _ _ hHeld a4 a5
              case mo36 => exact AllReadyH.nil
            case mo35 => exact AllReadyH.nil
          case mo34 => exact AllReadyH.nil
        case mo33 =>
          refine' AllReadyH.cons (i := 5) (o := ?o37) ?hi37 (fun K hK => ?st37) ?mo37
          case hi37 => simp only [List.getElem?_toArray, List.getElem?_cons_succ, List.getElem?_cons_zero]; rfl
          case st37 =>
            go_simp
            refine hK.out _ _ (hHeld.alloc hHeld.size _) (fun hHeld2 => ?_)
            clear hK K
            try simp only [Act.put, List.setIfInBounds_toArray, List.set_cons_zero, List.set_cons_succ]
            have a5 : (v2.alloc (.cells #[.int .i64 0, .int .i64 0, .int .i64 0, .int .i64 0, .int .i64 0, .int .i64 0] 30)).heap[v2.heap.size]? = _ := heap_alloc_new _ _
            have hne := Nat.ne_of_lt (lt_some a4)
            replace a4 := (heap_alloc_old v2 (.cells #[.int .i64 0, .int .i64 0, .int .i64 0, .int .i64 0, .int .i64 0, .int .i64 0] 30) (lt_some a4)).trans a4
            have a5l := hHeld.size
            obtain ⟨v3, hv⟩ : ∃ v, v = v2.alloc (.cells #[.int .i64 0, .int .i64 0, .int .i64 0, .int .i64 0, .int .i64 0, .int .i64 0] 30) := ⟨_, rfl⟩
            rw [← hv] at a5 a4 hHeld2 ⊢
            clear hv hHeld
            have hHeld := hHeld2
            clear hHeld2
            obtain ⟨g5, hg⟩ : ∃ g, g = v2.heap.size := ⟨_, rfl⟩
            rw [← hg] at a5 a5l hne ⊢
            clear hg
            refine wpAnyH_ready (rs := [3]) (by kernel_rfl) (by simp) ?_
            refine' AllReadyH.cons (i := 3) (o := ?o38) ?hi38 (fun K hK => ?st38) ?mo38
            case hi38 => simp only [List.getElem?_toArray, List.getElem?_cons_succ, List.getElem?_cons_zero]; rfl
            case st38 =>
              go_simp
              refine (F3.out _ hHeld).mono ?_
              rintro e v4 ⟨rfl, h6, h7⟩
              replace a4 := (h7.block _ (lt_some a4)).trans a4
              replace a5 := (h7.block _ (lt_some a5)).trans a5
              clear h7 hHeld
              go_simp
              refine hK.out _ _ h6 (fun hHeld => ?_)
              clear hK K h6
              try simp only [Act.put, List.setIfInBounds_toArray, List.set_cons_zero, List.set_cons_succ]
              refine wpAnyH_ready (rs := [6]) (by kernel_rfl) (by simp) ?_
              refine' AllReadyH.cons (i := 6) (o := ?o39) ?hi39 (fun K hK => ?st39) ?mo39
              case hi39 => simp only [List.getElem?_toArray, List.getElem?_cons_succ, List.getElem?_cons_zero]; rfl
              case st39 =>
                refine step_store_row rfl 28 (.tmp 3) (.tmp 9) rfl g4 #[Value.int .i64 c.node, .int .i64 c.op.kind, .int .i64 c.op.book, .int .i64 c.op.units, .int .i64 c.op.cust, .int .i64 c.op.amount] rfl rfl 28 _ a4 ask_size rfl (one6 _ _ _ _ _ _) ?_
                refine hK.out _ _ (hHeld.trans (setRow_below _ a4l)) (fun hHeld2 => ?_)
                clear hK K
                try simp only [Act.put]
                replace a4 : (v4.setRow g4 #[Value.int .i64 c.node, .int .i64 c.op.kind, .int .i64 c.op.book, .int .i64 c.op.units, .int .i64 c.op.cust, .int .i64 c.op.amount]).heap[g4]? = some (.cells #[Value.int .i64 c.node, .int .i64 c.op.kind, .int .i64 c.op.book, .int .i64 c.op.units, .int .i64 c.op.cust, .int .i64 c.op.amount] 28 (0, 0)) := setRow_heap _ _ _ _ _ _ a4
                replace a5 := (setRow_other _ g4 g5 #[Value.int .i64 c.node, .int .i64 c.op.kind, .int .i64 c.op.book, .int .i64 c.op.units, .int .i64 c.op.cust, .int .i64 c.op.amount] (by omega)).trans a5
                obtain ⟨v5, hv⟩ : ∃ v, v = v4.setRow g4 #[Value.int .i64 c.node, .int .i64 c.op.kind, .int .i64 c.op.book, .int .i64 c.op.units, .int .i64 c.op.cust, .int .i64 c.op.amount] := ⟨_, rfl⟩
                rw [← hv] at a4 a5 hHeld2 ⊢
                clear hv hHeld
                have hHeld := hHeld2
                clear hHeld2
                refine wpAnyH_ready (rs := [7]) (by kernel_rfl) (by simp) ?_
                refine' AllReadyH.cons (i := 7) (o := ?o40) ?hi40 (fun K hK => ?st40) ?mo40
                case hi40 => simp only [List.getElem?_toArray, List.getElem?_cons_succ, List.getElem?_cons_zero]; rfl
                case st40 =>
                  refine step_store_row rfl 30 (.tmp 4) (.tmp 11) rfl g5 #[Value.int .i64 c.node, .int .i64 c.op.kind, .int .i64 c.op.book, .int .i64 c.op.units, .int .i64 c.op.cust, .int .i64 c.op.amount] rfl rfl 30 _ a5 rask_size rfl (one6 _ _ _ _ _ _) ?_
                  refine hK.out _ _ (hHeld.trans (setRow_below _ a5l)) (fun hHeld2 => ?_)
                  clear hK K
                  try simp only [Act.put]
                  replace a5 : (v5.setRow g5 #[Value.int .i64 c.node, .int .i64 c.op.kind, .int .i64 c.op.book, .int .i64 c.op.units, .int .i64 c.op.cust, .int .i64 c.op.amount]).heap[g5]? = some (.cells #[Value.int .i64 c.node, .int .i64 c.op.kind, .int .i64 c.op.book, .int .i64 c.op.units, .int .i64 c.op.cust, .int .i64 c.op.amount] 30 (0, 0)) := setRow_heap _ _ _ _ _ _ a5
                  replace a4 := (setRow_other _ g5 g4 #[Value.int .i64 c.node, .int .i64 c.op.kind, .int .i64 c.op.book, .int .i64 c.op.units, .int .i64 c.op.cust, .int .i64 c.op.amount] (by omega)).trans a4
                  obtain ⟨v6, hv⟩ : ∃ v, v = v5.setRow g5 #[Value.int .i64 c.node, .int .i64 c.op.kind, .int .i64 c.op.book, .int .i64 c.op.units, .int .i64 c.op.cust, .int .i64 c.op.amount] := ⟨_, rfl⟩
                  rw [← hv] at a5 a4 hHeld2 ⊢
                  clear hv hHeld
                  have hHeld := hHeld2
                  clear hHeld2
                  refine wpAnyH_done (by kernel_rfl) ?_ _
                  exact hQ.out _ _ _ _ _ _ _ hHeld a4 a5
                case mo40 => exact AllReadyH.nil
              case mo39 => exact AllReadyH.nil
            case mo38 => exact AllReadyH.nil
          case mo37 => exact AllReadyH.nil
      case mo32 =>
        refine' AllReadyH.cons (i := 5) (o := ?o41) ?hi41 (fun K hK => ?st41) ?mo41
        case hi41 => simp only [List.getElem?_toArray, List.getElem?_cons_succ, List.getElem?_cons_zero]; rfl
        case st41 =>
          go_simp
          refine hK.out _ _ (hHeld.alloc hHeld.size _) (fun hHeld2 => ?_)
          clear hK K
          try simp only [Act.put, List.setIfInBounds_toArray, List.set_cons_zero, List.set_cons_succ]
          have a5 : (v1.alloc (.cells #[.int .i64 0, .int .i64 0, .int .i64 0, .int .i64 0, .int .i64 0, .int .i64 0] 30)).heap[v1.heap.size]? = _ := heap_alloc_new _ _
          have hne := Nat.ne_of_lt (lt_some a4)
          replace a4 := (heap_alloc_old v1 (.cells #[.int .i64 0, .int .i64 0, .int .i64 0, .int .i64 0, .int .i64 0, .int .i64 0] 30) (lt_some a4)).trans a4
          have a5l := hHeld.size
          obtain ⟨v2, hv⟩ : ∃ v, v = v1.alloc (.cells #[.int .i64 0, .int .i64 0, .int .i64 0, .int .i64 0, .int .i64 0, .int .i64 0] 30) := ⟨_, rfl⟩
          rw [← hv] at a5 a4 hHeld2 ⊢
          clear hv hHeld
          have hHeld := hHeld2
          clear hHeld2
          obtain ⟨g5, hg⟩ : ∃ g, g = v1.heap.size := ⟨_, rfl⟩
          rw [← hg] at a5 a5l hne ⊢
          clear hg
          refine wpAnyH_ready (rs := [1]) (by kernel_rfl) (by simp) ?_
          refine' AllReadyH.cons (i := 1) (o := ?o42) ?hi42 (fun K hK => ?st42) ?mo42
          case hi42 => simp only [List.getElem?_toArray, List.getElem?_cons_succ, List.getElem?_cons_zero]; rfl
          case st42 =>
            go_simp
            refine (F1.out _ hHeld).mono ?_
            rintro e v3 ⟨rfl, h6, h7⟩
            replace a4 := (h7.block _ (lt_some a4)).trans a4
            replace a5 := (h7.block _ (lt_some a5)).trans a5
            clear h7 hHeld
            go_simp
            refine hK.out _ _ h6 (fun hHeld => ?_)
            clear hK K h6
            try simp only [Act.put, List.setIfInBounds_toArray, List.set_cons_zero, List.set_cons_succ]
            refine wpAnyH_ready (rs := [3]) (by kernel_rfl) (by simp) ?_
            refine' AllReadyH.cons (i := 3) (o := ?o43) ?hi43 (fun K hK => ?st43) ?mo43
            case hi43 => simp only [List.getElem?_toArray, List.getElem?_cons_succ, List.getElem?_cons_zero]; rfl
            case st43 =>
              go_simp
              refine (F3.out _ hHeld).mono ?_
              rintro e v4 ⟨rfl, h6, h7⟩
              replace a4 := (h7.block _ (lt_some a4)).trans a4
              replace a5 := (h7.block _ (lt_some a5)).trans a5
              clear h7 hHeld
              go_simp
              refine hK.out _ _ h6 (fun hHeld => ?_)
              clear hK K h6
              try simp only [Act.put, List.setIfInBounds_toArray, List.set_cons_zero, List.set_cons_succ]
              refine wpAnyH_ready (rs := [6]) (by kernel_rfl) (by simp) ?_
              refine' AllReadyH.cons (i := 6) (o := ?o44) ?hi44 (fun K hK => ?st44) ?mo44
              case hi44 => simp only [List.getElem?_toArray, List.getElem?_cons_succ, List.getElem?_cons_zero]; rfl
              case st44 =>
                refine step_store_row rfl 28 (.tmp 3) (.tmp 9) rfl g4 #[Value.int .i64 c.node, .int .i64 c.op.kind, .int .i64 c.op.book, .int .i64 c.op.units, .int .i64 c.op.cust, .int .i64 c.op.amount] rfl rfl 28 _ a4 ask_size rfl (one6 _ _ _ _ _ _) ?_
                refine hK.out _ _ (hHeld.trans (setRow_below _ a4l)) (fun hHeld2 => ?_)
                clear hK K
                try simp only [Act.put]
                replace a4 : (v4.setRow g4 #[Value.int .i64 c.node, .int .i64 c.op.kind, .int .i64 c.op.book, .int .i64 c.op.units, .int .i64 c.op.cust, .int .i64 c.op.amount]).heap[g4]? = some (.cells #[Value.int .i64 c.node, .int .i64 c.op.kind, .int .i64 c.op.book, .int .i64 c.op.units, .int .i64 c.op.cust, .int .i64 c.op.amount] 28 (0, 0)) := setRow_heap _ _ _ _ _ _ a4
                replace a5 := (setRow_other _ g4 g5 #[Value.int .i64 c.node, .int .i64 c.op.kind, .int .i64 c.op.book, .int .i64 c.op.units, .int .i64 c.op.cust, .int .i64 c.op.amount] (by omega)).trans a5
                obtain ⟨v5, hv⟩ : ∃ v, v = v4.setRow g4 #[Value.int .i64 c.node, .int .i64 c.op.kind, .int .i64 c.op.book, .int .i64 c.op.units, .int .i64 c.op.cust, .int .i64 c.op.amount] := ⟨_, rfl⟩
                rw [← hv] at a4 a5 hHeld2 ⊢
                clear hv hHeld
                have hHeld := hHeld2
                clear hHeld2
                refine wpAnyH_ready (rs := [7]) (by kernel_rfl) (by simp) ?_
                refine' AllReadyH.cons (i := 7) (o := ?o45) ?hi45 (fun K hK => ?st45) ?mo45
                case hi45 => simp only [List.getElem?_toArray, List.getElem?_cons_succ, List.getElem?_cons_zero]; rfl
                case st45 =>
                  refine step_store_row rfl 30 (.tmp 4) (.tmp 11) rfl g5 #[Value.int .i64 c.node, .int .i64 c.op.kind, .int .i64 c.op.book, .int .i64 c.op.units, .int .i64 c.op.cust, .int .i64 c.op.amount] rfl rfl 30 _ a5 rask_size rfl (one6 _ _ _ _ _ _) ?_
                  refine hK.out _ _ (hHeld.trans (setRow_below _ a5l)) (fun hHeld2 => ?_)
                  clear hK K
                  try simp only [Act.put]
                  replace a5 : (v5.setRow g5 #[Value.int .i64 c.node, .int .i64 c.op.kind, .int .i64 c.op.book, .int .i64 c.op.units, .int .i64 c.op.cust, .int .i64 c.op.amount]).heap[g5]? = some (.cells #[Value.int .i64 c.node, .int .i64 c.op.kind, .int .i64 c.op.book, .int .i64 c.op.units, .int .i64 c.op.cust, .int .i64 c.op.amount] 30 (0, 0)) := setRow_heap _ _ _ _ _ _ a5
                  replace a4 := (setRow_other _ g5 g4 #[Value.int .i64 c.node, .int .i64 c.op.kind, .int .i64 c.op.book, .int .i64 c.op.units, .int .i64 c.op.cust, .int .i64 c.op.amount] (by omega)).trans a4
                  obtain ⟨v6, hv⟩ : ∃ v, v = v5.setRow g5 #[Value.int .i64 c.node, .int .i64 c.op.kind, .int .i64 c.op.book, .int .i64 c.op.units, .int .i64 c.op.cust, .int .i64 c.op.amount] := ⟨_, rfl⟩
                  rw [← hv] at a5 a4 hHeld2 ⊢
                  clear hv hHeld
                  have hHeld := hHeld2
                  clear hHeld2
                  refine wpAnyH_done (by kernel_rfl) ?_ _
                  exact hQ.out _ _ _ _ _ _ _ hHeld a4 a5
                case mo45 => exact AllReadyH.nil
              case mo44 => exact AllReadyH.nil
            case mo43 => exact AllReadyH.nil
          case mo42 => exact AllReadyH.nil
        case mo41 => exact AllReadyH.nil
    case mo31 =>
      refine' AllReadyH.cons (i := 5) (o := ?o46) ?hi46 (fun K hK => ?st46) ?mo46
      case hi46 => simp only [List.getElem?_toArray, List.getElem?_cons_succ, List.getElem?_cons_zero]; rfl
      case st46 =>
        go_simp
        refine hK.out _ _ (hHeld.alloc hHeld.size _) (fun hHeld2 => ?_)
        clear hK K
        try simp only [Act.put, List.setIfInBounds_toArray, List.set_cons_zero, List.set_cons_succ]
        have a5 : (v0.alloc (.cells #[.int .i64 0, .int .i64 0, .int .i64 0, .int .i64 0, .int .i64 0, .int .i64 0] 30)).heap[v0.heap.size]? = _ := heap_alloc_new _ _
        have a5l := hHeld.size
        obtain ⟨v1, hv⟩ : ∃ v, v = v0.alloc (.cells #[.int .i64 0, .int .i64 0, .int .i64 0, .int .i64 0, .int .i64 0, .int .i64 0] 30) := ⟨_, rfl⟩
        rw [← hv] at a5 hHeld2 ⊢
        clear hv hHeld
        have hHeld := hHeld2
        clear hHeld2
        obtain ⟨g5, hg⟩ : ∃ g, g = v0.heap.size := ⟨_, rfl⟩
        rw [← hg] at a5 a5l ⊢
        clear hg
        refine wpAnyH_ready (rs := [1, 4]) (by kernel_rfl) (by simp) ?_
        refine' AllReadyH.cons (i := 1) (o := ?o47) ?hi47 (fun K hK => ?st47) ?mo47
        case hi47 => simp only [List.getElem?_toArray, List.getElem?_cons_succ, List.getElem?_cons_zero]; rfl
        case st47 =>
          go_simp
          refine (F1.out _ hHeld).mono ?_
          rintro e v2 ⟨rfl, h6, h7⟩
          replace a5 := (h7.block _ (lt_some a5)).trans a5
          clear h7 hHeld
          go_simp
          refine hK.out _ _ h6 (fun hHeld => ?_)
          clear hK K h6
          try simp only [Act.put, List.setIfInBounds_toArray, List.set_cons_zero, List.set_cons_succ]
          refine wpAnyH_ready (rs := [3, 4]) (by kernel_rfl) (by simp) ?_
          refine' AllReadyH.cons (i := 3) (o := ?o48) ?hi48 (fun K hK => ?st48) ?mo48
          case hi48 => simp only [List.getElem?_toArray, List.getElem?_cons_succ, List.getElem?_cons_zero]; rfl
          case st48 =>
            go_simp
            refine (F3.out _ hHeld).mono ?_
            rintro e v3 ⟨rfl, h6, h7⟩
            replace a5 := (h7.block _ (lt_some a5)).trans a5
            clear h7 hHeld
            go_simp
            refine hK.out _ _ h6 (fun hHeld => ?_)
            clear hK K h6
            try simp only [Act.put, List.setIfInBounds_toArray, List.set_cons_zero, List.set_cons_succ]
            refine wpAnyH_ready (rs := [4]) (by kernel_rfl) (by simp) ?_
            refine' AllReadyH.cons (i := 4) (o := ?o49) ?hi49 (fun K hK => ?st49) ?mo49
            case hi49 => simp only [List.getElem?_toArray, List.getElem?_cons_succ, List.getElem?_cons_zero]; rfl
            case st49 =>
              go_simp
              refine hK.out _ _ (hHeld.alloc hHeld.size _) (fun hHeld2 => ?_)
              clear hK K
              try simp only [Act.put, List.setIfInBounds_toArray, List.set_cons_zero, List.set_cons_succ]
              have a4 : (v3.alloc (.cells #[.int .i64 0, .int .i64 0, .int .i64 0, .int .i64 0, .int .i64 0, .int .i64 0] 28)).heap[v3.heap.size]? = _ := heap_alloc_new _ _
              have hne := Nat.ne_of_lt (lt_some a5)
              replace a5 := (heap_alloc_old v3 (.cells #[.int .i64 0, .int .i64 0, .int .i64 0, .int .i64 0, .int .i64 0, .int .i64 0] 28) (lt_some a5)).trans a5
              have a4l := hHeld.size
              obtain ⟨v4, hv⟩ : ∃ v, v = v3.alloc (.cells #[.int .i64 0, .int .i64 0, .int .i64 0, .int .i64 0, .int .i64 0, .int .i64 0] 28) := ⟨_, rfl⟩
              rw [← hv] at a4 a5 hHeld2 ⊢
              clear hv hHeld
              have hHeld := hHeld2
              clear hHeld2
              obtain ⟨g4, hg⟩ : ∃ g, g = v3.heap.size := ⟨_, rfl⟩
              rw [← hg] at a4 a4l hne ⊢
              clear hg
              refine wpAnyH_ready (rs := [6]) (by kernel_rfl) (by simp) ?_
              refine' AllReadyH.cons (i := 6) (o := ?o50) ?hi50 (fun K hK => ?st50) ?mo50
              case hi50 => simp only [List.getElem?_toArray, List.getElem?_cons_succ, List.getElem?_cons_zero]; rfl
              case st50 =>
                refine step_store_row rfl 28 (.tmp 3) (.tmp 9) rfl g4 #[Value.int .i64 c.node, .int .i64 c.op.kind, .int .i64 c.op.book, .int .i64 c.op.units, .int .i64 c.op.cust, .int .i64 c.op.amount] rfl rfl 28 _ a4 ask_size rfl (one6 _ _ _ _ _ _) ?_
                refine hK.out _ _ (hHeld.trans (setRow_below _ a4l)) (fun hHeld2 => ?_)
                clear hK K
                try simp only [Act.put]
                replace a4 : (v4.setRow g4 #[Value.int .i64 c.node, .int .i64 c.op.kind, .int .i64 c.op.book, .int .i64 c.op.units, .int .i64 c.op.cust, .int .i64 c.op.amount]).heap[g4]? = some (.cells #[Value.int .i64 c.node, .int .i64 c.op.kind, .int .i64 c.op.book, .int .i64 c.op.units, .int .i64 c.op.cust, .int .i64 c.op.amount] 28 (0, 0)) := setRow_heap _ _ _ _ _ _ a4
                replace a5 := (setRow_other _ g4 g5 #[Value.int .i64 c.node, .int .i64 c.op.kind, .int .i64 c.op.book, .int .i64 c.op.units, .int .i64 c.op.cust, .int .i64 c.op.amount] (by omega)).trans a5
                obtain ⟨v5, hv⟩ : ∃ v, v = v4.setRow g4 #[Value.int .i64 c.node, .int .i64 c.op.kind, .int .i64 c.op.book, .int .i64 c.op.units, .int .i64 c.op.cust, .int .i64 c.op.amount] := ⟨_, rfl⟩
                rw [← hv] at a4 a5 hHeld2 ⊢
                clear hv hHeld
                have hHeld := hHeld2
                clear hHeld2
                refine wpAnyH_ready (rs := [7]) (by kernel_rfl) (by simp) ?_
                refine' AllReadyH.cons (i := 7) (o := ?o51) ?hi51 (fun K hK => ?st51) ?mo51
                case hi51 => simp only [List.getElem?_toArray, List.getElem?_cons_succ, List.getElem?_cons_zero]; rfl
                case st51 =>
                  refine step_store_row rfl 30 (.tmp 4) (.tmp 11) rfl g5 #[Value.int .i64 c.node, .int .i64 c.op.kind, .int .i64 c.op.book, .int .i64 c.op.units, .int .i64 c.op.cust, .int .i64 c.op.amount] rfl rfl 30 _ a5 rask_size rfl (one6 _ _ _ _ _ _) ?_
                  refine hK.out _ _ (hHeld.trans (setRow_below _ a5l)) (fun hHeld2 => ?_)
                  clear hK K
                  try simp only [Act.put]
                  replace a5 : (v5.setRow g5 #[Value.int .i64 c.node, .int .i64 c.op.kind, .int .i64 c.op.book, .int .i64 c.op.units, .int .i64 c.op.cust, .int .i64 c.op.amount]).heap[g5]? = some (.cells #[Value.int .i64 c.node, .int .i64 c.op.kind, .int .i64 c.op.book, .int .i64 c.op.units, .int .i64 c.op.cust, .int .i64 c.op.amount] 30 (0, 0)) := setRow_heap _ _ _ _ _ _ a5
                  replace a4 := (setRow_other _ g5 g4 #[Value.int .i64 c.node, .int .i64 c.op.kind, .int .i64 c.op.book, .int .i64 c.op.units, .int .i64 c.op.cust, .int .i64 c.op.amount] (by omega)).trans a4
                  obtain ⟨v6, hv⟩ : ∃ v, v = v5.setRow g5 #[Value.int .i64 c.node, .int .i64 c.op.kind, .int .i64 c.op.book, .int .i64 c.op.units, .int .i64 c.op.cust, .int .i64 c.op.amount] := ⟨_, rfl⟩
                  rw [← hv] at a5 a4 hHeld2 ⊢
                  clear hv hHeld
                  have hHeld := hHeld2
                  clear hHeld2
                  refine wpAnyH_done (by kernel_rfl) ?_ _
                  exact hQ.out _ _ _ _ _ _ _ hHeld a4 a5
                case mo51 => exact AllReadyH.nil
              case mo50 => exact AllReadyH.nil
            case mo49 => exact AllReadyH.nil
          case mo48 =>
            refine' AllReadyH.cons (i := 4) (o := ?o52) ?hi52 (fun K hK => ?st52) ?mo52
            case hi52 => simp only [List.getElem?_toArray, List.getElem?_cons_succ, List.getElem?_cons_zero]; rfl
            case st52 =>
              go_simp
              refine hK.out _ _ (hHeld.alloc hHeld.size _) (fun hHeld2 => ?_)
              clear hK K
              try simp only [Act.put, List.setIfInBounds_toArray, List.set_cons_zero, List.set_cons_succ]
              have a4 : (v2.alloc (.cells #[.int .i64 0, .int .i64 0, .int .i64 0, .int .i64 0, .int .i64 0, .int .i64 0] 28)).heap[v2.heap.size]? = _ := heap_alloc_new _ _
              have hne := Nat.ne_of_lt (lt_some a5)
              replace a5 := (heap_alloc_old v2 (.cells #[.int .i64 0, .int .i64 0, .int .i64 0, .int .i64 0, .int .i64 0, .int .i64 0] 28) (lt_some a5)).trans a5
              have a4l := hHeld.size
              obtain ⟨v3, hv⟩ : ∃ v, v = v2.alloc (.cells #[.int .i64 0, .int .i64 0, .int .i64 0, .int .i64 0, .int .i64 0, .int .i64 0] 28) := ⟨_, rfl⟩
              rw [← hv] at a4 a5 hHeld2 ⊢
              clear hv hHeld
              have hHeld := hHeld2
              clear hHeld2
              obtain ⟨g4, hg⟩ : ∃ g, g = v2.heap.size := ⟨_, rfl⟩
              rw [← hg] at a4 a4l hne ⊢
              clear hg
              refine wpAnyH_ready (rs := [3]) (by kernel_rfl) (by simp) ?_
              refine' AllReadyH.cons (i := 3) (o := ?o53) ?hi53 (fun K hK => ?st53) ?mo53
              case hi53 => simp only [List.getElem?_toArray, List.getElem?_cons_succ, List.getElem?_cons_zero]; rfl
              case st53 =>
                go_simp
                refine (F3.out _ hHeld).mono ?_
                rintro e v4 ⟨rfl, h6, h7⟩
                replace a4 := (h7.block _ (lt_some a4)).trans a4
                replace a5 := (h7.block _ (lt_some a5)).trans a5
                clear h7 hHeld
                go_simp
                refine hK.out _ _ h6 (fun hHeld => ?_)
                clear hK K h6
                try simp only [Act.put, List.setIfInBounds_toArray, List.set_cons_zero, List.set_cons_succ]
                refine wpAnyH_ready (rs := [6]) (by kernel_rfl) (by simp) ?_
                refine' AllReadyH.cons (i := 6) (o := ?o54) ?hi54 (fun K hK => ?st54) ?mo54
                case hi54 => simp only [List.getElem?_toArray, List.getElem?_cons_succ, List.getElem?_cons_zero]; rfl
                case st54 =>
                  refine step_store_row rfl 28 (.tmp 3) (.tmp 9) rfl g4 #[Value.int .i64 c.node, .int .i64 c.op.kind, .int .i64 c.op.book, .int .i64 c.op.units, .int .i64 c.op.cust, .int .i64 c.op.amount] rfl rfl 28 _ a4 ask_size rfl (one6 _ _ _ _ _ _) ?_
                  refine hK.out _ _ (hHeld.trans (setRow_below _ a4l)) (fun hHeld2 => ?_)
                  clear hK K
                  try simp only [Act.put]
                  replace a4 : (v4.setRow g4 #[Value.int .i64 c.node, .int .i64 c.op.kind, .int .i64 c.op.book, .int .i64 c.op.units, .int .i64 c.op.cust, .int .i64 c.op.amount]).heap[g4]? = some (.cells #[Value.int .i64 c.node, .int .i64 c.op.kind, .int .i64 c.op.book, .int .i64 c.op.units, .int .i64 c.op.cust, .int .i64 c.op.amount] 28 (0, 0)) := setRow_heap _ _ _ _ _ _ a4
                  replace a5 := (setRow_other _ g4 g5 #[Value.int .i64 c.node, .int .i64 c.op.kind, .int .i64 c.op.book, .int .i64 c.op.units, .int .i64 c.op.cust, .int .i64 c.op.amount] (by omega)).trans a5
                  obtain ⟨v5, hv⟩ : ∃ v, v = v4.setRow g4 #[Value.int .i64 c.node, .int .i64 c.op.kind, .int .i64 c.op.book, .int .i64 c.op.units, .int .i64 c.op.cust, .int .i64 c.op.amount] := ⟨_, rfl⟩
                  rw [← hv] at a4 a5 hHeld2 ⊢
                  clear hv hHeld
                  have hHeld := hHeld2
                  clear hHeld2
                  refine wpAnyH_ready (rs := [7]) (by kernel_rfl) (by simp) ?_
                  refine' AllReadyH.cons (i := 7) (o := ?o55) ?hi55 (fun K hK => ?st55) ?mo55
                  case hi55 => simp only [List.getElem?_toArray, List.getElem?_cons_succ, List.getElem?_cons_zero]; rfl
                  case st55 =>
                    refine step_store_row rfl 30 (.tmp 4) (.tmp 11) rfl g5 #[Value.int .i64 c.node, .int .i64 c.op.kind, .int .i64 c.op.book, .int .i64 c.op.units, .int .i64 c.op.cust, .int .i64 c.op.amount] rfl rfl 30 _ a5 rask_size rfl (one6 _ _ _ _ _ _) ?_
                    refine hK.out _ _ (hHeld.trans (setRow_below _ a5l)) (fun hHeld2 => ?_)
                    clear hK K
                    try simp only [Act.put]
                    replace a5 : (v5.setRow g5 #[Value.int .i64 c.node, .int .i64 c.op.kind, .int .i64 c.op.book, .int .i64 c.op.units, .int .i64 c.op.cust, .int .i64 c.op.amount]).heap[g5]? = some (.cells #[Value.int .i64 c.node, .int .i64 c.op.kind, .int .i64 c.op.book, .int .i64 c.op.units, .int .i64 c.op.cust, .int .i64 c.op.amount] 30 (0, 0)) := setRow_heap _ _ _ _ _ _ a5
                    replace a4 := (setRow_other _ g5 g4 #[Value.int .i64 c.node, .int .i64 c.op.kind, .int .i64 c.op.book, .int .i64 c.op.units, .int .i64 c.op.cust, .int .i64 c.op.amount] (by omega)).trans a4
                    obtain ⟨v6, hv⟩ : ∃ v, v = v5.setRow g5 #[Value.int .i64 c.node, .int .i64 c.op.kind, .int .i64 c.op.book, .int .i64 c.op.units, .int .i64 c.op.cust, .int .i64 c.op.amount] := ⟨_, rfl⟩
                    rw [← hv] at a5 a4 hHeld2 ⊢
                    clear hv hHeld
                    have hHeld := hHeld2
                    clear hHeld2
                    refine wpAnyH_done (by kernel_rfl) ?_ _
                    exact hQ.out _ _ _ _ _ _ _ hHeld a4 a5
                  case mo55 => exact AllReadyH.nil
                case mo54 => exact AllReadyH.nil
              case mo53 => exact AllReadyH.nil
            case mo52 => exact AllReadyH.nil
        case mo47 =>
          refine' AllReadyH.cons (i := 4) (o := ?o56) ?hi56 (fun K hK => ?st56) ?mo56
          case hi56 => simp only [List.getElem?_toArray, List.getElem?_cons_succ, List.getElem?_cons_zero]; rfl
          case st56 =>
            go_simp
            refine hK.out _ _ (hHeld.alloc hHeld.size _) (fun hHeld2 => ?_)
            clear hK K
            try simp only [Act.put, List.setIfInBounds_toArray, List.set_cons_zero, List.set_cons_succ]
            have a4 : (v1.alloc (.cells #[.int .i64 0, .int .i64 0, .int .i64 0, .int .i64 0, .int .i64 0, .int .i64 0] 28)).heap[v1.heap.size]? = _ := heap_alloc_new _ _
            have hne := Nat.ne_of_lt (lt_some a5)
            replace a5 := (heap_alloc_old v1 (.cells #[.int .i64 0, .int .i64 0, .int .i64 0, .int .i64 0, .int .i64 0, .int .i64 0] 28) (lt_some a5)).trans a5
            have a4l := hHeld.size
            obtain ⟨v2, hv⟩ : ∃ v, v = v1.alloc (.cells #[.int .i64 0, .int .i64 0, .int .i64 0, .int .i64 0, .int .i64 0, .int .i64 0] 28) := ⟨_, rfl⟩
            rw [← hv] at a4 a5 hHeld2 ⊢
            clear hv hHeld
            have hHeld := hHeld2
            clear hHeld2
            obtain ⟨g4, hg⟩ : ∃ g, g = v1.heap.size := ⟨_, rfl⟩
            rw [← hg] at a4 a4l hne ⊢
            clear hg
            refine wpAnyH_ready (rs := [1]) (by kernel_rfl) (by simp) ?_
            refine' AllReadyH.cons (i := 1) (o := ?o57) ?hi57 (fun K hK => ?st57) ?mo57
            case hi57 => simp only [List.getElem?_toArray, List.getElem?_cons_succ, List.getElem?_cons_zero]; rfl
            case st57 =>
              go_simp
              refine (F1.out _ hHeld).mono ?_
              rintro e v3 ⟨rfl, h6, h7⟩
              replace a4 := (h7.block _ (lt_some a4)).trans a4
              replace a5 := (h7.block _ (lt_some a5)).trans a5
              clear h7 hHeld
              go_simp
              refine hK.out _ _ h6 (fun hHeld => ?_)
              clear hK K h6
              try simp only [Act.put, List.setIfInBounds_toArray, List.set_cons_zero, List.set_cons_succ]
              refine wpAnyH_ready (rs := [3]) (by kernel_rfl) (by simp) ?_
              refine' AllReadyH.cons (i := 3) (o := ?o58) ?hi58 (fun K hK => ?st58) ?mo58
              case hi58 => simp only [List.getElem?_toArray, List.getElem?_cons_succ, List.getElem?_cons_zero]; rfl
              case st58 =>
                go_simp
                refine (F3.out _ hHeld).mono ?_
                rintro e v4 ⟨rfl, h6, h7⟩
                replace a4 := (h7.block _ (lt_some a4)).trans a4
                replace a5 := (h7.block _ (lt_some a5)).trans a5
                clear h7 hHeld
                go_simp
                refine hK.out _ _ h6 (fun hHeld => ?_)
                clear hK K h6
                try simp only [Act.put, List.setIfInBounds_toArray, List.set_cons_zero, List.set_cons_succ]
                refine wpAnyH_ready (rs := [6]) (by kernel_rfl) (by simp) ?_
                refine' AllReadyH.cons (i := 6) (o := ?o59) ?hi59 (fun K hK => ?st59) ?mo59
                case hi59 => simp only [List.getElem?_toArray, List.getElem?_cons_succ, List.getElem?_cons_zero]; rfl
                case st59 =>
                  refine step_store_row rfl 28 (.tmp 3) (.tmp 9) rfl g4 #[Value.int .i64 c.node, .int .i64 c.op.kind, .int .i64 c.op.book, .int .i64 c.op.units, .int .i64 c.op.cust, .int .i64 c.op.amount] rfl rfl 28 _ a4 ask_size rfl (one6 _ _ _ _ _ _) ?_
                  refine hK.out _ _ (hHeld.trans (setRow_below _ a4l)) (fun hHeld2 => ?_)
                  clear hK K
                  try simp only [Act.put]
                  replace a4 : (v4.setRow g4 #[Value.int .i64 c.node, .int .i64 c.op.kind, .int .i64 c.op.book, .int .i64 c.op.units, .int .i64 c.op.cust, .int .i64 c.op.amount]).heap[g4]? = some (.cells #[Value.int .i64 c.node, .int .i64 c.op.kind, .int .i64 c.op.book, .int .i64 c.op.units, .int .i64 c.op.cust, .int .i64 c.op.amount] 28 (0, 0)) := setRow_heap _ _ _ _ _ _ a4
                  replace a5 := (setRow_other _ g4 g5 #[Value.int .i64 c.node, .int .i64 c.op.kind, .int .i64 c.op.book, .int .i64 c.op.units, .int .i64 c.op.cust, .int .i64 c.op.amount] (by omega)).trans a5
                  obtain ⟨v5, hv⟩ : ∃ v, v = v4.setRow g4 #[Value.int .i64 c.node, .int .i64 c.op.kind, .int .i64 c.op.book, .int .i64 c.op.units, .int .i64 c.op.cust, .int .i64 c.op.amount] := ⟨_, rfl⟩
                  rw [← hv] at a4 a5 hHeld2 ⊢
                  clear hv hHeld
                  have hHeld := hHeld2
                  clear hHeld2
                  refine wpAnyH_ready (rs := [7]) (by kernel_rfl) (by simp) ?_
                  refine' AllReadyH.cons (i := 7) (o := ?o60) ?hi60 (fun K hK => ?st60) ?mo60
                  case hi60 => simp only [List.getElem?_toArray, List.getElem?_cons_succ, List.getElem?_cons_zero]; rfl
                  case st60 =>
                    refine step_store_row rfl 30 (.tmp 4) (.tmp 11) rfl g5 #[Value.int .i64 c.node, .int .i64 c.op.kind, .int .i64 c.op.book, .int .i64 c.op.units, .int .i64 c.op.cust, .int .i64 c.op.amount] rfl rfl 30 _ a5 rask_size rfl (one6 _ _ _ _ _ _) ?_
                    refine hK.out _ _ (hHeld.trans (setRow_below _ a5l)) (fun hHeld2 => ?_)
                    clear hK K
                    try simp only [Act.put]
                    replace a5 : (v5.setRow g5 #[Value.int .i64 c.node, .int .i64 c.op.kind, .int .i64 c.op.book, .int .i64 c.op.units, .int .i64 c.op.cust, .int .i64 c.op.amount]).heap[g5]? = some (.cells #[Value.int .i64 c.node, .int .i64 c.op.kind, .int .i64 c.op.book, .int .i64 c.op.units, .int .i64 c.op.cust, .int .i64 c.op.amount] 30 (0, 0)) := setRow_heap _ _ _ _ _ _ a5
                    replace a4 := (setRow_other _ g5 g4 #[Value.int .i64 c.node, .int .i64 c.op.kind, .int .i64 c.op.book, .int .i64 c.op.units, .int .i64 c.op.cust, .int .i64 c.op.amount] (by omega)).trans a4
                    obtain ⟨v6, hv⟩ : ∃ v, v = v5.setRow g5 #[Value.int .i64 c.node, .int .i64 c.op.kind, .int .i64 c.op.book, .int .i64 c.op.units, .int .i64 c.op.cust, .int .i64 c.op.amount] := ⟨_, rfl⟩
                    rw [← hv] at a5 a4 hHeld2 ⊢
                    clear hv hHeld
                    have hHeld := hHeld2
                    clear hHeld2
                    refine wpAnyH_done (by kernel_rfl) ?_ _
                    exact hQ.out _ _ _ _ _ _ _ hHeld a4 a5
                  case mo60 => exact AllReadyH.nil
                case mo59 => exact AllReadyH.nil
              case mo58 => exact AllReadyH.nil
            case mo57 => exact AllReadyH.nil
          case mo56 => exact AllReadyH.nil
      case mo46 => exact AllReadyH.nil
end Pl
end Go.Proofs.Ytnljfnhndnkckaa
