/- Region 2 of PlanAsks, walked by hand: all is as the document says. -/
import Derived.Test.YtnljfnhndnkckaaPlW
namespace Go.Proofs.Ytnljfnhndnkckaa
set_option maxRecDepth 100000
open Go.RowKit
open Go.Proofs.Ytnljfnhndnkckaa.Pk (one_at one_free one_set lt_some grown_set grown_trans below_grown grown_refl)
namespace Pl
open Wt (Wan may Opn mayOp)

noncomputable def pa_2 : Code := (Try.f3.body.bind (regionAt 2)).getD .skip
set_option maxHeartbeats 12800000 in
theorem pa2 (z0 z2 z5 z6 z7 z8 z9 z10 z11 z12 z13 z14 z15 z16 z17 z18 z19 z20 z21 z22 z23 z24 z25 z26 z27 z28 z29 z30 z31 z32 z33 z34 z35 z36 z37 z38 z39 z40 z41 z42 z43 z44 z45 z46 z47 z48 z49 z50 z51 z52 z53 z54 z55 z56 z57 z58 z59 z60 z61 z62 z63 z64 z65 z66 z67 z68 z69 z70 z71 z72 z73 z74 z75 : Value) (W : World) (q g3 g4 : Nat) (x : Wan) (c : Stp) (lf lb : List Stp)
    (CB : Hid (∀ w', Below W.heap.size W w' → BoxW w' q x))
    (CC : Hid (∀ w', Below W.heap.size W w' → w'.heap[g3]? = some (.cells #[Value.int .i64 c.node, .int .i64 c.op.kind, .int .i64 c.op.book, .int .i64 c.op.units, .int .i64 c.op.cust, .int .i64 c.op.amount] 28 (0, 0)) ∧ w'.heap[g4]? = some (.cells #[Value.int .i64 c.node, .int .i64 c.op.kind, .int .i64 c.op.book, .int .i64 c.op.units, .int .i64 c.op.cust, .int .i64 c.op.amount] 30 (0, 0))))
    (F1 : Hid (∀ w', Below W.heap.size W w' → Calls Try.prog 9 #[.agg #[.int .i64 x.book, .int .i64 x.cust, .int .i64 x.dead, .int .i64 x.u0, .int .i64 x.u1, .int .i64 x.u2, .int .i64 x.price]] w' fun e w'' => ∃ A k, e = .returned (.slice A lf.length k) ∧ RowT 28 w'' W.heap.size (.slice A lf.length k) lf.length lf ∧ Below W.heap.size W w'' ∧ Below w'.heap.size w' w''))
    (F2 : Hid (∀ w', Below W.heap.size W w' → Calls Try.prog 10 #[.agg #[.int .i64 x.book, .int .i64 x.cust, .int .i64 x.dead, .int .i64 x.u0, .int .i64 x.u1, .int .i64 x.u2, .int .i64 x.price]] w' fun e w'' => ∃ A k, e = .returned (.slice A lf.length k) ∧ RowT 30 w'' W.heap.size (.slice A lf.length k) lf.length lf ∧ Below W.heap.size W w'' ∧ Below w'.heap.size w' w''))
    (F3 : Hid (∀ w', Below W.heap.size W w' → Calls Try.prog 11 #[.agg #[.int .i64 x.book, .int .i64 x.cust, .int .i64 x.dead, .int .i64 x.u0, .int .i64 x.u1, .int .i64 x.u2, .int .i64 x.price]] w' fun e w'' => ∃ A k, e = .returned (.slice A lb.length k) ∧ RowT 28 w'' W.heap.size (.slice A lb.length k) lb.length lb ∧ Below W.heap.size W w'' ∧ Below w'.heap.size w' w''))
    (F4 : Hid (∀ w', Below W.heap.size W w' → Calls Try.prog 12 #[.agg #[.int .i64 x.book, .int .i64 x.cust, .int .i64 x.dead, .int .i64 x.u0, .int .i64 x.u1, .int .i64 x.u2, .int .i64 x.price]] w' fun e w'' => ∃ A k, e = .returned (.slice A lb.length k) ∧ RowT 30 w'' W.heap.size (.slice A lb.length k) lb.length lb ∧ Below W.heap.size W w'' ∧ Below w'.heap.size w' w''))
    (S1 : Hid (∀ w' A k B d, Below W.heap.size W w' → RowT 28 w' W.heap.size (.slice A lf.length k) lf.length lf → RowT 30 w' W.heap.size (.slice B lf.length d) lf.length lf → Calls Try.prog 8 #[.slice A lf.length k, .slice B lf.length d] w' fun e w'' => e = .returned (.bool true) ∧ Below W.heap.size W w''))
    (S2 : Hid (∀ w' A k B d, Below W.heap.size W w' → RowT 28 w' W.heap.size (.slice A lb.length k) lb.length lb → RowT 30 w' W.heap.size (.slice B lb.length d) lb.length lb → Calls Try.prog 8 #[.slice A lb.length k, .slice B lb.length d] w' fun e w'' => e = .returned (.bool true) ∧ Below W.heap.size W w''))
    (EQ : ∀ w, (Op.equalIn 10000 26 (.agg #[.int .i64 c.op.kind, .int .i64 c.op.book, .int .i64 c.op.units, .int .i64 c.op.cust, .int .i64 c.op.amount]) (.agg #[.int .i64 c.op.kind, .int .i64 c.op.book, .int .i64 c.op.units, .int .i64 c.op.cust, .int .i64 c.op.amount])).run Try.prog w = .ok true w)
    (Q : Exit → Act → World → Prop)
    (hP : ∀ c a d v w, Q (.panic c) (Act.put a d v) w → Q (.panic c) a w)
    (hQ : ∀ (y12 y13 y14 y15 y16 y17 y18 y19 y20 y21 y22 y23 y24 y25 y26 y27 y28 y29 y30 y31 y32 y33 y34 y35 y36 y37 y38 : Value) (W3 : World), Below W.heap.size W W3 → Q .normal ⟨#[z0, .pointer (some ⟨q, 0, none⟩), z2, .pointer (some ⟨g3, 0, none⟩), .pointer (some ⟨g4, 0, none⟩), z5, z6, z7, z8, z9, z10, z11, y12, y13, y14, y15, y16, y17, y18, y19, y20, y21, y22, y23, y24, y25, y26, y27, y28, y29, y30, y31, y32, y33, y34, y35, y36, y37, y38, .bool false, z40, z41, z42, z43, z44, z45, z46, z47, z48, z49, z50, z51, z52, z53, z54, z55, z56, z57, z58, z59, z60, z61, z62, z63, z64, z65, z66, z67, z68, z69, z70, z71, z72, z73, z74, z75], []⟩ W3) :
    Code.wp Try.prog pa_2 Q ⟨#[z0, .pointer (some ⟨q, 0, none⟩), z2, .pointer (some ⟨g3, 0, none⟩), .pointer (some ⟨g4, 0, none⟩), z5, z6, z7, z8, z9, z10, z11, z12, z13, z14, z15, z16, z17, z18, z19, z20, z21, z22, z23, z24, z25, z26, z27, z28, z29, z30, z31, z32, z33, z34, z35, z36, z37, z38, z39, z40, z41, z42, z43, z44, z45, z46, z47, z48, z49, z50, z51, z52, z53, z54, z55, z56, z57, z58, z59, z60, z61, z62, z63, z64, z65, z66, z67, z68, z69, z70, z71, z72, z73, z74, z75], []⟩ W := by
  conv => arg 2; whnf
  have q1 : (c.node != c.node) = false := by simp
  have b0 : Below W.heap.size W W.drew := ⟨rfl, rfl, rfl, Nat.le_refl _, fun _ _ => rfl⟩
  refine wp_region_held_drew (S := fun w => Below W.heap.size W w) (by kernel_rfl) b0 (fun hHeld => ?_)
  replace hQ := Lib.hid hQ
  clear b0
  obtain ⟨v0, hv⟩ : ∃ v, v = W.drew := ⟨_, rfl⟩
  rw [← hv] at hHeld ⊢
  clear hv
  refine' wpAnyH_take (i := 0) (oi := ?o1) (v := ?v1) ?hi1 (by kernel_rfl) (by kernel_rfl) (by kernel_rfl) (fun c a w h => hP c a _ _ w h) (Or.inl ⟨?hw1, ?hy1⟩) hHeld ?rest1
  case hi1 => simp only [List.getElem?_toArray, List.getElem?_cons_zero]; rfl
  case hw1 => rfl
  case hy1 =>
    intro w hSw
    obtain ⟨c0, c1, c2, c3, c4, c5, c6⟩ := (CB.out _ hSw).cells
    go_simp
    try with_reducible rfl
  simp only [Act.put, List.setIfInBounds_toArray, List.set_cons_zero, List.set_cons_succ]
  refine' wpAnyH_take (i := 2) (oi := ?o2) (v := ?v2) ?hi2 (by kernel_rfl) (by kernel_rfl) (by kernel_rfl) (fun c a w h => hP c a _ _ w h) (Or.inl ⟨?hw2, ?hy2⟩) hHeld ?rest2
  case hi2 => simp only [List.getElem?_toArray, List.getElem?_cons_succ, List.getElem?_cons_zero]; rfl
  case hw2 => rfl
  case hy2 =>
    intro w hSw
    obtain ⟨c0, c1, c2, c3, c4, c5, c6⟩ := (CB.out _ hSw).cells
    go_simp
    try with_reducible rfl
  simp only [Act.put, List.setIfInBounds_toArray, List.set_cons_zero, List.set_cons_succ]
  refine wpAnyH_ready (rs := [1]) (by kernel_rfl) (by simp) ?_
  refine' AllReadyH.cons (i := 1) (o := ?o3) ?hi3 (fun K hK => ?st3) ?mo3
  case hi3 => simp only [List.getElem?_toArray, List.getElem?_cons_succ, List.getElem?_cons_zero]; rfl
  case st3 =>
    go_simp
    refine (F1.out _ hHeld).mono ?_
    rintro e v1 ⟨A, kA, rfl, R1, h6, h7⟩
    clear h7 hHeld
    go_simp
    refine hK.out _ _ h6 (fun hHeld => ?_)
    clear hK K h6
    try simp only [Act.put, List.setIfInBounds_toArray, List.set_cons_zero, List.set_cons_succ]
    refine wpAnyH_ready (rs := [3]) (by kernel_rfl) (by simp) ?_
    refine' AllReadyH.cons (i := 3) (o := ?o4) ?hi4 (fun K hK => ?st4) ?mo4
    case hi4 => simp only [List.getElem?_toArray, List.getElem?_cons_succ, List.getElem?_cons_zero]; rfl
    case st4 =>
      go_simp
      refine (F2.out _ hHeld).mono ?_
      rintro e v2 ⟨B, kB, rfl, R2, h6, h7⟩
      replace R1 := rt_below R1 h7
      clear h7 hHeld
      go_simp
      refine hK.out _ _ h6 (fun hHeld => ?_)
      clear hK K h6
      try simp only [Act.put, List.setIfInBounds_toArray, List.set_cons_zero, List.set_cons_succ]
      refine wpAnyH_ready (rs := [4]) (by kernel_rfl) (by simp) ?_
      refine' AllReadyH.cons (i := 4) (o := ?o5) ?hi5 (fun K hK => ?st5) ?mo5
      case hi5 => simp only [List.getElem?_toArray, List.getElem?_cons_succ, List.getElem?_cons_zero]; rfl
      case st5 =>
        go_simp
        refine (S1.out _ _ _ _ _ hHeld R1 R2).mono ?_
        rintro e v3 ⟨rfl, h6⟩
        clear hHeld R1 R2
        go_simp
        refine hK.out _ _ h6 (fun hHeld => ?_)
        clear hK K h6
        try simp only [Act.put, List.setIfInBounds_toArray, List.set_cons_zero, List.set_cons_succ]
        refine' wpAnyH_take (i := 5) (oi := ?o6) (v := ?v6) ?hi6 (by kernel_rfl) (by kernel_rfl) (by kernel_rfl) (fun c a w h => hP c a _ _ w h) (Or.inl ⟨?hw6, ?hy6⟩) hHeld ?rest6
        case hi6 => simp only [List.getElem?_toArray, List.getElem?_cons_succ, List.getElem?_cons_zero]; rfl
        case hw6 => rfl
        case hy6 =>
          intro w _
          go_simp
          try with_reducible rfl
        simp only [Act.put, List.setIfInBounds_toArray, List.set_cons_zero, List.set_cons_succ]
        refine' wpAnyH_take (i := 6) (oi := ?o7) (v := ?v7) ?hi7 (by kernel_rfl) (by kernel_rfl) (by kernel_rfl) (fun c a w h => hP c a _ _ w h) (Or.inl ⟨?hw7, ?hy7⟩) hHeld ?rest7
        case hi7 => simp only [List.getElem?_toArray, List.getElem?_cons_succ, List.getElem?_cons_zero]; rfl
        case hw7 => rfl
        case hy7 =>
          intro w _
          go_simp
          try with_reducible rfl
        simp only [Act.put, List.setIfInBounds_toArray, List.set_cons_zero, List.set_cons_succ]
        refine' wpAnyH_take (i := 7) (oi := ?o8) (v := ?v8) ?hi8 (by kernel_rfl) (by kernel_rfl) (by kernel_rfl) (fun c a w h => hP c a _ _ w h) (Or.inl ⟨?hw8, ?hy8⟩) hHeld ?rest8
        case hi8 => simp only [List.getElem?_toArray, List.getElem?_cons_succ, List.getElem?_cons_zero]; rfl
        case hw8 => rfl
        case hy8 =>
          intro w hSw
          obtain ⟨c0, c1, c2, c3, c4, c5, c6⟩ := (CB.out _ hSw).cells
          go_simp
          try with_reducible rfl
        simp only [Act.put, List.setIfInBounds_toArray, List.set_cons_zero, List.set_cons_succ]
        refine' wpAnyH_take (i := 9) (oi := ?o9) (v := ?v9) ?hi9 (by kernel_rfl) (by kernel_rfl) (by kernel_rfl) (fun c a w h => hP c a _ _ w h) (Or.inl ⟨?hw9, ?hy9⟩) hHeld ?rest9
        case hi9 => simp only [List.getElem?_toArray, List.getElem?_cons_succ, List.getElem?_cons_zero]; rfl
        case hw9 => rfl
        case hy9 =>
          intro w hSw
          obtain ⟨c0, c1, c2, c3, c4, c5, c6⟩ := (CB.out _ hSw).cells
          go_simp
          try with_reducible rfl
        simp only [Act.put, List.setIfInBounds_toArray, List.set_cons_zero, List.set_cons_succ]
        refine wpAnyH_ready (rs := [8]) (by kernel_rfl) (by simp) ?_
        refine' AllReadyH.cons (i := 8) (o := ?o10) ?hi10 (fun K hK => ?st10) ?mo10
        case hi10 => simp only [List.getElem?_toArray, List.getElem?_cons_succ, List.getElem?_cons_zero]; rfl
        case st10 =>
          go_simp
          refine (F3.out _ hHeld).mono ?_
          rintro e v4 ⟨C, kC, rfl, R3, h6, h7⟩
          clear h7 hHeld
          go_simp
          refine hK.out _ _ h6 (fun hHeld => ?_)
          clear hK K h6
          try simp only [Act.put, List.setIfInBounds_toArray, List.set_cons_zero, List.set_cons_succ]
          refine wpAnyH_ready (rs := [10]) (by kernel_rfl) (by simp) ?_
          refine' AllReadyH.cons (i := 10) (o := ?o11) ?hi11 (fun K hK => ?st11) ?mo11
          case hi11 => simp only [List.getElem?_toArray, List.getElem?_cons_succ, List.getElem?_cons_zero]; rfl
          case st11 =>
            go_simp
            refine (F4.out _ hHeld).mono ?_
            rintro e v5 ⟨D, kD, rfl, R4, h6, h7⟩
            replace R3 := rt_below R3 h7
            clear h7 hHeld
            go_simp
            refine hK.out _ _ h6 (fun hHeld => ?_)
            clear hK K h6
            try simp only [Act.put, List.setIfInBounds_toArray, List.set_cons_zero, List.set_cons_succ]
            refine wpAnyH_ready (rs := [11]) (by kernel_rfl) (by simp) ?_
            refine' AllReadyH.cons (i := 11) (o := ?o12) ?hi12 (fun K hK => ?st12) ?mo12
            case hi12 => simp only [List.getElem?_toArray, List.getElem?_cons_succ, List.getElem?_cons_zero]; rfl
            case st12 =>
              go_simp
              refine (S2.out _ _ _ _ _ hHeld R3 R4).mono ?_
              rintro e v6 ⟨rfl, h6⟩
              clear hHeld R3 R4
              go_simp
              refine hK.out _ _ h6 (fun hHeld => ?_)
              clear hK K h6
              try simp only [Act.put, List.setIfInBounds_toArray, List.set_cons_zero, List.set_cons_succ]
              refine' wpAnyH_take (i := 12) (oi := ?o13) (v := ?v13) ?hi13 (by kernel_rfl) (by kernel_rfl) (by kernel_rfl) (fun c a w h => hP c a _ _ w h) (Or.inl ⟨?hw13, ?hy13⟩) hHeld ?rest13
              case hi13 => simp only [List.getElem?_toArray, List.getElem?_cons_succ, List.getElem?_cons_zero]; rfl
              case hw13 => rfl
              case hy13 =>
                intro w _
                go_simp
                try with_reducible rfl
              simp only [Act.put, List.setIfInBounds_toArray, List.set_cons_zero, List.set_cons_succ]
              refine' wpAnyH_take (i := 13) (oi := ?o14) (v := ?v14) ?hi14 (by kernel_rfl) (by kernel_rfl) (by kernel_rfl) (fun c a w h => hP c a _ _ w h) (Or.inl ⟨?hw14, ?hy14⟩) hHeld ?rest14
              case hi14 => simp only [List.getElem?_toArray, List.getElem?_cons_succ, List.getElem?_cons_zero]; rfl
              case hw14 => rfl
              case hy14 =>
                intro w _
                go_simp
                try with_reducible rfl
              simp only [Act.put, List.setIfInBounds_toArray, List.set_cons_zero, List.set_cons_succ]
              refine' wpAnyH_take (i := 14) (oi := ?o15) (v := ?v15) ?hi15 (by kernel_rfl) (by kernel_rfl) (by kernel_rfl) (fun c a w h => hP c a _ _ w h) (Or.inl ⟨?hw15, ?hy15⟩) hHeld ?rest15
              case hi15 => simp only [List.getElem?_toArray, List.getElem?_cons_succ, List.getElem?_cons_zero]; rfl
              case hw15 => rfl
              case hy15 =>
                intro w _
                go_simp
                try with_reducible rfl
              simp only [Act.put, List.setIfInBounds_toArray, List.set_cons_zero, List.set_cons_succ]
              refine' wpAnyH_take (i := 15) (oi := ?o16) (v := ?v16) ?hi16 (by kernel_rfl) (by kernel_rfl) (by kernel_rfl) (fun c a w h => hP c a _ _ w h) (Or.inl ⟨?hw16, ?hy16⟩) hHeld ?rest16
              case hi16 => simp only [List.getElem?_toArray, List.getElem?_cons_succ, List.getElem?_cons_zero]; rfl
              case hw16 => rfl
              case hy16 =>
                intro w _
                go_simp
                try with_reducible rfl
              simp only [Act.put, List.setIfInBounds_toArray, List.set_cons_zero, List.set_cons_succ]
              refine' wpAnyH_take (i := 16) (oi := ?o17) (v := ?v17) ?hi17 (by kernel_rfl) (by kernel_rfl) (by kernel_rfl) (fun c a w h => hP c a _ _ w h) (Or.inl ⟨?hw17, ?hy17⟩) hHeld ?rest17
              case hi17 => simp only [List.getElem?_toArray, List.getElem?_cons_succ, List.getElem?_cons_zero]; rfl
              case hw17 => rfl
              case hy17 =>
                intro w hSw
                obtain ⟨p3, p4⟩ := CC.out _ hSw; have d0 : w.cell? ⟨g3, 0, none⟩ = some (.int .i64 c.node) := one_at p3; have d1 : w.cell? ⟨g3, 1, none⟩ = some (.int .i64 c.op.kind) := one_at p3; have d2 : w.cell? ⟨g3, 2, none⟩ = some (.int .i64 c.op.book) := one_at p3; have d3 : w.cell? ⟨g3, 3, none⟩ = some (.int .i64 c.op.units) := one_at p3; have d4 : w.cell? ⟨g3, 4, none⟩ = some (.int .i64 c.op.cust) := one_at p3; have d5 : w.cell? ⟨g3, 5, none⟩ = some (.int .i64 c.op.amount) := one_at p3
                go_simp
                try with_reducible rfl
              simp only [Act.put, List.setIfInBounds_toArray, List.set_cons_zero, List.set_cons_succ]
              refine' wpAnyH_take (i := 17) (oi := ?o18) (v := ?v18) ?hi18 (by kernel_rfl) (by kernel_rfl) (by kernel_rfl) (fun c a w h => hP c a _ _ w h) (Or.inl ⟨?hw18, ?hy18⟩) hHeld ?rest18
              case hi18 => simp only [List.getElem?_toArray, List.getElem?_cons_succ, List.getElem?_cons_zero]; rfl
              case hw18 => rfl
              case hy18 =>
                intro w _
                go_simp
                try with_reducible rfl
              simp only [Act.put, List.setIfInBounds_toArray, List.set_cons_zero, List.set_cons_succ]
              refine' wpAnyH_take (i := 18) (oi := ?o19) (v := ?v19) ?hi19 (by kernel_rfl) (by kernel_rfl) (by kernel_rfl) (fun c a w h => hP c a _ _ w h) (Or.inl ⟨?hw19, ?hy19⟩) hHeld ?rest19
              case hi19 => simp only [List.getElem?_toArray, List.getElem?_cons_succ, List.getElem?_cons_zero]; rfl
              case hw19 => rfl
              case hy19 =>
                intro w hSw
                obtain ⟨p3, p4⟩ := CC.out _ hSw; have d0 : w.cell? ⟨g4, 0, none⟩ = some (.int .i64 c.node) := one_at p4; have d1 : w.cell? ⟨g4, 1, none⟩ = some (.int .i64 c.op.kind) := one_at p4; have d2 : w.cell? ⟨g4, 2, none⟩ = some (.int .i64 c.op.book) := one_at p4; have d3 : w.cell? ⟨g4, 3, none⟩ = some (.int .i64 c.op.units) := one_at p4; have d4 : w.cell? ⟨g4, 4, none⟩ = some (.int .i64 c.op.cust) := one_at p4; have d5 : w.cell? ⟨g4, 5, none⟩ = some (.int .i64 c.op.amount) := one_at p4
                go_simp
                try with_reducible rfl
              simp only [Act.put, List.setIfInBounds_toArray, List.set_cons_zero, List.set_cons_succ]
              refine' wpAnyH_take (i := 19) (oi := ?o20) (v := ?v20) ?hi20 (by kernel_rfl) (by kernel_rfl) (by kernel_rfl) (fun c a w h => hP c a _ _ w h) (Or.inl ⟨?hw20, ?hy20⟩) hHeld ?rest20
              case hi20 => simp only [List.getElem?_toArray, List.getElem?_cons_succ, List.getElem?_cons_zero]; rfl
              case hw20 => rfl
              case hy20 =>
                intro w _
                go_simp
                try with_reducible rfl
              simp only [Act.put, List.setIfInBounds_toArray, List.set_cons_zero, List.set_cons_succ]
              refine' wpAnyH_take (i := 20) (oi := ?o21) (v := ?v21) ?hi21 (by kernel_rfl) (by kernel_rfl) (by kernel_rfl) (fun c a w h => hP c a _ _ w h) (Or.inl ⟨?hw21, ?hy21⟩) hHeld ?rest21
              case hi21 => simp only [List.getElem?_toArray, List.getElem?_cons_succ, List.getElem?_cons_zero]; rfl
              case hw21 => rfl
              case hy21 =>
                intro w _
                go_simp
                try with_reducible rfl
              simp only [Act.put, List.setIfInBounds_toArray, List.set_cons_zero, List.set_cons_succ]
              refine' wpAnyH_take (i := 21) (oi := ?o22) (v := ?v22) ?hi22 (by kernel_rfl) (by kernel_rfl) (by kernel_rfl) (fun c a w h => hP c a _ _ w h) (Or.inl ⟨?hw22, ?hy22⟩) hHeld ?rest22
              case hi22 => simp only [List.getElem?_toArray, List.getElem?_cons_succ, List.getElem?_cons_zero]; rfl
              case hw22 => rfl
              case hy22 =>
                intro w _
                go_simp
                try with_reducible rfl
              simp only [Act.put, List.setIfInBounds_toArray, List.set_cons_zero, List.set_cons_succ]
              refine' wpAnyH_take (i := 22) (oi := ?o23) (v := ?v23) ?hi23 (by kernel_rfl) (by kernel_rfl) (by kernel_rfl) (fun c a w h => hP c a _ _ w h) (Or.inl ⟨?hw23, ?hy23⟩) hHeld ?rest23
              case hi23 => simp only [List.getElem?_toArray, List.getElem?_cons_succ, List.getElem?_cons_zero]; rfl
              case hw23 => rfl
              case hy23 =>
                intro w _
                go_simp
                try with_reducible rfl
              simp only [Act.put, List.setIfInBounds_toArray, List.set_cons_zero, List.set_cons_succ]
              refine' wpAnyH_take (i := 23) (oi := ?o24) (v := ?v24) ?hi24 (by kernel_rfl) (by kernel_rfl) (by kernel_rfl) (fun c a w h => hP c a _ _ w h) (Or.inl ⟨?hw24, ?hy24⟩) hHeld ?rest24
              case hi24 => simp only [List.getElem?_toArray, List.getElem?_cons_succ, List.getElem?_cons_zero]; rfl
              case hw24 => rfl
              case hy24 =>
                intro w hSw
                obtain ⟨p3, p4⟩ := CC.out _ hSw; have d0 : w.cell? ⟨g3, 0, none⟩ = some (.int .i64 c.node) := one_at p3; have d1 : w.cell? ⟨g3, 1, none⟩ = some (.int .i64 c.op.kind) := one_at p3; have d2 : w.cell? ⟨g3, 2, none⟩ = some (.int .i64 c.op.book) := one_at p3; have d3 : w.cell? ⟨g3, 3, none⟩ = some (.int .i64 c.op.units) := one_at p3; have d4 : w.cell? ⟨g3, 4, none⟩ = some (.int .i64 c.op.cust) := one_at p3; have d5 : w.cell? ⟨g3, 5, none⟩ = some (.int .i64 c.op.amount) := one_at p3
                go_simp
                try with_reducible rfl
              simp only [Act.put, List.setIfInBounds_toArray, List.set_cons_zero, List.set_cons_succ]
              refine' wpAnyH_take (i := 24) (oi := ?o25) (v := ?v25) ?hi25 (by kernel_rfl) (by kernel_rfl) (by kernel_rfl) (fun c a w h => hP c a _ _ w h) (Or.inl ⟨?hw25, ?hy25⟩) hHeld ?rest25
              case hi25 => simp only [List.getElem?_toArray, List.getElem?_cons_succ, List.getElem?_cons_zero]; rfl
              case hw25 => rfl
              case hy25 =>
                intro w _
                go_simp
                try with_reducible rfl
              simp only [Act.put, List.setIfInBounds_toArray, List.set_cons_zero, List.set_cons_succ]
              refine' wpAnyH_take (i := 25) (oi := ?o26) (v := ?v26) ?hi26 (by kernel_rfl) (by kernel_rfl) (by kernel_rfl) (fun c a w h => hP c a _ _ w h) (Or.inl ⟨?hw26, ?hy26⟩) hHeld ?rest26
              case hi26 => simp only [List.getElem?_toArray, List.getElem?_cons_succ, List.getElem?_cons_zero]; rfl
              case hw26 => rfl
              case hy26 =>
                intro w hSw
                obtain ⟨p3, p4⟩ := CC.out _ hSw; have d0 : w.cell? ⟨g4, 0, none⟩ = some (.int .i64 c.node) := one_at p4; have d1 : w.cell? ⟨g4, 1, none⟩ = some (.int .i64 c.op.kind) := one_at p4; have d2 : w.cell? ⟨g4, 2, none⟩ = some (.int .i64 c.op.book) := one_at p4; have d3 : w.cell? ⟨g4, 3, none⟩ = some (.int .i64 c.op.units) := one_at p4; have d4 : w.cell? ⟨g4, 4, none⟩ = some (.int .i64 c.op.cust) := one_at p4; have d5 : w.cell? ⟨g4, 5, none⟩ = some (.int .i64 c.op.amount) := one_at p4
                go_simp
                try with_reducible rfl
              simp only [Act.put, List.setIfInBounds_toArray, List.set_cons_zero, List.set_cons_succ]
              refine' wpAnyH_take (i := 26) (oi := ?o27) (v := ?v27) ?hi27 (by kernel_rfl) (by kernel_rfl) (by kernel_rfl) (fun c a w h => hP c a _ _ w h) (Or.inl ⟨?hw27, ?hy27⟩) hHeld ?rest27
              case hi27 => simp only [List.getElem?_toArray, List.getElem?_cons_succ, List.getElem?_cons_zero]; rfl
              case hw27 => rfl
              case hy27 =>
                intro w _
                go_simp
                try with_reducible rfl
              simp only [Act.put, List.setIfInBounds_toArray, List.set_cons_zero, List.set_cons_succ]
              refine' wpAnyH_take (i := 27) (oi := ?o28) (v := ?v28) ?hi28 (by kernel_rfl) (by kernel_rfl) (by kernel_rfl) (fun c a w h => hP c a _ _ w h) (Or.inl ⟨?hw28, ?hy28⟩) hHeld ?rest28
              case hi28 => simp only [List.getElem?_toArray, List.getElem?_cons_succ, List.getElem?_cons_zero]; rfl
              case hw28 => rfl
              case hy28 =>
                intro w _
                go_simp
                try with_reducible rfl
              simp only [Act.put, List.setIfInBounds_toArray, List.set_cons_zero, List.set_cons_succ]
              refine wpAnyH_done (by kernel_rfl) ?_ _
              exact hQ.out _ _ _ _ _ _ _ _ _ _ _ _ _ _ _ _ _ _ _ _ _ _ _ _ _ _ _ _ hHeld
            case mo12 => exact AllReadyH.nil
          case mo11 => exact AllReadyH.nil
        case mo10 => exact AllReadyH.nil
      case mo5 => exact AllReadyH.nil
    case mo4 => exact AllReadyH.nil
  case mo3 => exact AllReadyH.nil
end Pl
end Go.Proofs.Ytnljfnhndnkckaa
