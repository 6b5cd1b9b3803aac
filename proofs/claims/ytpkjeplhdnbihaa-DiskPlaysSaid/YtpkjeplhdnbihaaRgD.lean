/- The document's Rename: a file put among the files. -/
import Derived.Test.YtpkjeplhdnbihaaRfF
namespace Go.Proofs.Ytpkjeplhdnbihaa
open Go.RowKit
open Go.Proofs.Ytpkjeplhdnbihaa.Pk
namespace Dk
noncomputable def rren_13 : Code := (Try.f18.body.bind (regionAt 13)).getD .skip
set_option maxHeartbeats 3200000 in
set_option maxRecDepth 20000 in
theorem rren13 (z1 z2 z3 z4 z5 z6 z7 z8 z11 z12 z13 z14 z15 z16 z17 z18 z19 z20 z21 z22 z23 z24 z25 z26 z27 z28 z29 z30 z31 z32 z33 z34 z35 z36 z37 z38 z39 z40 z41 z42 z43 z44 z45 z46 z47 z48 z49 z50 z51 z52 z53 z54 z55 z56 z57 z58 z59 z60 z61 z62 z63 z64 z65 z66 z67 : Value) (W : World) (q room n c i b k : Nat) (A : Option Addr) (L : St) (x y : Bs) (R : Rf W q room L (.slice A n c)) (hbk : W.heap[b]? = some (.cells #[.string (str x), .string (str y), .int .i64 (k : Nat)] 65 (0, 0))) (hn : L.length = n) (hi : i ≤ n) (hl : n ≤ 900) (Q : Exit → Act → World → Prop)
    (hP : ∀ c a d v w, Q (.panic c) (Act.put a d v) w → Q (.panic c) a w)
    (hQ : ∀ (y47 y48 y49 y50 y51 y52 y53 y54 y55 y56 y57 y58 y59 y60 y61 y62 y63 y64 y65 y66 y67 : Value) (W3 : World) (A3 : Option Addr) (c3 : Nat), Below W.heap.size W W3 → W3.ownsRow W.heap.size 65 3 (.slice A3 (n + 1) c3) (n + 1) (flat (L.take i ++ (x, y, k) :: L.drop i)) → Q .normal ⟨#[.pointer (some ⟨q, 0, none⟩), z1, z2, z3, z4, z5, z6, z7, z8, .pointer (some ⟨b, 0, none⟩), .int .i64 (i : Nat), z11, z12, z13, z14, z15, z16, z17, z18, z19, z20, z21, z22, z23, z24, z25, z26, z27, z28, z29, z30, z31, z32, z33, z34, z35, z36, z37, z38, z39, z40, z41, z42, z43, z44, z45, z46, y47, y48, y49, y50, y51, y52, y53, y54, y55, y56, y57, y58, y59, y60, y61, y62, y63, y64, y65, y66, y67], []⟩ (W3.setCell ⟨q, 1, none⟩ (.slice A3 (n + 1) c3))) :
    Code.wp Try.prog rren_13 Q ⟨#[.pointer (some ⟨q, 0, none⟩), z1, z2, z3, z4, z5, z6, z7, z8, .pointer (some ⟨b, 0, none⟩), .int .i64 (i : Nat), z11, z12, z13, z14, z15, z16, z17, z18, z19, z20, z21, z22, z23, z24, z25, z26, z27, z28, z29, z30, z31, z32, z33, z34, z35, z36, z37, z38, z39, z40, z41, z42, z43, z44, z45, z46, z47, z48, z49, z50, z51, z52, z53, z54, z55, z56, z57, z58, z59, z60, z61, z62, z63, z64, z65, z66, z67], []⟩ W := by
  have R1 : Rf W.drew q room L (.slice A n c) := ⟨R.cells, R.row⟩
  have hBW : Below W.heap.size W W.drew := ⟨rfl, rfl, rfl, Nat.le_refl _, fun _ _ => rfl⟩
  have hsz : W.drew.heap.size = W.heap.size := rfl
  obtain ⟨hst, B, hsl, hsrc⟩ := R1.cuts hn hi
  have hi2 : (i : Int) ≤ (n : Int) := by omega
  have hi3 : (0 : Int) ≤ (i : Int) := by omega
  have hX : (L.take i).length = i := by rw [List.length_take]; omega
  have hn1 : i + 1 + (n - i) = n + 1 := by omega
  have hfc : (ent (x, y, k)).toArray = #[.string (str x), .string (str y), .int .i64 (k : Nat)] := rfl
  have hbk1 : W.drew.heap[b]? = some (.cells #[.string (str x), .string (str y), .int .i64 (k : Nat)] 65 (0, 0)) := hbk
  conv => arg 2; whnf
  refine wp_region_till (S := fun W' => W'.cell? ⟨q, 1, none⟩ = some (.slice A n c) ∧ W'.cell? ⟨b, 0, none⟩ = some (.string (str x)) ∧ W'.cell? ⟨b, 1, none⟩ = some (.string (str y)) ∧ W'.cell? ⟨b, 2, none⟩ = some (.int .i64 (k : Nat))) 21 (by kernel_rfl) (by kernel_rfl) ?_
  rw [← hsz] at hQ hBW
  generalize W.drew = W1 at *
  have KS : ∀ W', Below W1.heap.size W1 W' → W'.cell? ⟨q, 1, none⟩ = some (.slice A n c) ∧ W'.cell? ⟨b, 0, none⟩ = some (.string (str x)) ∧ W'.cell? ⟨b, 1, none⟩ = some (.string (str y)) ∧ W'.cell? ⟨b, 2, none⟩ = some (.int .i64 (k : Nat)) := fun W' hb => by
    have h := (hb.block b (lt_some hbk1)).trans hbk1
    exact ⟨one_at (i := 1) (R1.below hb).cells, one_at (i := 0) h, one_at (i := 1) h, one_at (i := 2) h⟩
  have hHeld := KS W1 (Below.refl _ _)
  obtain ⟨A1a, c1a, w1a, A2a, c2a, w2a, A3a, c3a, w3a, ha_⟩ := chain_a (c := c) (cc := c - i) (p := (x, y, k)) hX (by omega) (by omega) hsrc
  have r1a := ha_.r1
  have r2a := ha_.r2
  have r3a := ha_.r3
  have oa := ha_.row
  rw [hn1] at r3a oa
  obtain ⟨A1b, c1b, w1b, A2b, c2b, w2b, A3b, c3b, w3b, hb_⟩ := chain_b (c := c) (cc := c - i) (p := (x, y, k)) hX (by omega) (by omega) hsrc
  have r1b := hb_.r1
  have r2b := hb_.r2
  have r3b := hb_.r3
  have ob := hb_.row
  rw [hn1] at r3b ob
  obtain ⟨A1c, c1c, w1c, A2c, c2c, w2c, A3c, c3c, w3c, hc_⟩ := chain_c (c := c) (cc := c - i) (p := (x, y, k)) hX (by omega) (by omega) hsrc
  have r1c := hc_.r1
  have r2c := hc_.r2
  have r3c := hc_.r3
  have oc := hc_.row
  rw [hn1] at r3c oc
  rw [hfc] at r2a r1b r1c
  have SE : Below W1.heap.size W1 (W1.alloc (.cells #[] 65)) := (Below.refl _ _).alloc (Nat.le_refl _) _
  have SF : Below W1.heap.size W1 (W1.alloc (.cells #[.string (str x), .string (str y), .int .i64 (k : Nat)] 65)) := (Below.refl _ _).alloc (Nat.le_refl _) _
  have SEF : Below W1.heap.size W1 ((W1.alloc (.cells #[] 65)).alloc (.cells #[.string (str x), .string (str y), .int .i64 (k : Nat)] 65)) := SE.alloc SE.size _
  have SFE : Below W1.heap.size W1 ((W1.alloc (.cells #[.string (str x), .string (str y), .int .i64 (k : Nat)] 65)).alloc (.cells #[] 65)) := SF.alloc SF.size _
  have S1F : Below W1.heap.size W1 (w1a.alloc (.cells #[.string (str x), .string (str y), .int .i64 (k : Nat)] 65)) := ha_.b1.alloc ha_.b1.size _
  clear hsrc R hsz hbk
  refine' wpAnyH_take (i := 0) (oi := ?o1) (v := ?v1) ?hi1 (by kernel_rfl) (by kernel_rfl) (by kernel_rfl) (fun c a w h => hP c a _ _ w h) (Or.inl ⟨?hw1, ?hy1⟩) hHeld ?rest1
  case hi1 => simp only [List.getElem?_toArray, List.getElem?_cons_zero]; rfl
  case hw1 => rfl
  case hy1 =>
    intro w hSw
    go_simp
    try with_reducible rfl
  simp only [Act.put, List.setIfInBounds_toArray, List.set_cons_zero, List.set_cons_succ]
  refine' wpAnyH_take (i := 2) (oi := ?o2) (v := ?v2) ?hi2 (by kernel_rfl) (by kernel_rfl) (by kernel_rfl) (fun c a w h => hP c a _ _ w h) (Or.inl ⟨?hw2, ?hy2⟩) hHeld ?rest2
  case hi2 => simp only [List.getElem?_toArray, List.getElem?_cons_succ, List.getElem?_cons_zero]; rfl
  case hw2 => rfl
  case hy2 =>
    intro w hSw
    go_simp
    try with_reducible rfl
  simp only [Act.put, List.setIfInBounds_toArray, List.set_cons_zero, List.set_cons_succ]
  refine' wpAnyH_take (i := 3) (oi := ?o3) (v := ?v3) ?hi3 (by kernel_rfl) (by kernel_rfl) (by kernel_rfl) (fun c a w h => hP c a _ _ w h) (Or.inl ⟨?hw3, ?hy3⟩) hHeld ?rest3
  case hi3 => simp only [List.getElem?_toArray, List.getElem?_cons_succ, List.getElem?_cons_zero]; rfl
  case hw3 => rfl
  case hy3 =>
    intro w hSw
    go_simp
    try with_reducible rfl
  simp only [Act.put, List.setIfInBounds_toArray, List.set_cons_zero, List.set_cons_succ]
  refine' wpAnyH_take (i := 4) (oi := ?o4) (v := ?v4) ?hi4 (by kernel_rfl) (by kernel_rfl) (by kernel_rfl) (fun c a w h => hP c a _ _ w h) (Or.inl ⟨?hw4, ?hy4⟩) hHeld ?rest4
  case hi4 => simp only [List.getElem?_toArray, List.getElem?_cons_succ, List.getElem?_cons_zero]; rfl
  case hw4 => rfl
  case hy4 =>
    intro w hSw
    go_simp
    try with_reducible rfl
  simp only [Act.put, List.setIfInBounds_toArray, List.set_cons_zero, List.set_cons_succ]
  refine' wpAnyH_take (i := 5) (oi := ?o5) (v := ?v5) ?hi5 (by kernel_rfl) (by kernel_rfl) (by kernel_rfl) (fun c a w h => hP c a _ _ w h) (Or.inl ⟨?hw5, ?hy5⟩) hHeld ?rest5
  case hi5 => simp only [List.getElem?_toArray, List.getElem?_cons_succ, List.getElem?_cons_zero]; rfl
  case hw5 => rfl
  case hy5 =>
    intro w hSw
    obtain ⟨e1, e2, e3, e4⟩ := hSw
    go_simp
    try with_reducible rfl
  simp only [Act.put, List.setIfInBounds_toArray, List.set_cons_zero, List.set_cons_succ]
  refine' wpAnyH_take (i := 6) (oi := ?o6) (v := ?v6) ?hi6 (by kernel_rfl) (by kernel_rfl) (by kernel_rfl) (fun c a w h => hP c a _ _ w h) (Or.inl ⟨?hw6, ?hy6⟩) hHeld ?rest6
  case hi6 => simp only [List.getElem?_toArray, List.getElem?_cons_succ, List.getElem?_cons_zero]; rfl
  case hw6 => rfl
  case hy6 =>
    intro w hSw
    go_simp
    try with_reducible rfl
  simp only [Act.put, List.setIfInBounds_toArray, List.set_cons_zero, List.set_cons_succ]
  refine' wpAnyH_take (i := 7) (oi := ?o7) (v := ?v7) ?hi7 (by kernel_rfl) (by kernel_rfl) (by kernel_rfl) (fun c a w h => hP c a _ _ w h) (Or.inl ⟨?hw7, ?hy7⟩) hHeld ?rest7
  case hi7 => simp only [List.getElem?_toArray, List.getElem?_cons_succ, List.getElem?_cons_zero]; rfl
  case hw7 => rfl
  case hy7 =>
    intro w hSw
    go_simp
    try with_reducible rfl
  simp only [Act.put, List.setIfInBounds_toArray, List.set_cons_zero, List.set_cons_succ]
  refine' wpAnyH_take (i := 9) (oi := ?o8) (v := ?v8) ?hi8 (by kernel_rfl) (by kernel_rfl) (by kernel_rfl) (fun c a w h => hP c a _ _ w h) (Or.inl ⟨?hw8, ?hy8⟩) hHeld ?rest8
  case hi8 => simp only [List.getElem?_toArray, List.getElem?_cons_succ, List.getElem?_cons_zero]; rfl
  case hw8 => rfl
  case hy8 =>
    intro w hSw
    obtain ⟨e1, e2, e3, e4⟩ := hSw
    go_simp
    try with_reducible rfl
  simp only [Act.put, List.setIfInBounds_toArray, List.set_cons_zero, List.set_cons_succ]
  refine' wpAnyH_take (i := 12) (oi := ?o9) (v := ?v9) ?hi9 (by kernel_rfl) (by kernel_rfl) (by kernel_rfl) (fun c a w h => hP c a _ _ w h) (Or.inl ⟨?hw9, ?hy9⟩) hHeld ?rest9
  case hi9 => simp only [List.getElem?_toArray, List.getElem?_cons_succ, List.getElem?_cons_zero]; rfl
  case hw9 => rfl
  case hy9 =>
    intro w hSw
    go_simp
    try with_reducible rfl
  simp only [Act.put, List.setIfInBounds_toArray, List.set_cons_zero, List.set_cons_succ]
  refine' wpAnyH_take (i := 13) (oi := ?o10) (v := ?v10) ?hi10 (by kernel_rfl) (by kernel_rfl) (by kernel_rfl) (fun c a w h => hP c a _ _ w h) (Or.inl ⟨?hw10, ?hy10⟩) hHeld ?rest10
  case hi10 => simp only [List.getElem?_toArray, List.getElem?_cons_succ, List.getElem?_cons_zero]; rfl
  case hw10 => rfl
  case hy10 =>
    intro w hSw
    go_simp
    try with_reducible rfl
  simp only [Act.put, List.setIfInBounds_toArray, List.set_cons_zero, List.set_cons_succ]
  refine' wpAnyH_take (i := 14) (oi := ?o11) (v := ?v11) ?hi11 (by kernel_rfl) (by kernel_rfl) (by kernel_rfl) (fun c a w h => hP c a _ _ w h) (Or.inl ⟨?hw11, ?hy11⟩) hHeld ?rest11
  case hi11 => simp only [List.getElem?_toArray, List.getElem?_cons_succ, List.getElem?_cons_zero]; rfl
  case hw11 => rfl
  case hy11 =>
    intro w hSw
    go_simp
    try with_reducible rfl
  simp only [Act.put, List.setIfInBounds_toArray, List.set_cons_zero, List.set_cons_succ]
  refine' wpAnyH_take (i := 15) (oi := ?o12) (v := ?v12) ?hi12 (by kernel_rfl) (by kernel_rfl) (by kernel_rfl) (fun c a w h => hP c a _ _ w h) (Or.inl ⟨?hw12, ?hy12⟩) hHeld ?rest12
  case hi12 => simp only [List.getElem?_toArray, List.getElem?_cons_succ, List.getElem?_cons_zero]; rfl
  case hw12 => rfl
  case hy12 =>
    intro w hSw
    obtain ⟨e1, e2, e3, e4⟩ := hSw
    go_simp
    try with_reducible rfl
  simp only [Act.put, List.setIfInBounds_toArray, List.set_cons_zero, List.set_cons_succ]
  refine' wpAnyH_take (i := 16) (oi := ?o13) (v := ?v13) ?hi13 (by kernel_rfl) (by kernel_rfl) (by kernel_rfl) (fun c a w h => hP c a _ _ w h) (Or.inl ⟨?hw13, ?hy13⟩) hHeld ?rest13
  case hi13 => simp only [List.getElem?_toArray, List.getElem?_cons_succ, List.getElem?_cons_zero]; rfl
  case hw13 => rfl
  case hy13 =>
    intro w hSw
    go_simp
    try with_reducible rfl
  simp only [Act.put, List.setIfInBounds_toArray, List.set_cons_zero, List.set_cons_succ]
  refine' wpAnyH_take (i := 17) (oi := ?o14) (v := ?v14) ?hi14 (by kernel_rfl) (by kernel_rfl) (by kernel_rfl) (fun c a w h => hP c a _ _ w h) (Or.inl ⟨?hw14, ?hy14⟩) hHeld ?rest14
  case hi14 => simp only [List.getElem?_toArray, List.getElem?_cons_succ, List.getElem?_cons_zero]; rfl
  case hw14 => rfl
  case hy14 =>
    intro w hSw
    go_simp
    try with_reducible rfl
  simp only [Act.put, List.setIfInBounds_toArray, List.set_cons_zero, List.set_cons_succ]
  refine wpAnyH_ready (rs := [1, 10]) (by kernel_rfl) (by simp) ?_
  refine' AllReadyH.cons (i := 1) (o := ?o15) ?hi15 (fun K hK => ?st15) ?mo15
  case hi15 => simp only [List.getElem?_toArray, List.getElem?_cons_succ, List.getElem?_cons_zero]; rfl
  case st15 =>
    go_simp
    refine hK.out _ _ (KS _ SE) (fun hHeld => ?_)
    clear hK K
    try simp only [Act.put, List.setIfInBounds_toArray, List.set_cons_zero, List.set_cons_succ]
    refine wpAnyH_ready (rs := [8, 10]) (by kernel_rfl) (by simp) ?_
    refine' AllReadyH.cons (i := 8) (o := ?o16) ?hi16 (fun K hK => ?st16) ?mo16
    case hi16 => simp only [List.getElem?_toArray, List.getElem?_cons_succ, List.getElem?_cons_zero]; rfl
    case st16 =>
      refine step_run_append rfl (.tmp 48) (.tmp 54) rfl rfl (.slice (some ⟨W1.heap.size, 0, none⟩) 0 0) (.slice A i c) rfl rfl r1a ?_
      refine hK.out _ _ (KS _ ha_.b1) (fun hHeld => ?_)
      clear hK K
      try simp only [Act.put, List.setIfInBounds_toArray, List.set_cons_zero, List.set_cons_succ]
      refine wpAnyH_ready (rs := [10]) (by kernel_rfl) (by simp) ?_
      refine' AllReadyH.cons (i := 10) (o := ?o17) ?hi17 (fun K hK => ?st17) ?mo17
      case hi17 => simp only [List.getElem?_toArray, List.getElem?_cons_succ, List.getElem?_cons_zero]; rfl
      case st17 =>
        go_simp
        refine hK.out _ _ (KS _ S1F) (fun hHeld => ?_)
        clear hK K
        try simp only [Act.put, List.setIfInBounds_toArray, List.set_cons_zero, List.set_cons_succ]
        refine wpAnyH_ready (rs := [11]) (by kernel_rfl) (by simp) ?_
        refine' AllReadyH.cons (i := 11) (o := ?o18) ?hi18 (fun K hK => ?st18) ?mo18
        case hi18 => simp only [List.getElem?_toArray, List.getElem?_cons_succ, List.getElem?_cons_zero]; rfl
        case st18 =>
          refine step_run_append rfl (.tmp 55) (.tmp 57) rfl rfl (.slice A1a i c1a) (.slice (some ⟨w1a.heap.size, 0, none⟩) 1 1) rfl rfl r2a ?_
          refine hK.out _ _ (KS _ ha_.b2) (fun hHeld => ?_)
          clear hK K
          try simp only [Act.put, List.setIfInBounds_toArray, List.set_cons_zero, List.set_cons_succ]
          refine wpAnyH_ready (rs := [18]) (by kernel_rfl) (by simp) ?_
          refine' AllReadyH.cons (i := 18) (o := ?o19) ?hi19 (fun K hK => ?st19) ?mo19
          case hi19 => simp only [List.getElem?_toArray, List.getElem?_cons_succ, List.getElem?_cons_zero]; rfl
          case st19 =>
            refine step_run_append rfl (.tmp 58) (.tmp 64) rfl rfl (.slice A2a (i + 1) c2a) (.slice B (n - i) (c - i)) rfl rfl r3a ?_
            refine hK.out _ _ (KS _ ha_.b3) (fun hHeld => ?_)
            clear hK K
            try simp only [Act.put, List.setIfInBounds_toArray, List.set_cons_zero, List.set_cons_succ]
            refine' wpAnyH_take (i := 19) (oi := ?o20) (v := ?v20) ?hi20 (by kernel_rfl) (by kernel_rfl) (by kernel_rfl) (fun c a w h => hP c a _ _ w h) (Or.inl ⟨?hw20, ?hy20⟩) hHeld ?rest20
            case hi20 => simp only [List.getElem?_toArray, List.getElem?_cons_succ, List.getElem?_cons_zero]; rfl
            case hw20 => rfl
            case hy20 =>
              intro w hSw
              obtain ⟨e1, e2, e3, e4⟩ := hSw
              go_simp
              try with_reducible rfl
            simp only [Act.put, List.setIfInBounds_toArray, List.set_cons_zero, List.set_cons_succ]
            refine' wpAnyH_take (i := 20) (oi := ?o21) (v := ?v21) ?hi21 (by kernel_rfl) (by kernel_rfl) (by kernel_rfl) (fun c a w h => hP c a _ _ w h) (Or.inl ⟨?hw21, ?hy21⟩) hHeld ?rest21
            case hi21 => simp only [List.getElem?_toArray, List.getElem?_cons_succ, List.getElem?_cons_zero]; rfl
            case hw21 => rfl
            case hy21 =>
              intro w hSw
              obtain ⟨e1, e2, e3, e4⟩ := hSw
              go_simp
              try with_reducible rfl
            simp only [Act.put, List.setIfInBounds_toArray, List.set_cons_zero, List.set_cons_succ]
            refine wpAnyH_done (by kernel_rfl) ?_ _
            refine tillQ_normal ?_
            refine' wpOp_step (i := 21) (o := ?o22) ?hi22 (fun K hK => ?_)
            case hi22 => simp only [List.getElem?_toArray, List.getElem?_cons_succ, List.getElem?_cons_zero]; rfl
            have d3 : w3a.cell? ⟨q, 1, none⟩ = some (.slice A n c) := one_at (i := 1) (R1.below ha_.b3).cells
            have f3 : w3a.frozen? ⟨q, 1, none⟩ = false := one_free (R1.below ha_.b3).cells
            go_simp
            refine hK _ _ ?_
            exact hQ _ _ _ _ _ _ _ _ _ _ _ _ _ _ _ _ _ _ _ _ _ w3a A3a c3a (hBW.trans ha_.b3) oa
          case mo19 => exact AllReadyH.nil
        case mo18 => exact AllReadyH.nil
      case mo17 => exact AllReadyH.nil
    case mo16 =>
      refine' AllReadyH.cons (i := 10) (o := ?o23) ?hi23 (fun K hK => ?st23) ?mo23
      case hi23 => simp only [List.getElem?_toArray, List.getElem?_cons_succ, List.getElem?_cons_zero]; rfl
      case st23 =>
        go_simp
        refine hK.out _ _ (KS _ SEF) (fun hHeld => ?_)
        clear hK K
        try simp only [Act.put, List.setIfInBounds_toArray, List.set_cons_zero, List.set_cons_succ]
        refine wpAnyH_ready (rs := [8]) (by kernel_rfl) (by simp) ?_
        refine' AllReadyH.cons (i := 8) (o := ?o24) ?hi24 (fun K hK => ?st24) ?mo24
        case hi24 => simp only [List.getElem?_toArray, List.getElem?_cons_succ, List.getElem?_cons_zero]; rfl
        case st24 =>
          refine step_run_append rfl (.tmp 48) (.tmp 54) rfl rfl (.slice (some ⟨W1.heap.size, 0, none⟩) 0 0) (.slice A i c) rfl rfl r1b ?_
          refine hK.out _ _ (KS _ hb_.b1) (fun hHeld => ?_)
          clear hK K
          try simp only [Act.put, List.setIfInBounds_toArray, List.set_cons_zero, List.set_cons_succ]
          refine wpAnyH_ready (rs := [11]) (by kernel_rfl) (by simp) ?_
          refine' AllReadyH.cons (i := 11) (o := ?o25) ?hi25 (fun K hK => ?st25) ?mo25
          case hi25 => simp only [List.getElem?_toArray, List.getElem?_cons_succ, List.getElem?_cons_zero]; rfl
          case st25 =>
            refine step_run_append rfl (.tmp 55) (.tmp 57) rfl rfl (.slice A1b i c1b) (.slice (some ⟨W1.heap.size + 1, 0, none⟩) 1 1) rfl rfl r2b ?_
            refine hK.out _ _ (KS _ hb_.b2) (fun hHeld => ?_)
            clear hK K
            try simp only [Act.put, List.setIfInBounds_toArray, List.set_cons_zero, List.set_cons_succ]
            refine wpAnyH_ready (rs := [18]) (by kernel_rfl) (by simp) ?_
            refine' AllReadyH.cons (i := 18) (o := ?o26) ?hi26 (fun K hK => ?st26) ?mo26
            case hi26 => simp only [List.getElem?_toArray, List.getElem?_cons_succ, List.getElem?_cons_zero]; rfl
            case st26 =>
              refine step_run_append rfl (.tmp 58) (.tmp 64) rfl rfl (.slice A2b (i + 1) c2b) (.slice B (n - i) (c - i)) rfl rfl r3b ?_
              refine hK.out _ _ (KS _ hb_.b3) (fun hHeld => ?_)
              clear hK K
              try simp only [Act.put, List.setIfInBounds_toArray, List.set_cons_zero, List.set_cons_succ]
              refine' wpAnyH_take (i := 19) (oi := ?o27) (v := ?v27) ?hi27 (by kernel_rfl) (by kernel_rfl) (by kernel_rfl) (fun c a w h => hP c a _ _ w h) (Or.inl ⟨?hw27, ?hy27⟩) hHeld ?rest27
              case hi27 => simp only [List.getElem?_toArray, List.getElem?_cons_succ, List.getElem?_cons_zero]; rfl
              case hw27 => rfl
              case hy27 =>
                intro w hSw
                obtain ⟨e1, e2, e3, e4⟩ := hSw
                go_simp
                try with_reducible rfl
              simp only [Act.put, List.setIfInBounds_toArray, List.set_cons_zero, List.set_cons_succ]
              refine' wpAnyH_take (i := 20) (oi := ?o28) (v := ?v28) ?hi28 (by kernel_rfl) (by kernel_rfl) (by kernel_rfl) (fun c a w h => hP c a _ _ w h) (Or.inl ⟨?hw28, ?hy28⟩) hHeld ?rest28
              case hi28 => simp only [List.getElem?_toArray, List.getElem?_cons_succ, List.getElem?_cons_zero]; rfl
              case hw28 => rfl
              case hy28 =>
                intro w hSw
                obtain ⟨e1, e2, e3, e4⟩ := hSw
                go_simp
                try with_reducible rfl
              simp only [Act.put, List.setIfInBounds_toArray, List.set_cons_zero, List.set_cons_succ]
              refine wpAnyH_done (by kernel_rfl) ?_ _
              refine tillQ_normal ?_
              refine' wpOp_step (i := 21) (o := ?o29) ?hi29 (fun K hK => ?_)
              case hi29 => simp only [List.getElem?_toArray, List.getElem?_cons_succ, List.getElem?_cons_zero]; rfl
              have d3 : w3b.cell? ⟨q, 1, none⟩ = some (.slice A n c) := one_at (i := 1) (R1.below hb_.b3).cells
              have f3 : w3b.frozen? ⟨q, 1, none⟩ = false := one_free (R1.below hb_.b3).cells
              go_simp
              refine hK _ _ ?_
              exact hQ _ _ _ _ _ _ _ _ _ _ _ _ _ _ _ _ _ _ _ _ _ w3b A3b c3b (hBW.trans hb_.b3) ob
            case mo26 => exact AllReadyH.nil
          case mo25 => exact AllReadyH.nil
        case mo24 => exact AllReadyH.nil
      case mo23 => exact AllReadyH.nil
  case mo15 =>
    refine' AllReadyH.cons (i := 10) (o := ?o30) ?hi30 (fun K hK => ?st30) ?mo30
    case hi30 => simp only [List.getElem?_toArray, List.getElem?_cons_succ, List.getElem?_cons_zero]; rfl
    case st30 =>
      go_simp
      refine hK.out _ _ (KS _ SF) (fun hHeld => ?_)
      clear hK K
      try simp only [Act.put, List.setIfInBounds_toArray, List.set_cons_zero, List.set_cons_succ]
      refine wpAnyH_ready (rs := [1]) (by kernel_rfl) (by simp) ?_
      refine' AllReadyH.cons (i := 1) (o := ?o31) ?hi31 (fun K hK => ?st31) ?mo31
      case hi31 => simp only [List.getElem?_toArray, List.getElem?_cons_succ, List.getElem?_cons_zero]; rfl
      case st31 =>
        go_simp
        refine hK.out _ _ (KS _ SFE) (fun hHeld => ?_)
        clear hK K
        try simp only [Act.put, List.setIfInBounds_toArray, List.set_cons_zero, List.set_cons_succ]
        refine wpAnyH_ready (rs := [8]) (by kernel_rfl) (by simp) ?_
        refine' AllReadyH.cons (i := 8) (o := ?o32) ?hi32 (fun K hK => ?st32) ?mo32
        case hi32 => simp only [List.getElem?_toArray, List.getElem?_cons_succ, List.getElem?_cons_zero]; rfl
        case st32 =>
          refine step_run_append rfl (.tmp 48) (.tmp 54) rfl rfl (.slice (some ⟨W1.heap.size + 1, 0, none⟩) 0 0) (.slice A i c) rfl rfl r1c ?_
          refine hK.out _ _ (KS _ hc_.b1) (fun hHeld => ?_)
          clear hK K
          try simp only [Act.put, List.setIfInBounds_toArray, List.set_cons_zero, List.set_cons_succ]
          refine wpAnyH_ready (rs := [11]) (by kernel_rfl) (by simp) ?_
          refine' AllReadyH.cons (i := 11) (o := ?o33) ?hi33 (fun K hK => ?st33) ?mo33
          case hi33 => simp only [List.getElem?_toArray, List.getElem?_cons_succ, List.getElem?_cons_zero]; rfl
          case st33 =>
            refine step_run_append rfl (.tmp 55) (.tmp 57) rfl rfl (.slice A1c i c1c) (.slice (some ⟨W1.heap.size, 0, none⟩) 1 1) rfl rfl r2c ?_
            refine hK.out _ _ (KS _ hc_.b2) (fun hHeld => ?_)
            clear hK K
            try simp only [Act.put, List.setIfInBounds_toArray, List.set_cons_zero, List.set_cons_succ]
            refine wpAnyH_ready (rs := [18]) (by kernel_rfl) (by simp) ?_
            refine' AllReadyH.cons (i := 18) (o := ?o34) ?hi34 (fun K hK => ?st34) ?mo34
            case hi34 => simp only [List.getElem?_toArray, List.getElem?_cons_succ, List.getElem?_cons_zero]; rfl
            case st34 =>
              refine step_run_append rfl (.tmp 58) (.tmp 64) rfl rfl (.slice A2c (i + 1) c2c) (.slice B (n - i) (c - i)) rfl rfl r3c ?_
              refine hK.out _ _ (KS _ hc_.b3) (fun hHeld => ?_)
              clear hK K
              try simp only [Act.put, List.setIfInBounds_toArray, List.set_cons_zero, List.set_cons_succ]
              refine' wpAnyH_take (i := 19) (oi := ?o35) (v := ?v35) ?hi35 (by kernel_rfl) (by kernel_rfl) (by kernel_rfl) (fun c a w h => hP c a _ _ w h) (Or.inl ⟨?hw35, ?hy35⟩) hHeld ?rest35
              case hi35 => simp only [List.getElem?_toArray, List.getElem?_cons_succ, List.getElem?_cons_zero]; rfl
              case hw35 => rfl
              case hy35 =>
                intro w hSw
                obtain ⟨e1, e2, e3, e4⟩ := hSw
                go_simp
                try with_reducible rfl
              simp only [Act.put, List.setIfInBounds_toArray, List.set_cons_zero, List.set_cons_succ]
              refine' wpAnyH_take (i := 20) (oi := ?o36) (v := ?v36) ?hi36 (by kernel_rfl) (by kernel_rfl) (by kernel_rfl) (fun c a w h => hP c a _ _ w h) (Or.inl ⟨?hw36, ?hy36⟩) hHeld ?rest36
              case hi36 => simp only [List.getElem?_toArray, List.getElem?_cons_succ, List.getElem?_cons_zero]; rfl
              case hw36 => rfl
              case hy36 =>
                intro w hSw
                obtain ⟨e1, e2, e3, e4⟩ := hSw
                go_simp
                try with_reducible rfl
              simp only [Act.put, List.setIfInBounds_toArray, List.set_cons_zero, List.set_cons_succ]
              refine wpAnyH_done (by kernel_rfl) ?_ _
              refine tillQ_normal ?_
              refine' wpOp_step (i := 21) (o := ?o37) ?hi37 (fun K hK => ?_)
              case hi37 => simp only [List.getElem?_toArray, List.getElem?_cons_succ, List.getElem?_cons_zero]; rfl
              have d3 : w3c.cell? ⟨q, 1, none⟩ = some (.slice A n c) := one_at (i := 1) (R1.below hc_.b3).cells
              have f3 : w3c.frozen? ⟨q, 1, none⟩ = false := one_free (R1.below hc_.b3).cells
              go_simp
              refine hK _ _ ?_
              exact hQ _ _ _ _ _ _ _ _ _ _ _ _ _ _ _ _ _ _ _ _ _ w3c A3c c3c (hBW.trans hc_.b3) oc
            case mo34 => exact AllReadyH.nil
          case mo33 => exact AllReadyH.nil
        case mo32 => exact AllReadyH.nil
      case mo31 => exact AllReadyH.nil
    case mo30 => exact AllReadyH.nil
end Dk
end Go.Proofs.Ytpkjeplhdnbihaa
