/- The document's Set: one more timer among the timers. -/
import Derived.Test.YtnfakkinaockiaaDwT
import Derived.Test.YtnfakkinaockiaaDwD
namespace Go.Proofs.Ytnfakkinaockiaa
set_option maxRecDepth 100000
open Go.RowKit
open Go.Proofs.Ytnfakkinaockiaa.Pk (one_at one_free one_set lt_some grown_set)
namespace Wh
def regionAt (k : Nat) : Code → Option Code
  | .region id ops d => if id == k then some (.region id ops d) else none
  | .seq a b => (regionAt k a).orElse fun _ => regionAt k b
  | .cond _ a b => (regionAt k a).orElse fun _ => regionAt k b
  | .block _ c => regionAt k c
  | .loop c => regionAt k c
  | .scope c => regionAt k c
  | _ => none
noncomputable def dset_7 : Code := (Try.f14.body.bind (regionAt 7)).getD .skip
set_option maxHeartbeats 3200000 in
theorem dset7 (z3 z4 z5 z6 z8 z9 z10 z11 z12 z13 z14 z15 z16 z17 z18 z19 z20 z21 z22 z23 z24 z25 z26 z27 z28 z29 z30 z31 z32 z33 z34 z35 z36 z37 z38 z39 z40 z41 z42 z43 z44 z45 z46 z47 z48 z49 z50 z51 z52 z53 z54 z55 z56 z57 z58 z59 z60 z61 z62 z63 z64 z65 z66 z67 z68 z69 z70 z71 z72 z73 z74 z75 z76 z77 z78 z79 z80 z81 z82 z83 z84 : Value) (W : World) (q n c i : Nat) (now id at_ : Int) (A : Option Addr) (S : List Tm) (D : Dw W q now S A c) (hn : S.length = n) (hi : i ≤ n) (hl : n ≤ 900) (Q : Exit → Act → World → Prop)
    (hP : ∀ c a d v w, Q (.panic c) (Act.put a d v) w → Q (.panic c) a w)
    (hQ : ∀ (y62 y63 y64 y65 y66 y67 y68 y69 y70 y71 y72 y73 y74 y75 y76 y77 y78 y79 y80 y81 y82 y83 y84 : Value) (W3 : World) (A3 : Option Addr) (c3 : Nat), Below W.heap.size W W3 → W3.ownsRow W.heap.size 44 2 (.slice A3 (n + 1) c3) (n + 1) (flt (S.take i ++ (id, at_) :: S.drop i)) → Q .normal ⟨#[.pointer (some ⟨q, 0, none⟩), .int .i64 id, .int .i64 at_, z3, z4, z5, z6, .int .i64 (i : Nat), z8, z9, z10, z11, z12, z13, z14, z15, z16, z17, z18, z19, z20, z21, z22, z23, z24, z25, z26, z27, z28, z29, z30, z31, z32, z33, z34, z35, z36, z37, z38, z39, z40, z41, z42, z43, z44, z45, z46, z47, z48, z49, z50, z51, z52, z53, z54, z55, z56, z57, z58, z59, z60, z61, y62, y63, y64, y65, y66, y67, y68, y69, y70, y71, y72, y73, y74, y75, y76, y77, y78, y79, y80, y81, y82, y83, y84], []⟩ (W3.setCell ⟨q, 1, none⟩ (.slice A3 (n + 1) c3))) :
    Code.wp Try.prog dset_7 Q ⟨#[.pointer (some ⟨q, 0, none⟩), .int .i64 id, .int .i64 at_, z3, z4, z5, z6, .int .i64 (i : Nat), z8, z9, z10, z11, z12, z13, z14, z15, z16, z17, z18, z19, z20, z21, z22, z23, z24, z25, z26, z27, z28, z29, z30, z31, z32, z33, z34, z35, z36, z37, z38, z39, z40, z41, z42, z43, z44, z45, z46, z47, z48, z49, z50, z51, z52, z53, z54, z55, z56, z57, z58, z59, z60, z61, z62, z63, z64, z65, z66, z67, z68, z69, z70, z71, z72, z73, z74, z75, z76, z77, z78, z79, z80, z81, z82, z83, z84], []⟩ W := by
  have hBW : Below W.heap.size W W.drew := ⟨rfl, rfl, rfl, Nat.le_refl _, fun _ _ => rfl⟩
  have R1 : Dw W.drew q now S A c := D.below hBW
  have hsz : W.drew.heap.size = W.heap.size := rfl
  have hst := R1.upto (i := i) (by omega)
  obtain ⟨B, hsl, hBn, hB⟩ := R1.from_ (i := i) (by omega)
  have hsrc : ∀ w', Below W.drew.heap.size W.drew w' → Srcs w' A i (S.take i) ∧ Srcs w' B (n - i) (S.drop i) := fun w' hb => by
    have hk : ∀ g, rbk A S.length g → w'.heap[g]? = W.drew.heap[g]? := fun g hg => hb.block g (R1.row.lt g hg)
    refine ⟨R1.srcs hk (by omega), ?_⟩
    have := R1.srcs2 hk (i := i) (by omega) hBn (fun g o h => (hB g o h).1)
    rwa [hn] at this
  have hi2 : (i : Int) ≤ (n : Int) := by omega
  have hi3 : (0 : Int) ≤ (i : Int) := by omega
  have hX : (S.take i).length = i := by rw [List.length_take]; omega
  have hn1 : i + 1 + (n - i) = n + 1 := by omega
  have hfc : (ent (id, at_)).toArray = #[.int .i64 id, .int .i64 at_] := rfl
  rw [hn] at hst hsl
  conv => arg 2; whnf
  refine wp_region_till (S := fun W' => W'.cell? ⟨q, 1, none⟩ = some (.slice A n c)) 23 (by kernel_rfl) (by kernel_rfl) ?_
  rw [← hsz] at hQ hBW
  generalize W.drew = W1 at *
  have HC : ∀ W', Below W1.heap.size W1 W' → W'.cell? ⟨q, 1, none⟩ = some (.slice A n c) := fun W' hb => by rw [← hn]; exact one_at (i := 1) (R1.below hb).cells
  have hHeld : W1.cell? ⟨q, 1, none⟩ = some (.slice A n c) := HC W1 (Below.refl _ _)
  obtain ⟨A1a, c1a, w1a, A2a, c2a, w2a, A3a, c3a, w3a, ha_⟩ := chain_a (c := c) (cc := c - i) (p := (id, at_)) hX (by omega) (by omega) hsrc
  have r1a := ha_.r1
  have r2a := ha_.r2
  have r3a := ha_.r3
  have oa := ha_.row
  rw [hn1] at r3a oa
  obtain ⟨A1b, c1b, w1b, A2b, c2b, w2b, A3b, c3b, w3b, hb_⟩ := chain_b (c := c) (cc := c - i) (p := (id, at_)) hX (by omega) (by omega) hsrc
  have r1b := hb_.r1
  have r2b := hb_.r2
  have r3b := hb_.r3
  have ob := hb_.row
  rw [hn1] at r3b ob
  obtain ⟨A1c, c1c, w1c, A2c, c2c, w2c, A3c, c3c, w3c, hc_⟩ := chain_c (c := c) (cc := c - i) (p := (id, at_)) hX (by omega) (by omega) hsrc
  have r1c := hc_.r1
  have r2c := hc_.r2
  have r3c := hc_.r3
  have oc := hc_.row
  rw [hn1] at r3c oc
  rw [hfc] at r2a r1b r1c
  have SE : Below W1.heap.size W1 (W1.alloc (.cells #[] 44)) := (Below.refl _ _).alloc (Nat.le_refl _) _
  have SF : Below W1.heap.size W1 (W1.alloc (.cells #[.int .i64 id, .int .i64 at_] 44)) := (Below.refl _ _).alloc (Nat.le_refl _) _
  have SEF : Below W1.heap.size W1 ((W1.alloc (.cells #[] 44)).alloc (.cells #[.int .i64 id, .int .i64 at_] 44)) := SE.alloc SE.size _
  have SFE : Below W1.heap.size W1 ((W1.alloc (.cells #[.int .i64 id, .int .i64 at_] 44)).alloc (.cells #[] 44)) := SF.alloc SF.size _
  have S1F : Below W1.heap.size W1 (w1a.alloc (.cells #[.int .i64 id, .int .i64 at_] 44)) := ha_.b1.alloc ha_.b1.size _
  clear hsrc D hsz hB hBn
  refine' wpAnyH_take (i := 0) (oi := ?o1) (v := ?v1) ?hi1 (by kernel_rfl) (by kernel_rfl) (by kernel_rfl) (fun c a w h => hP c a _ _ w h) (Or.inl ⟨?hw1, ?hy1⟩) hHeld ?rest1
  case hi1 => simp only [List.getElem?_toArray, List.getElem?_cons_zero]; rfl
  case hw1 => rfl
  case hy1 =>
    intro w hSw
    go_simp
    try with_reducible rfl
  simp only [Act.put, List.setIfInBounds_toArray, List.set_cons_zero, List.set_cons_succ]
  refine' wpAnyH_take (i := 2) (oi := ?o2) (v := ?v2) ?hi2 (by kernel_rfl) (by kernel_rfl) (by kernel_rfl) (fun c a w h => hP c a _ _ w h) (Or.inl ⟨?hw2, ?hy2⟩) hHeld ?rest2
  case hi2 => simp only [List.getElem?_toArray, List.getElem?_cons_succ, List.getElem?_cons_zero]; rfl
  case hw2 => rfl
  case hy2 =>
    intro w hSw
    go_simp
    try with_reducible rfl
  simp only [Act.put, List.setIfInBounds_toArray, List.set_cons_zero, List.set_cons_succ]
  refine' wpAnyH_take (i := 3) (oi := ?o3) (v := ?v3) ?hi3 (by kernel_rfl) (by kernel_rfl) (by kernel_rfl) (fun c a w h => hP c a _ _ w h) (Or.inl ⟨?hw3, ?hy3⟩) hHeld ?rest3
  case hi3 => simp only [List.getElem?_toArray, List.getElem?_cons_succ, List.getElem?_cons_zero]; rfl
  case hw3 => rfl
  case hy3 =>
    intro w hSw
    go_simp
    try with_reducible rfl
  simp only [Act.put, List.setIfInBounds_toArray, List.set_cons_zero, List.set_cons_succ]
  refine' wpAnyH_take (i := 4) (oi := ?o4) (v := ?v4) ?hi4 (by kernel_rfl) (by kernel_rfl) (by kernel_rfl) (fun c a w h => hP c a _ _ w h) (Or.inl ⟨?hw4, ?hy4⟩) hHeld ?rest4
  case hi4 => simp only [List.getElem?_toArray, List.getElem?_cons_succ, List.getElem?_cons_zero]; rfl
  case hw4 => rfl
  case hy4 =>
    intro w hSw
    go_simp
    try with_reducible rfl
  simp only [Act.put, List.setIfInBounds_toArray, List.set_cons_zero, List.set_cons_succ]
  refine' wpAnyH_take (i := 5) (oi := ?o5) (v := ?v5) ?hi5 (by kernel_rfl) (by kernel_rfl) (by kernel_rfl) (fun c a w h => hP c a _ _ w h) (Or.inl ⟨?hw5, ?hy5⟩) hHeld ?rest5
  case hi5 => simp only [List.getElem?_toArray, List.getElem?_cons_succ, List.getElem?_cons_zero]; rfl
  case hw5 => rfl
  case hy5 =>
    intro w hSw
    go_simp
    try with_reducible rfl
  simp only [Act.put, List.setIfInBounds_toArray, List.set_cons_zero, List.set_cons_succ]
  refine' wpAnyH_take (i := 6) (oi := ?o6) (v := ?v6) ?hi6 (by kernel_rfl) (by kernel_rfl) (by kernel_rfl) (fun c a w h => hP c a _ _ w h) (Or.inl ⟨?hw6, ?hy6⟩) hHeld ?rest6
  case hi6 => simp only [List.getElem?_toArray, List.getElem?_cons_succ, List.getElem?_cons_zero]; rfl
  case hw6 => rfl
  case hy6 =>
    intro w hSw
    go_simp
    try with_reducible rfl
  simp only [Act.put, List.setIfInBounds_toArray, List.set_cons_zero, List.set_cons_succ]
  refine' wpAnyH_take (i := 7) (oi := ?o7) (v := ?v7) ?hi7 (by kernel_rfl) (by kernel_rfl) (by kernel_rfl) (fun c a w h => hP c a _ _ w h) (Or.inl ⟨?hw7, ?hy7⟩) hHeld ?rest7
  case hi7 => simp only [List.getElem?_toArray, List.getElem?_cons_succ, List.getElem?_cons_zero]; rfl
  case hw7 => rfl
  case hy7 =>
    intro w hSw
    go_simp
    try with_reducible rfl
  simp only [Act.put, List.setIfInBounds_toArray, List.set_cons_zero, List.set_cons_succ]
  refine' wpAnyH_take (i := 9) (oi := ?o8) (v := ?v8) ?hi8 (by kernel_rfl) (by kernel_rfl) (by kernel_rfl) (fun c a w h => hP c a _ _ w h) (Or.inl ⟨?hw8, ?hy8⟩) hHeld ?rest8
  case hi8 => simp only [List.getElem?_toArray, List.getElem?_cons_succ, List.getElem?_cons_zero]; rfl
  case hw8 => rfl
  case hy8 =>
    intro w hSw
    go_simp
    try with_reducible rfl
  simp only [Act.put, List.setIfInBounds_toArray, List.set_cons_zero, List.set_cons_succ]
  refine' wpAnyH_take (i := 10) (oi := ?o9) (v := ?v9) ?hi9 (by kernel_rfl) (by kernel_rfl) (by kernel_rfl) (fun c a w h => hP c a _ _ w h) (Or.inl ⟨?hw9, ?hy9⟩) hHeld ?rest9
  case hi9 => simp only [List.getElem?_toArray, List.getElem?_cons_succ, List.getElem?_cons_zero]; rfl
  case hw9 => rfl
  case hy9 =>
    intro w hSw
    go_simp
    try with_reducible rfl
  simp only [Act.put, List.setIfInBounds_toArray, List.set_cons_zero, List.set_cons_succ]
  refine' wpAnyH_take (i := 11) (oi := ?o10) (v := ?v10) ?hi10 (by kernel_rfl) (by kernel_rfl) (by kernel_rfl) (fun c a w h => hP c a _ _ w h) (Or.inl ⟨?hw10, ?hy10⟩) hHeld ?rest10
  case hi10 => simp only [List.getElem?_toArray, List.getElem?_cons_succ, List.getElem?_cons_zero]; rfl
  case hw10 => rfl
  case hy10 =>
    intro w hSw
    go_simp
    try with_reducible rfl
  simp only [Act.put, List.setIfInBounds_toArray, List.set_cons_zero, List.set_cons_succ]
  refine' wpAnyH_take (i := 14) (oi := ?o11) (v := ?v11) ?hi11 (by kernel_rfl) (by kernel_rfl) (by kernel_rfl) (fun c a w h => hP c a _ _ w h) (Or.inl ⟨?hw11, ?hy11⟩) hHeld ?rest11
  case hi11 => simp only [List.getElem?_toArray, List.getElem?_cons_succ, List.getElem?_cons_zero]; rfl
  case hw11 => rfl
  case hy11 =>
    intro w hSw
    go_simp
    try with_reducible rfl
  simp only [Act.put, List.setIfInBounds_toArray, List.set_cons_zero, List.set_cons_succ]
  refine' wpAnyH_take (i := 15) (oi := ?o12) (v := ?v12) ?hi12 (by kernel_rfl) (by kernel_rfl) (by kernel_rfl) (fun c a w h => hP c a _ _ w h) (Or.inl ⟨?hw12, ?hy12⟩) hHeld ?rest12
  case hi12 => simp only [List.getElem?_toArray, List.getElem?_cons_succ, List.getElem?_cons_zero]; rfl
  case hw12 => rfl
  case hy12 =>
    intro w hSw
    go_simp
    try with_reducible rfl
  simp only [Act.put, List.setIfInBounds_toArray, List.set_cons_zero, List.set_cons_succ]
  refine' wpAnyH_take (i := 16) (oi := ?o13) (v := ?v13) ?hi13 (by kernel_rfl) (by kernel_rfl) (by kernel_rfl) (fun c a w h => hP c a _ _ w h) (Or.inl ⟨?hw13, ?hy13⟩) hHeld ?rest13
  case hi13 => simp only [List.getElem?_toArray, List.getElem?_cons_succ, List.getElem?_cons_zero]; rfl
  case hw13 => rfl
  case hy13 =>
    intro w hSw
    go_simp
    try with_reducible rfl
  simp only [Act.put, List.setIfInBounds_toArray, List.set_cons_zero, List.set_cons_succ]
  refine' wpAnyH_take (i := 17) (oi := ?o14) (v := ?v14) ?hi14 (by kernel_rfl) (by kernel_rfl) (by kernel_rfl) (fun c a w h => hP c a _ _ w h) (Or.inl ⟨?hw14, ?hy14⟩) hHeld ?rest14
  case hi14 => simp only [List.getElem?_toArray, List.getElem?_cons_succ, List.getElem?_cons_zero]; rfl
  case hw14 => rfl
  case hy14 =>
    intro w hSw
    go_simp
    try with_reducible rfl
  simp only [Act.put, List.setIfInBounds_toArray, List.set_cons_zero, List.set_cons_succ]
  refine' wpAnyH_take (i := 18) (oi := ?o15) (v := ?v15) ?hi15 (by kernel_rfl) (by kernel_rfl) (by kernel_rfl) (fun c a w h => hP c a _ _ w h) (Or.inl ⟨?hw15, ?hy15⟩) hHeld ?rest15
  case hi15 => simp only [List.getElem?_toArray, List.getElem?_cons_succ, List.getElem?_cons_zero]; rfl
  case hw15 => rfl
  case hy15 =>
    intro w hSw
    go_simp
    try with_reducible rfl
  simp only [Act.put, List.setIfInBounds_toArray, List.set_cons_zero, List.set_cons_succ]
  refine' wpAnyH_take (i := 19) (oi := ?o16) (v := ?v16) ?hi16 (by kernel_rfl) (by kernel_rfl) (by kernel_rfl) (fun c a w h => hP c a _ _ w h) (Or.inl ⟨?hw16, ?hy16⟩) hHeld ?rest16
  case hi16 => simp only [List.getElem?_toArray, List.getElem?_cons_succ, List.getElem?_cons_zero]; rfl
  case hw16 => rfl
  case hy16 =>
    intro w hSw
    go_simp
    try with_reducible rfl
  simp only [Act.put, List.setIfInBounds_toArray, List.set_cons_zero, List.set_cons_succ]
  refine wpAnyH_ready (rs := [1, 12]) (by kernel_rfl) (by simp) ?_
  refine' AllReadyH.cons (i := 1) (o := ?o17) ?hi17 (fun K hK => ?st17) ?mo17
  case hi17 => simp only [List.getElem?_toArray, List.getElem?_cons_succ, List.getElem?_cons_zero]; rfl
  case st17 =>
    go_simp
    refine hK.out _ _ (HC _ SE) (fun hHeld => ?_)
    clear hK K
    try simp only [Act.put, List.setIfInBounds_toArray, List.set_cons_zero, List.set_cons_succ]
    refine wpAnyH_ready (rs := [8, 12]) (by kernel_rfl) (by simp) ?_
    refine' AllReadyH.cons (i := 8) (o := ?o18) ?hi18 (fun K hK => ?st18) ?mo18
    case hi18 => simp only [List.getElem?_toArray, List.getElem?_cons_succ, List.getElem?_cons_zero]; rfl
    case st18 =>
      refine step_run_app rfl (.tmp 63) (.tmp 69) rfl rfl (.slice (some ⟨W1.heap.size, 0, none⟩) 0 0) (.slice A i c) rfl rfl r1a ?_
      refine hK.out _ _ (HC _ ha_.b1) (fun hHeld => ?_)
      clear hK K
      try simp only [Act.put, List.setIfInBounds_toArray, List.set_cons_zero, List.set_cons_succ]
      refine wpAnyH_ready (rs := [12]) (by kernel_rfl) (by simp) ?_
      refine' AllReadyH.cons (i := 12) (o := ?o19) ?hi19 (fun K hK => ?st19) ?mo19
      case hi19 => simp only [List.getElem?_toArray, List.getElem?_cons_succ, List.getElem?_cons_zero]; rfl
      case st19 =>
        go_simp
        refine hK.out _ _ (HC _ S1F) (fun hHeld => ?_)
        clear hK K
        try simp only [Act.put, List.setIfInBounds_toArray, List.set_cons_zero, List.set_cons_succ]
        refine wpAnyH_ready (rs := [13]) (by kernel_rfl) (by simp) ?_
        refine' AllReadyH.cons (i := 13) (o := ?o20) ?hi20 (fun K hK => ?st20) ?mo20
        case hi20 => simp only [List.getElem?_toArray, List.getElem?_cons_succ, List.getElem?_cons_zero]; rfl
        case st20 =>
          refine step_run_app rfl (.tmp 70) (.tmp 74) rfl rfl (.slice A1a i c1a) (.slice (some ⟨w1a.heap.size, 0, none⟩) 1 1) rfl rfl r2a ?_
          refine hK.out _ _ (HC _ ha_.b2) (fun hHeld => ?_)
          clear hK K
          try simp only [Act.put, List.setIfInBounds_toArray, List.set_cons_zero, List.set_cons_succ]
          refine wpAnyH_ready (rs := [20]) (by kernel_rfl) (by simp) ?_
          refine' AllReadyH.cons (i := 20) (o := ?o21) ?hi21 (fun K hK => ?st21) ?mo21
          case hi21 => simp only [List.getElem?_toArray, List.getElem?_cons_succ, List.getElem?_cons_zero]; rfl
          case st21 =>
            refine step_run_app rfl (.tmp 75) (.tmp 81) rfl rfl (.slice A2a (i + 1) c2a) (.slice B (n - i) (c - i)) rfl rfl r3a ?_
            refine hK.out _ _ (HC _ ha_.b3) (fun hHeld => ?_)
            clear hK K
            try simp only [Act.put, List.setIfInBounds_toArray, List.set_cons_zero, List.set_cons_succ]
            refine' wpAnyH_take (i := 21) (oi := ?o22) (v := ?v22) ?hi22 (by kernel_rfl) (by kernel_rfl) (by kernel_rfl) (fun c a w h => hP c a _ _ w h) (Or.inl ⟨?hw22, ?hy22⟩) hHeld ?rest22
            case hi22 => simp only [List.getElem?_toArray, List.getElem?_cons_succ, List.getElem?_cons_zero]; rfl
            case hw22 => rfl
            case hy22 =>
              intro w hSw
              go_simp
              try with_reducible rfl
            simp only [Act.put, List.setIfInBounds_toArray, List.set_cons_zero, List.set_cons_succ]
            refine' wpAnyH_take (i := 22) (oi := ?o23) (v := ?v23) ?hi23 (by kernel_rfl) (by kernel_rfl) (by kernel_rfl) (fun c a w h => hP c a _ _ w h) (Or.inl ⟨?hw23, ?hy23⟩) hHeld ?rest23
            case hi23 => simp only [List.getElem?_toArray, List.getElem?_cons_succ, List.getElem?_cons_zero]; rfl
            case hw23 => rfl
            case hy23 =>
              intro w hSw
              go_simp
              try with_reducible rfl
            simp only [Act.put, List.setIfInBounds_toArray, List.set_cons_zero, List.set_cons_succ]
            refine wpAnyH_done (by kernel_rfl) ?_ _
            refine tillQ_normal ?_
            refine' wpOp_step (i := 23) (o := ?o24) ?hi24 (fun K hK => ?_)
            case hi24 => simp only [List.getElem?_toArray, List.getElem?_cons_succ, List.getElem?_cons_zero]; rfl
            have d3 : w3a.cell? ⟨q, 1, none⟩ = some (.slice A n c) := HC _ ha_.b3
            have f3 : w3a.frozen? ⟨q, 1, none⟩ = false := one_free (R1.below ha_.b3).cells
            go_simp
            refine hK _ _ ?_
            exact hQ _ _ _ _ _ _ _ _ _ _ _ _ _ _ _ _ _ _ _ _ _ _ _ w3a A3a c3a (hBW.trans ha_.b3) oa
          case mo21 => exact AllReadyH.nil
        case mo20 => exact AllReadyH.nil
      case mo19 => exact AllReadyH.nil
    case mo18 =>
      refine' AllReadyH.cons (i := 12) (o := ?o25) ?hi25 (fun K hK => ?st25) ?mo25
      case hi25 => simp only [List.getElem?_toArray, List.getElem?_cons_succ, List.getElem?_cons_zero]; rfl
      case st25 =>
        go_simp
        refine hK.out _ _ (HC _ SEF) (fun hHeld => ?_)
        clear hK K
        try simp only [Act.put, List.setIfInBounds_toArray, List.set_cons_zero, List.set_cons_succ]
        refine wpAnyH_ready (rs := [8]) (by kernel_rfl) (by simp) ?_
        refine' AllReadyH.cons (i := 8) (o := ?o26) ?hi26 (fun K hK => ?st26) ?mo26
        case hi26 => simp only [List.getElem?_toArray, List.getElem?_cons_succ, List.getElem?_cons_zero]; rfl
        case st26 =>
          refine step_run_app rfl (.tmp 63) (.tmp 69) rfl rfl (.slice (some ⟨W1.heap.size, 0, none⟩) 0 0) (.slice A i c) rfl rfl r1b ?_
          refine hK.out _ _ (HC _ hb_.b1) (fun hHeld => ?_)
          clear hK K
          try simp only [Act.put, List.setIfInBounds_toArray, List.set_cons_zero, List.set_cons_succ]
          refine wpAnyH_ready (rs := [13]) (by kernel_rfl) (by simp) ?_
          refine' AllReadyH.cons (i := 13) (o := ?o27) ?hi27 (fun K hK => ?st27) ?mo27
          case hi27 => simp only [List.getElem?_toArray, List.getElem?_cons_succ, List.getElem?_cons_zero]; rfl
          case st27 =>
            refine step_run_app rfl (.tmp 70) (.tmp 74) rfl rfl (.slice A1b i c1b) (.slice (some ⟨W1.heap.size + 1, 0, none⟩) 1 1) rfl rfl r2b ?_
            refine hK.out _ _ (HC _ hb_.b2) (fun hHeld => ?_)
            clear hK K
            try simp only [Act.put, List.setIfInBounds_toArray, List.set_cons_zero, List.set_cons_succ]
            refine wpAnyH_ready (rs := [20]) (by kernel_rfl) (by simp) ?_
            refine' AllReadyH.cons (i := 20) (o := ?o28) ?hi28 (fun K hK => ?st28) ?mo28
            case hi28 => simp only [List.getElem?_toArray, List.getElem?_cons_succ, List.getElem?_cons_zero]; rfl
            case st28 =>
              refine step_run_app rfl (.tmp 75) (.tmp 81) rfl rfl (.slice A2b (i + 1) c2b) (.slice B (n - i) (c - i)) rfl rfl r3b ?_
              refine hK.out _ _ (HC _ hb_.b3) (fun hHeld => ?_)
              clear hK K
              try simp only [Act.put, List.setIfInBounds_toArray, List.set_cons_zero, List.set_cons_succ]
              refine' wpAnyH_take (i := 21) (oi := ?o29) (v := ?v29) ?hi29 (by kernel_rfl) (by kernel_rfl) (by kernel_rfl) (fun c a w h => hP c a _ _ w h) (Or.inl ⟨?hw29, ?hy29⟩) hHeld ?rest29
              case hi29 => simp only [List.getElem?_toArray, List.getElem?_cons_succ, List.getElem?_cons_zero]; rfl
              case hw29 => rfl
              case hy29 =>
                intro w hSw
                go_simp
                try with_reducible rfl
              simp only [Act.put, List.setIfInBounds_toArray, List.set_cons_zero, List.set_cons_succ]
              refine' wpAnyH_take (i := 22) (oi := ?o30) (v := ?v30) ?hi30 (by kernel_rfl) (by kernel_rfl) (by kernel_rfl) (fun c a w h => hP c a _ _ w h) (Or.inl ⟨?hw30, ?hy30⟩) hHeld ?rest30
              case hi30 => simp only [List.getElem?_toArray, List.getElem?_cons_succ, List.getElem?_cons_zero]; rfl
              case hw30 => rfl
              case hy30 =>
                intro w hSw
                go_simp
                try with_reducible rfl
              simp only [Act.put, List.setIfInBounds_toArray, List.set_cons_zero, List.set_cons_succ]
              refine wpAnyH_done (by kernel_rfl) ?_ _
              refine tillQ_normal ?_
              refine' wpOp_step (i := 23) (o := ?o31) ?hi31 (fun K hK => ?_)
              case hi31 => simp only [List.getElem?_toArray, List.getElem?_cons_succ, List.getElem?_cons_zero]; rfl
              have d3 : w3b.cell? ⟨q, 1, none⟩ = some (.slice A n c) := HC _ hb_.b3
              have f3 : w3b.frozen? ⟨q, 1, none⟩ = false := one_free (R1.below hb_.b3).cells
              go_simp
              refine hK _ _ ?_
              exact hQ _ _ _ _ _ _ _ _ _ _ _ _ _ _ _ _ _ _ _ _ _ _ _ w3b A3b c3b (hBW.trans hb_.b3) ob
            case mo28 => exact AllReadyH.nil
          case mo27 => exact AllReadyH.nil
        case mo26 => exact AllReadyH.nil
      case mo25 => exact AllReadyH.nil
  case mo17 =>
    refine' AllReadyH.cons (i := 12) (o := ?o32) ?hi32 (fun K hK => ?st32) ?mo32
    case hi32 => simp only [List.getElem?_toArray, List.getElem?_cons_succ, List.getElem?_cons_zero]; rfl
    case st32 =>
      go_simp
      refine hK.out _ _ (HC _ SF) (fun hHeld => ?_)
      clear hK K
      try simp only [Act.put, List.setIfInBounds_toArray, List.set_cons_zero, List.set_cons_succ]
      refine wpAnyH_ready (rs := [1]) (by kernel_rfl) (by simp) ?_
      refine' AllReadyH.cons (i := 1) (o := ?o33) ?hi33 (fun K hK => ?st33) ?mo33
      case hi33 => simp only [List.getElem?_toArray, List.getElem?_cons_succ, List.getElem?_cons_zero]; rfl
      case st33 =>
        go_simp
        refine hK.out _ _ (HC _ SFE) (fun hHeld => ?_)
        clear hK K
        try simp only [Act.put, List.setIfInBounds_toArray, List.set_cons_zero, List.set_cons_succ]
        refine wpAnyH_ready (rs := [8]) (by kernel_rfl) (by simp) ?_
        refine' AllReadyH.cons (i := 8) (o := ?o34) ?hi34 (fun K hK => ?st34) ?mo34
        case hi34 => simp only [List.getElem?_toArray, List.getElem?_cons_succ, List.getElem?_cons_zero]; rfl
        case st34 =>
          refine step_run_app rfl (.tmp 63) (.tmp 69) rfl rfl (.slice (some ⟨W1.heap.size + 1, 0, none⟩) 0 0) (.slice A i c) rfl rfl r1c ?_
          refine hK.out _ _ (HC _ hc_.b1) (fun hHeld => ?_)
          clear hK K
          try simp only [Act.put, List.setIfInBounds_toArray, List.set_cons_zero, List.set_cons_succ]
          refine wpAnyH_ready (rs := [13]) (by kernel_rfl) (by simp) ?_
          refine' AllReadyH.cons (i := 13) (o := ?o35) ?hi35 (fun K hK => ?st35) ?mo35
          case hi35 => simp only [List.getElem?_toArray, List.getElem?_cons_succ, List.getElem?_cons_zero]; rfl
          case st35 =>
            refine step_run_app rfl (.tmp 70) (.tmp 74) rfl rfl (.slice A1c i c1c) (.slice (some ⟨W1.heap.size, 0, none⟩) 1 1) rfl rfl r2c ?_
            refine hK.out _ _ (HC _ hc_.b2) (fun hHeld => ?_)
            clear hK K
            try simp only [Act.put, List.setIfInBounds_toArray, List.set_cons_zero, List.set_cons_succ]
            refine wpAnyH_ready (rs := [20]) (by kernel_rfl) (by simp) ?_
            refine' AllReadyH.cons (i := 20) (o := ?o36) ?hi36 (fun K hK => ?st36) ?mo36
            case hi36 => simp only [List.getElem?_toArray, List.getElem?_cons_succ, List.getElem?_cons_zero]; rfl
            case st36 =>
              refine step_run_app rfl (.tmp 75) (.tmp 81) rfl rfl (.slice A2c (i + 1) c2c) (.slice B (n - i) (c - i)) rfl rfl r3c ?_
              refine hK.out _ _ (HC _ hc_.b3) (fun hHeld => ?_)
              clear hK K
              try simp only [Act.put, List.setIfInBounds_toArray, List.set_cons_zero, List.set_cons_succ]
              refine' wpAnyH_take (i := 21) (oi := ?o37) (v := ?v37) ?hi37 (by kernel_rfl) (by kernel_rfl) (by kernel_rfl) (fun c a w h => hP c a _ _ w h) (Or.inl ⟨?hw37, ?hy37⟩) hHeld ?rest37
              case hi37 => simp only [List.getElem?_toArray, List.getElem?_cons_succ, List.getElem?_cons_zero]; rfl
              case hw37 => rfl
              case hy37 =>
                intro w hSw
                go_simp
                try with_reducible rfl
              simp only [Act.put, List.setIfInBounds_toArray, List.set_cons_zero, List.set_cons_succ]
              refine' wpAnyH_take (i := 22) (oi := ?o38) (v := ?v38) ?hi38 (by kernel_rfl) (by kernel_rfl) (by kernel_rfl) (fun c a w h => hP c a _ _ w h) (Or.inl ⟨?hw38, ?hy38⟩) hHeld ?rest38
              case hi38 => simp only [List.getElem?_toArray, List.getElem?_cons_succ, List.getElem?_cons_zero]; rfl
              case hw38 => rfl
              case hy38 =>
                intro w hSw
                go_simp
                try with_reducible rfl
              simp only [Act.put, List.setIfInBounds_toArray, List.set_cons_zero, List.set_cons_succ]
              refine wpAnyH_done (by kernel_rfl) ?_ _
              refine tillQ_normal ?_
              refine' wpOp_step (i := 23) (o := ?o39) ?hi39 (fun K hK => ?_)
              case hi39 => simp only [List.getElem?_toArray, List.getElem?_cons_succ, List.getElem?_cons_zero]; rfl
              have d3 : w3c.cell? ⟨q, 1, none⟩ = some (.slice A n c) := HC _ hc_.b3
              have f3 : w3c.frozen? ⟨q, 1, none⟩ = false := one_free (R1.below hc_.b3).cells
              go_simp
              refine hK _ _ ?_
              exact hQ _ _ _ _ _ _ _ _ _ _ _ _ _ _ _ _ _ _ _ _ _ _ _ w3c A3c c3c (hBW.trans hc_.b3) oc
            case mo36 => exact AllReadyH.nil
          case mo35 => exact AllReadyH.nil
        case mo34 => exact AllReadyH.nil
      case mo33 => exact AllReadyH.nil
    case mo32 => exact AllReadyH.nil
end Wh
end Go.Proofs.Ytnfakkinaockiaa
