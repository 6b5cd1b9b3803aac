/- The closure that moves money: its last statement, one move more in a new row. -/
import Derived.Test.YtchlbkfkecpodaaPuT
namespace Go.Proofs.Ytchlbkfkecpodaa
set_option maxRecDepth 100000
open Go.RowKit
open Go.Sort (grow)
open Go.Proofs.Ytchlbkfkecpodaa.Pk (one_at one_free one_set lt_some grown_set grown_trans below_grown grown_refl)
namespace Pu
def regionAt (k : Nat) : Code → Option Code
  | .region id ops d => if id == k then some (.region id ops d) else none
  | .seq a b => (regionAt k a).orElse fun _ => regionAt k b
  | .cond _ a b => (regionAt k a).orElse fun _ => regionAt k b
  | .block _ c => regionAt k c
  | .loop c => regionAt k c
  | .scope c => regionAt k c
  | _ => none
noncomputable def mover_6 : Code := (Try.f108.body.bind (regionAt 6)).getD .skip
set_option maxHeartbeats 3200000 in
theorem mover6 (z5 z6 z7 z8 z9 z10 z11 z12 z13 z14 z15 z16 z17 z18 z19 z20 z21 z22 z23 z24 z25 z26 z27 z28 z29 z30 z31 z32 z33 z34 z35 z36 z37 z38 z39 z40 z41 z42 z43 z44 z45 z46 z47 z48 z49 z50 z51 z52 z53 z54 z55 z56 z57 z58 z59 z60 z61 z62 z63 z64 z65 z66 z67 z68 z69 z70 : Value) (W : World) (q lb ab bb n c : Nat) (fr tg b am : Int) (A : Option Addr) (l : List Ln)
    (g1 : W.cell? ⟨lb, 0, none⟩ = some (.pointer (some ⟨q, 0, none⟩))) (g2 : W.cell? ⟨q, 1011, none⟩ = some (.slice A n c)) (g3 : W.cell? ⟨bb, 0, none⟩ = some (.int .i64 b)) (g4 : W.cell? ⟨ab, 0, none⟩ = some (.int .i64 am)) (f0 : W.frozen? ⟨q, 1011, none⟩ = false)
    (R : RowT LineT W 0 (.slice A n c) n l) (hn : n ≤ 900) (Q : Exit → Act → World → Prop)
    (hP : ∀ c a d v w, Q (.panic c) (Act.put a d v) w → Q (.panic c) a w)
    (hQ : ∀ (y56 y57 y58 y59 y60 y61 y62 y63 y64 y65 y66 y67 y68 y69 y70 : Value) (W3 : World) (g c3 : Nat), W.heap.size ≤ g → Below W.heap.size W W3 → RowT LineT W3 0 (.slice (some ⟨g, 0, none⟩) (n + 1) c3) (n + 1) (l ++ [⟨b, fr, tg, am⟩]) → Q .normal ⟨#[.int .i64 fr, .int .i64 tg, .pointer (some ⟨lb, 0, none⟩), .pointer (some ⟨ab, 0, none⟩), .pointer (some ⟨bb, 0, none⟩), z5, z6, z7, z8, z9, z10, z11, z12, z13, z14, z15, z16, z17, z18, z19, z20, z21, z22, z23, z24, z25, z26, z27, z28, z29, z30, z31, z32, z33, z34, z35, z36, z37, z38, z39, z40, z41, z42, z43, z44, z45, z46, z47, z48, z49, z50, z51, z52, z53, z54, z55, y56, y57, y58, y59, y60, y61, y62, y63, y64, y65, y66, y67, y68, y69, y70], []⟩ (W3.setCell ⟨q, 1011, none⟩ (.slice (some ⟨g, 0, none⟩) (n + 1) c3))) :
    Code.wp Try.prog mover_6 Q ⟨#[.int .i64 fr, .int .i64 tg, .pointer (some ⟨lb, 0, none⟩), .pointer (some ⟨ab, 0, none⟩), .pointer (some ⟨bb, 0, none⟩), z5, z6, z7, z8, z9, z10, z11, z12, z13, z14, z15, z16, z17, z18, z19, z20, z21, z22, z23, z24, z25, z26, z27, z28, z29, z30, z31, z32, z33, z34, z35, z36, z37, z38, z39, z40, z41, z42, z43, z44, z45, z46, z47, z48, z49, z50, z51, z52, z53, z54, z55, z56, z57, z58, z59, z60, z61, z62, z63, z64, z65, z66, z67, z68, z69, z70], []⟩ W := by
  have hBW : Below W.heap.size W W.drew := ⟨rfl, rfl, rfl, Nat.le_refl _, fun _ _ => rfl⟩
  have R1 : RowT LineT W.drew 0 (.slice A n c) n l := rt_below R hBW
  have hsz : W.drew.heap.size = W.heap.size := rfl
  obtain ⟨A', c', e, hnc, hc63, hA⟩ := rt_form R
  injection e with e1 _ e3
  subst e1 e3
  have CL := clip_any W.drew A n c hnc hc63 hA
  have CL2 := fun o => clip_any (W.drew.alloc o) A n c hnc hc63 hA
  clear hA
  conv => arg 2; whnf
  refine wp_region_till (S := fun W' => W'.cell? ⟨lb, 0, none⟩ = some (.pointer (some ⟨q, 0, none⟩)) ∧ W'.cell? ⟨q, 1011, none⟩ = some (.slice A n c) ∧ W'.cell? ⟨bb, 0, none⟩ = some (.int .i64 b) ∧ W'.cell? ⟨ab, 0, none⟩ = some (.int .i64 am)) 15 (by kernel_rfl) (by kernel_rfl) ?_
  have z1 : W.drew.cell? ⟨lb, 0, none⟩ = some (.pointer (some ⟨q, 0, none⟩)) := g1
  have z2 : W.drew.cell? ⟨q, 1011, none⟩ = some (.slice A n c) := g2
  have z3 : W.drew.cell? ⟨bb, 0, none⟩ = some (.int .i64 b) := g3
  have z4 : W.drew.cell? ⟨ab, 0, none⟩ = some (.int .i64 am) := g4
  have f1 : W.drew.frozen? ⟨q, 1011, none⟩ = false := f0
  rw [← hsz] at hQ hBW
  clear g1 g2 g3 g4 f0 R
  generalize W.drew = W1 at *
  have l1 : lb < W1.heap.size := World.block_lt_of_cell? W1 _ z1
  have l2 : q < W1.heap.size := World.block_lt_of_cell? W1 _ z2
  have l3 : bb < W1.heap.size := World.block_lt_of_cell? W1 _ z3
  have l4 : ab < W1.heap.size := World.block_lt_of_cell? W1 _ z4
  have HC : ∀ W', Below W1.heap.size W1 W' → W'.cell? ⟨lb, 0, none⟩ = some (.pointer (some ⟨q, 0, none⟩)) ∧ W'.cell? ⟨q, 1011, none⟩ = some (.slice A n c) ∧ W'.cell? ⟨bb, 0, none⟩ = some (.int .i64 b) ∧ W'.cell? ⟨ab, 0, none⟩ = some (.int .i64 am) := fun W' hb =>
    ⟨(hb.cell (p := ⟨lb, 0, none⟩) l1).trans z1, (hb.cell (p := ⟨q, 1011, none⟩) l2).trans z2, (hb.cell (p := ⟨bb, 0, none⟩) l3).trans z3, (hb.cell (p := ⟨ab, 0, none⟩) l4).trans z4⟩
  have hHeld := HC W1 (Below.refl _ _)
  have SE : Below W1.heap.size W1 (W1.alloc (.cells #[.int .i64 b, .int .i64 fr, .int .i64 tg, .int .i64 am] 115)) := (Below.refl _ _).alloc (Nat.le_refl _) _
  obtain ⟨c3, w3, r3, R3, b3⟩ := row_clip lines_append line_info (W1.alloc (.cells #[.int .i64 b, .int .i64 fr, .int .i64 tg, .int .i64 am] 115)) A n c l (rt_below R1 SE) ⟨b, fr, tg, am⟩ W1.heap.size (heap_alloc_new _ _) (by omega)
  have b31 : Below W1.heap.size W1 w3 := SE.trans (b3.mono SE.size)
  have R30 := rt_mono (base' := 0) R3 (Nat.zero_le _)
  have gsz : W1.heap.size ≤ (W1.alloc (.cells #[.int .i64 b, .int .i64 fr, .int .i64 tg, .int .i64 am] 115)).heap.size := SE.size
  have f3 : w3.frozen? ⟨q, 1011, none⟩ = false := (b31.frozen (p := ⟨q, 1011, none⟩) l2).trans f1
  generalize hG : (W1.alloc (.cells #[.int .i64 b, .int .i64 fr, .int .i64 tg, .int .i64 am] 115)).heap.size = G at *
  have EQ : ∀ (y56 y57 y58 y59 y60 y61 y62 y63 y64 y65 y66 y67 y68 y69 y70 : Value), Q .normal ⟨#[.int .i64 fr, .int .i64 tg, .pointer (some ⟨lb, 0, none⟩), .pointer (some ⟨ab, 0, none⟩), .pointer (some ⟨bb, 0, none⟩), z5, z6, z7, z8, z9, z10, z11, z12, z13, z14, z15, z16, z17, z18, z19, z20, z21, z22, z23, z24, z25, z26, z27, z28, z29, z30, z31, z32, z33, z34, z35, z36, z37, z38, z39, z40, z41, z42, z43, z44, z45, z46, z47, z48, z49, z50, z51, z52, z53, z54, z55, y56, y57, y58, y59, y60, y61, y62, y63, y64, y65, y66, y67, y68, y69, y70], []⟩ (w3.setCell ⟨q, 1011, none⟩ (.slice (some ⟨G, 0, none⟩) (n + 1) c3)) := fun y56 y57 y58 y59 y60 y61 y62 y63 y64 y65 y66 y67 y68 y69 y70 => hQ y56 y57 y58 y59 y60 y61 y62 y63 y64 y65 y66 y67 y68 y69 y70 w3 G c3 (by omega) (hBW.trans b31) R30
  replace CL := Lib.hid CL
  replace CL2 := Lib.hid (CL2 (.cells #[.int .i64 b, .int .i64 fr, .int .i64 tg, .int .i64 am] 115))
  replace EQ := Lib.hid EQ
  replace hG := Lib.hid hG
  clear R30 R3 R1 hQ hBW hsz b3 z1 z2 z3 z4 f1
  refine' wpAnyH_take (i := 0) (oi := ?o1) (v := ?v1) ?hi1 (by kernel_rfl) (by kernel_rfl) (by kernel_rfl) (fun c a w h => hP c a _ _ w h) (Or.inl ⟨?hw1, ?hy1⟩) hHeld ?rest1
  case hi1 => simp only [List.getElem?_toArray, List.getElem?_cons_zero]; rfl
  case hw1 => rfl
  case hy1 =>
    intro w hSw
    obtain ⟨s1, s2, s3, s4⟩ := hSw
    go_simp
    try with_reducible rfl
  simp only [Act.put, List.setIfInBounds_toArray, List.set_cons_zero, List.set_cons_succ]
  refine' wpAnyH_take (i := 1) (oi := ?o2) (v := ?v2) ?hi2 (by kernel_rfl) (by kernel_rfl) (by kernel_rfl) (fun c a w h => hP c a _ _ w h) (Or.inl ⟨?hw2, ?hy2⟩) hHeld ?rest2
  case hi2 => simp only [List.getElem?_toArray, List.getElem?_cons_succ, List.getElem?_cons_zero]; rfl
  case hw2 => rfl
  case hy2 =>
    intro w hSw
    obtain ⟨s1, s2, s3, s4⟩ := hSw
    go_simp
    try with_reducible rfl
  simp only [Act.put, List.setIfInBounds_toArray, List.set_cons_zero, List.set_cons_succ]
  refine' wpAnyH_take (i := 2) (oi := ?o3) (v := ?v3) ?hi3 (by kernel_rfl) (by kernel_rfl) (by kernel_rfl) (fun c a w h => hP c a _ _ w h) (Or.inl ⟨?hw3, ?hy3⟩) hHeld ?rest3
  case hi3 => simp only [List.getElem?_toArray, List.getElem?_cons_succ, List.getElem?_cons_zero]; rfl
  case hw3 => rfl
  case hy3 =>
    intro w hSw
    obtain ⟨s1, s2, s3, s4⟩ := hSw
    go_simp
    try with_reducible rfl
  simp only [Act.put, List.setIfInBounds_toArray, List.set_cons_zero, List.set_cons_succ]
  refine' wpAnyH_take (i := 3) (oi := ?o4) (v := ?v4) ?hi4 (by kernel_rfl) (by kernel_rfl) (by kernel_rfl) (fun c a w h => hP c a _ _ w h) (Or.inl ⟨?hw4, ?hy4⟩) hHeld ?rest4
  case hi4 => simp only [List.getElem?_toArray, List.getElem?_cons_succ, List.getElem?_cons_zero]; rfl
  case hw4 => rfl
  case hy4 =>
    intro w hSw
    obtain ⟨s1, s2, s3, s4⟩ := hSw
    go_simp
    try with_reducible rfl
  simp only [Act.put, List.setIfInBounds_toArray, List.set_cons_zero, List.set_cons_succ]
  refine' wpAnyH_take (i := 4) (oi := ?o5) (v := ?v5) ?hi5 (by kernel_rfl) (by kernel_rfl) (by kernel_rfl) (fun c a w h => hP c a _ _ w h) (Or.inl ⟨?hw5, ?hy5⟩) hHeld ?rest5
  case hi5 => simp only [List.getElem?_toArray, List.getElem?_cons_succ, List.getElem?_cons_zero]; rfl
  case hw5 => rfl
  case hy5 =>
    intro w hSw
    obtain ⟨s1, s2, s3, s4⟩ := hSw
    go_simp
    try with_reducible rfl
  simp only [Act.put, List.setIfInBounds_toArray, List.set_cons_zero, List.set_cons_succ]
  refine' wpAnyH_take (i := 6) (oi := ?o6) (v := ?v6) ?hi6 (by kernel_rfl) (by kernel_rfl) (by kernel_rfl) (fun c a w h => hP c a _ _ w h) (Or.inl ⟨?hw6, ?hy6⟩) hHeld ?rest6
  case hi6 => simp only [List.getElem?_toArray, List.getElem?_cons_succ, List.getElem?_cons_zero]; rfl
  case hw6 => rfl
  case hy6 =>
    intro w hSw
    obtain ⟨s1, s2, s3, s4⟩ := hSw
    go_simp
    try with_reducible rfl
  simp only [Act.put, List.setIfInBounds_toArray, List.set_cons_zero, List.set_cons_succ]
  refine' wpAnyH_take (i := 7) (oi := ?o7) (v := ?v7) ?hi7 (by kernel_rfl) (by kernel_rfl) (by kernel_rfl) (fun c a w h => hP c a _ _ w h) (Or.inl ⟨?hw7, ?hy7⟩) hHeld ?rest7
  case hi7 => simp only [List.getElem?_toArray, List.getElem?_cons_succ, List.getElem?_cons_zero]; rfl
  case hw7 => rfl
  case hy7 =>
    intro w hSw
    obtain ⟨s1, s2, s3, s4⟩ := hSw
    go_simp
    try with_reducible rfl
  simp only [Act.put, List.setIfInBounds_toArray, List.set_cons_zero, List.set_cons_succ]
  refine' wpAnyH_take (i := 8) (oi := ?o8) (v := ?v8) ?hi8 (by kernel_rfl) (by kernel_rfl) (by kernel_rfl) (fun c a w h => hP c a _ _ w h) (Or.inl ⟨?hw8, ?hy8⟩) hHeld ?rest8
  case hi8 => simp only [List.getElem?_toArray, List.getElem?_cons_succ, List.getElem?_cons_zero]; rfl
  case hw8 => rfl
  case hy8 =>
    intro w hSw
    obtain ⟨s1, s2, s3, s4⟩ := hSw
    go_simp
    try with_reducible rfl
  simp only [Act.put, List.setIfInBounds_toArray, List.set_cons_zero, List.set_cons_succ]
  refine' wpAnyH_take (i := 9) (oi := ?o9) (v := ?v9) ?hi9 (by kernel_rfl) (by kernel_rfl) (by kernel_rfl) (fun c a w h => hP c a _ _ w h) (Or.inl ⟨?hw9, ?hy9⟩) hHeld ?rest9
  case hi9 => simp only [List.getElem?_toArray, List.getElem?_cons_succ, List.getElem?_cons_zero]; rfl
  case hw9 => rfl
  case hy9 =>
    intro w hSw
    obtain ⟨s1, s2, s3, s4⟩ := hSw
    go_simp
    try with_reducible rfl
  simp only [Act.put, List.setIfInBounds_toArray, List.set_cons_zero, List.set_cons_succ]
  refine' wpAnyH_take (i := 10) (oi := ?o10) (v := ?v10) ?hi10 (by kernel_rfl) (by kernel_rfl) (by kernel_rfl) (fun c a w h => hP c a _ _ w h) (Or.inl ⟨?hw10, ?hy10⟩) hHeld ?rest10
  case hi10 => simp only [List.getElem?_toArray, List.getElem?_cons_succ, List.getElem?_cons_zero]; rfl
  case hw10 => rfl
  case hy10 =>
    intro w hSw
    obtain ⟨s1, s2, s3, s4⟩ := hSw
    go_simp
    try with_reducible rfl
  simp only [Act.put, List.setIfInBounds_toArray, List.set_cons_zero, List.set_cons_succ]
  refine wpAnyH_ready (rs := [5, 11]) (by kernel_rfl) (by simp) ?_
  refine' AllReadyH.cons (i := 5) (o := ?o11) ?hi11 (fun K hK => ?st11) ?mo11
  case hi11 => simp only [List.getElem?_toArray, List.getElem?_cons_succ, List.getElem?_cons_zero]; rfl
  case st11 =>
    go_simp
    refine CL.out.mono ?_
    rintro e w' ⟨rfl, rfl⟩
    go_simp
    refine hK.out _ _ (HC _ (Below.refl _ _)) (fun hHeld => ?_)
    clear hK K
    try simp only [Act.put, List.setIfInBounds_toArray, List.set_cons_zero, List.set_cons_succ]
    refine wpAnyH_ready (rs := [11]) (by kernel_rfl) (by simp) ?_
    refine' AllReadyH.cons (i := 11) (o := ?o12) ?hi12 (fun K hK => ?st12) ?mo12
    case hi12 => simp only [List.getElem?_toArray, List.getElem?_cons_succ, List.getElem?_cons_zero]; rfl
    case st12 =>
      go_simp
      refine hK.out _ _ (HC _ (SE)) (fun hHeld => ?_)
      clear hK K
      try simp only [Act.put, List.setIfInBounds_toArray, List.set_cons_zero, List.set_cons_succ]
      refine wpAnyH_ready (rs := [12]) (by kernel_rfl) (by simp) ?_
      refine' AllReadyH.cons (i := 12) (o := ?o13) ?hi13 (fun K hK => ?st13) ?mo13
      case hi13 => simp only [List.getElem?_toArray, List.getElem?_cons_succ, List.getElem?_cons_zero]; rfl
      case st13 =>
        refine step_run_app rfl (.tmp 61) (.tmp 67) rfl rfl (.slice A n n) (.slice (some ⟨W1.heap.size, 0, none⟩) 1 1) rfl rfl r3 ?_
        refine hK.out _ _ (HC _ (b31)) (fun hHeld => ?_)
        clear hK K
        try simp only [Act.put, List.setIfInBounds_toArray, List.set_cons_zero, List.set_cons_succ]
        refine' wpAnyH_take (i := 13) (oi := ?o14) (v := ?v14) ?hi14 (by kernel_rfl) (by kernel_rfl) (by kernel_rfl) (fun c a w h => hP c a _ _ w h) (Or.inl ⟨?hw14, ?hy14⟩) hHeld ?rest14
        case hi14 => simp only [List.getElem?_toArray, List.getElem?_cons_succ, List.getElem?_cons_zero]; rfl
        case hw14 => rfl
        case hy14 =>
          intro w hSw
          obtain ⟨s1, s2, s3, s4⟩ := hSw
          go_simp
          try with_reducible rfl
        simp only [Act.put, List.setIfInBounds_toArray, List.set_cons_zero, List.set_cons_succ]
        refine' wpAnyH_take (i := 14) (oi := ?o15) (v := ?v15) ?hi15 (by kernel_rfl) (by kernel_rfl) (by kernel_rfl) (fun c a w h => hP c a _ _ w h) (Or.inl ⟨?hw15, ?hy15⟩) hHeld ?rest15
        case hi15 => simp only [List.getElem?_toArray, List.getElem?_cons_succ, List.getElem?_cons_zero]; rfl
        case hw15 => rfl
        case hy15 =>
          intro w hSw
          obtain ⟨s1, s2, s3, s4⟩ := hSw
          go_simp
          try with_reducible rfl
        simp only [Act.put, List.setIfInBounds_toArray, List.set_cons_zero, List.set_cons_succ]
        refine wpAnyH_done (by kernel_rfl) ?_ _
        refine tillQ_normal ?_
        refine' wpOp_step (i := 15) (o := ?o16) ?hi16 (fun K hK => ?_)
        case hi16 => simp only [List.getElem?_toArray, List.getElem?_cons_succ, List.getElem?_cons_zero]; rfl
        obtain ⟨-, d3, -, -⟩ := hHeld
        go_simp
        refine hK _ _ ?_
        exact EQ.out _ _ _ _ _ _ _ _ _ _ _ _ _ _ _
      case mo13 => exact AllReadyH.nil
    case mo12 => exact AllReadyH.nil
  case mo11 =>
    refine' AllReadyH.cons (i := 11) (o := ?o17) ?hi17 (fun K hK => ?st17) ?mo17
    case hi17 => simp only [List.getElem?_toArray, List.getElem?_cons_succ, List.getElem?_cons_zero]; rfl
    case st17 =>
      go_simp
      refine hK.out _ _ (HC _ (SE)) (fun hHeld => ?_)
      clear hK K
      try simp only [Act.put, List.setIfInBounds_toArray, List.set_cons_zero, List.set_cons_succ]
      refine wpAnyH_ready (rs := [5]) (by kernel_rfl) (by simp) ?_
      refine' AllReadyH.cons (i := 5) (o := ?o18) ?hi18 (fun K hK => ?st18) ?mo18
      case hi18 => simp only [List.getElem?_toArray, List.getElem?_cons_succ, List.getElem?_cons_zero]; rfl
      case st18 =>
        go_simp
        refine CL2.out.mono ?_
        rintro e w' ⟨rfl, rfl⟩
        go_simp
        refine hK.out _ _ (HC _ (SE)) (fun hHeld => ?_)
        clear hK K
        try simp only [Act.put, List.setIfInBounds_toArray, List.set_cons_zero, List.set_cons_succ]
        refine wpAnyH_ready (rs := [12]) (by kernel_rfl) (by simp) ?_
        refine' AllReadyH.cons (i := 12) (o := ?o19) ?hi19 (fun K hK => ?st19) ?mo19
        case hi19 => simp only [List.getElem?_toArray, List.getElem?_cons_succ, List.getElem?_cons_zero]; rfl
        case st19 =>
          refine step_run_app rfl (.tmp 61) (.tmp 67) rfl rfl (.slice A n n) (.slice (some ⟨W1.heap.size, 0, none⟩) 1 1) rfl rfl r3 ?_
          refine hK.out _ _ (HC _ (b31)) (fun hHeld => ?_)
          clear hK K
          try simp only [Act.put, List.setIfInBounds_toArray, List.set_cons_zero, List.set_cons_succ]
          refine' wpAnyH_take (i := 13) (oi := ?o20) (v := ?v20) ?hi20 (by kernel_rfl) (by kernel_rfl) (by kernel_rfl) (fun c a w h => hP c a _ _ w h) (Or.inl ⟨?hw20, ?hy20⟩) hHeld ?rest20
          case hi20 => simp only [List.getElem?_toArray, List.getElem?_cons_succ, List.getElem?_cons_zero]; rfl
          case hw20 => rfl
          case hy20 =>
            intro w hSw
            obtain ⟨s1, s2, s3, s4⟩ := hSw
            go_simp
            try with_reducible rfl
          simp only [Act.put, List.setIfInBounds_toArray, List.set_cons_zero, List.set_cons_succ]
          refine' wpAnyH_take (i := 14) (oi := ?o21) (v := ?v21) ?hi21 (by kernel_rfl) (by kernel_rfl) (by kernel_rfl) (fun c a w h => hP c a _ _ w h) (Or.inl ⟨?hw21, ?hy21⟩) hHeld ?rest21
          case hi21 => simp only [List.getElem?_toArray, List.getElem?_cons_succ, List.getElem?_cons_zero]; rfl
          case hw21 => rfl
          case hy21 =>
            intro w hSw
            obtain ⟨s1, s2, s3, s4⟩ := hSw
            go_simp
            try with_reducible rfl
          simp only [Act.put, List.setIfInBounds_toArray, List.set_cons_zero, List.set_cons_succ]
          refine wpAnyH_done (by kernel_rfl) ?_ _
          refine tillQ_normal ?_
          refine' wpOp_step (i := 15) (o := ?o22) ?hi22 (fun K hK => ?_)
          case hi22 => simp only [List.getElem?_toArray, List.getElem?_cons_succ, List.getElem?_cons_zero]; rfl
          obtain ⟨-, d3, -, -⟩ := hHeld
          go_simp
          refine hK _ _ ?_
          exact EQ.out _ _ _ _ _ _ _ _ _ _ _ _ _ _ _
        case mo19 => exact AllReadyH.nil
      case mo18 => exact AllReadyH.nil
    case mo17 => exact AllReadyH.nil
end Pu
end Go.Proofs.Ytchlbkfkecpodaa
