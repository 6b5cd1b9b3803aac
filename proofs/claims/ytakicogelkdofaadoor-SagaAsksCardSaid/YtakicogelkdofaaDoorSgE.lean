/- The document's Answer of a saga. -/
import Derived.Test.YtakicogelkdofaaDoorSgD
import Derived.Test.YtakicogelkdofaaDoorSgF
namespace Go.Proofs.YtakicogelkdofaaDoor
set_option maxRecDepth 100000
open Go.RowKit
open Go.Proofs.YtakicogelkdofaaDoor.Pk (one_at one_free one_set lt_some grown_set grown_trans below_grown grown_refl)
namespace Sg
open Wt (Wan may Opn mayOp may_any refmay_any below_drewN inR)
open Pl (Stp fwd bck cap z0 wanv spv regionAt rask_size one6 wpList_store_row setRow_below below_of_grown)

noncomputable def an_11 : Code := (Tryd.f19.body.bind (regionAt 11)).getD .skip
set_option maxHeartbeats 12800000 in
theorem an11a (z0 z1 z2 z4 z5 z6 z7 z8 z9 z10 z11 z12 z13 z14 z15 z16 z17 z18 z19 z20 z21 z22 z23 z24 z25 z26 z27 z28 z29 z30 z31 z32 z33 z34 z35 z36 z37 z38 z39 z40 z41 z42 z43 z44 z45 z46 z47 z48 z49 z50 z51 z52 z53 z54 z55 z56 z57 z58 z59 z60 z61 z62 z63 z64 z65 z66 z67 z68 z69 z70 z71 z72 z73 z74 z75 z76 z77 z78 z79 z80 z81 z82 z83 z84 z85 z86 z87 z88 z89 z90 z91 : Value) (W : World) (q n : Nat) (s : Sag)
    (CB : Hid (∀ w', Below W.heap.size W w' → CellS w' q s))
    (_F : Hid (∀ w', Below W.heap.size W w' → Calls Tryd.prog 36 #[.agg #[.int .i64 s.w.book, .int .i64 s.w.cust, .int .i64 s.w.dead, .int .i64 s.w.u0, .int .i64 s.w.u1, .int .i64 s.w.u2, .int .i64 s.w.price]] w' fun e w'' => (∃ A c, e = .returned (.slice A n c)) ∧ Below W.heap.size W w''))
    (g1 : (s.ph == 1) = false)
    (Q : Exit → Act → World → Prop)
    (hP : ∀ c a d v w, Q (.panic c) (Act.put a d v) w → Q (.panic c) a w)
    (hQ : ∀ (y56 y57 y58 y59 y60 y61 y62 y63 y64 y65 y66 y67 : Value)  (W3 : World), Below W.heap.size W W3 → Q .normal ⟨#[z0, z1, z2, .pointer (some ⟨q, 0, none⟩), z4, z5, z6, z7, z8, z9, z10, z11, z12, z13, z14, z15, z16, z17, z18, z19, z20, z21, z22, z23, z24, z25, z26, z27, z28, z29, z30, z31, z32, z33, z34, z35, z36, z37, z38, z39, z40, z41, z42, z43, z44, z45, z46, z47, z48, z49, z50, z51, z52, z53, z54, .bool false, y56, y57, y58, y59, y60, y61, y62, y63, y64, y65, y66, y67, z68, z69, z70, z71, z72, z73, z74, z75, z76, z77, z78, z79, z80, z81, z82, z83, z84, z85, z86, z87, z88, z89, z90, z91], []⟩ W3) :
    Code.wp Tryd.prog an_11 Q ⟨#[z0, z1, z2, .pointer (some ⟨q, 0, none⟩), z4, z5, z6, z7, z8, z9, z10, z11, z12, z13, z14, z15, z16, z17, z18, z19, z20, z21, z22, z23, z24, z25, z26, z27, z28, z29, z30, z31, z32, z33, z34, z35, z36, z37, z38, z39, z40, z41, z42, z43, z44, z45, z46, z47, z48, z49, z50, z51, z52, z53, z54, z55, z56, z57, z58, z59, z60, z61, z62, z63, z64, z65, z66, z67, z68, z69, z70, z71, z72, z73, z74, z75, z76, z77, z78, z79, z80, z81, z82, z83, z84, z85, z86, z87, z88, z89, z90, z91], []⟩ W := by
  conv => arg 2; whnf
  have b0 : Below W.heap.size W W.drew := ⟨rfl, rfl, rfl, Nat.le_refl _, fun _ _ => rfl⟩
  refine wp_region_held_drew (S := fun w => Below W.heap.size W w) (by kernel_rfl) b0 (fun hHeld => ?_)
  replace hQ := Lib.hid hQ
  clear b0
  obtain ⟨v0, hv⟩ : ∃ v, v = W.drew := ⟨_, rfl⟩
  rw [← hv] at hHeld ⊢
  clear hv
  refine' wpAnyH_take (i := 0) (oi := ?o1) (v := ?v1) ?hi1 (by kernel_rfl) (by kernel_rfl) (by kernel_rfl) (fun c a w h => hP c a _ _ w h) (Or.inl ⟨?hw1, ?hy1⟩) hHeld ?rest1
  case hi1 => simp only [List.getElem?_toArray, List.getElem?_cons_zero]; rfl
  case hw1 => rfl
  case hy1 =>
    intro w _
    go_simp
    try with_reducible rfl
  simp only [Act.put, List.setIfInBounds_toArray, List.set_cons_zero, List.set_cons_succ]
  refine' wpAnyH_take (i := 1) (oi := ?o2) (v := ?v2) ?hi2 (by kernel_rfl) (by kernel_rfl) (by kernel_rfl) (fun c a w h => hP c a _ _ w h) (Or.inl ⟨?hw2, ?hy2⟩) hHeld ?rest2
  case hi2 => simp only [List.getElem?_toArray, List.getElem?_cons_succ, List.getElem?_cons_zero]; rfl
  case hw2 => rfl
  case hy2 =>
    intro w hSw
    obtain ⟨c0, c1, c2, c3, c4, c5, c6, c7, c8, c9, ca⟩ := CB.out _ hSw
    go_simp
    try with_reducible rfl
  simp only [Act.put, List.setIfInBounds_toArray, List.set_cons_zero, List.set_cons_succ]
  refine' wpAnyH_take (i := 2) (oi := ?o3) (v := ?v3) ?hi3 (by kernel_rfl) (by kernel_rfl) (by kernel_rfl) (fun c a w h => hP c a _ _ w h) (Or.inl ⟨?hw3, ?hy3⟩) hHeld ?rest3
  case hi3 => simp only [List.getElem?_toArray, List.getElem?_cons_succ, List.getElem?_cons_zero]; rfl
  case hw3 => rfl
  case hy3 =>
    intro w _
    go_simp
    try with_reducible rfl
  simp only [Act.put, List.setIfInBounds_toArray, List.set_cons_zero, List.set_cons_succ]
  refine' wpAnyH_take (i := 3) (oi := ?o4) (v := ?v4) ?hi4 (by kernel_rfl) (by kernel_rfl) (by kernel_rfl) (fun c a w h => hP c a _ _ w h) (Or.inl ⟨?hw4, ?hy4⟩) hHeld ?rest4
  case hi4 => simp only [List.getElem?_toArray, List.getElem?_cons_succ, List.getElem?_cons_zero]; rfl
  case hw4 => rfl
  case hy4 =>
    intro w _
    go_simp
    try with_reducible rfl
  simp only [Act.put, List.setIfInBounds_toArray, List.set_cons_zero, List.set_cons_succ]
  refine' wpAnyH_take (i := 4) (oi := ?o5) (v := undef) ?hi5 (by kernel_rfl) (by kernel_rfl) (by kernel_rfl) (fun c a w h => hP c a _ _ w h) (Or.inr ⟨?hw5, rfl⟩) hHeld ?rest5
  case hi5 => simp only [List.getElem?_toArray, List.getElem?_cons_succ, List.getElem?_cons_zero]; rfl
  case hw5 => rfl
  simp only [Act.put, List.setIfInBounds_toArray, List.set_cons_zero, List.set_cons_succ]
  refine' wpAnyH_take (i := 5) (oi := ?o6) (v := undef) ?hi6 (by kernel_rfl) (by kernel_rfl) (by kernel_rfl) (fun c a w h => hP c a _ _ w h) (Or.inr ⟨?hw6, rfl⟩) hHeld ?rest6
  case hi6 => simp only [List.getElem?_toArray, List.getElem?_cons_succ, List.getElem?_cons_zero]; rfl
  case hw6 => rfl
  simp only [Act.put, List.setIfInBounds_toArray, List.set_cons_zero, List.set_cons_succ]
  refine' wpAnyH_take (i := 6) (oi := ?o7) (v := undef) ?hi7 (by kernel_rfl) (by kernel_rfl) (by kernel_rfl) (fun c a w h => hP c a _ _ w h) (Or.inr ⟨?hw7, rfl⟩) hHeld ?rest7
  case hi7 => simp only [List.getElem?_toArray, List.getElem?_cons_succ, List.getElem?_cons_zero]; rfl
  case hw7 => rfl
  simp only [Act.put, List.setIfInBounds_toArray, List.set_cons_zero, List.set_cons_succ]
  refine' wpAnyH_take (i := 7) (oi := ?o8) (v := undef) ?hi8 (by kernel_rfl) (by kernel_rfl) (by kernel_rfl) (fun c a w h => hP c a _ _ w h) (Or.inr ⟨?hw8, rfl⟩) hHeld ?rest8
  case hi8 => simp only [List.getElem?_toArray, List.getElem?_cons_succ, List.getElem?_cons_zero]; rfl
  case hw8 => rfl
  simp only [Act.put, List.setIfInBounds_toArray, List.set_cons_zero, List.set_cons_succ]
  refine' wpAnyH_take (i := 8) (oi := ?o9) (v := undef) ?hi9 (by kernel_rfl) (by kernel_rfl) (by kernel_rfl) (fun c a w h => hP c a _ _ w h) (Or.inr ⟨?hw9, rfl⟩) hHeld ?rest9
  case hi9 => simp only [List.getElem?_toArray, List.getElem?_cons_succ, List.getElem?_cons_zero]; rfl
  case hw9 => rfl
  simp only [Act.put, List.setIfInBounds_toArray, List.set_cons_zero, List.set_cons_succ]
  refine' wpAnyH_take (i := 9) (oi := ?o10) (v := undef) ?hi10 (by kernel_rfl) (by kernel_rfl) (by kernel_rfl) (fun c a w h => hP c a _ _ w h) (Or.inr ⟨?hw10, rfl⟩) hHeld ?rest10
  case hi10 => simp only [List.getElem?_toArray, List.getElem?_cons_succ, List.getElem?_cons_zero]; rfl
  case hw10 => rfl
  simp only [Act.put, List.setIfInBounds_toArray, List.set_cons_zero, List.set_cons_succ]
  refine' wpAnyH_take (i := 10) (oi := ?o11) (v := undef) ?hi11 (by kernel_rfl) (by kernel_rfl) (by kernel_rfl) (fun c a w h => hP c a _ _ w h) (Or.inr ⟨?hw11, rfl⟩) hHeld ?rest11
  case hi11 => simp only [List.getElem?_toArray, List.getElem?_cons_succ, List.getElem?_cons_zero]; rfl
  case hw11 => rfl
  simp only [Act.put, List.setIfInBounds_toArray, List.set_cons_zero, List.set_cons_succ]
  refine' wpAnyH_take (i := 11) (oi := ?o12) (v := ?v12) ?hi12 (by kernel_rfl) (by kernel_rfl) (by kernel_rfl) (fun c a w h => hP c a _ _ w h) (Or.inl ⟨?hw12, ?hy12⟩) hHeld ?rest12
  case hi12 => simp only [List.getElem?_toArray, List.getElem?_cons_succ, List.getElem?_cons_zero]; rfl
  case hw12 => rfl
  case hy12 =>
    intro w _
    go_simp
    try with_reducible rfl
  simp only [Act.put, List.setIfInBounds_toArray, List.set_cons_zero, List.set_cons_succ]
  refine' wpAnyH_take (i := 12) (oi := ?o13) (v := ?v13) ?hi13 (by kernel_rfl) (by kernel_rfl) (by kernel_rfl) (fun c a w h => hP c a _ _ w h) (Or.inl ⟨?hw13, ?hy13⟩) hHeld ?rest13
  case hi13 => simp only [List.getElem?_toArray, List.getElem?_cons_succ, List.getElem?_cons_zero]; rfl
  case hw13 => rfl
  case hy13 =>
    intro w _
    go_simp
    try with_reducible rfl
  simp only [Act.put, List.setIfInBounds_toArray, List.set_cons_zero, List.set_cons_succ]
  refine wpAnyH_done (by kernel_rfl) ?_ _
  exact hQ.out _ _ _ _ _ _ _ _ _ _ _ _ _  hHeld
set_option maxHeartbeats 12800000 in
theorem an11b (z0 z1 z2 z4 z5 z6 z7 z8 z9 z10 z11 z12 z13 z14 z15 z16 z17 z18 z19 z20 z21 z22 z23 z24 z25 z26 z27 z28 z29 z30 z31 z32 z33 z34 z35 z36 z37 z38 z39 z40 z41 z42 z43 z44 z45 z46 z47 z48 z49 z50 z51 z52 z53 z54 z55 z56 z57 z58 z59 z60 z61 z62 z63 z64 z65 z66 z67 z68 z69 z70 z71 z72 z73 z74 z75 z76 z77 z78 z79 z80 z81 z82 z83 z84 z85 z86 z87 z88 z89 z90 z91 : Value) (W : World) (q n : Nat) (s : Sag)
    (CB : Hid (∀ w', Below W.heap.size W w' → CellS w' q s))
    (F : Hid (∀ w', Below W.heap.size W w' → Calls Tryd.prog 36 #[.agg #[.int .i64 s.w.book, .int .i64 s.w.cust, .int .i64 s.w.dead, .int .i64 s.w.u0, .int .i64 s.w.u1, .int .i64 s.w.u2, .int .i64 s.w.price]] w' fun e w'' => (∃ A c, e = .returned (.slice A n c)) ∧ Below W.heap.size W w''))
    (hp : s.ph = 1)
    (Q : Exit → Act → World → Prop)
    (hP : ∀ c a d v w, Q (.panic c) (Act.put a d v) w → Q (.panic c) a w)
    (hQ : ∀ (y56 y57 y58 y59 y60 y61 y62 y63 y64 y65 y66 y67 : Value)  (W3 : World), Below W.heap.size W W3 → Q .normal ⟨#[z0, z1, z2, .pointer (some ⟨q, 0, none⟩), z4, z5, z6, z7, z8, z9, z10, z11, z12, z13, z14, z15, z16, z17, z18, z19, z20, z21, z22, z23, z24, z25, z26, z27, z28, z29, z30, z31, z32, z33, z34, z35, z36, z37, z38, z39, z40, z41, z42, z43, z44, z45, z46, z47, z48, z49, z50, z51, z52, z53, z54, .bool (s.st == (n : Int)), y56, y57, y58, y59, y60, y61, y62, y63, y64, y65, y66, y67, z68, z69, z70, z71, z72, z73, z74, z75, z76, z77, z78, z79, z80, z81, z82, z83, z84, z85, z86, z87, z88, z89, z90, z91], []⟩ W3) :
    Code.wp Tryd.prog an_11 Q ⟨#[z0, z1, z2, .pointer (some ⟨q, 0, none⟩), z4, z5, z6, z7, z8, z9, z10, z11, z12, z13, z14, z15, z16, z17, z18, z19, z20, z21, z22, z23, z24, z25, z26, z27, z28, z29, z30, z31, z32, z33, z34, z35, z36, z37, z38, z39, z40, z41, z42, z43, z44, z45, z46, z47, z48, z49, z50, z51, z52, z53, z54, z55, z56, z57, z58, z59, z60, z61, z62, z63, z64, z65, z66, z67, z68, z69, z70, z71, z72, z73, z74, z75, z76, z77, z78, z79, z80, z81, z82, z83, z84, z85, z86, z87, z88, z89, z90, z91], []⟩ W := by
  conv => arg 2; whnf
  have b0 : Below W.heap.size W W.drew := ⟨rfl, rfl, rfl, Nat.le_refl _, fun _ _ => rfl⟩
  refine wp_region_held_drew (S := fun w => Below W.heap.size W w) (by kernel_rfl) b0 (fun hHeld => ?_)
  replace hQ := Lib.hid hQ
  clear b0
  obtain ⟨v0, hv⟩ : ∃ v, v = W.drew := ⟨_, rfl⟩
  rw [← hv] at hHeld ⊢
  clear hv
  refine' wpAnyH_take (i := 0) (oi := ?o1) (v := ?v1) ?hi1 (by kernel_rfl) (by kernel_rfl) (by kernel_rfl) (fun c a w h => hP c a _ _ w h) (Or.inl ⟨?hw1, ?hy1⟩) hHeld ?rest1
  case hi1 => simp only [List.getElem?_toArray, List.getElem?_cons_zero]; rfl
  case hw1 => rfl
  case hy1 =>
    intro w _
    go_simp
    try with_reducible rfl
  simp only [Act.put, List.setIfInBounds_toArray, List.set_cons_zero, List.set_cons_succ]
  refine' wpAnyH_take (i := 1) (oi := ?o2) (v := ?v2) ?hi2 (by kernel_rfl) (by kernel_rfl) (by kernel_rfl) (fun c a w h => hP c a _ _ w h) (Or.inl ⟨?hw2, ?hy2⟩) hHeld ?rest2
  case hi2 => simp only [List.getElem?_toArray, List.getElem?_cons_succ, List.getElem?_cons_zero]; rfl
  case hw2 => rfl
  case hy2 =>
    intro w hSw
    obtain ⟨c0, c1, c2, c3, c4, c5, c6, c7, c8, c9, ca⟩ := CB.out _ hSw; rw [hp] at c7
    go_simp
    try with_reducible rfl
  simp only [Act.put, List.setIfInBounds_toArray, List.set_cons_zero, List.set_cons_succ]
  refine' wpAnyH_take (i := 2) (oi := ?o3) (v := ?v3) ?hi3 (by kernel_rfl) (by kernel_rfl) (by kernel_rfl) (fun c a w h => hP c a _ _ w h) (Or.inl ⟨?hw3, ?hy3⟩) hHeld ?rest3
  case hi3 => simp only [List.getElem?_toArray, List.getElem?_cons_succ, List.getElem?_cons_zero]; rfl
  case hw3 => rfl
  case hy3 =>
    intro w _
    go_simp
    try with_reducible rfl
  simp only [Act.put, List.setIfInBounds_toArray, List.set_cons_zero, List.set_cons_succ]
  refine' wpAnyH_take (i := 3) (oi := ?o4) (v := ?v4) ?hi4 (by kernel_rfl) (by kernel_rfl) (by kernel_rfl) (fun c a w h => hP c a _ _ w h) (Or.inl ⟨?hw4, ?hy4⟩) hHeld ?rest4
  case hi4 => simp only [List.getElem?_toArray, List.getElem?_cons_succ, List.getElem?_cons_zero]; rfl
  case hw4 => rfl
  case hy4 =>
    intro w _
    go_simp
    try with_reducible rfl
  simp only [Act.put, List.setIfInBounds_toArray, List.set_cons_zero, List.set_cons_succ]
  refine' wpAnyH_take (i := 4) (oi := ?o5) (v := ?v5) ?hi5 (by kernel_rfl) (by kernel_rfl) (by kernel_rfl) (fun c a w h => hP c a _ _ w h) (Or.inl ⟨?hw5, ?hy5⟩) hHeld ?rest5
  case hi5 => simp only [List.getElem?_toArray, List.getElem?_cons_succ, List.getElem?_cons_zero]; rfl
  case hw5 => rfl
  case hy5 =>
    intro w _
    go_simp
    try with_reducible rfl
  simp only [Act.put, List.setIfInBounds_toArray, List.set_cons_zero, List.set_cons_succ]
  refine' wpAnyH_take (i := 5) (oi := ?o6) (v := ?v6) ?hi6 (by kernel_rfl) (by kernel_rfl) (by kernel_rfl) (fun c a w h => hP c a _ _ w h) (Or.inl ⟨?hw6, ?hy6⟩) hHeld ?rest6
  case hi6 => simp only [List.getElem?_toArray, List.getElem?_cons_succ, List.getElem?_cons_zero]; rfl
  case hw6 => rfl
  case hy6 =>
    intro w hSw
    obtain ⟨c0, c1, c2, c3, c4, c5, c6, c7, c8, c9, ca⟩ := CB.out _ hSw
    go_simp
    try with_reducible rfl
  simp only [Act.put, List.setIfInBounds_toArray, List.set_cons_zero, List.set_cons_succ]
  refine' wpAnyH_take (i := 6) (oi := ?o7) (v := ?v7) ?hi7 (by kernel_rfl) (by kernel_rfl) (by kernel_rfl) (fun c a w h => hP c a _ _ w h) (Or.inl ⟨?hw7, ?hy7⟩) hHeld ?rest7
  case hi7 => simp only [List.getElem?_toArray, List.getElem?_cons_succ, List.getElem?_cons_zero]; rfl
  case hw7 => rfl
  case hy7 =>
    intro w _
    go_simp
    try with_reducible rfl
  simp only [Act.put, List.setIfInBounds_toArray, List.set_cons_zero, List.set_cons_succ]
  refine' wpAnyH_take (i := 7) (oi := ?o8) (v := ?v8) ?hi8 (by kernel_rfl) (by kernel_rfl) (by kernel_rfl) (fun c a w h => hP c a _ _ w h) (Or.inl ⟨?hw8, ?hy8⟩) hHeld ?rest8
  case hi8 => simp only [List.getElem?_toArray, List.getElem?_cons_succ, List.getElem?_cons_zero]; rfl
  case hw8 => rfl
  case hy8 =>
    intro w hSw
    obtain ⟨c0, c1, c2, c3, c4, c5, c6, c7, c8, c9, ca⟩ := CB.out _ hSw
    go_simp
    try with_reducible rfl
  simp only [Act.put, List.setIfInBounds_toArray, List.set_cons_zero, List.set_cons_succ]
  refine wpAnyH_ready (rs := [8]) (by kernel_rfl) (by simp) ?_
  refine' AllReadyH.cons (i := 8) (o := ?o9) ?hi9 (fun K hK => ?st9) ?mo9
  case hi9 => simp only [List.getElem?_toArray, List.getElem?_cons_succ, List.getElem?_cons_zero]; rfl
  case st9 =>
    go_simp
    refine (F.out _ hHeld).mono ?_
    rintro e v1 ⟨⟨A, c, rfl⟩, h6⟩
    clear hHeld
    go_simp
    refine hK.out _ _ h6 (fun hHeld => ?_)
    clear hK K h6
    try simp only [Act.put, List.setIfInBounds_toArray, List.set_cons_zero, List.set_cons_succ]
    refine' wpAnyH_take (i := 9) (oi := ?o10) (v := ?v10) ?hi10 (by kernel_rfl) (by kernel_rfl) (by kernel_rfl) (fun c a w h => hP c a _ _ w h) (Or.inl ⟨?hw10, ?hy10⟩) hHeld ?rest10
    case hi10 => simp only [List.getElem?_toArray, List.getElem?_cons_succ, List.getElem?_cons_zero]; rfl
    case hw10 => rfl
    case hy10 =>
      intro w _
      go_simp
      try with_reducible rfl
    simp only [Act.put, List.setIfInBounds_toArray, List.set_cons_zero, List.set_cons_succ]
    refine' wpAnyH_take (i := 10) (oi := ?o11) (v := ?v11) ?hi11 (by kernel_rfl) (by kernel_rfl) (by kernel_rfl) (fun c a w h => hP c a _ _ w h) (Or.inl ⟨?hw11, ?hy11⟩) hHeld ?rest11
    case hi11 => simp only [List.getElem?_toArray, List.getElem?_cons_succ, List.getElem?_cons_zero]; rfl
    case hw11 => rfl
    case hy11 =>
      intro w _
      go_simp
      try with_reducible rfl
    simp only [Act.put, List.setIfInBounds_toArray, List.set_cons_zero, List.set_cons_succ]
    refine' wpAnyH_take (i := 11) (oi := ?o12) (v := ?v12) ?hi12 (by kernel_rfl) (by kernel_rfl) (by kernel_rfl) (fun c a w h => hP c a _ _ w h) (Or.inl ⟨?hw12, ?hy12⟩) hHeld ?rest12
    case hi12 => simp only [List.getElem?_toArray, List.getElem?_cons_succ, List.getElem?_cons_zero]; rfl
    case hw12 => rfl
    case hy12 =>
      intro w _
      go_simp
      try with_reducible rfl
    simp only [Act.put, List.setIfInBounds_toArray, List.set_cons_zero, List.set_cons_succ]
    refine' wpAnyH_take (i := 12) (oi := ?o13) (v := ?v13) ?hi13 (by kernel_rfl) (by kernel_rfl) (by kernel_rfl) (fun c a w h => hP c a _ _ w h) (Or.inl ⟨?hw13, ?hy13⟩) hHeld ?rest13
    case hi13 => simp only [List.getElem?_toArray, List.getElem?_cons_succ, List.getElem?_cons_zero]; rfl
    case hw13 => rfl
    case hy13 =>
      intro w _
      go_simp
      try with_reducible rfl
    simp only [Act.put, List.setIfInBounds_toArray, List.set_cons_zero, List.set_cons_succ]
    refine wpAnyH_done (by kernel_rfl) ?_ _
    exact hQ.out _ _ _ _ _ _ _ _ _ _ _ _ _  hHeld
  case mo9 => exact AllReadyH.nil
noncomputable def an_15 : Code := (Tryd.f19.body.bind (regionAt 15)).getD .skip
set_option maxHeartbeats 12800000 in
theorem an15a (z0 z1 z2 z4 z5 z6 z7 z8 z9 z10 z11 z12 z13 z14 z15 z16 z17 z18 z19 z20 z21 z22 z23 z24 z25 z26 z27 z28 z29 z30 z31 z32 z33 z34 z35 z36 z37 z38 z39 z40 z41 z42 z43 z44 z45 z46 z47 z48 z49 z50 z51 z52 z53 z54 z55 z56 z57 z58 z59 z60 z61 z62 z63 z64 z65 z66 z67 z68 z69 z70 z71 z72 z73 z74 z75 z76 z77 z78 z79 z80 z81 z82 z83 z84 z85 z86 z87 z88 z89 z90 z91 : Value) (W : World) (q n : Nat) (s : Sag)
    (CB : Hid (∀ w', Below W.heap.size W w' → CellS w' q s))
    (_F : Hid (∀ w', Below W.heap.size W w' → Calls Tryd.prog 38 #[.agg #[.int .i64 s.w.book, .int .i64 s.w.cust, .int .i64 s.w.dead, .int .i64 s.w.u0, .int .i64 s.w.u1, .int .i64 s.w.u2, .int .i64 s.w.price]] w' fun e w'' => (∃ A c, e = .returned (.slice A n c)) ∧ Below W.heap.size W w''))
    (g1 : (s.ph == 3) = false)
    (Q : Exit → Act → World → Prop)
    (hP : ∀ c a d v w, Q (.panic c) (Act.put a d v) w → Q (.panic c) a w)
    (hQ : ∀ (y77 y78 y79 y80 y81 y82 y83 y84 y85 y86 y87 y88 : Value)  (W3 : World), Below W.heap.size W W3 → Q .normal ⟨#[z0, z1, z2, .pointer (some ⟨q, 0, none⟩), z4, z5, z6, z7, z8, z9, z10, z11, z12, z13, z14, z15, z16, z17, z18, z19, z20, z21, z22, z23, z24, z25, z26, z27, z28, z29, z30, z31, z32, z33, z34, z35, z36, z37, z38, z39, z40, z41, z42, z43, z44, z45, z46, z47, z48, z49, z50, z51, z52, z53, z54, z55, z56, z57, z58, z59, z60, z61, z62, z63, z64, z65, z66, z67, z68, z69, z70, z71, z72, z73, z74, z75, .bool false, y77, y78, y79, y80, y81, y82, y83, y84, y85, y86, y87, y88, z89, z90, z91], []⟩ W3) :
    Code.wp Tryd.prog an_15 Q ⟨#[z0, z1, z2, .pointer (some ⟨q, 0, none⟩), z4, z5, z6, z7, z8, z9, z10, z11, z12, z13, z14, z15, z16, z17, z18, z19, z20, z21, z22, z23, z24, z25, z26, z27, z28, z29, z30, z31, z32, z33, z34, z35, z36, z37, z38, z39, z40, z41, z42, z43, z44, z45, z46, z47, z48, z49, z50, z51, z52, z53, z54, z55, z56, z57, z58, z59, z60, z61, z62, z63, z64, z65, z66, z67, z68, z69, z70, z71, z72, z73, z74, z75, z76, z77, z78, z79, z80, z81, z82, z83, z84, z85, z86, z87, z88, z89, z90, z91], []⟩ W := by
  conv => arg 2; whnf
  have b0 : Below W.heap.size W W.drew := ⟨rfl, rfl, rfl, Nat.le_refl _, fun _ _ => rfl⟩
  refine wp_region_held_drew (S := fun w => Below W.heap.size W w) (by kernel_rfl) b0 (fun hHeld => ?_)
  replace hQ := Lib.hid hQ
  clear b0
  obtain ⟨v0, hv⟩ : ∃ v, v = W.drew := ⟨_, rfl⟩
  rw [← hv] at hHeld ⊢
  clear hv
  refine' wpAnyH_take (i := 0) (oi := ?o1) (v := ?v1) ?hi1 (by kernel_rfl) (by kernel_rfl) (by kernel_rfl) (fun c a w h => hP c a _ _ w h) (Or.inl ⟨?hw1, ?hy1⟩) hHeld ?rest1
  case hi1 => simp only [List.getElem?_toArray, List.getElem?_cons_zero]; rfl
  case hw1 => rfl
  case hy1 =>
    intro w _
    go_simp
    try with_reducible rfl
  simp only [Act.put, List.setIfInBounds_toArray, List.set_cons_zero, List.set_cons_succ]
  refine' wpAnyH_take (i := 1) (oi := ?o2) (v := ?v2) ?hi2 (by kernel_rfl) (by kernel_rfl) (by kernel_rfl) (fun c a w h => hP c a _ _ w h) (Or.inl ⟨?hw2, ?hy2⟩) hHeld ?rest2
  case hi2 => simp only [List.getElem?_toArray, List.getElem?_cons_succ, List.getElem?_cons_zero]; rfl
  case hw2 => rfl
  case hy2 =>
    intro w hSw
    obtain ⟨c0, c1, c2, c3, c4, c5, c6, c7, c8, c9, ca⟩ := CB.out _ hSw
    go_simp
    try with_reducible rfl
  simp only [Act.put, List.setIfInBounds_toArray, List.set_cons_zero, List.set_cons_succ]
  refine' wpAnyH_take (i := 2) (oi := ?o3) (v := ?v3) ?hi3 (by kernel_rfl) (by kernel_rfl) (by kernel_rfl) (fun c a w h => hP c a _ _ w h) (Or.inl ⟨?hw3, ?hy3⟩) hHeld ?rest3
  case hi3 => simp only [List.getElem?_toArray, List.getElem?_cons_succ, List.getElem?_cons_zero]; rfl
  case hw3 => rfl
  case hy3 =>
    intro w _
    go_simp
    try with_reducible rfl
  simp only [Act.put, List.setIfInBounds_toArray, List.set_cons_zero, List.set_cons_succ]
  refine' wpAnyH_take (i := 3) (oi := ?o4) (v := ?v4) ?hi4 (by kernel_rfl) (by kernel_rfl) (by kernel_rfl) (fun c a w h => hP c a _ _ w h) (Or.inl ⟨?hw4, ?hy4⟩) hHeld ?rest4
  case hi4 => simp only [List.getElem?_toArray, List.getElem?_cons_succ, List.getElem?_cons_zero]; rfl
  case hw4 => rfl
  case hy4 =>
    intro w _
    go_simp
    try with_reducible rfl
  simp only [Act.put, List.setIfInBounds_toArray, List.set_cons_zero, List.set_cons_succ]
  refine' wpAnyH_take (i := 4) (oi := ?o5) (v := undef) ?hi5 (by kernel_rfl) (by kernel_rfl) (by kernel_rfl) (fun c a w h => hP c a _ _ w h) (Or.inr ⟨?hw5, rfl⟩) hHeld ?rest5
  case hi5 => simp only [List.getElem?_toArray, List.getElem?_cons_succ, List.getElem?_cons_zero]; rfl
  case hw5 => rfl
  simp only [Act.put, List.setIfInBounds_toArray, List.set_cons_zero, List.set_cons_succ]
  refine' wpAnyH_take (i := 5) (oi := ?o6) (v := undef) ?hi6 (by kernel_rfl) (by kernel_rfl) (by kernel_rfl) (fun c a w h => hP c a _ _ w h) (Or.inr ⟨?hw6, rfl⟩) hHeld ?rest6
  case hi6 => simp only [List.getElem?_toArray, List.getElem?_cons_succ, List.getElem?_cons_zero]; rfl
  case hw6 => rfl
  simp only [Act.put, List.setIfInBounds_toArray, List.set_cons_zero, List.set_cons_succ]
  refine' wpAnyH_take (i := 6) (oi := ?o7) (v := undef) ?hi7 (by kernel_rfl) (by kernel_rfl) (by kernel_rfl) (fun c a w h => hP c a _ _ w h) (Or.inr ⟨?hw7, rfl⟩) hHeld ?rest7
  case hi7 => simp only [List.getElem?_toArray, List.getElem?_cons_succ, List.getElem?_cons_zero]; rfl
  case hw7 => rfl
  simp only [Act.put, List.setIfInBounds_toArray, List.set_cons_zero, List.set_cons_succ]
  refine' wpAnyH_take (i := 7) (oi := ?o8) (v := undef) ?hi8 (by kernel_rfl) (by kernel_rfl) (by kernel_rfl) (fun c a w h => hP c a _ _ w h) (Or.inr ⟨?hw8, rfl⟩) hHeld ?rest8
  case hi8 => simp only [List.getElem?_toArray, List.getElem?_cons_succ, List.getElem?_cons_zero]; rfl
  case hw8 => rfl
  simp only [Act.put, List.setIfInBounds_toArray, List.set_cons_zero, List.set_cons_succ]
  refine' wpAnyH_take (i := 8) (oi := ?o9) (v := undef) ?hi9 (by kernel_rfl) (by kernel_rfl) (by kernel_rfl) (fun c a w h => hP c a _ _ w h) (Or.inr ⟨?hw9, rfl⟩) hHeld ?rest9
  case hi9 => simp only [List.getElem?_toArray, List.getElem?_cons_succ, List.getElem?_cons_zero]; rfl
  case hw9 => rfl
  simp only [Act.put, List.setIfInBounds_toArray, List.set_cons_zero, List.set_cons_succ]
  refine' wpAnyH_take (i := 9) (oi := ?o10) (v := undef) ?hi10 (by kernel_rfl) (by kernel_rfl) (by kernel_rfl) (fun c a w h => hP c a _ _ w h) (Or.inr ⟨?hw10, rfl⟩) hHeld ?rest10
  case hi10 => simp only [List.getElem?_toArray, List.getElem?_cons_succ, List.getElem?_cons_zero]; rfl
  case hw10 => rfl
  simp only [Act.put, List.setIfInBounds_toArray, List.set_cons_zero, List.set_cons_succ]
  refine' wpAnyH_take (i := 10) (oi := ?o11) (v := undef) ?hi11 (by kernel_rfl) (by kernel_rfl) (by kernel_rfl) (fun c a w h => hP c a _ _ w h) (Or.inr ⟨?hw11, rfl⟩) hHeld ?rest11
  case hi11 => simp only [List.getElem?_toArray, List.getElem?_cons_succ, List.getElem?_cons_zero]; rfl
  case hw11 => rfl
  simp only [Act.put, List.setIfInBounds_toArray, List.set_cons_zero, List.set_cons_succ]
  refine' wpAnyH_take (i := 11) (oi := ?o12) (v := ?v12) ?hi12 (by kernel_rfl) (by kernel_rfl) (by kernel_rfl) (fun c a w h => hP c a _ _ w h) (Or.inl ⟨?hw12, ?hy12⟩) hHeld ?rest12
  case hi12 => simp only [List.getElem?_toArray, List.getElem?_cons_succ, List.getElem?_cons_zero]; rfl
  case hw12 => rfl
  case hy12 =>
    intro w _
    go_simp
    try with_reducible rfl
  simp only [Act.put, List.setIfInBounds_toArray, List.set_cons_zero, List.set_cons_succ]
  refine' wpAnyH_take (i := 12) (oi := ?o13) (v := ?v13) ?hi13 (by kernel_rfl) (by kernel_rfl) (by kernel_rfl) (fun c a w h => hP c a _ _ w h) (Or.inl ⟨?hw13, ?hy13⟩) hHeld ?rest13
  case hi13 => simp only [List.getElem?_toArray, List.getElem?_cons_succ, List.getElem?_cons_zero]; rfl
  case hw13 => rfl
  case hy13 =>
    intro w _
    go_simp
    try with_reducible rfl
  simp only [Act.put, List.setIfInBounds_toArray, List.set_cons_zero, List.set_cons_succ]
  refine wpAnyH_done (by kernel_rfl) ?_ _
  exact hQ.out _ _ _ _ _ _ _ _ _ _ _ _ _  hHeld
set_option maxHeartbeats 12800000 in
theorem an15b (z0 z1 z2 z4 z5 z6 z7 z8 z9 z10 z11 z12 z13 z14 z15 z16 z17 z18 z19 z20 z21 z22 z23 z24 z25 z26 z27 z28 z29 z30 z31 z32 z33 z34 z35 z36 z37 z38 z39 z40 z41 z42 z43 z44 z45 z46 z47 z48 z49 z50 z51 z52 z53 z54 z55 z56 z57 z58 z59 z60 z61 z62 z63 z64 z65 z66 z67 z68 z69 z70 z71 z72 z73 z74 z75 z76 z77 z78 z79 z80 z81 z82 z83 z84 z85 z86 z87 z88 z89 z90 z91 : Value) (W : World) (q n : Nat) (s : Sag)
    (CB : Hid (∀ w', Below W.heap.size W w' → CellS w' q s))
    (F : Hid (∀ w', Below W.heap.size W w' → Calls Tryd.prog 38 #[.agg #[.int .i64 s.w.book, .int .i64 s.w.cust, .int .i64 s.w.dead, .int .i64 s.w.u0, .int .i64 s.w.u1, .int .i64 s.w.u2, .int .i64 s.w.price]] w' fun e w'' => (∃ A c, e = .returned (.slice A n c)) ∧ Below W.heap.size W w''))
    (hp : s.ph = 3)
    (Q : Exit → Act → World → Prop)
    (hP : ∀ c a d v w, Q (.panic c) (Act.put a d v) w → Q (.panic c) a w)
    (hQ : ∀ (y77 y78 y79 y80 y81 y82 y83 y84 y85 y86 y87 y88 : Value)  (W3 : World), Below W.heap.size W W3 → Q .normal ⟨#[z0, z1, z2, .pointer (some ⟨q, 0, none⟩), z4, z5, z6, z7, z8, z9, z10, z11, z12, z13, z14, z15, z16, z17, z18, z19, z20, z21, z22, z23, z24, z25, z26, z27, z28, z29, z30, z31, z32, z33, z34, z35, z36, z37, z38, z39, z40, z41, z42, z43, z44, z45, z46, z47, z48, z49, z50, z51, z52, z53, z54, z55, z56, z57, z58, z59, z60, z61, z62, z63, z64, z65, z66, z67, z68, z69, z70, z71, z72, z73, z74, z75, .bool (s.st == (n : Int)), y77, y78, y79, y80, y81, y82, y83, y84, y85, y86, y87, y88, z89, z90, z91], []⟩ W3) :
    Code.wp Tryd.prog an_15 Q ⟨#[z0, z1, z2, .pointer (some ⟨q, 0, none⟩), z4, z5, z6, z7, z8, z9, z10, z11, z12, z13, z14, z15, z16, z17, z18, z19, z20, z21, z22, z23, z24, z25, z26, z27, z28, z29, z30, z31, z32, z33, z34, z35, z36, z37, z38, z39, z40, z41, z42, z43, z44, z45, z46, z47, z48, z49, z50, z51, z52, z53, z54, z55, z56, z57, z58, z59, z60, z61, z62, z63, z64, z65, z66, z67, z68, z69, z70, z71, z72, z73, z74, z75, z76, z77, z78, z79, z80, z81, z82, z83, z84, z85, z86, z87, z88, z89, z90, z91], []⟩ W := by
  conv => arg 2; whnf
  have b0 : Below W.heap.size W W.drew := ⟨rfl, rfl, rfl, Nat.le_refl _, fun _ _ => rfl⟩
  refine wp_region_held_drew (S := fun w => Below W.heap.size W w) (by kernel_rfl) b0 (fun hHeld => ?_)
  replace hQ := Lib.hid hQ
  clear b0
  obtain ⟨v0, hv⟩ : ∃ v, v = W.drew := ⟨_, rfl⟩
  rw [← hv] at hHeld ⊢
  clear hv
  refine' wpAnyH_take (i := 0) (oi := ?o1) (v := ?v1) ?hi1 (by kernel_rfl) (by kernel_rfl) (by kernel_rfl) (fun c a w h => hP c a _ _ w h) (Or.inl ⟨?hw1, ?hy1⟩) hHeld ?rest1
  case hi1 => simp only [List.getElem?_toArray, List.getElem?_cons_zero]; rfl
  case hw1 => rfl
  case hy1 =>
    intro w _
    go_simp
    try with_reducible rfl
  simp only [Act.put, List.setIfInBounds_toArray, List.set_cons_zero, List.set_cons_succ]
  refine' wpAnyH_take (i := 1) (oi := ?o2) (v := ?v2) ?hi2 (by kernel_rfl) (by kernel_rfl) (by kernel_rfl) (fun c a w h => hP c a _ _ w h) (Or.inl ⟨?hw2, ?hy2⟩) hHeld ?rest2
  case hi2 => simp only [List.getElem?_toArray, List.getElem?_cons_succ, List.getElem?_cons_zero]; rfl
  case hw2 => rfl
  case hy2 =>
    intro w hSw
    obtain ⟨c0, c1, c2, c3, c4, c5, c6, c7, c8, c9, ca⟩ := CB.out _ hSw; rw [hp] at c7
    go_simp
    try with_reducible rfl
  simp only [Act.put, List.setIfInBounds_toArray, List.set_cons_zero, List.set_cons_succ]
  refine' wpAnyH_take (i := 2) (oi := ?o3) (v := ?v3) ?hi3 (by kernel_rfl) (by kernel_rfl) (by kernel_rfl) (fun c a w h => hP c a _ _ w h) (Or.inl ⟨?hw3, ?hy3⟩) hHeld ?rest3
  case hi3 => simp only [List.getElem?_toArray, List.getElem?_cons_succ, List.getElem?_cons_zero]; rfl
  case hw3 => rfl
  case hy3 =>
    intro w _
    go_simp
    try with_reducible rfl
  simp only [Act.put, List.setIfInBounds_toArray, List.set_cons_zero, List.set_cons_succ]
  refine' wpAnyH_take (i := 3) (oi := ?o4) (v := ?v4) ?hi4 (by kernel_rfl) (by kernel_rfl) (by kernel_rfl) (fun c a w h => hP c a _ _ w h) (Or.inl ⟨?hw4, ?hy4⟩) hHeld ?rest4
  case hi4 => simp only [List.getElem?_toArray, List.getElem?_cons_succ, List.getElem?_cons_zero]; rfl
  case hw4 => rfl
  case hy4 =>
    intro w _
    go_simp
    try with_reducible rfl
  simp only [Act.put, List.setIfInBounds_toArray, List.set_cons_zero, List.set_cons_succ]
  refine' wpAnyH_take (i := 4) (oi := ?o5) (v := ?v5) ?hi5 (by kernel_rfl) (by kernel_rfl) (by kernel_rfl) (fun c a w h => hP c a _ _ w h) (Or.inl ⟨?hw5, ?hy5⟩) hHeld ?rest5
  case hi5 => simp only [List.getElem?_toArray, List.getElem?_cons_succ, List.getElem?_cons_zero]; rfl
  case hw5 => rfl
  case hy5 =>
    intro w _
    go_simp
    try with_reducible rfl
  simp only [Act.put, List.setIfInBounds_toArray, List.set_cons_zero, List.set_cons_succ]
  refine' wpAnyH_take (i := 5) (oi := ?o6) (v := ?v6) ?hi6 (by kernel_rfl) (by kernel_rfl) (by kernel_rfl) (fun c a w h => hP c a _ _ w h) (Or.inl ⟨?hw6, ?hy6⟩) hHeld ?rest6
  case hi6 => simp only [List.getElem?_toArray, List.getElem?_cons_succ, List.getElem?_cons_zero]; rfl
  case hw6 => rfl
  case hy6 =>
    intro w hSw
    obtain ⟨c0, c1, c2, c3, c4, c5, c6, c7, c8, c9, ca⟩ := CB.out _ hSw
    go_simp
    try with_reducible rfl
  simp only [Act.put, List.setIfInBounds_toArray, List.set_cons_zero, List.set_cons_succ]
  refine' wpAnyH_take (i := 6) (oi := ?o7) (v := ?v7) ?hi7 (by kernel_rfl) (by kernel_rfl) (by kernel_rfl) (fun c a w h => hP c a _ _ w h) (Or.inl ⟨?hw7, ?hy7⟩) hHeld ?rest7
  case hi7 => simp only [List.getElem?_toArray, List.getElem?_cons_succ, List.getElem?_cons_zero]; rfl
  case hw7 => rfl
  case hy7 =>
    intro w _
    go_simp
    try with_reducible rfl
  simp only [Act.put, List.setIfInBounds_toArray, List.set_cons_zero, List.set_cons_succ]
  refine' wpAnyH_take (i := 7) (oi := ?o8) (v := ?v8) ?hi8 (by kernel_rfl) (by kernel_rfl) (by kernel_rfl) (fun c a w h => hP c a _ _ w h) (Or.inl ⟨?hw8, ?hy8⟩) hHeld ?rest8
  case hi8 => simp only [List.getElem?_toArray, List.getElem?_cons_succ, List.getElem?_cons_zero]; rfl
  case hw8 => rfl
  case hy8 =>
    intro w hSw
    obtain ⟨c0, c1, c2, c3, c4, c5, c6, c7, c8, c9, ca⟩ := CB.out _ hSw
    go_simp
    try with_reducible rfl
  simp only [Act.put, List.setIfInBounds_toArray, List.set_cons_zero, List.set_cons_succ]
  refine wpAnyH_ready (rs := [8]) (by kernel_rfl) (by simp) ?_
  refine' AllReadyH.cons (i := 8) (o := ?o9) ?hi9 (fun K hK => ?st9) ?mo9
  case hi9 => simp only [List.getElem?_toArray, List.getElem?_cons_succ, List.getElem?_cons_zero]; rfl
  case st9 =>
    go_simp
    refine (F.out _ hHeld).mono ?_
    rintro e v1 ⟨⟨A, c, rfl⟩, h6⟩
    clear hHeld
    go_simp
    refine hK.out _ _ h6 (fun hHeld => ?_)
    clear hK K h6
    try simp only [Act.put, List.setIfInBounds_toArray, List.set_cons_zero, List.set_cons_succ]
    refine' wpAnyH_take (i := 9) (oi := ?o10) (v := ?v10) ?hi10 (by kernel_rfl) (by kernel_rfl) (by kernel_rfl) (fun c a w h => hP c a _ _ w h) (Or.inl ⟨?hw10, ?hy10⟩) hHeld ?rest10
    case hi10 => simp only [List.getElem?_toArray, List.getElem?_cons_succ, List.getElem?_cons_zero]; rfl
    case hw10 => rfl
    case hy10 =>
      intro w _
      go_simp
      try with_reducible rfl
    simp only [Act.put, List.setIfInBounds_toArray, List.set_cons_zero, List.set_cons_succ]
    refine' wpAnyH_take (i := 10) (oi := ?o11) (v := ?v11) ?hi11 (by kernel_rfl) (by kernel_rfl) (by kernel_rfl) (fun c a w h => hP c a _ _ w h) (Or.inl ⟨?hw11, ?hy11⟩) hHeld ?rest11
    case hi11 => simp only [List.getElem?_toArray, List.getElem?_cons_succ, List.getElem?_cons_zero]; rfl
    case hw11 => rfl
    case hy11 =>
      intro w _
      go_simp
      try with_reducible rfl
    simp only [Act.put, List.setIfInBounds_toArray, List.set_cons_zero, List.set_cons_succ]
    refine' wpAnyH_take (i := 11) (oi := ?o12) (v := ?v12) ?hi12 (by kernel_rfl) (by kernel_rfl) (by kernel_rfl) (fun c a w h => hP c a _ _ w h) (Or.inl ⟨?hw12, ?hy12⟩) hHeld ?rest12
    case hi12 => simp only [List.getElem?_toArray, List.getElem?_cons_succ, List.getElem?_cons_zero]; rfl
    case hw12 => rfl
    case hy12 =>
      intro w _
      go_simp
      try with_reducible rfl
    simp only [Act.put, List.setIfInBounds_toArray, List.set_cons_zero, List.set_cons_succ]
    refine' wpAnyH_take (i := 12) (oi := ?o13) (v := ?v13) ?hi13 (by kernel_rfl) (by kernel_rfl) (by kernel_rfl) (fun c a w h => hP c a _ _ w h) (Or.inl ⟨?hw13, ?hy13⟩) hHeld ?rest13
    case hi13 => simp only [List.getElem?_toArray, List.getElem?_cons_succ, List.getElem?_cons_zero]; rfl
    case hw13 => rfl
    case hy13 =>
      intro w _
      go_simp
      try with_reducible rfl
    simp only [Act.put, List.setIfInBounds_toArray, List.set_cons_zero, List.set_cons_succ]
    refine wpAnyH_done (by kernel_rfl) ?_ _
    exact hQ.out _ _ _ _ _ _ _ _ _ _ _ _ _  hHeld
  case mo9 => exact AllReadyH.nil
theorem rans_results : Tryd.f19.results = #[.cell 6 26, .tmp 7] := by kernel_rfl
set_option maxHeartbeats 12800000 in
theorem rans_any (w : World) (s : Sag) (a : Stp) (n : Int) : Calls Tryd.prog 19 #[sgv s, spv a, .int .i64 n] w fun e w' => e = .returned (.tuple #[sgv (sans s a n).1, .bool (sans s a n).2]) ∧ Below w.heap.size w w' := by
  obtain ⟨W0, hW0⟩ : ∃ W0, W0 = ((w.alloc (.cells #[.int .i64 s.w.book, .int .i64 s.w.cust, .int .i64 s.w.dead, .int .i64 s.w.u0, .int .i64 s.w.u1, .int .i64 s.w.u2, .int .i64 s.w.price, .int .i64 s.ph, .int .i64 s.st, .int .i64 s.rs, .int .i64 s.si] 26)).alloc (.cells #[.int .i64 a.node, .int .i64 a.op.kind, .int .i64 a.op.book, .int .i64 a.op.units, .int .i64 a.op.cust, .int .i64 a.op.amount] 33)).alloc (.cells #[.int .i64 0, .int .i64 0, .int .i64 0, .int .i64 0, .int .i64 0, .int .i64 0, .int .i64 0, .int .i64 0, .int .i64 0, .int .i64 0, .int .i64 0] 26) := ⟨_, rfl⟩
  obtain ⟨Wa, hWa⟩ : ∃ Wa, Wa = (w.alloc (.cells #[.int .i64 s.w.book, .int .i64 s.w.cust, .int .i64 s.w.dead, .int .i64 s.w.u0, .int .i64 s.w.u1, .int .i64 s.w.u2, .int .i64 s.w.price, .int .i64 s.ph, .int .i64 s.st, .int .i64 s.rs, .int .i64 s.si] 26)).alloc (.cells #[.int .i64 a.node, .int .i64 a.op.kind, .int .i64 a.op.book, .int .i64 a.op.units, .int .i64 a.op.cust, .int .i64 a.op.amount] 33) := ⟨_, rfl⟩
  have sa : Wa.heap.size = w.heap.size + 2 := by rw [hWa]; simp
  have Ba : BoxS Wa w.heap.size s := by rw [hWa]; exact heap_alloc2_old _ _ _
  have Aa : Wa.heap[w.heap.size + 1]? = some (.cells #[.int .i64 a.node, .int .i64 a.op.kind, .int .i64 a.op.book, .int .i64 a.op.units, .int .i64 a.op.cust, .int .i64 a.op.amount] 33 (0, 0)) := by
    have := heap_alloc_new (w.alloc (.cells #[.int .i64 s.w.book, .int .i64 s.w.cust, .int .i64 s.w.dead, .int .i64 s.w.u0, .int .i64 s.w.u1, .int .i64 s.w.u2, .int .i64 s.w.price, .int .i64 s.ph, .int .i64 s.st, .int .i64 s.rs, .int .i64 s.si] 26)) (.cells #[.int .i64 a.node, .int .i64 a.op.kind, .int .i64 a.op.book, .int .i64 a.op.units, .int .i64 a.op.cust, .int .i64 a.op.amount] 33)
    rw [show (w.alloc (.cells #[.int .i64 s.w.book, .int .i64 s.w.cust, .int .i64 s.w.dead, .int .i64 s.w.u0, .int .i64 s.w.u1, .int .i64 s.w.u2, .int .i64 s.w.price, .int .i64 s.ph, .int .i64 s.st, .int .i64 s.rs, .int .i64 s.si] 26)).heap.size = w.heap.size + 1 by simp] at this
    rw [hWa]
    exact this
  have ba : Below w.heap.size w Wa := by rw [hWa]; exact ((Below.refl _ w).alloc (Nat.le_refl _) _).alloc (by simp) _
  have e0 : W0 = Wa.alloc (.cells #[.int .i64 0, .int .i64 0, .int .i64 0, .int .i64 0, .int .i64 0, .int .i64 0, .int .i64 0, .int .i64 0, .int .i64 0, .int .i64 0, .int .i64 0] 26) := by rw [hW0, hWa]
  have bz : Below Wa.heap.size Wa W0 := by rw [e0]; exact (Below.refl _ Wa).alloc (Nat.le_refl _) _
  have B0 : BoxS W0 w.heap.size s := Ba.below bz Ba.lt
  have A0 : W0.heap[w.heap.size + 1]? = _ := (bz.block _ (lt_some Aa)).trans Aa
  have Z0 : W0.heap[w.heap.size + 2]? = some (.cells #[.int .i64 0, .int .i64 0, .int .i64 0, .int .i64 0, .int .i64 0, .int .i64 0, .int .i64 0, .int .i64 0, .int .i64 0, .int .i64 0, .int .i64 0] 26 (0, 0)) := by rw [← sa, e0]; exact heap_alloc_new _ _
  have be0 : Below w.heap.size w W0 := ba.trans (bz.mono ba.size)
  have M := rnext_any W0 s
  have RB := fun w' r => rback_any w' s r
  have RFW := fun w' => rf_len w' s.w
  have RBK := fun w' => rb_len w' s.w
  have LN : ¬ ((snext s).2 = true ∧ (snext s).1 = a ∧ (n = 1 ∨ n = 2)) → sans s a n = (s, false) := fun h => by unfold sans; rw [if_neg h]
  have L1 : (snext s).2 = true → (snext s).1 = a → n = 2 → ¬ s.ph = 1 → sans s a n = (s, false) := fun h1 h2 h3 h4 => by unfold sans; rw [if_pos ⟨h1, h2, .inr h3⟩, if_pos h3, if_neg h4]
  have L2 : (snext s).2 = true → (snext s).1 = a → n = 2 → s.ph = 1 → a.op.kind = 4 → sans s a n = (sback s 2, true) := fun h1 h2 h3 h4 h5 => by unfold sans; rw [if_pos ⟨h1, h2, .inr h3⟩, if_pos h3, if_pos h4, if_pos h5]
  have L3 : (snext s).2 = true → (snext s).1 = a → n = 2 → s.ph = 1 → ¬ a.op.kind = 4 → sans s a n = (sback s 1, true) := fun h1 h2 h3 h4 h5 => by unfold sans; rw [if_pos ⟨h1, h2, .inr h3⟩, if_pos h3, if_pos h4, if_neg h5]
  have L4 : (snext s).2 = true → (snext s).1 = a → n = 1 → sans s a n = (sdone s, true) := fun h1 h2 h3 => by unfold sans; rw [if_pos ⟨h1, h2, .inl h3⟩, if_neg (by omega)]
  have D1 : s.ph = 1 → s.st + 1 = nF s → sdone s = { s with ph := 2, st := 0 } := fun h1 h2 => by unfold sdone; rw [if_pos h1, if_pos h2]
  have D2 : s.ph = 1 → ¬ s.st + 1 = nF s → sdone s = { s with st := s.st + 1 } := fun h1 h2 => by unfold sdone; rw [if_pos h1, if_neg h2]
  have D3 : s.ph = 2 → sdone s = { s with ph := 4, st := 0 } := fun h1 => by unfold sdone; rw [if_neg (by omega), if_pos h1]
  have D4 : s.ph = 3 → s.st + 1 = nB s → sdone s = { s with ph := 5, st := 0 } := fun h1 h2 => by unfold sdone; rw [if_neg (by omega), if_neg (by omega), if_pos h2]
  have D5 : s.ph = 3 → ¬ s.st + 1 = nB s → sdone s = { s with st := s.st + 1 } := fun h1 h2 => by unfold sdone; rw [if_neg (by omega), if_neg (by omega), if_neg h2]
  have OK : (snext s).2 = true → (s.ph = 1 ∨ s.ph = 2 ∨ s.ph = 3) ∧ 0 ≤ s.st ∧ s.st ≤ 10 := fun h => by
    cases hm : smay s with
    | false => rw [snext_no hm] at h; cases h
    | true =>
      obtain ⟨-, -, hc⟩ := smay_true hm
      have l1 := Pl.fwd_len s.w
      have l2 := Pl.bck_len s.w
      unfold nF nB at hc
      rcases hc with ⟨hp, h0, h1, -⟩ | ⟨hp, h0, -⟩ | ⟨hp, h0, h1, -⟩ | ⟨hp, -, -⟩ | ⟨hp, -, -⟩
      · exact ⟨.inl hp, h0, by omega⟩
      · exact ⟨.inr (.inl hp), by omega, by omega⟩
      · exact ⟨.inr (.inr hp), h0, by omega⟩
      · rw [snext_4 hm (.inl hp)] at h; cases h
      · rw [snext_4 hm (.inr hp)] at h; cases h
  unfold nF nB at *
  generalize (fwd s.w).length = lf at *
  generalize (bck s.w).length = lb at *
  generalize sans s a n = y at *
  generalize sdone s = yd at *
  generalize (snext s).1 = nx at *
  generalize (snext s).2 = ok at *
  have CB0 : Hid (∀ w', Below W0.heap.size W0 w' → BoxS w' w.heap.size s ∧ w'.heap[w.heap.size + 1]? = some (.cells #[.int .i64 a.node, .int .i64 a.op.kind, .int .i64 a.op.book, .int .i64 a.op.units, .int .i64 a.op.cust, .int .i64 a.op.amount] 33 (0, 0)) ∧ w'.heap[w.heap.size + 2]? = some (.cells #[.int .i64 0, .int .i64 0, .int .i64 0, .int .i64 0, .int .i64 0, .int .i64 0, .int .i64 0, .int .i64 0, .int .i64 0, .int .i64 0, .int .i64 0] 26 (0, 0))) := fun w' h => ⟨B0.below h B0.lt, (h.block _ (lt_some A0)).trans A0, (h.block _ (lt_some Z0)).trans Z0⟩
  clear sa Ba Aa ba e0 bz hWa B0 A0 Z0
  obtain ⟨⟨bk, cu, de, u0, u1, u2, pr⟩, ph, st, rs, si⟩ := s
  unfold BoxS at CB0
  unfold sgv sgc at *
  unfold sback at *
  unfold wanv at RFW RBK
  unfold spv at *
  simp only at *
  replace hW0 := Lib.hid hW0
  replace M := Lib.hid M
  replace RB := Lib.hid RB
  replace RFW := Lib.hid RFW
  replace RBK := Lib.hid RBK
  replace LN := Lib.hid LN
  replace L1 := Lib.hid L1
  replace L2 := Lib.hid L2
  replace L3 := Lib.hid L3
  replace L4 := Lib.hid L4
  replace D1 := Lib.hid D1
  replace D2 := Lib.hid D2
  replace D3 := Lib.hid D3
  replace D4 := Lib.hid D4
  replace D5 := Lib.hid D5
  replace OK := Lib.hid OK
  go_enter Tryd.func19, Tryd.ntmps19
  go_wp2_with fail
  rw [← hW0.out]
  refine M.out.mono ?_
  rintro e w1 ⟨rfl, h1⟩
  go_upto_region 2 with fail
  obtain ⟨W1, hW1⟩ : ∃ W1, W1 = w1.alloc (.cells #[.int .i64 nx.node, .int .i64 nx.op.kind, .int .i64 nx.op.book, .int .i64 nx.op.units, .int .i64 nx.op.cust, .int .i64 nx.op.amount] 33) := ⟨_, rfl⟩
  rw [← hW1]
  have bW1 : Below w1.heap.size w1 W1 := by rw [hW1]; exact (Below.refl _ _).alloc (Nat.le_refl _) _
  have h2 : Below W0.heap.size W0 W1 := h1.trans (bW1.mono h1.size)
  have N1 : W1.heap[w1.heap.size]? = some (.cells #[.int .i64 nx.node, .int .i64 nx.op.kind, .int .i64 nx.op.book, .int .i64 nx.op.units, .int .i64 nx.op.cust, .int .i64 nx.op.amount] 33 (0, 0)) := by rw [hW1]; exact heap_alloc_new _ _
  have b1 : Hid (Below w.heap.size w W1) := be0.trans (h2.mono be0.size)
  obtain ⟨B1, A1, Z1⟩ := CB0.out _ h2
  have n0 : W1.cell? ⟨w1.heap.size, 0, none⟩ = _ := one_at N1
  have n1 : W1.cell? ⟨w1.heap.size, 1, none⟩ = _ := one_at N1
  have n2 : W1.cell? ⟨w1.heap.size, 2, none⟩ = _ := one_at N1
  have n3 : W1.cell? ⟨w1.heap.size, 3, none⟩ = _ := one_at N1
  have n4 : W1.cell? ⟨w1.heap.size, 4, none⟩ = _ := one_at N1
  have n5 : W1.cell? ⟨w1.heap.size, 5, none⟩ = _ := one_at N1
  have a0 : W1.cell? ⟨w.heap.size + 1, 0, none⟩ = _ := one_at A1
  have a1 : W1.cell? ⟨w.heap.size + 1, 1, none⟩ = _ := one_at A1
  have a2 : W1.cell? ⟨w.heap.size + 1, 2, none⟩ = _ := one_at A1
  have a3 : W1.cell? ⟨w.heap.size + 1, 3, none⟩ = _ := one_at A1
  have a4 : W1.cell? ⟨w.heap.size + 1, 4, none⟩ = _ := one_at A1
  have a5 : W1.cell? ⟨w.heap.size + 1, 5, none⟩ = _ := one_at A1
  obtain ⟨c0, c1, c2, c3, c4, c5, c6, c7, c8, c9, ca⟩ := BoxS.cells (s := ⟨⟨bk, cu, de, u0, u1, u2, pr⟩, ph, st, rs, si⟩) B1
  simp only at c0 c1 c2 c3 c4 c5 c6 c7 c8 c9 ca
  have hw1 : w.heap.size < W1.heap.size := lt_some B1
  have hw2 : w.heap.size + 1 < W1.heap.size := lt_some A1
  have hw3 : w.heap.size + 2 < W1.heap.size := lt_some Z1
  have hw4 : w1.heap.size < W1.heap.size := lt_some N1
  replace Z1 := Lib.hid Z1
  replace B1 := Lib.hid B1
  clear hW1 bW1 h2 N1 A1 CB0 h1 be0 hW0 M
  cases ok with
  | false =>
    have EE := Lib.hid (LN.out (by simp))
    clear LN L1 L2 L3 L4 D1 D2 D3 D4 D5 OK RB RFW RBK
    go_wp2_with (refine wpList_store_row rfl 26 (.tmp 6) (.tmp 30) rfl (w.heap.size + 2) _ rfl rfl 26 _ Z1.out sag_size rfl (by simp [Value.oneCell']) ?_)
    refine bodyPost_ret (res_row rans_results _ _ (w.heap.size + 2) 26 _ (0, 0) _ rfl (setRow_heap _ _ _ _ _ _ Z1.out) Tryd.underlying26 rfl sag_size) rfl ?_
    exact ⟨by rw [EE.out]; rfl, b1.out.trans (setRow_below _ (Nat.le_add_right _ 2))⟩
  | true =>
    obtain ⟨hph, hs0, hs1⟩ := OK.out rfl
    have EQ := fun w => eq_rask w nx a
    unfold spv at EQ
    by_cases hna : nx = a
    case neg =>
      have EE := Lib.hid (LN.out (by simp [hna]))
      rw [decide_eq_false hna] at EQ
      clear LN L1 L2 L3 L4 D1 D2 D3 D4 D5 OK RB RFW RBK
      go_wp2_with (refine wpList_store_row rfl 26 (.tmp 6) (.tmp 30) rfl (w.heap.size + 2) _ rfl rfl 26 _ Z1.out sag_size rfl (by simp [Value.oneCell']) ?_)
      refine bodyPost_ret (res_row rans_results _ _ (w.heap.size + 2) 26 _ (0, 0) _ rfl (setRow_heap _ _ _ _ _ _ Z1.out) Tryd.underlying26 rfl sag_size) rfl ?_
      exact ⟨by rw [EE.out]; rfl, b1.out.trans (setRow_below _ (Nat.le_add_right _ 2))⟩
    subst hna
    rw [decide_eq_true rfl] at EQ
    by_cases hn1 : n = 1
    · subst hn1
      have EE0 := L4.out rfl rfl rfl
      obtain ⟨W2, hW2⟩ : ∃ W2, W2 = W1.setCell ⟨w.heap.size, 8, none⟩ (.int .i64 (st + 1)) := ⟨_, rfl⟩
      have f8 : W1.frozen? ⟨w.heap.size, 8, none⟩ = false := one_free B1.out
      have gs := grown_set W1 w.heap.size 8 (.int .i64 (st + 1))
      rw [← hW2] at gs
      have B2 : Hid (W2.heap[w.heap.size]? = some (.cells #[.int .i64 bk, .int .i64 cu, .int .i64 de, .int .i64 u0, .int .i64 u1, .int .i64 u2, .int .i64 pr, .int .i64 ph, .int .i64 (st + 1), .int .i64 rs, .int .i64 si] 26 (0, 0))) := by rw [hW2]; exact one_set B1.out _
      have Z2 : Hid (W2.heap[w.heap.size + 2]? = some (.cells #[.int .i64 0, .int .i64 0, .int .i64 0, .int .i64 0, .int .i64 0, .int .i64 0, .int .i64 0, .int .i64 0, .int .i64 0, .int .i64 0, .int .i64 0] 26 (0, 0))) := (gs.block _ hw3 (by simp)).trans Z1.out
      have b2 : Hid (Below w.heap.size w W2) := b1.out.trans (below_of_grown gs b1.out.size fun j hj => by injection hj with hj; omega)
      have CB2 : Hid (∀ w', Below W2.heap.size W2 w' → CellS w' w.heap.size ⟨⟨bk, cu, de, u0, u1, u2, pr⟩, ph, st + 1, rs, si⟩) := fun w' h => BoxS.cells (s := ⟨⟨bk, cu, de, u0, u1, u2, pr⟩, ph, st + 1, rs, si⟩) ((h.block _ (lt_some B2.out)).trans B2.out)
      have FF : Hid (∀ w', Below W2.heap.size W2 w' → Calls Tryd.prog 36 #[.agg #[.int .i64 bk, .int .i64 cu, .int .i64 de, .int .i64 u0, .int .i64 u1, .int .i64 u2, .int .i64 pr]] w' fun e w'' => (∃ A c, e = .returned (.slice A lf c)) ∧ Below W2.heap.size W2 w'') := fun w' h => (RFW.out w').mono fun _ _ ⟨A, c, h1, _, h2⟩ => ⟨⟨A, c, h1⟩, h.trans (h2.mono h.size)⟩
      replace hW2 := Lib.hid hW2
      clear gs L1 L2 L3 L4 LN OK RB RFW Z1 b1
      rcases hph with rfl | rfl | rfl
      · clear D3 D4 D5
        go_upto_region 11 with fail
        rw [← hW2.out]
        refine an11b _ _ _ _ _ _ _ _ _ _ _ _ _ _ _ _ _ _ _ _ _ _ _ _ _ _ _ _ _ _ _ _ _ _ _ _ _ _ _ _ _ _ _ _ _ _ _ _ _ _ _ _ _ _ _ _ _ _ _ _ _ _ _ _ _ _ _ _ _ _ _ _ _ _ _ _ _ _ _ _ _ _ _ _ _ _ _ _ _ _ _ W2 w.heap.size lf ⟨⟨bk, cu, de, u0, u1, u2, pr⟩, 1, st + 1, rs, si⟩ CB2 FF rfl _ (fun _ _ d _ _ h => by cases d <;> exact h) (fun _ _ _ _ _ _ _ _ _ _ _ _ w3 hb3 => ?_)
        have CB3 : Hid (∀ w', Below w3.heap.size w3 w' → CellS w' w.heap.size ⟨⟨bk, cu, de, u0, u1, u2, pr⟩, 1, st + 1, rs, si⟩) := fun w' h => CB2.out w' (hb3.trans (h.mono hb3.size))
        have B3 : w3.heap[w.heap.size]? = _ := (hb3.block _ (lt_some B2.out)).trans B2.out
        have Z3 : Hid (w3.heap[w.heap.size + 2]? = some (.cells #[.int .i64 0, .int .i64 0, .int .i64 0, .int .i64 0, .int .i64 0, .int .i64 0, .int .i64 0, .int .i64 0, .int .i64 0, .int .i64 0, .int .i64 0] 26 (0, 0))) := (hb3.block _ (lt_some Z2.out)).trans Z2.out
        have b3 : Hid (Below w.heap.size w w3) := b2.out.trans (hb3.mono b2.out.size)
        clear c0 c1 c2 c3 c4 c5 c6 c7 c8 c9 ca n0 n1 n2 n3 n4 n5 a0 a1 a2 a3 a4 a5 f8 EQ CB2 FF B1 hw1 hw2 hw3 hw4
        by_cases hf : st + 1 = (lf : Int)
        · have EE : Hid (y = (⟨⟨bk, cu, de, u0, u1, u2, pr⟩, 2, 0, rs, si⟩, true)) := by rw [Hid, EE0, D1.out rfl hf]
          have g1 : (st + 1 == (lf : Int)) = true := by rw [hf]; simp
          clear EE0 D1 D2 RBK hb3 hf
          obtain ⟨c0, c1, c2, c3, c4, c5, c6, c7, c8, c9, ca⟩ := CB3.out _ (Below.refl _ _)
          simp only at c0 c1 c2 c3 c4 c5 c6 c7 c8 c9 ca
          have hw3 : w.heap.size < w3.heap.size := lt_some B3
          have hz3 : w.heap.size + 2 < w3.heap.size := lt_some Z3.out
          have f7 : w3.frozen? ⟨w.heap.size, 7, none⟩ = false := one_free B3
          have f8 : w3.frozen? ⟨w.heap.size, 8, none⟩ = false := one_free B3
          have gs := grown_set w3 w.heap.size 7 (.int .i64 2)
          have gt := grown_set (w3.setCell ⟨w.heap.size, 7, none⟩ (.int .i64 2)) w.heap.size 8 (.int .i64 0)
          have ZZ : Hid (((w3.setCell ⟨w.heap.size, 7, none⟩ (.int .i64 2)).setCell ⟨w.heap.size, 8, none⟩ (.int .i64 0)).heap[w.heap.size + 2]? = some (.cells #[.int .i64 0, .int .i64 0, .int .i64 0, .int .i64 0, .int .i64 0, .int .i64 0, .int .i64 0, .int .i64 0, .int .i64 0, .int .i64 0, .int .i64 0] 26 (0, 0))) := (gt.block _ (Nat.lt_of_lt_of_le hz3 gs.size) (by simp)).trans ((gs.block _ hz3 (by simp)).trans Z3.out)
          have bb : Hid (Below w.heap.size w ((w3.setCell ⟨w.heap.size, 7, none⟩ (.int .i64 2)).setCell ⟨w.heap.size, 8, none⟩ (.int .i64 0))) := (b3.out.trans (below_of_grown gs b3.out.size fun j hj => by injection hj with hj; omega)).trans (below_of_grown gt (Nat.le_trans b3.out.size gs.size) fun j hj => by injection hj with hj; omega)
          clear gs gt B3 CB3
          go_wp2_with (refine wpList_store_row rfl 26 (.tmp 6) (.tmp 91) rfl (w.heap.size + 2) _ rfl rfl 26 _ ZZ.out sag_size rfl (by simp [Value.oneCell']) ?_)
          refine bodyPost_ret (res_row rans_results _ _ (w.heap.size + 2) 26 _ (0, 0) _ rfl (setRow_heap _ _ _ _ _ _ ZZ.out) Tryd.underlying26 rfl sag_size) rfl ?_
          exact ⟨by rw [EE.out]; rfl, bb.out.trans (setRow_below _ (Nat.le_add_right _ 2))⟩
        · have EE : Hid (y = (⟨⟨bk, cu, de, u0, u1, u2, pr⟩, 1, st + 1, rs, si⟩, true)) := by rw [Hid, EE0, D2.out rfl hf]
          have g1 : (st + 1 == (lf : Int)) = false := beq_eq_false_iff_ne.2 hf
          obtain ⟨c0, c1, c2, c3, c4, c5, c6, c7, c8, c9, ca⟩ := CB3.out _ (Below.refl _ _)
          simp only at c0 c1 c2 c3 c4 c5 c6 c7 c8 c9 ca
          have hw3 : w.heap.size < w3.heap.size := lt_some B3
          have hz3 : w.heap.size + 2 < w3.heap.size := lt_some Z3.out
          have FG : Hid (∀ w', Below w3.heap.size w3 w' → Calls Tryd.prog 38 #[.agg #[.int .i64 bk, .int .i64 cu, .int .i64 de, .int .i64 u0, .int .i64 u1, .int .i64 u2, .int .i64 pr]] w' fun e w'' => (∃ A c, e = .returned (.slice A lb c)) ∧ Below w3.heap.size w3 w'') := fun w' h => (RBK.out w').mono fun _ _ ⟨A, c, h1, _, h2⟩ => ⟨⟨A, c, h1⟩, h.trans (h2.mono h.size)⟩
          clear EE0 D1 D2 hb3 hf RBK
          go_upto_region 15 with fail
          refine an15a _ _ _ _ _ _ _ _ _ _ _ _ _ _ _ _ _ _ _ _ _ _ _ _ _ _ _ _ _ _ _ _ _ _ _ _ _ _ _ _ _ _ _ _ _ _ _ _ _ _ _ _ _ _ _ _ _ _ _ _ _ _ _ _ _ _ _ _ _ _ _ _ _ _ _ _ _ _ _ _ _ _ _ _ _ _ _ _ _ _ _ w3 w.heap.size lb ⟨⟨bk, cu, de, u0, u1, u2, pr⟩, 1, st + 1, rs, si⟩ CB3 FG rfl _ (fun _ _ d _ _ h => by cases d <;> exact h) (fun _ _ _ _ _ _ _ _ _ _ _ _ w4 hb4 => ?_)
          have CB4 : Hid (∀ w', Below w4.heap.size w4 w' → CellS w' w.heap.size ⟨⟨bk, cu, de, u0, u1, u2, pr⟩, 1, st + 1, rs, si⟩) := fun w' h => CB3 w' (hb4.trans (h.mono hb4.size))
          have B4 : w4.heap[w.heap.size]? = _ := (hb4.block _ (lt_some B3)).trans B3
          have Z4 : Hid (w4.heap[w.heap.size + 2]? = some (.cells #[.int .i64 0, .int .i64 0, .int .i64 0, .int .i64 0, .int .i64 0, .int .i64 0, .int .i64 0, .int .i64 0, .int .i64 0, .int .i64 0, .int .i64 0] 26 (0, 0))) := (hb4.block _ (lt_some Z3.out)).trans Z3.out
          have b4 : Hid (Below w.heap.size w w4) := b3.out.trans (hb4.mono b3.out.size)
          clear c0 c1 c2 c3 c4 c5 c6 c7 c8 c9 ca FG CB3 B3 hb4 hw3 hz3
          obtain ⟨c0, c1, c2, c3, c4, c5, c6, c7, c8, c9, ca⟩ := CB4.out _ (Below.refl _ _)
          simp only at c0 c1 c2 c3 c4 c5 c6 c7 c8 c9 ca
          have hw4 : w.heap.size < w4.heap.size := lt_some B4
          have hz4 : w.heap.size + 2 < w4.heap.size := lt_some Z4.out
          have ZZ := Z4
          have bb := b4
          clear B4 CB4
          go_wp2_with (refine wpList_store_row rfl 26 (.tmp 6) (.tmp 91) rfl (w.heap.size + 2) _ rfl rfl 26 _ ZZ.out sag_size rfl (by simp [Value.oneCell']) ?_)
          refine bodyPost_ret (res_row rans_results _ _ (w.heap.size + 2) 26 _ (0, 0) _ rfl (setRow_heap _ _ _ _ _ _ ZZ.out) Tryd.underlying26 rfl sag_size) rfl ?_
          exact ⟨by rw [EE.out]; rfl, bb.out.trans (setRow_below _ (Nat.le_add_right _ 2))⟩
      · clear D1 D2 D4 D5
        go_upto_region 11 with fail
        rw [← hW2.out]
        refine an11a _ _ _ _ _ _ _ _ _ _ _ _ _ _ _ _ _ _ _ _ _ _ _ _ _ _ _ _ _ _ _ _ _ _ _ _ _ _ _ _ _ _ _ _ _ _ _ _ _ _ _ _ _ _ _ _ _ _ _ _ _ _ _ _ _ _ _ _ _ _ _ _ _ _ _ _ _ _ _ _ _ _ _ _ _ _ _ _ _ _ _ W2 w.heap.size lf ⟨⟨bk, cu, de, u0, u1, u2, pr⟩, 2, st + 1, rs, si⟩ CB2 FF rfl _ (fun _ _ d _ _ h => by cases d <;> exact h) (fun _ _ _ _ _ _ _ _ _ _ _ _ w3 hb3 => ?_)
        have CB3 : Hid (∀ w', Below w3.heap.size w3 w' → CellS w' w.heap.size ⟨⟨bk, cu, de, u0, u1, u2, pr⟩, 2, st + 1, rs, si⟩) := fun w' h => CB2.out w' (hb3.trans (h.mono hb3.size))
        have B3 : w3.heap[w.heap.size]? = _ := (hb3.block _ (lt_some B2.out)).trans B2.out
        have Z3 : Hid (w3.heap[w.heap.size + 2]? = some (.cells #[.int .i64 0, .int .i64 0, .int .i64 0, .int .i64 0, .int .i64 0, .int .i64 0, .int .i64 0, .int .i64 0, .int .i64 0, .int .i64 0, .int .i64 0] 26 (0, 0))) := (hb3.block _ (lt_some Z2.out)).trans Z2.out
        have b3 : Hid (Below w.heap.size w w3) := b2.out.trans (hb3.mono b2.out.size)
        clear c0 c1 c2 c3 c4 c5 c6 c7 c8 c9 ca n0 n1 n2 n3 n4 n5 a0 a1 a2 a3 a4 a5 f8 EQ CB2 FF B1 hw1 hw2 hw3 hw4
        have EE : Hid (y = (⟨⟨bk, cu, de, u0, u1, u2, pr⟩, 4, 0, rs, si⟩, true)) := by rw [Hid, EE0, D3.out rfl]
        clear EE0 D3 RBK hb3
        obtain ⟨c0, c1, c2, c3, c4, c5, c6, c7, c8, c9, ca⟩ := CB3.out _ (Below.refl _ _)
        simp only at c0 c1 c2 c3 c4 c5 c6 c7 c8 c9 ca
        have hw3 : w.heap.size < w3.heap.size := lt_some B3
        have hz3 : w.heap.size + 2 < w3.heap.size := lt_some Z3.out
        have f7 : w3.frozen? ⟨w.heap.size, 7, none⟩ = false := one_free B3
        have f8 : w3.frozen? ⟨w.heap.size, 8, none⟩ = false := one_free B3
        have gs := grown_set w3 w.heap.size 7 (.int .i64 4)
        have gt := grown_set (w3.setCell ⟨w.heap.size, 7, none⟩ (.int .i64 4)) w.heap.size 8 (.int .i64 0)
        have ZZ : Hid (((w3.setCell ⟨w.heap.size, 7, none⟩ (.int .i64 4)).setCell ⟨w.heap.size, 8, none⟩ (.int .i64 0)).heap[w.heap.size + 2]? = some (.cells #[.int .i64 0, .int .i64 0, .int .i64 0, .int .i64 0, .int .i64 0, .int .i64 0, .int .i64 0, .int .i64 0, .int .i64 0, .int .i64 0, .int .i64 0] 26 (0, 0))) := (gt.block _ (Nat.lt_of_lt_of_le hz3 gs.size) (by simp)).trans ((gs.block _ hz3 (by simp)).trans Z3.out)
        have bb : Hid (Below w.heap.size w ((w3.setCell ⟨w.heap.size, 7, none⟩ (.int .i64 4)).setCell ⟨w.heap.size, 8, none⟩ (.int .i64 0))) := (b3.out.trans (below_of_grown gs b3.out.size fun j hj => by injection hj with hj; omega)).trans (below_of_grown gt (Nat.le_trans b3.out.size gs.size) fun j hj => by injection hj with hj; omega)
        clear gs gt B3 CB3
        go_wp2_with (refine wpList_store_row rfl 26 (.tmp 6) (.tmp 91) rfl (w.heap.size + 2) _ rfl rfl 26 _ ZZ.out sag_size rfl (by simp [Value.oneCell']) ?_)
        refine bodyPost_ret (res_row rans_results _ _ (w.heap.size + 2) 26 _ (0, 0) _ rfl (setRow_heap _ _ _ _ _ _ ZZ.out) Tryd.underlying26 rfl sag_size) rfl ?_
        exact ⟨by rw [EE.out]; rfl, bb.out.trans (setRow_below _ (Nat.le_add_right _ 2))⟩
      · clear D1 D2 D3
        go_upto_region 11 with fail
        rw [← hW2.out]
        refine an11a _ _ _ _ _ _ _ _ _ _ _ _ _ _ _ _ _ _ _ _ _ _ _ _ _ _ _ _ _ _ _ _ _ _ _ _ _ _ _ _ _ _ _ _ _ _ _ _ _ _ _ _ _ _ _ _ _ _ _ _ _ _ _ _ _ _ _ _ _ _ _ _ _ _ _ _ _ _ _ _ _ _ _ _ _ _ _ _ _ _ _ W2 w.heap.size lf ⟨⟨bk, cu, de, u0, u1, u2, pr⟩, 3, st + 1, rs, si⟩ CB2 FF rfl _ (fun _ _ d _ _ h => by cases d <;> exact h) (fun _ _ _ _ _ _ _ _ _ _ _ _ w3 hb3 => ?_)
        have CB3 : Hid (∀ w', Below w3.heap.size w3 w' → CellS w' w.heap.size ⟨⟨bk, cu, de, u0, u1, u2, pr⟩, 3, st + 1, rs, si⟩) := fun w' h => CB2.out w' (hb3.trans (h.mono hb3.size))
        have B3 : w3.heap[w.heap.size]? = _ := (hb3.block _ (lt_some B2.out)).trans B2.out
        have Z3 : Hid (w3.heap[w.heap.size + 2]? = some (.cells #[.int .i64 0, .int .i64 0, .int .i64 0, .int .i64 0, .int .i64 0, .int .i64 0, .int .i64 0, .int .i64 0, .int .i64 0, .int .i64 0, .int .i64 0] 26 (0, 0))) := (hb3.block _ (lt_some Z2.out)).trans Z2.out
        have b3 : Hid (Below w.heap.size w w3) := b2.out.trans (hb3.mono b2.out.size)
        clear c0 c1 c2 c3 c4 c5 c6 c7 c8 c9 ca n0 n1 n2 n3 n4 n5 a0 a1 a2 a3 a4 a5 f8 EQ CB2 FF B1 hw1 hw2 hw3 hw4
        obtain ⟨c0, c1, c2, c3, c4, c5, c6, c7, c8, c9, ca⟩ := CB3.out _ (Below.refl _ _)
        simp only at c0 c1 c2 c3 c4 c5 c6 c7 c8 c9 ca
        have hw3 : w.heap.size < w3.heap.size := lt_some B3
        have hz3 : w.heap.size + 2 < w3.heap.size := lt_some Z3.out
        have FG : Hid (∀ w', Below w3.heap.size w3 w' → Calls Tryd.prog 38 #[.agg #[.int .i64 bk, .int .i64 cu, .int .i64 de, .int .i64 u0, .int .i64 u1, .int .i64 u2, .int .i64 pr]] w' fun e w'' => (∃ A c, e = .returned (.slice A lb c)) ∧ Below w3.heap.size w3 w'') := fun w' h => (RBK.out w').mono fun _ _ ⟨A, c, h1, _, h2⟩ => ⟨⟨A, c, h1⟩, h.trans (h2.mono h.size)⟩
        go_upto_region 15 with fail
        refine an15b _ _ _ _ _ _ _ _ _ _ _ _ _ _ _ _ _ _ _ _ _ _ _ _ _ _ _ _ _ _ _ _ _ _ _ _ _ _ _ _ _ _ _ _ _ _ _ _ _ _ _ _ _ _ _ _ _ _ _ _ _ _ _ _ _ _ _ _ _ _ _ _ _ _ _ _ _ _ _ _ _ _ _ _ _ _ _ _ _ _ _ w3 w.heap.size lb ⟨⟨bk, cu, de, u0, u1, u2, pr⟩, 3, st + 1, rs, si⟩ CB3 FG rfl _ (fun _ _ d _ _ h => by cases d <;> exact h) (fun _ _ _ _ _ _ _ _ _ _ _ _ w4 hb4 => ?_)
        have CB4 : Hid (∀ w', Below w4.heap.size w4 w' → CellS w' w.heap.size ⟨⟨bk, cu, de, u0, u1, u2, pr⟩, 3, st + 1, rs, si⟩) := fun w' h => CB3 w' (hb4.trans (h.mono hb4.size))
        have B4 : w4.heap[w.heap.size]? = _ := (hb4.block _ (lt_some B3)).trans B3
        have Z4 : Hid (w4.heap[w.heap.size + 2]? = some (.cells #[.int .i64 0, .int .i64 0, .int .i64 0, .int .i64 0, .int .i64 0, .int .i64 0, .int .i64 0, .int .i64 0, .int .i64 0, .int .i64 0, .int .i64 0] 26 (0, 0))) := (hb4.block _ (lt_some Z3.out)).trans Z3.out
        have b4 : Hid (Below w.heap.size w w4) := b3.out.trans (hb4.mono b3.out.size)
        clear c0 c1 c2 c3 c4 c5 c6 c7 c8 c9 ca FG CB3 B3 hb3 hw3 hz3 RBK
        by_cases hf : st + 1 = (lb : Int)
        · have EE : Hid (y = (⟨⟨bk, cu, de, u0, u1, u2, pr⟩, 5, 0, rs, si⟩, true)) := by rw [Hid, EE0, D4.out rfl hf]
          have g1 : (st + 1 == (lb : Int)) = true := by rw [hf]; simp
          clear EE0 D4 D5 hb4 hf
          obtain ⟨c0, c1, c2, c3, c4, c5, c6, c7, c8, c9, ca⟩ := CB4.out _ (Below.refl _ _)
          simp only at c0 c1 c2 c3 c4 c5 c6 c7 c8 c9 ca
          have hw4 : w.heap.size < w4.heap.size := lt_some B4
          have hz4 : w.heap.size + 2 < w4.heap.size := lt_some Z4.out
          have f7 : w4.frozen? ⟨w.heap.size, 7, none⟩ = false := one_free B4
          have f8 : w4.frozen? ⟨w.heap.size, 8, none⟩ = false := one_free B4
          have gs := grown_set w4 w.heap.size 7 (.int .i64 5)
          have gt := grown_set (w4.setCell ⟨w.heap.size, 7, none⟩ (.int .i64 5)) w.heap.size 8 (.int .i64 0)
          have ZZ : Hid (((w4.setCell ⟨w.heap.size, 7, none⟩ (.int .i64 5)).setCell ⟨w.heap.size, 8, none⟩ (.int .i64 0)).heap[w.heap.size + 2]? = some (.cells #[.int .i64 0, .int .i64 0, .int .i64 0, .int .i64 0, .int .i64 0, .int .i64 0, .int .i64 0, .int .i64 0, .int .i64 0, .int .i64 0, .int .i64 0] 26 (0, 0))) := (gt.block _ (Nat.lt_of_lt_of_le hz4 gs.size) (by simp)).trans ((gs.block _ hz4 (by simp)).trans Z4.out)
          have bb : Hid (Below w.heap.size w ((w4.setCell ⟨w.heap.size, 7, none⟩ (.int .i64 5)).setCell ⟨w.heap.size, 8, none⟩ (.int .i64 0))) := (b4.out.trans (below_of_grown gs b4.out.size fun j hj => by injection hj with hj; omega)).trans (below_of_grown gt (Nat.le_trans b4.out.size gs.size) fun j hj => by injection hj with hj; omega)
          clear gs gt B4 CB4
          go_wp2_with (refine wpList_store_row rfl 26 (.tmp 6) (.tmp 91) rfl (w.heap.size + 2) _ rfl rfl 26 _ ZZ.out sag_size rfl (by simp [Value.oneCell']) ?_)
          refine bodyPost_ret (res_row rans_results _ _ (w.heap.size + 2) 26 _ (0, 0) _ rfl (setRow_heap _ _ _ _ _ _ ZZ.out) Tryd.underlying26 rfl sag_size) rfl ?_
          exact ⟨by rw [EE.out]; rfl, bb.out.trans (setRow_below _ (Nat.le_add_right _ 2))⟩
        · have EE : Hid (y = (⟨⟨bk, cu, de, u0, u1, u2, pr⟩, 3, st + 1, rs, si⟩, true)) := by rw [Hid, EE0, D5.out rfl hf]
          have g1 : (st + 1 == (lb : Int)) = false := beq_eq_false_iff_ne.2 hf
          clear EE0 D4 D5 hb4 hf
          obtain ⟨c0, c1, c2, c3, c4, c5, c6, c7, c8, c9, ca⟩ := CB4.out _ (Below.refl _ _)
          simp only at c0 c1 c2 c3 c4 c5 c6 c7 c8 c9 ca
          have hw4 : w.heap.size < w4.heap.size := lt_some B4
          have hz4 : w.heap.size + 2 < w4.heap.size := lt_some Z4.out
          have ZZ := Z4
          have bb := b4
          clear B4 CB4
          go_wp2_with (refine wpList_store_row rfl 26 (.tmp 6) (.tmp 91) rfl (w.heap.size + 2) _ rfl rfl 26 _ ZZ.out sag_size rfl (by simp [Value.oneCell']) ?_)
          refine bodyPost_ret (res_row rans_results _ _ (w.heap.size + 2) 26 _ (0, 0) _ rfl (setRow_heap _ _ _ _ _ _ ZZ.out) Tryd.underlying26 rfl sag_size) rfl ?_
          exact ⟨by rw [EE.out]; rfl, bb.out.trans (setRow_below _ (Nat.le_add_right _ 2))⟩
    · by_cases hn2 : n = 2
      case neg =>
        have EE := Lib.hid (LN.out (by simp [hn1, hn2]))
        have g1 : (n == 1) = false := beq_eq_false_iff_ne.2 hn1
        have g2 : (n == 2) = false := beq_eq_false_iff_ne.2 hn2
        have g3 : (n != 1) = true := bne_iff_ne.2 hn1
        have g4 : (n != 2) = true := bne_iff_ne.2 hn2
        clear LN L1 L2 L3 L4 D1 D2 D3 D4 D5 OK RB RFW RBK
        go_wp2_with (refine wpList_store_row rfl 26 (.tmp 6) (.tmp 30) rfl (w.heap.size + 2) _ rfl rfl 26 _ Z1.out sag_size rfl (by simp [Value.oneCell']) ?_)
        refine bodyPost_ret (res_row rans_results _ _ (w.heap.size + 2) 26 _ (0, 0) _ rfl (setRow_heap _ _ _ _ _ _ Z1.out) Tryd.underlying26 rfl sag_size) rfl ?_
        exact ⟨by rw [EE.out]; rfl, b1.out.trans (setRow_below _ (Nat.le_add_right _ 2))⟩
      subst hn2
      by_cases hp : ph = 1
      case neg =>
        have EE := Lib.hid (L1.out rfl rfl rfl hp)
        have g1 : (ph == 1) = false := beq_eq_false_iff_ne.2 hp
        clear LN L1 L2 L3 L4 D1 D2 D3 D4 D5 OK RB RFW RBK
        go_wp2_with (refine wpList_store_row rfl 26 (.tmp 6) (.tmp 37) rfl (w.heap.size + 2) _ rfl rfl 26 _ Z1.out sag_size rfl (by simp [Value.oneCell']) ?_)
        refine bodyPost_ret (res_row rans_results _ _ (w.heap.size + 2) 26 _ (0, 0) _ rfl (setRow_heap _ _ _ _ _ _ Z1.out) Tryd.underlying26 rfl sag_size) rfl ?_
        exact ⟨by rw [EE.out]; rfl, b1.out.trans (setRow_below _ (Nat.le_add_right _ 2))⟩
      subst hp
      by_cases hk : nx.op.kind = 4
      · have EE := Lib.hid (L2.out rfl rfl rfl rfl hk)
        have g1 : (nx.op.kind == 4) = true := by rw [hk]; rfl
        have K := Lib.hid (RB.out W1 2)
        clear LN L1 L2 L3 L4 D1 D2 D3 D4 D5 OK RB RFW RBK
        go_wp2_with fail
        refine K.out.mono ?_
        rintro e w3 ⟨rfl, h3⟩
        have Z3 := Lib.hid ((h3.block _ hw3).trans Z1.out)
        have b3 : Hid (Below w.heap.size w w3) := b1.out.trans (h3.mono b1.out.size)
        clear K h3
        go_wp2_with (refine wpList_store_row rfl 26 (.tmp 6) (.tmp 45) rfl (w.heap.size + 2) _ rfl rfl 26 _ Z3.out sag_size rfl (by simp [Value.oneCell']) ?_)
        refine bodyPost_ret (res_row rans_results _ _ (w.heap.size + 2) 26 _ (0, 0) _ rfl (setRow_heap _ _ _ _ _ _ Z3.out) Tryd.underlying26 rfl sag_size) rfl ?_
        exact ⟨by rw [EE.out]; rfl, b3.out.trans (setRow_below _ (Nat.le_add_right _ 2))⟩
      · have EE := Lib.hid (L3.out rfl rfl rfl rfl hk)
        have g1 : (nx.op.kind == 4) = false := beq_eq_false_iff_ne.2 hk
        have K := Lib.hid (RB.out W1 1)
        clear LN L1 L2 L3 L4 D1 D2 D3 D4 D5 OK RB RFW RBK
        go_wp2_with fail
        refine K.out.mono ?_
        rintro e w3 ⟨rfl, h3⟩
        have Z3 := Lib.hid ((h3.block _ hw3).trans Z1.out)
        have b3 : Hid (Below w.heap.size w w3) := b1.out.trans (h3.mono b1.out.size)
        clear K h3
        go_wp2_with (refine wpList_store_row rfl 26 (.tmp 6) (.tmp 49) rfl (w.heap.size + 2) _ rfl rfl 26 _ Z3.out sag_size rfl (by simp [Value.oneCell']) ?_)
        refine bodyPost_ret (res_row rans_results _ _ (w.heap.size + 2) 26 _ (0, 0) _ rfl (setRow_heap _ _ _ _ _ _ Z3.out) Tryd.underlying26 rfl sag_size) rfl ?_
        exact ⟨by rw [EE.out]; rfl, b3.out.trans (setRow_below _ (Nat.le_add_right _ 2))⟩
end Sg
end Go.Proofs.YtakicogelkdofaaDoor
