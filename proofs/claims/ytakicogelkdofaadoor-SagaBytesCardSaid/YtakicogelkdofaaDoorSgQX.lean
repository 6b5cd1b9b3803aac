/- All that the laws lean on: what the program's calls answer. -/
import Derived.Test.YtakicogelkdofaaDoorSgQ0
import Derived.Deep.RegionHeld3
import Derived.Test.YtakicogelkdofaaDoorSgC
import Derived.Test.YtakicogelkdofaaDoorSgN
import Derived.Test.YtakicogelkdofaaDoorSgF
import Derived.Test.YtakicogelkdofaaDoorSgP
import Derived.Test.YtakicogelkdofaaDoorWtE
namespace Go.Proofs.YtakicogelkdofaaDoor
set_option maxRecDepth 100000
open Go.RowKit
namespace Sg
open Pl (regionAt)

noncomputable def qm_1 : Code := (Tryd.f12.body.bind (regionAt 1)).getD .skip
set_option maxHeartbeats 12800000 in
theorem qm1a (z0 z2 z3 z4 z5 z6 z7 z8 z9 z10 z11 z12 z13 z14 z15 z16 z17 z18 z19 z20 z21 z22 z23 z24 z25 z26 z27 z28 z29 : Value) (W : World) (q : Nat) (s : Sag)
    (CB : Hid (∀ w', Below W.heap.size W w' → CellS w' q s))
    (F1 : Hid (∀ w', Below W.heap.size W w' → Calls Tryd.prog 39 #[.int .i64 s.ph, .int .i64 1, .int .i64 5] w' fun e w'' => e = .returned (.bool false) ∧ Below W.heap.size W w''))
    (Q : Exit → Act → World → Prop)
    (hP : ∀ c a d v w, Q (.panic c) (Act.put a d v) w → Q (.panic c) a w)
    (hQ : ∀ (y3 y4 y5 y6 y7 y8 y9 y10 y11 y12 y13 y14 y15 y16 y17 y18 y19 y20 y21 y22 y23 y24 y25 y26 y27 y28 y29 : Value)  (W3 : World), Below W.heap.size W W3 → Q .normal ⟨#[z0, .pointer (some ⟨q, 0, none⟩), .bool false, y3, y4, y5, y6, y7, y8, y9, y10, y11, y12, y13, y14, y15, y16, y17, y18, y19, y20, y21, y22, y23, y24, y25, y26, y27, y28, y29], []⟩ W3) :
    Code.wp Tryd.prog qm_1 Q ⟨#[z0, .pointer (some ⟨q, 0, none⟩), z2, z3, z4, z5, z6, z7, z8, z9, z10, z11, z12, z13, z14, z15, z16, z17, z18, z19, z20, z21, z22, z23, z24, z25, z26, z27, z28, z29], []⟩ W := by
  conv => arg 2; whnf
  have b0 : Below W.heap.size W W.drew := ⟨rfl, rfl, rfl, Nat.le_refl _, fun _ _ => rfl⟩
  refine wp_region_held_drew (S := fun w => Below W.heap.size W w) (by kernel_rfl) b0 (fun hHeld => ?_)
  replace hQ := Lib.hid hQ
  clear b0
  obtain ⟨v0, hv⟩ : ∃ v, v = W.drew := ⟨_, rfl⟩
  rw [← hv] at hHeld ⊢
  clear hv
  refine' wpAnyH_take (i := 0) (oi := ?o1) (v := ?v1) ?hi1 (by kernel_rfl) (by kernel_rfl) (by kernel_rfl) (fun c a w h => hP c a _ _ w h) (Or.inl ⟨?hw1, ?hy1⟩) hHeld ?rest1
  case hi1 => simp only [List.getElem?_toArray, List.getElem?_cons_zero]; rfl
  case hw1 => rfl
  case hy1 =>
    intro w _
    go_simp
    try with_reducible rfl
  simp only [Act.put, List.setIfInBounds_toArray, List.set_cons_zero, List.set_cons_succ]
  refine' wpAnyH_take (i := 1) (oi := ?o2) (v := ?v2) ?hi2 (by kernel_rfl) (by kernel_rfl) (by kernel_rfl) (fun c a w h => hP c a _ _ w h) (Or.inl ⟨?hw2, ?hy2⟩) hHeld ?rest2
  case hi2 => simp only [List.getElem?_toArray, List.getElem?_cons_succ, List.getElem?_cons_zero]; rfl
  case hw2 => rfl
  case hy2 =>
    intro w hSw
    obtain ⟨c0, c1, c2, c3, c4, c5, c6, c7, c8, c9, ca⟩ := CB.out _ hSw
    go_simp
    try with_reducible rfl
  simp only [Act.put, List.setIfInBounds_toArray, List.set_cons_zero, List.set_cons_succ]
  refine wpAnyH_ready (rs := [2]) (by kernel_rfl) (by simp) ?_
  refine' AllReadyH.cons (i := 2) (o := ?o3) ?hi3 (fun K hK => ?st3) ?mo3
  case hi3 => simp only [List.getElem?_toArray, List.getElem?_cons_succ, List.getElem?_cons_zero]; rfl
  case st3 =>
    go_simp
    refine (F1.out _ hHeld).mono ?_
    rintro e v1 ⟨rfl, h6⟩
    clear hHeld
    go_simp
    refine hK.out _ _ h6 (fun hHeld => ?_)
    clear hK K h6
    try simp only [Act.put, List.setIfInBounds_toArray, List.set_cons_zero, List.set_cons_succ]
    refine' wpAnyH_take (i := 3) (oi := ?o4) (v := ?v4) ?hi4 (by kernel_rfl) (by kernel_rfl) (by kernel_rfl) (fun c a w h => hP c a _ _ w h) (Or.inl ⟨?hw4, ?hy4⟩) hHeld ?rest4
    case hi4 => simp only [List.getElem?_toArray, List.getElem?_cons_succ, List.getElem?_cons_zero]; rfl
    case hw4 => rfl
    case hy4 =>
      intro w _
      go_simp
      try with_reducible rfl
    simp only [Act.put, List.setIfInBounds_toArray, List.set_cons_zero, List.set_cons_succ]
    refine' wpAnyH_take (i := 4) (oi := ?o5) (v := undef) ?hi5 (by kernel_rfl) (by kernel_rfl) (by kernel_rfl) (fun c a w h => hP c a _ _ w h) (Or.inr ⟨?hw5, rfl⟩) hHeld ?rest5
    case hi5 => simp only [List.getElem?_toArray, List.getElem?_cons_succ, List.getElem?_cons_zero]; rfl
    case hw5 => rfl
    simp only [Act.put, List.setIfInBounds_toArray, List.set_cons_zero, List.set_cons_succ]
    refine' wpAnyH_take (i := 5) (oi := ?o6) (v := undef) ?hi6 (by kernel_rfl) (by kernel_rfl) (by kernel_rfl) (fun c a w h => hP c a _ _ w h) (Or.inr ⟨?hw6, rfl⟩) hHeld ?rest6
    case hi6 => simp only [List.getElem?_toArray, List.getElem?_cons_succ, List.getElem?_cons_zero]; rfl
    case hw6 => rfl
    simp only [Act.put, List.setIfInBounds_toArray, List.set_cons_zero, List.set_cons_succ]
    refine' wpAnyH_take (i := 6) (oi := ?o7) (v := undef) ?hi7 (by kernel_rfl) (by kernel_rfl) (by kernel_rfl) (fun c a w h => hP c a _ _ w h) (Or.inr ⟨?hw7, rfl⟩) hHeld ?rest7
    case hi7 => simp only [List.getElem?_toArray, List.getElem?_cons_succ, List.getElem?_cons_zero]; rfl
    case hw7 => rfl
    simp only [Act.put, List.setIfInBounds_toArray, List.set_cons_zero, List.set_cons_succ]
    refine' wpAnyH_take (i := 7) (oi := ?o8) (v := ?v8) ?hi8 (by kernel_rfl) (by kernel_rfl) (by kernel_rfl) (fun c a w h => hP c a _ _ w h) (Or.inl ⟨?hw8, ?hy8⟩) hHeld ?rest8
    case hi8 => simp only [List.getElem?_toArray, List.getElem?_cons_succ, List.getElem?_cons_zero]; rfl
    case hw8 => rfl
    case hy8 =>
      intro w _
      go_simp
      try with_reducible rfl
    simp only [Act.put, List.setIfInBounds_toArray, List.set_cons_zero, List.set_cons_succ]
    refine' wpAnyH_take (i := 8) (oi := ?o9) (v := ?v9) ?hi9 (by kernel_rfl) (by kernel_rfl) (by kernel_rfl) (fun c a w h => hP c a _ _ w h) (Or.inl ⟨?hw9, ?hy9⟩) hHeld ?rest9
    case hi9 => simp only [List.getElem?_toArray, List.getElem?_cons_succ, List.getElem?_cons_zero]; rfl
    case hw9 => rfl
    case hy9 =>
      intro w _
      go_simp
      try with_reducible rfl
    simp only [Act.put, List.setIfInBounds_toArray, List.set_cons_zero, List.set_cons_succ]
    refine' wpAnyH_take (i := 9) (oi := ?o10) (v := undef) ?hi10 (by kernel_rfl) (by kernel_rfl) (by kernel_rfl) (fun c a w h => hP c a _ _ w h) (Or.inr ⟨?hw10, rfl⟩) hHeld ?rest10
    case hi10 => simp only [List.getElem?_toArray, List.getElem?_cons_succ, List.getElem?_cons_zero]; rfl
    case hw10 => rfl
    simp only [Act.put, List.setIfInBounds_toArray, List.set_cons_zero, List.set_cons_succ]
    refine' wpAnyH_take (i := 10) (oi := ?o11) (v := undef) ?hi11 (by kernel_rfl) (by kernel_rfl) (by kernel_rfl) (fun c a w h => hP c a _ _ w h) (Or.inr ⟨?hw11, rfl⟩) hHeld ?rest11
    case hi11 => simp only [List.getElem?_toArray, List.getElem?_cons_succ, List.getElem?_cons_zero]; rfl
    case hw11 => rfl
    simp only [Act.put, List.setIfInBounds_toArray, List.set_cons_zero, List.set_cons_succ]
    refine' wpAnyH_take (i := 11) (oi := ?o12) (v := undef) ?hi12 (by kernel_rfl) (by kernel_rfl) (by kernel_rfl) (fun c a w h => hP c a _ _ w h) (Or.inr ⟨?hw12, rfl⟩) hHeld ?rest12
    case hi12 => simp only [List.getElem?_toArray, List.getElem?_cons_succ, List.getElem?_cons_zero]; rfl
    case hw12 => rfl
    simp only [Act.put, List.setIfInBounds_toArray, List.set_cons_zero, List.set_cons_succ]
    refine' wpAnyH_take (i := 12) (oi := ?o13) (v := ?v13) ?hi13 (by kernel_rfl) (by kernel_rfl) (by kernel_rfl) (fun c a w h => hP c a _ _ w h) (Or.inl ⟨?hw13, ?hy13⟩) hHeld ?rest13
    case hi13 => simp only [List.getElem?_toArray, List.getElem?_cons_succ, List.getElem?_cons_zero]; rfl
    case hw13 => rfl
    case hy13 =>
      intro w _
      go_simp
      try with_reducible rfl
    simp only [Act.put, List.setIfInBounds_toArray, List.set_cons_zero, List.set_cons_succ]
    refine' wpAnyH_take (i := 13) (oi := ?o14) (v := ?v14) ?hi14 (by kernel_rfl) (by kernel_rfl) (by kernel_rfl) (fun c a w h => hP c a _ _ w h) (Or.inl ⟨?hw14, ?hy14⟩) hHeld ?rest14
    case hi14 => simp only [List.getElem?_toArray, List.getElem?_cons_succ, List.getElem?_cons_zero]; rfl
    case hw14 => rfl
    case hy14 =>
      intro w _
      go_simp
      try with_reducible rfl
    simp only [Act.put, List.setIfInBounds_toArray, List.set_cons_zero, List.set_cons_succ]
    refine' wpAnyH_take (i := 14) (oi := ?o15) (v := undef) ?hi15 (by kernel_rfl) (by kernel_rfl) (by kernel_rfl) (fun c a w h => hP c a _ _ w h) (Or.inr ⟨?hw15, rfl⟩) hHeld ?rest15
    case hi15 => simp only [List.getElem?_toArray, List.getElem?_cons_succ, List.getElem?_cons_zero]; rfl
    case hw15 => rfl
    simp only [Act.put, List.setIfInBounds_toArray, List.set_cons_zero, List.set_cons_succ]
    refine' wpAnyH_take (i := 15) (oi := ?o16) (v := undef) ?hi16 (by kernel_rfl) (by kernel_rfl) (by kernel_rfl) (fun c a w h => hP c a _ _ w h) (Or.inr ⟨?hw16, rfl⟩) hHeld ?rest16
    case hi16 => simp only [List.getElem?_toArray, List.getElem?_cons_succ, List.getElem?_cons_zero]; rfl
    case hw16 => rfl
    simp only [Act.put, List.setIfInBounds_toArray, List.set_cons_zero, List.set_cons_succ]
    refine' wpAnyH_take (i := 16) (oi := ?o17) (v := ?v17) ?hi17 (by kernel_rfl) (by kernel_rfl) (by kernel_rfl) (fun c a w h => hP c a _ _ w h) (Or.inl ⟨?hw17, ?hy17⟩) hHeld ?rest17
    case hi17 => simp only [List.getElem?_toArray, List.getElem?_cons_succ, List.getElem?_cons_zero]; rfl
    case hw17 => rfl
    case hy17 =>
      intro w _
      go_simp
      try with_reducible rfl
    simp only [Act.put, List.setIfInBounds_toArray, List.set_cons_zero, List.set_cons_succ]
    refine' wpAnyH_take (i := 17) (oi := ?o18) (v := ?v18) ?hi18 (by kernel_rfl) (by kernel_rfl) (by kernel_rfl) (fun c a w h => hP c a _ _ w h) (Or.inl ⟨?hw18, ?hy18⟩) hHeld ?rest18
    case hi18 => simp only [List.getElem?_toArray, List.getElem?_cons_succ, List.getElem?_cons_zero]; rfl
    case hw18 => rfl
    case hy18 =>
      intro w _
      go_simp
      try with_reducible rfl
    simp only [Act.put, List.setIfInBounds_toArray, List.set_cons_zero, List.set_cons_succ]
    refine' wpAnyH_take (i := 18) (oi := ?o19) (v := undef) ?hi19 (by kernel_rfl) (by kernel_rfl) (by kernel_rfl) (fun c a w h => hP c a _ _ w h) (Or.inr ⟨?hw19, rfl⟩) hHeld ?rest19
    case hi19 => simp only [List.getElem?_toArray, List.getElem?_cons_succ, List.getElem?_cons_zero]; rfl
    case hw19 => rfl
    simp only [Act.put, List.setIfInBounds_toArray, List.set_cons_zero, List.set_cons_succ]
    refine' wpAnyH_take (i := 19) (oi := ?o20) (v := undef) ?hi20 (by kernel_rfl) (by kernel_rfl) (by kernel_rfl) (fun c a w h => hP c a _ _ w h) (Or.inr ⟨?hw20, rfl⟩) hHeld ?rest20
    case hi20 => simp only [List.getElem?_toArray, List.getElem?_cons_succ, List.getElem?_cons_zero]; rfl
    case hw20 => rfl
    simp only [Act.put, List.setIfInBounds_toArray, List.set_cons_zero, List.set_cons_succ]
    refine' wpAnyH_take (i := 20) (oi := ?o21) (v := undef) ?hi21 (by kernel_rfl) (by kernel_rfl) (by kernel_rfl) (fun c a w h => hP c a _ _ w h) (Or.inr ⟨?hw21, rfl⟩) hHeld ?rest21
    case hi21 => simp only [List.getElem?_toArray, List.getElem?_cons_succ, List.getElem?_cons_zero]; rfl
    case hw21 => rfl
    simp only [Act.put, List.setIfInBounds_toArray, List.set_cons_zero, List.set_cons_succ]
    refine' wpAnyH_take (i := 21) (oi := ?o22) (v := undef) ?hi22 (by kernel_rfl) (by kernel_rfl) (by kernel_rfl) (fun c a w h => hP c a _ _ w h) (Or.inr ⟨?hw22, rfl⟩) hHeld ?rest22
    case hi22 => simp only [List.getElem?_toArray, List.getElem?_cons_succ, List.getElem?_cons_zero]; rfl
    case hw22 => rfl
    simp only [Act.put, List.setIfInBounds_toArray, List.set_cons_zero, List.set_cons_succ]
    refine' wpAnyH_take (i := 22) (oi := ?o23) (v := undef) ?hi23 (by kernel_rfl) (by kernel_rfl) (by kernel_rfl) (fun c a w h => hP c a _ _ w h) (Or.inr ⟨?hw23, rfl⟩) hHeld ?rest23
    case hi23 => simp only [List.getElem?_toArray, List.getElem?_cons_succ, List.getElem?_cons_zero]; rfl
    case hw23 => rfl
    simp only [Act.put, List.setIfInBounds_toArray, List.set_cons_zero, List.set_cons_succ]
    refine' wpAnyH_take (i := 23) (oi := ?o24) (v := undef) ?hi24 (by kernel_rfl) (by kernel_rfl) (by kernel_rfl) (fun c a w h => hP c a _ _ w h) (Or.inr ⟨?hw24, rfl⟩) hHeld ?rest24
    case hi24 => simp only [List.getElem?_toArray, List.getElem?_cons_succ, List.getElem?_cons_zero]; rfl
    case hw24 => rfl
    simp only [Act.put, List.setIfInBounds_toArray, List.set_cons_zero, List.set_cons_succ]
    refine' wpAnyH_take (i := 24) (oi := ?o25) (v := undef) ?hi25 (by kernel_rfl) (by kernel_rfl) (by kernel_rfl) (fun c a w h => hP c a _ _ w h) (Or.inr ⟨?hw25, rfl⟩) hHeld ?rest25
    case hi25 => simp only [List.getElem?_toArray, List.getElem?_cons_succ, List.getElem?_cons_zero]; rfl
    case hw25 => rfl
    simp only [Act.put, List.setIfInBounds_toArray, List.set_cons_zero, List.set_cons_succ]
    refine' wpAnyH_take (i := 25) (oi := ?o26) (v := undef) ?hi26 (by kernel_rfl) (by kernel_rfl) (by kernel_rfl) (fun c a w h => hP c a _ _ w h) (Or.inr ⟨?hw26, rfl⟩) hHeld ?rest26
    case hi26 => simp only [List.getElem?_toArray, List.getElem?_cons_succ, List.getElem?_cons_zero]; rfl
    case hw26 => rfl
    simp only [Act.put, List.setIfInBounds_toArray, List.set_cons_zero, List.set_cons_succ]
    refine' wpAnyH_take (i := 26) (oi := ?o27) (v := ?v27) ?hi27 (by kernel_rfl) (by kernel_rfl) (by kernel_rfl) (fun c a w h => hP c a _ _ w h) (Or.inl ⟨?hw27, ?hy27⟩) hHeld ?rest27
    case hi27 => simp only [List.getElem?_toArray, List.getElem?_cons_succ, List.getElem?_cons_zero]; rfl
    case hw27 => rfl
    case hy27 =>
      intro w _
      go_simp
      try with_reducible rfl
    simp only [Act.put, List.setIfInBounds_toArray, List.set_cons_zero, List.set_cons_succ]
    refine' wpAnyH_take (i := 27) (oi := ?o28) (v := ?v28) ?hi28 (by kernel_rfl) (by kernel_rfl) (by kernel_rfl) (fun c a w h => hP c a _ _ w h) (Or.inl ⟨?hw28, ?hy28⟩) hHeld ?rest28
    case hi28 => simp only [List.getElem?_toArray, List.getElem?_cons_succ, List.getElem?_cons_zero]; rfl
    case hw28 => rfl
    case hy28 =>
      intro w _
      go_simp
      try with_reducible rfl
    simp only [Act.put, List.setIfInBounds_toArray, List.set_cons_zero, List.set_cons_succ]
    refine wpAnyH_done (by kernel_rfl) ?_ _
    exact hQ.out _ _ _ _ _ _ _ _ _ _ _ _ _ _ _ _ _ _ _ _ _ _ _ _ _ _ _ _  hHeld
  case mo3 => exact AllReadyH.nil
set_option maxHeartbeats 12800000 in
theorem qm1b (z0 z2 z3 z4 z5 z6 z7 z8 z9 z10 z11 z12 z13 z14 z15 z16 z17 z18 z19 z20 z21 z22 z23 z24 z25 z26 z27 z28 z29 : Value) (W : World) (q : Nat) (s : Sag)
    (CB : Hid (∀ w', Below W.heap.size W w' → CellS w' q s))
    (F1 : Hid (∀ w', Below W.heap.size W w' → Calls Tryd.prog 39 #[.int .i64 s.ph, .int .i64 1, .int .i64 5] w' fun e w'' => e = .returned (.bool true) ∧ Below W.heap.size W w''))
    (F2 : Hid (∀ w', Below W.heap.size W w' → Calls Tryd.prog 40 #[.agg #[.int .i64 s.w.book, .int .i64 s.w.cust, .int .i64 s.w.dead, .int .i64 s.w.u0, .int .i64 s.w.u1, .int .i64 s.w.u2, .int .i64 s.w.price]] w' fun e w'' => e = .returned (.bool false) ∧ Below W.heap.size W w''))
    (Q : Exit → Act → World → Prop)
    (hP : ∀ c a d v w, Q (.panic c) (Act.put a d v) w → Q (.panic c) a w)
    (hQ : ∀ (y3 y4 y5 y6 y7 y8 y9 y10 y11 y12 y13 y14 y15 y16 y17 y18 y19 y20 y21 y22 y23 y24 y25 y26 y27 y28 y29 : Value)  (W3 : World), Below W.heap.size W W3 → Q .normal ⟨#[z0, .pointer (some ⟨q, 0, none⟩), .bool false, y3, y4, y5, y6, y7, y8, y9, y10, y11, y12, y13, y14, y15, y16, y17, y18, y19, y20, y21, y22, y23, y24, y25, y26, y27, y28, y29], []⟩ W3) :
    Code.wp Tryd.prog qm_1 Q ⟨#[z0, .pointer (some ⟨q, 0, none⟩), z2, z3, z4, z5, z6, z7, z8, z9, z10, z11, z12, z13, z14, z15, z16, z17, z18, z19, z20, z21, z22, z23, z24, z25, z26, z27, z28, z29], []⟩ W := by
  conv => arg 2; whnf
  have b0 : Below W.heap.size W W.drew := ⟨rfl, rfl, rfl, Nat.le_refl _, fun _ _ => rfl⟩
  refine wp_region_held_drew (S := fun w => Below W.heap.size W w) (by kernel_rfl) b0 (fun hHeld => ?_)
  replace hQ := Lib.hid hQ
  clear b0
  obtain ⟨v0, hv⟩ : ∃ v, v = W.drew := ⟨_, rfl⟩
  rw [← hv] at hHeld ⊢
  clear hv
  refine' wpAnyH_take (i := 0) (oi := ?o1) (v := ?v1) ?hi1 (by kernel_rfl) (by kernel_rfl) (by kernel_rfl) (fun c a w h => hP c a _ _ w h) (Or.inl ⟨?hw1, ?hy1⟩) hHeld ?rest1
  case hi1 => simp only [List.getElem?_toArray, List.getElem?_cons_zero]; rfl
  case hw1 => rfl
  case hy1 =>
    intro w _
    go_simp
    try with_reducible rfl
  simp only [Act.put, List.setIfInBounds_toArray, List.set_cons_zero, List.set_cons_succ]
  refine' wpAnyH_take (i := 1) (oi := ?o2) (v := ?v2) ?hi2 (by kernel_rfl) (by kernel_rfl) (by kernel_rfl) (fun c a w h => hP c a _ _ w h) (Or.inl ⟨?hw2, ?hy2⟩) hHeld ?rest2
  case hi2 => simp only [List.getElem?_toArray, List.getElem?_cons_succ, List.getElem?_cons_zero]; rfl
  case hw2 => rfl
  case hy2 =>
    intro w hSw
    obtain ⟨c0, c1, c2, c3, c4, c5, c6, c7, c8, c9, ca⟩ := CB.out _ hSw
    go_simp
    try with_reducible rfl
  simp only [Act.put, List.setIfInBounds_toArray, List.set_cons_zero, List.set_cons_succ]
  refine wpAnyH_ready (rs := [2]) (by kernel_rfl) (by simp) ?_
  refine' AllReadyH.cons (i := 2) (o := ?o3) ?hi3 (fun K hK => ?st3) ?mo3
  case hi3 => simp only [List.getElem?_toArray, List.getElem?_cons_succ, List.getElem?_cons_zero]; rfl
  case st3 =>
    go_simp
    refine (F1.out _ hHeld).mono ?_
    rintro e v1 ⟨rfl, h6⟩
    clear hHeld
    go_simp
    refine hK.out _ _ h6 (fun hHeld => ?_)
    clear hK K h6
    try simp only [Act.put, List.setIfInBounds_toArray, List.set_cons_zero, List.set_cons_succ]
    refine' wpAnyH_take (i := 3) (oi := ?o4) (v := ?v4) ?hi4 (by kernel_rfl) (by kernel_rfl) (by kernel_rfl) (fun c a w h => hP c a _ _ w h) (Or.inl ⟨?hw4, ?hy4⟩) hHeld ?rest4
    case hi4 => simp only [List.getElem?_toArray, List.getElem?_cons_succ, List.getElem?_cons_zero]; rfl
    case hw4 => rfl
    case hy4 =>
      intro w _
      go_simp
      try with_reducible rfl
    simp only [Act.put, List.setIfInBounds_toArray, List.set_cons_zero, List.set_cons_succ]
    refine' wpAnyH_take (i := 4) (oi := ?o5) (v := ?v5) ?hi5 (by kernel_rfl) (by kernel_rfl) (by kernel_rfl) (fun c a w h => hP c a _ _ w h) (Or.inl ⟨?hw5, ?hy5⟩) hHeld ?rest5
    case hi5 => simp only [List.getElem?_toArray, List.getElem?_cons_succ, List.getElem?_cons_zero]; rfl
    case hw5 => rfl
    case hy5 =>
      intro w _
      go_simp
      try with_reducible rfl
    simp only [Act.put, List.setIfInBounds_toArray, List.set_cons_zero, List.set_cons_succ]
    refine' wpAnyH_take (i := 5) (oi := ?o6) (v := ?v6) ?hi6 (by kernel_rfl) (by kernel_rfl) (by kernel_rfl) (fun c a w h => hP c a _ _ w h) (Or.inl ⟨?hw6, ?hy6⟩) hHeld ?rest6
    case hi6 => simp only [List.getElem?_toArray, List.getElem?_cons_succ, List.getElem?_cons_zero]; rfl
    case hw6 => rfl
    case hy6 =>
      intro w hSw
      obtain ⟨c0, c1, c2, c3, c4, c5, c6, c7, c8, c9, ca⟩ := CB.out _ hSw
      go_simp
      try with_reducible rfl
    simp only [Act.put, List.setIfInBounds_toArray, List.set_cons_zero, List.set_cons_succ]
    refine wpAnyH_ready (rs := [6]) (by kernel_rfl) (by simp) ?_
    refine' AllReadyH.cons (i := 6) (o := ?o7) ?hi7 (fun K hK => ?st7) ?mo7
    case hi7 => simp only [List.getElem?_toArray, List.getElem?_cons_succ, List.getElem?_cons_zero]; rfl
    case st7 =>
      go_simp
      refine (F2.out _ hHeld).mono ?_
      rintro e v2 ⟨rfl, h6⟩
      clear hHeld
      go_simp
      refine hK.out _ _ h6 (fun hHeld => ?_)
      clear hK K h6
      try simp only [Act.put, List.setIfInBounds_toArray, List.set_cons_zero, List.set_cons_succ]
      refine' wpAnyH_take (i := 7) (oi := ?o8) (v := ?v8) ?hi8 (by kernel_rfl) (by kernel_rfl) (by kernel_rfl) (fun c a w h => hP c a _ _ w h) (Or.inl ⟨?hw8, ?hy8⟩) hHeld ?rest8
      case hi8 => simp only [List.getElem?_toArray, List.getElem?_cons_succ, List.getElem?_cons_zero]; rfl
      case hw8 => rfl
      case hy8 =>
        intro w _
        go_simp
        try with_reducible rfl
      simp only [Act.put, List.setIfInBounds_toArray, List.set_cons_zero, List.set_cons_succ]
      refine' wpAnyH_take (i := 8) (oi := ?o9) (v := ?v9) ?hi9 (by kernel_rfl) (by kernel_rfl) (by kernel_rfl) (fun c a w h => hP c a _ _ w h) (Or.inl ⟨?hw9, ?hy9⟩) hHeld ?rest9
      case hi9 => simp only [List.getElem?_toArray, List.getElem?_cons_succ, List.getElem?_cons_zero]; rfl
      case hw9 => rfl
      case hy9 =>
        intro w _
        go_simp
        try with_reducible rfl
      simp only [Act.put, List.setIfInBounds_toArray, List.set_cons_zero, List.set_cons_succ]
      refine' wpAnyH_take (i := 9) (oi := ?o10) (v := undef) ?hi10 (by kernel_rfl) (by kernel_rfl) (by kernel_rfl) (fun c a w h => hP c a _ _ w h) (Or.inr ⟨?hw10, rfl⟩) hHeld ?rest10
      case hi10 => simp only [List.getElem?_toArray, List.getElem?_cons_succ, List.getElem?_cons_zero]; rfl
      case hw10 => rfl
      simp only [Act.put, List.setIfInBounds_toArray, List.set_cons_zero, List.set_cons_succ]
      refine' wpAnyH_take (i := 10) (oi := ?o11) (v := undef) ?hi11 (by kernel_rfl) (by kernel_rfl) (by kernel_rfl) (fun c a w h => hP c a _ _ w h) (Or.inr ⟨?hw11, rfl⟩) hHeld ?rest11
      case hi11 => simp only [List.getElem?_toArray, List.getElem?_cons_succ, List.getElem?_cons_zero]; rfl
      case hw11 => rfl
      simp only [Act.put, List.setIfInBounds_toArray, List.set_cons_zero, List.set_cons_succ]
      refine' wpAnyH_take (i := 11) (oi := ?o12) (v := undef) ?hi12 (by kernel_rfl) (by kernel_rfl) (by kernel_rfl) (fun c a w h => hP c a _ _ w h) (Or.inr ⟨?hw12, rfl⟩) hHeld ?rest12
      case hi12 => simp only [List.getElem?_toArray, List.getElem?_cons_succ, List.getElem?_cons_zero]; rfl
      case hw12 => rfl
      simp only [Act.put, List.setIfInBounds_toArray, List.set_cons_zero, List.set_cons_succ]
      refine' wpAnyH_take (i := 12) (oi := ?o13) (v := ?v13) ?hi13 (by kernel_rfl) (by kernel_rfl) (by kernel_rfl) (fun c a w h => hP c a _ _ w h) (Or.inl ⟨?hw13, ?hy13⟩) hHeld ?rest13
      case hi13 => simp only [List.getElem?_toArray, List.getElem?_cons_succ, List.getElem?_cons_zero]; rfl
      case hw13 => rfl
      case hy13 =>
        intro w _
        go_simp
        try with_reducible rfl
      simp only [Act.put, List.setIfInBounds_toArray, List.set_cons_zero, List.set_cons_succ]
      refine' wpAnyH_take (i := 13) (oi := ?o14) (v := ?v14) ?hi14 (by kernel_rfl) (by kernel_rfl) (by kernel_rfl) (fun c a w h => hP c a _ _ w h) (Or.inl ⟨?hw14, ?hy14⟩) hHeld ?rest14
      case hi14 => simp only [List.getElem?_toArray, List.getElem?_cons_succ, List.getElem?_cons_zero]; rfl
      case hw14 => rfl
      case hy14 =>
        intro w _
        go_simp
        try with_reducible rfl
      simp only [Act.put, List.setIfInBounds_toArray, List.set_cons_zero, List.set_cons_succ]
      refine' wpAnyH_take (i := 14) (oi := ?o15) (v := undef) ?hi15 (by kernel_rfl) (by kernel_rfl) (by kernel_rfl) (fun c a w h => hP c a _ _ w h) (Or.inr ⟨?hw15, rfl⟩) hHeld ?rest15
      case hi15 => simp only [List.getElem?_toArray, List.getElem?_cons_succ, List.getElem?_cons_zero]; rfl
      case hw15 => rfl
      simp only [Act.put, List.setIfInBounds_toArray, List.set_cons_zero, List.set_cons_succ]
      refine' wpAnyH_take (i := 15) (oi := ?o16) (v := undef) ?hi16 (by kernel_rfl) (by kernel_rfl) (by kernel_rfl) (fun c a w h => hP c a _ _ w h) (Or.inr ⟨?hw16, rfl⟩) hHeld ?rest16
      case hi16 => simp only [List.getElem?_toArray, List.getElem?_cons_succ, List.getElem?_cons_zero]; rfl
      case hw16 => rfl
      simp only [Act.put, List.setIfInBounds_toArray, List.set_cons_zero, List.set_cons_succ]
      refine' wpAnyH_take (i := 16) (oi := ?o17) (v := ?v17) ?hi17 (by kernel_rfl) (by kernel_rfl) (by kernel_rfl) (fun c a w h => hP c a _ _ w h) (Or.inl ⟨?hw17, ?hy17⟩) hHeld ?rest17
      case hi17 => simp only [List.getElem?_toArray, List.getElem?_cons_succ, List.getElem?_cons_zero]; rfl
      case hw17 => rfl
      case hy17 =>
        intro w _
        go_simp
        try with_reducible rfl
      simp only [Act.put, List.setIfInBounds_toArray, List.set_cons_zero, List.set_cons_succ]
      refine' wpAnyH_take (i := 17) (oi := ?o18) (v := ?v18) ?hi18 (by kernel_rfl) (by kernel_rfl) (by kernel_rfl) (fun c a w h => hP c a _ _ w h) (Or.inl ⟨?hw18, ?hy18⟩) hHeld ?rest18
      case hi18 => simp only [List.getElem?_toArray, List.getElem?_cons_succ, List.getElem?_cons_zero]; rfl
      case hw18 => rfl
      case hy18 =>
        intro w _
        go_simp
        try with_reducible rfl
      simp only [Act.put, List.setIfInBounds_toArray, List.set_cons_zero, List.set_cons_succ]
      refine' wpAnyH_take (i := 18) (oi := ?o19) (v := undef) ?hi19 (by kernel_rfl) (by kernel_rfl) (by kernel_rfl) (fun c a w h => hP c a _ _ w h) (Or.inr ⟨?hw19, rfl⟩) hHeld ?rest19
      case hi19 => simp only [List.getElem?_toArray, List.getElem?_cons_succ, List.getElem?_cons_zero]; rfl
      case hw19 => rfl
      simp only [Act.put, List.setIfInBounds_toArray, List.set_cons_zero, List.set_cons_succ]
      refine' wpAnyH_take (i := 19) (oi := ?o20) (v := undef) ?hi20 (by kernel_rfl) (by kernel_rfl) (by kernel_rfl) (fun c a w h => hP c a _ _ w h) (Or.inr ⟨?hw20, rfl⟩) hHeld ?rest20
      case hi20 => simp only [List.getElem?_toArray, List.getElem?_cons_succ, List.getElem?_cons_zero]; rfl
      case hw20 => rfl
      simp only [Act.put, List.setIfInBounds_toArray, List.set_cons_zero, List.set_cons_succ]
      refine' wpAnyH_take (i := 20) (oi := ?o21) (v := undef) ?hi21 (by kernel_rfl) (by kernel_rfl) (by kernel_rfl) (fun c a w h => hP c a _ _ w h) (Or.inr ⟨?hw21, rfl⟩) hHeld ?rest21
      case hi21 => simp only [List.getElem?_toArray, List.getElem?_cons_succ, List.getElem?_cons_zero]; rfl
      case hw21 => rfl
      simp only [Act.put, List.setIfInBounds_toArray, List.set_cons_zero, List.set_cons_succ]
      refine' wpAnyH_take (i := 21) (oi := ?o22) (v := undef) ?hi22 (by kernel_rfl) (by kernel_rfl) (by kernel_rfl) (fun c a w h => hP c a _ _ w h) (Or.inr ⟨?hw22, rfl⟩) hHeld ?rest22
      case hi22 => simp only [List.getElem?_toArray, List.getElem?_cons_succ, List.getElem?_cons_zero]; rfl
      case hw22 => rfl
      simp only [Act.put, List.setIfInBounds_toArray, List.set_cons_zero, List.set_cons_succ]
      refine' wpAnyH_take (i := 22) (oi := ?o23) (v := undef) ?hi23 (by kernel_rfl) (by kernel_rfl) (by kernel_rfl) (fun c a w h => hP c a _ _ w h) (Or.inr ⟨?hw23, rfl⟩) hHeld ?rest23
      case hi23 => simp only [List.getElem?_toArray, List.getElem?_cons_succ, List.getElem?_cons_zero]; rfl
      case hw23 => rfl
      simp only [Act.put, List.setIfInBounds_toArray, List.set_cons_zero, List.set_cons_succ]
      refine' wpAnyH_take (i := 23) (oi := ?o24) (v := undef) ?hi24 (by kernel_rfl) (by kernel_rfl) (by kernel_rfl) (fun c a w h => hP c a _ _ w h) (Or.inr ⟨?hw24, rfl⟩) hHeld ?rest24
      case hi24 => simp only [List.getElem?_toArray, List.getElem?_cons_succ, List.getElem?_cons_zero]; rfl
      case hw24 => rfl
      simp only [Act.put, List.setIfInBounds_toArray, List.set_cons_zero, List.set_cons_succ]
      refine' wpAnyH_take (i := 24) (oi := ?o25) (v := undef) ?hi25 (by kernel_rfl) (by kernel_rfl) (by kernel_rfl) (fun c a w h => hP c a _ _ w h) (Or.inr ⟨?hw25, rfl⟩) hHeld ?rest25
      case hi25 => simp only [List.getElem?_toArray, List.getElem?_cons_succ, List.getElem?_cons_zero]; rfl
      case hw25 => rfl
      simp only [Act.put, List.setIfInBounds_toArray, List.set_cons_zero, List.set_cons_succ]
      refine' wpAnyH_take (i := 25) (oi := ?o26) (v := undef) ?hi26 (by kernel_rfl) (by kernel_rfl) (by kernel_rfl) (fun c a w h => hP c a _ _ w h) (Or.inr ⟨?hw26, rfl⟩) hHeld ?rest26
      case hi26 => simp only [List.getElem?_toArray, List.getElem?_cons_succ, List.getElem?_cons_zero]; rfl
      case hw26 => rfl
      simp only [Act.put, List.setIfInBounds_toArray, List.set_cons_zero, List.set_cons_succ]
      refine' wpAnyH_take (i := 26) (oi := ?o27) (v := ?v27) ?hi27 (by kernel_rfl) (by kernel_rfl) (by kernel_rfl) (fun c a w h => hP c a _ _ w h) (Or.inl ⟨?hw27, ?hy27⟩) hHeld ?rest27
      case hi27 => simp only [List.getElem?_toArray, List.getElem?_cons_succ, List.getElem?_cons_zero]; rfl
      case hw27 => rfl
      case hy27 =>
        intro w _
        go_simp
        try with_reducible rfl
      simp only [Act.put, List.setIfInBounds_toArray, List.set_cons_zero, List.set_cons_succ]
      refine' wpAnyH_take (i := 27) (oi := ?o28) (v := ?v28) ?hi28 (by kernel_rfl) (by kernel_rfl) (by kernel_rfl) (fun c a w h => hP c a _ _ w h) (Or.inl ⟨?hw28, ?hy28⟩) hHeld ?rest28
      case hi28 => simp only [List.getElem?_toArray, List.getElem?_cons_succ, List.getElem?_cons_zero]; rfl
      case hw28 => rfl
      case hy28 =>
        intro w _
        go_simp
        try with_reducible rfl
      simp only [Act.put, List.setIfInBounds_toArray, List.set_cons_zero, List.set_cons_succ]
      refine wpAnyH_done (by kernel_rfl) ?_ _
      exact hQ.out _ _ _ _ _ _ _ _ _ _ _ _ _ _ _ _ _ _ _ _ _ _ _ _ _ _ _ _  hHeld
    case mo7 => exact AllReadyH.nil
  case mo3 => exact AllReadyH.nil
set_option maxHeartbeats 12800000 in
theorem qm1c (z0 z2 z3 z4 z5 z6 z7 z8 z9 z10 z11 z12 z13 z14 z15 z16 z17 z18 z19 z20 z21 z22 z23 z24 z25 z26 z27 z28 z29 : Value) (W : World) (q : Nat) (s : Sag)
    (CB : Hid (∀ w', Below W.heap.size W w' → CellS w' q s))
    (F1 : Hid (∀ w', Below W.heap.size W w' → Calls Tryd.prog 39 #[.int .i64 s.ph, .int .i64 1, .int .i64 5] w' fun e w'' => e = .returned (.bool true) ∧ Below W.heap.size W w''))
    (F2 : Hid (∀ w', Below W.heap.size W w' → Calls Tryd.prog 40 #[.agg #[.int .i64 s.w.book, .int .i64 s.w.cust, .int .i64 s.w.dead, .int .i64 s.w.u0, .int .i64 s.w.u1, .int .i64 s.w.u2, .int .i64 s.w.price]] w' fun e w'' => e = .returned (.bool true) ∧ Below W.heap.size W w''))
    (F3 : Hid (∀ w', Below W.heap.size W w' → Calls Tryd.prog 41 #[.int .i64 s.si] w' fun e w'' => e = .returned (.bool false) ∧ Below W.heap.size W w''))
    (Q : Exit → Act → World → Prop)
    (hP : ∀ c a d v w, Q (.panic c) (Act.put a d v) w → Q (.panic c) a w)
    (hQ : ∀ (y3 y4 y5 y6 y7 y8 y9 y10 y11 y12 y13 y14 y15 y16 y17 y18 y19 y20 y21 y22 y23 y24 y25 y26 y27 y28 y29 : Value)  (W3 : World), Below W.heap.size W W3 → Q .normal ⟨#[z0, .pointer (some ⟨q, 0, none⟩), .bool false, y3, y4, y5, y6, y7, y8, y9, y10, y11, y12, y13, y14, y15, y16, y17, y18, y19, y20, y21, y22, y23, y24, y25, y26, y27, y28, y29], []⟩ W3) :
    Code.wp Tryd.prog qm_1 Q ⟨#[z0, .pointer (some ⟨q, 0, none⟩), z2, z3, z4, z5, z6, z7, z8, z9, z10, z11, z12, z13, z14, z15, z16, z17, z18, z19, z20, z21, z22, z23, z24, z25, z26, z27, z28, z29], []⟩ W := by
  conv => arg 2; whnf
  have b0 : Below W.heap.size W W.drew := ⟨rfl, rfl, rfl, Nat.le_refl _, fun _ _ => rfl⟩
  refine wp_region_held_drew (S := fun w => Below W.heap.size W w) (by kernel_rfl) b0 (fun hHeld => ?_)
  replace hQ := Lib.hid hQ
  clear b0
  obtain ⟨v0, hv⟩ : ∃ v, v = W.drew := ⟨_, rfl⟩
  rw [← hv] at hHeld ⊢
  clear hv
  refine' wpAnyH_take (i := 0) (oi := ?o1) (v := ?v1) ?hi1 (by kernel_rfl) (by kernel_rfl) (by kernel_rfl) (fun c a w h => hP c a _ _ w h) (Or.inl ⟨?hw1, ?hy1⟩) hHeld ?rest1
  case hi1 => simp only [List.getElem?_toArray, List.getElem?_cons_zero]; rfl
  case hw1 => rfl
  case hy1 =>
    intro w _
    go_simp
    try with_reducible rfl
  simp only [Act.put, List.setIfInBounds_toArray, List.set_cons_zero, List.set_cons_succ]
  refine' wpAnyH_take (i := 1) (oi := ?o2) (v := ?v2) ?hi2 (by kernel_rfl) (by kernel_rfl) (by kernel_rfl) (fun c a w h => hP c a _ _ w h) (Or.inl ⟨?hw2, ?hy2⟩) hHeld ?rest2
  case hi2 => simp only [List.getElem?_toArray, List.getElem?_cons_succ, List.getElem?_cons_zero]; rfl
  case hw2 => rfl
  case hy2 =>
    intro w hSw
    obtain ⟨c0, c1, c2, c3, c4, c5, c6, c7, c8, c9, ca⟩ := CB.out _ hSw
    go_simp
    try with_reducible rfl
  simp only [Act.put, List.setIfInBounds_toArray, List.set_cons_zero, List.set_cons_succ]
  refine wpAnyH_ready (rs := [2]) (by kernel_rfl) (by simp) ?_
  refine' AllReadyH.cons (i := 2) (o := ?o3) ?hi3 (fun K hK => ?st3) ?mo3
  case hi3 => simp only [List.getElem?_toArray, List.getElem?_cons_succ, List.getElem?_cons_zero]; rfl
  case st3 =>
    go_simp
    refine (F1.out _ hHeld).mono ?_
    rintro e v1 ⟨rfl, h6⟩
    clear hHeld
    go_simp
    refine hK.out _ _ h6 (fun hHeld => ?_)
    clear hK K h6
    try simp only [Act.put, List.setIfInBounds_toArray, List.set_cons_zero, List.set_cons_succ]
    refine' wpAnyH_take (i := 3) (oi := ?o4) (v := ?v4) ?hi4 (by kernel_rfl) (by kernel_rfl) (by kernel_rfl) (fun c a w h => hP c a _ _ w h) (Or.inl ⟨?hw4, ?hy4⟩) hHeld ?rest4
    case hi4 => simp only [List.getElem?_toArray, List.getElem?_cons_succ, List.getElem?_cons_zero]; rfl
    case hw4 => rfl
    case hy4 =>
      intro w _
      go_simp
      try with_reducible rfl
    simp only [Act.put, List.setIfInBounds_toArray, List.set_cons_zero, List.set_cons_succ]
    refine' wpAnyH_take (i := 4) (oi := ?o5) (v := ?v5) ?hi5 (by kernel_rfl) (by kernel_rfl) (by kernel_rfl) (fun c a w h => hP c a _ _ w h) (Or.inl ⟨?hw5, ?hy5⟩) hHeld ?rest5
    case hi5 => simp only [List.getElem?_toArray, List.getElem?_cons_succ, List.getElem?_cons_zero]; rfl
    case hw5 => rfl
    case hy5 =>
      intro w _
      go_simp
      try with_reducible rfl
    simp only [Act.put, List.setIfInBounds_toArray, List.set_cons_zero, List.set_cons_succ]
    refine' wpAnyH_take (i := 5) (oi := ?o6) (v := ?v6) ?hi6 (by kernel_rfl) (by kernel_rfl) (by kernel_rfl) (fun c a w h => hP c a _ _ w h) (Or.inl ⟨?hw6, ?hy6⟩) hHeld ?rest6
    case hi6 => simp only [List.getElem?_toArray, List.getElem?_cons_succ, List.getElem?_cons_zero]; rfl
    case hw6 => rfl
    case hy6 =>
      intro w hSw
      obtain ⟨c0, c1, c2, c3, c4, c5, c6, c7, c8, c9, ca⟩ := CB.out _ hSw
      go_simp
      try with_reducible rfl
    simp only [Act.put, List.setIfInBounds_toArray, List.set_cons_zero, List.set_cons_succ]
    refine wpAnyH_ready (rs := [6]) (by kernel_rfl) (by simp) ?_
    refine' AllReadyH.cons (i := 6) (o := ?o7) ?hi7 (fun K hK => ?st7) ?mo7
    case hi7 => simp only [List.getElem?_toArray, List.getElem?_cons_succ, List.getElem?_cons_zero]; rfl
    case st7 =>
      go_simp
      refine (F2.out _ hHeld).mono ?_
      rintro e v2 ⟨rfl, h6⟩
      clear hHeld
      go_simp
      refine hK.out _ _ h6 (fun hHeld => ?_)
      clear hK K h6
      try simp only [Act.put, List.setIfInBounds_toArray, List.set_cons_zero, List.set_cons_succ]
      refine' wpAnyH_take (i := 7) (oi := ?o8) (v := ?v8) ?hi8 (by kernel_rfl) (by kernel_rfl) (by kernel_rfl) (fun c a w h => hP c a _ _ w h) (Or.inl ⟨?hw8, ?hy8⟩) hHeld ?rest8
      case hi8 => simp only [List.getElem?_toArray, List.getElem?_cons_succ, List.getElem?_cons_zero]; rfl
      case hw8 => rfl
      case hy8 =>
        intro w _
        go_simp
        try with_reducible rfl
      simp only [Act.put, List.setIfInBounds_toArray, List.set_cons_zero, List.set_cons_succ]
      refine' wpAnyH_take (i := 8) (oi := ?o9) (v := ?v9) ?hi9 (by kernel_rfl) (by kernel_rfl) (by kernel_rfl) (fun c a w h => hP c a _ _ w h) (Or.inl ⟨?hw9, ?hy9⟩) hHeld ?rest9
      case hi9 => simp only [List.getElem?_toArray, List.getElem?_cons_succ, List.getElem?_cons_zero]; rfl
      case hw9 => rfl
      case hy9 =>
        intro w _
        go_simp
        try with_reducible rfl
      simp only [Act.put, List.setIfInBounds_toArray, List.set_cons_zero, List.set_cons_succ]
      refine' wpAnyH_take (i := 9) (oi := ?o10) (v := ?v10) ?hi10 (by kernel_rfl) (by kernel_rfl) (by kernel_rfl) (fun c a w h => hP c a _ _ w h) (Or.inl ⟨?hw10, ?hy10⟩) hHeld ?rest10
      case hi10 => simp only [List.getElem?_toArray, List.getElem?_cons_succ, List.getElem?_cons_zero]; rfl
      case hw10 => rfl
      case hy10 =>
        intro w _
        go_simp
        try with_reducible rfl
      simp only [Act.put, List.setIfInBounds_toArray, List.set_cons_zero, List.set_cons_succ]
      refine' wpAnyH_take (i := 10) (oi := ?o11) (v := ?v11) ?hi11 (by kernel_rfl) (by kernel_rfl) (by kernel_rfl) (fun c a w h => hP c a _ _ w h) (Or.inl ⟨?hw11, ?hy11⟩) hHeld ?rest11
      case hi11 => simp only [List.getElem?_toArray, List.getElem?_cons_succ, List.getElem?_cons_zero]; rfl
      case hw11 => rfl
      case hy11 =>
        intro w hSw
        obtain ⟨c0, c1, c2, c3, c4, c5, c6, c7, c8, c9, ca⟩ := CB.out _ hSw
        go_simp
        try with_reducible rfl
      simp only [Act.put, List.setIfInBounds_toArray, List.set_cons_zero, List.set_cons_succ]
      refine wpAnyH_ready (rs := [11]) (by kernel_rfl) (by simp) ?_
      refine' AllReadyH.cons (i := 11) (o := ?o12) ?hi12 (fun K hK => ?st12) ?mo12
      case hi12 => simp only [List.getElem?_toArray, List.getElem?_cons_succ, List.getElem?_cons_zero]; rfl
      case st12 =>
        go_simp
        refine (F3.out _ hHeld).mono ?_
        rintro e v3 ⟨rfl, h6⟩
        clear hHeld
        go_simp
        refine hK.out _ _ h6 (fun hHeld => ?_)
        clear hK K h6
        try simp only [Act.put, List.setIfInBounds_toArray, List.set_cons_zero, List.set_cons_succ]
        refine' wpAnyH_take (i := 12) (oi := ?o13) (v := ?v13) ?hi13 (by kernel_rfl) (by kernel_rfl) (by kernel_rfl) (fun c a w h => hP c a _ _ w h) (Or.inl ⟨?hw13, ?hy13⟩) hHeld ?rest13
        case hi13 => simp only [List.getElem?_toArray, List.getElem?_cons_succ, List.getElem?_cons_zero]; rfl
        case hw13 => rfl
        case hy13 =>
          intro w _
          go_simp
          try with_reducible rfl
        simp only [Act.put, List.setIfInBounds_toArray, List.set_cons_zero, List.set_cons_succ]
        refine' wpAnyH_take (i := 13) (oi := ?o14) (v := ?v14) ?hi14 (by kernel_rfl) (by kernel_rfl) (by kernel_rfl) (fun c a w h => hP c a _ _ w h) (Or.inl ⟨?hw14, ?hy14⟩) hHeld ?rest14
        case hi14 => simp only [List.getElem?_toArray, List.getElem?_cons_succ, List.getElem?_cons_zero]; rfl
        case hw14 => rfl
        case hy14 =>
          intro w _
          go_simp
          try with_reducible rfl
        simp only [Act.put, List.setIfInBounds_toArray, List.set_cons_zero, List.set_cons_succ]
        refine' wpAnyH_take (i := 14) (oi := ?o15) (v := undef) ?hi15 (by kernel_rfl) (by kernel_rfl) (by kernel_rfl) (fun c a w h => hP c a _ _ w h) (Or.inr ⟨?hw15, rfl⟩) hHeld ?rest15
        case hi15 => simp only [List.getElem?_toArray, List.getElem?_cons_succ, List.getElem?_cons_zero]; rfl
        case hw15 => rfl
        simp only [Act.put, List.setIfInBounds_toArray, List.set_cons_zero, List.set_cons_succ]
        refine' wpAnyH_take (i := 15) (oi := ?o16) (v := undef) ?hi16 (by kernel_rfl) (by kernel_rfl) (by kernel_rfl) (fun c a w h => hP c a _ _ w h) (Or.inr ⟨?hw16, rfl⟩) hHeld ?rest16
        case hi16 => simp only [List.getElem?_toArray, List.getElem?_cons_succ, List.getElem?_cons_zero]; rfl
        case hw16 => rfl
        simp only [Act.put, List.setIfInBounds_toArray, List.set_cons_zero, List.set_cons_succ]
        refine' wpAnyH_take (i := 16) (oi := ?o17) (v := ?v17) ?hi17 (by kernel_rfl) (by kernel_rfl) (by kernel_rfl) (fun c a w h => hP c a _ _ w h) (Or.inl ⟨?hw17, ?hy17⟩) hHeld ?rest17
        case hi17 => simp only [List.getElem?_toArray, List.getElem?_cons_succ, List.getElem?_cons_zero]; rfl
        case hw17 => rfl
        case hy17 =>
          intro w _
          go_simp
          try with_reducible rfl
        simp only [Act.put, List.setIfInBounds_toArray, List.set_cons_zero, List.set_cons_succ]
        refine' wpAnyH_take (i := 17) (oi := ?o18) (v := ?v18) ?hi18 (by kernel_rfl) (by kernel_rfl) (by kernel_rfl) (fun c a w h => hP c a _ _ w h) (Or.inl ⟨?hw18, ?hy18⟩) hHeld ?rest18
        case hi18 => simp only [List.getElem?_toArray, List.getElem?_cons_succ, List.getElem?_cons_zero]; rfl
        case hw18 => rfl
        case hy18 =>
          intro w _
          go_simp
          try with_reducible rfl
        simp only [Act.put, List.setIfInBounds_toArray, List.set_cons_zero, List.set_cons_succ]
        refine' wpAnyH_take (i := 18) (oi := ?o19) (v := undef) ?hi19 (by kernel_rfl) (by kernel_rfl) (by kernel_rfl) (fun c a w h => hP c a _ _ w h) (Or.inr ⟨?hw19, rfl⟩) hHeld ?rest19
        case hi19 => simp only [List.getElem?_toArray, List.getElem?_cons_succ, List.getElem?_cons_zero]; rfl
        case hw19 => rfl
        simp only [Act.put, List.setIfInBounds_toArray, List.set_cons_zero, List.set_cons_succ]
        refine' wpAnyH_take (i := 19) (oi := ?o20) (v := undef) ?hi20 (by kernel_rfl) (by kernel_rfl) (by kernel_rfl) (fun c a w h => hP c a _ _ w h) (Or.inr ⟨?hw20, rfl⟩) hHeld ?rest20
        case hi20 => simp only [List.getElem?_toArray, List.getElem?_cons_succ, List.getElem?_cons_zero]; rfl
        case hw20 => rfl
        simp only [Act.put, List.setIfInBounds_toArray, List.set_cons_zero, List.set_cons_succ]
        refine' wpAnyH_take (i := 20) (oi := ?o21) (v := undef) ?hi21 (by kernel_rfl) (by kernel_rfl) (by kernel_rfl) (fun c a w h => hP c a _ _ w h) (Or.inr ⟨?hw21, rfl⟩) hHeld ?rest21
        case hi21 => simp only [List.getElem?_toArray, List.getElem?_cons_succ, List.getElem?_cons_zero]; rfl
        case hw21 => rfl
        simp only [Act.put, List.setIfInBounds_toArray, List.set_cons_zero, List.set_cons_succ]
        refine' wpAnyH_take (i := 21) (oi := ?o22) (v := undef) ?hi22 (by kernel_rfl) (by kernel_rfl) (by kernel_rfl) (fun c a w h => hP c a _ _ w h) (Or.inr ⟨?hw22, rfl⟩) hHeld ?rest22
        case hi22 => simp only [List.getElem?_toArray, List.getElem?_cons_succ, List.getElem?_cons_zero]; rfl
        case hw22 => rfl
        simp only [Act.put, List.setIfInBounds_toArray, List.set_cons_zero, List.set_cons_succ]
        refine' wpAnyH_take (i := 22) (oi := ?o23) (v := undef) ?hi23 (by kernel_rfl) (by kernel_rfl) (by kernel_rfl) (fun c a w h => hP c a _ _ w h) (Or.inr ⟨?hw23, rfl⟩) hHeld ?rest23
        case hi23 => simp only [List.getElem?_toArray, List.getElem?_cons_succ, List.getElem?_cons_zero]; rfl
        case hw23 => rfl
        simp only [Act.put, List.setIfInBounds_toArray, List.set_cons_zero, List.set_cons_succ]
        refine' wpAnyH_take (i := 23) (oi := ?o24) (v := undef) ?hi24 (by kernel_rfl) (by kernel_rfl) (by kernel_rfl) (fun c a w h => hP c a _ _ w h) (Or.inr ⟨?hw24, rfl⟩) hHeld ?rest24
        case hi24 => simp only [List.getElem?_toArray, List.getElem?_cons_succ, List.getElem?_cons_zero]; rfl
        case hw24 => rfl
        simp only [Act.put, List.setIfInBounds_toArray, List.set_cons_zero, List.set_cons_succ]
        refine' wpAnyH_take (i := 24) (oi := ?o25) (v := undef) ?hi25 (by kernel_rfl) (by kernel_rfl) (by kernel_rfl) (fun c a w h => hP c a _ _ w h) (Or.inr ⟨?hw25, rfl⟩) hHeld ?rest25
        case hi25 => simp only [List.getElem?_toArray, List.getElem?_cons_succ, List.getElem?_cons_zero]; rfl
        case hw25 => rfl
        simp only [Act.put, List.setIfInBounds_toArray, List.set_cons_zero, List.set_cons_succ]
        refine' wpAnyH_take (i := 25) (oi := ?o26) (v := undef) ?hi26 (by kernel_rfl) (by kernel_rfl) (by kernel_rfl) (fun c a w h => hP c a _ _ w h) (Or.inr ⟨?hw26, rfl⟩) hHeld ?rest26
        case hi26 => simp only [List.getElem?_toArray, List.getElem?_cons_succ, List.getElem?_cons_zero]; rfl
        case hw26 => rfl
        simp only [Act.put, List.setIfInBounds_toArray, List.set_cons_zero, List.set_cons_succ]
        refine' wpAnyH_take (i := 26) (oi := ?o27) (v := ?v27) ?hi27 (by kernel_rfl) (by kernel_rfl) (by kernel_rfl) (fun c a w h => hP c a _ _ w h) (Or.inl ⟨?hw27, ?hy27⟩) hHeld ?rest27
        case hi27 => simp only [List.getElem?_toArray, List.getElem?_cons_succ, List.getElem?_cons_zero]; rfl
        case hw27 => rfl
        case hy27 =>
          intro w _
          go_simp
          try with_reducible rfl
        simp only [Act.put, List.setIfInBounds_toArray, List.set_cons_zero, List.set_cons_succ]
        refine' wpAnyH_take (i := 27) (oi := ?o28) (v := ?v28) ?hi28 (by kernel_rfl) (by kernel_rfl) (by kernel_rfl) (fun c a w h => hP c a _ _ w h) (Or.inl ⟨?hw28, ?hy28⟩) hHeld ?rest28
        case hi28 => simp only [List.getElem?_toArray, List.getElem?_cons_succ, List.getElem?_cons_zero]; rfl
        case hw28 => rfl
        case hy28 =>
          intro w _
          go_simp
          try with_reducible rfl
        simp only [Act.put, List.setIfInBounds_toArray, List.set_cons_zero, List.set_cons_succ]
        refine wpAnyH_done (by kernel_rfl) ?_ _
        exact hQ.out _ _ _ _ _ _ _ _ _ _ _ _ _ _ _ _ _ _ _ _ _ _ _ _ _ _ _ _  hHeld
      case mo12 => exact AllReadyH.nil
    case mo7 => exact AllReadyH.nil
  case mo3 => exact AllReadyH.nil
set_option maxHeartbeats 12800000 in
theorem qm1d (z0 z2 z3 z4 z5 z6 z7 z8 z9 z10 z11 z12 z13 z14 z15 z16 z17 z18 z19 z20 z21 z22 z23 z24 z25 z26 z27 z28 z29 : Value) (W : World) (q : Nat) (s : Sag)
    (CB : Hid (∀ w', Below W.heap.size W w' → CellS w' q s))
    (F1 : Hid (∀ w', Below W.heap.size W w' → Calls Tryd.prog 39 #[.int .i64 s.ph, .int .i64 1, .int .i64 5] w' fun e w'' => e = .returned (.bool true) ∧ Below W.heap.size W w''))
    (F2 : Hid (∀ w', Below W.heap.size W w' → Calls Tryd.prog 40 #[.agg #[.int .i64 s.w.book, .int .i64 s.w.cust, .int .i64 s.w.dead, .int .i64 s.w.u0, .int .i64 s.w.u1, .int .i64 s.w.u2, .int .i64 s.w.price]] w' fun e w'' => e = .returned (.bool true) ∧ Below W.heap.size W w''))
    (F3 : Hid (∀ w', Below W.heap.size W w' → Calls Tryd.prog 41 #[.int .i64 s.si] w' fun e w'' => e = .returned (.bool true) ∧ Below W.heap.size W w''))
    (F4 : Hid (∀ w', Below W.heap.size W w' → Calls Tryd.prog 42 #[.agg #[.int .i64 s.w.book, .int .i64 s.w.cust, .int .i64 s.w.dead, .int .i64 s.w.u0, .int .i64 s.w.u1, .int .i64 s.w.u2, .int .i64 s.w.price, .int .i64 s.ph, .int .i64 s.st, .int .i64 s.rs, .int .i64 s.si]] w' fun e w'' => e = .returned (.bool false) ∧ Below W.heap.size W w''))
    (Q : Exit → Act → World → Prop)
    (hP : ∀ c a d v w, Q (.panic c) (Act.put a d v) w → Q (.panic c) a w)
    (hQ : ∀ (y3 y4 y5 y6 y7 y8 y9 y10 y11 y12 y13 y14 y15 y16 y17 y18 y19 y20 y21 y22 y23 y24 y25 y26 y27 y28 y29 : Value)  (W3 : World), Below W.heap.size W W3 → Q .normal ⟨#[z0, .pointer (some ⟨q, 0, none⟩), .bool false, y3, y4, y5, y6, y7, y8, y9, y10, y11, y12, y13, y14, y15, y16, y17, y18, y19, y20, y21, y22, y23, y24, y25, y26, y27, y28, y29], []⟩ W3) :
    Code.wp Tryd.prog qm_1 Q ⟨#[z0, .pointer (some ⟨q, 0, none⟩), z2, z3, z4, z5, z6, z7, z8, z9, z10, z11, z12, z13, z14, z15, z16, z17, z18, z19, z20, z21, z22, z23, z24, z25, z26, z27, z28, z29], []⟩ W := by
  conv => arg 2; whnf
  have b0 : Below W.heap.size W W.drew := ⟨rfl, rfl, rfl, Nat.le_refl _, fun _ _ => rfl⟩
  refine wp_region_held_drew (S := fun w => Below W.heap.size W w) (by kernel_rfl) b0 (fun hHeld => ?_)
  replace hQ := Lib.hid hQ
  clear b0
  obtain ⟨v0, hv⟩ : ∃ v, v = W.drew := ⟨_, rfl⟩
  rw [← hv] at hHeld ⊢
  clear hv
  refine' wpAnyH_take (i := 0) (oi := ?o1) (v := ?v1) ?hi1 (by kernel_rfl) (by kernel_rfl) (by kernel_rfl) (fun c a w h => hP c a _ _ w h) (Or.inl ⟨?hw1, ?hy1⟩) hHeld ?rest1
  case hi1 => simp only [List.getElem?_toArray, List.getElem?_cons_zero]; rfl
  case hw1 => rfl
  case hy1 =>
    intro w _
    go_simp
    try with_reducible rfl
  simp only [Act.put, List.setIfInBounds_toArray, List.set_cons_zero, List.set_cons_succ]
  refine' wpAnyH_take (i := 1) (oi := ?o2) (v := ?v2) ?hi2 (by kernel_rfl) (by kernel_rfl) (by kernel_rfl) (fun c a w h => hP c a _ _ w h) (Or.inl ⟨?hw2, ?hy2⟩) hHeld ?rest2
  case hi2 => simp only [List.getElem?_toArray, List.getElem?_cons_succ, List.getElem?_cons_zero]; rfl
  case hw2 => rfl
  case hy2 =>
    intro w hSw
    obtain ⟨c0, c1, c2, c3, c4, c5, c6, c7, c8, c9, ca⟩ := CB.out _ hSw
    go_simp
    try with_reducible rfl
  simp only [Act.put, List.setIfInBounds_toArray, List.set_cons_zero, List.set_cons_succ]
  refine wpAnyH_ready (rs := [2]) (by kernel_rfl) (by simp) ?_
  refine' AllReadyH.cons (i := 2) (o := ?o3) ?hi3 (fun K hK => ?st3) ?mo3
  case hi3 => simp only [List.getElem?_toArray, List.getElem?_cons_succ, List.getElem?_cons_zero]; rfl
  case st3 =>
    go_simp
    refine (F1.out _ hHeld).mono ?_
    rintro e v1 ⟨rfl, h6⟩
    clear hHeld
    go_simp
    refine hK.out _ _ h6 (fun hHeld => ?_)
    clear hK K h6
    try simp only [Act.put, List.setIfInBounds_toArray, List.set_cons_zero, List.set_cons_succ]
    refine' wpAnyH_take (i := 3) (oi := ?o4) (v := ?v4) ?hi4 (by kernel_rfl) (by kernel_rfl) (by kernel_rfl) (fun c a w h => hP c a _ _ w h) (Or.inl ⟨?hw4, ?hy4⟩) hHeld ?rest4
    case hi4 => simp only [List.getElem?_toArray, List.getElem?_cons_succ, List.getElem?_cons_zero]; rfl
    case hw4 => rfl
    case hy4 =>
      intro w _
      go_simp
      try with_reducible rfl
    simp only [Act.put, List.setIfInBounds_toArray, List.set_cons_zero, List.set_cons_succ]
    refine' wpAnyH_take (i := 4) (oi := ?o5) (v := ?v5) ?hi5 (by kernel_rfl) (by kernel_rfl) (by kernel_rfl) (fun c a w h => hP c a _ _ w h) (Or.inl ⟨?hw5, ?hy5⟩) hHeld ?rest5
    case hi5 => simp only [List.getElem?_toArray, List.getElem?_cons_succ, List.getElem?_cons_zero]; rfl
    case hw5 => rfl
    case hy5 =>
      intro w _
      go_simp
      try with_reducible rfl
    simp only [Act.put, List.setIfInBounds_toArray, List.set_cons_zero, List.set_cons_succ]
    refine' wpAnyH_take (i := 5) (oi := ?o6) (v := ?v6) ?hi6 (by kernel_rfl) (by kernel_rfl) (by kernel_rfl) (fun c a w h => hP c a _ _ w h) (Or.inl ⟨?hw6, ?hy6⟩) hHeld ?rest6
    case hi6 => simp only [List.getElem?_toArray, List.getElem?_cons_succ, List.getElem?_cons_zero]; rfl
    case hw6 => rfl
    case hy6 =>
      intro w hSw
      obtain ⟨c0, c1, c2, c3, c4, c5, c6, c7, c8, c9, ca⟩ := CB.out _ hSw
      go_simp
      try with_reducible rfl
    simp only [Act.put, List.setIfInBounds_toArray, List.set_cons_zero, List.set_cons_succ]
    refine wpAnyH_ready (rs := [6]) (by kernel_rfl) (by simp) ?_
    refine' AllReadyH.cons (i := 6) (o := ?o7) ?hi7 (fun K hK => ?st7) ?mo7
    case hi7 => simp only [List.getElem?_toArray, List.getElem?_cons_succ, List.getElem?_cons_zero]; rfl
    case st7 =>
      go_simp
      refine (F2.out _ hHeld).mono ?_
      rintro e v2 ⟨rfl, h6⟩
      clear hHeld
      go_simp
      refine hK.out _ _ h6 (fun hHeld => ?_)
      clear hK K h6
      try simp only [Act.put, List.setIfInBounds_toArray, List.set_cons_zero, List.set_cons_succ]
      refine' wpAnyH_take (i := 7) (oi := ?o8) (v := ?v8) ?hi8 (by kernel_rfl) (by kernel_rfl) (by kernel_rfl) (fun c a w h => hP c a _ _ w h) (Or.inl ⟨?hw8, ?hy8⟩) hHeld ?rest8
      case hi8 => simp only [List.getElem?_toArray, List.getElem?_cons_succ, List.getElem?_cons_zero]; rfl
      case hw8 => rfl
      case hy8 =>
        intro w _
        go_simp
        try with_reducible rfl
      simp only [Act.put, List.setIfInBounds_toArray, List.set_cons_zero, List.set_cons_succ]
      refine' wpAnyH_take (i := 8) (oi := ?o9) (v := ?v9) ?hi9 (by kernel_rfl) (by kernel_rfl) (by kernel_rfl) (fun c a w h => hP c a _ _ w h) (Or.inl ⟨?hw9, ?hy9⟩) hHeld ?rest9
      case hi9 => simp only [List.getElem?_toArray, List.getElem?_cons_succ, List.getElem?_cons_zero]; rfl
      case hw9 => rfl
      case hy9 =>
        intro w _
        go_simp
        try with_reducible rfl
      simp only [Act.put, List.setIfInBounds_toArray, List.set_cons_zero, List.set_cons_succ]
      refine' wpAnyH_take (i := 9) (oi := ?o10) (v := ?v10) ?hi10 (by kernel_rfl) (by kernel_rfl) (by kernel_rfl) (fun c a w h => hP c a _ _ w h) (Or.inl ⟨?hw10, ?hy10⟩) hHeld ?rest10
      case hi10 => simp only [List.getElem?_toArray, List.getElem?_cons_succ, List.getElem?_cons_zero]; rfl
      case hw10 => rfl
      case hy10 =>
        intro w _
        go_simp
        try with_reducible rfl
      simp only [Act.put, List.setIfInBounds_toArray, List.set_cons_zero, List.set_cons_succ]
      refine' wpAnyH_take (i := 10) (oi := ?o11) (v := ?v11) ?hi11 (by kernel_rfl) (by kernel_rfl) (by kernel_rfl) (fun c a w h => hP c a _ _ w h) (Or.inl ⟨?hw11, ?hy11⟩) hHeld ?rest11
      case hi11 => simp only [List.getElem?_toArray, List.getElem?_cons_succ, List.getElem?_cons_zero]; rfl
      case hw11 => rfl
      case hy11 =>
        intro w hSw
        obtain ⟨c0, c1, c2, c3, c4, c5, c6, c7, c8, c9, ca⟩ := CB.out _ hSw
        go_simp
        try with_reducible rfl
      simp only [Act.put, List.setIfInBounds_toArray, List.set_cons_zero, List.set_cons_succ]
      refine wpAnyH_ready (rs := [11]) (by kernel_rfl) (by simp) ?_
      refine' AllReadyH.cons (i := 11) (o := ?o12) ?hi12 (fun K hK => ?st12) ?mo12
      case hi12 => simp only [List.getElem?_toArray, List.getElem?_cons_succ, List.getElem?_cons_zero]; rfl
      case st12 =>
        go_simp
        refine (F3.out _ hHeld).mono ?_
        rintro e v3 ⟨rfl, h6⟩
        clear hHeld
        go_simp
        refine hK.out _ _ h6 (fun hHeld => ?_)
        clear hK K h6
        try simp only [Act.put, List.setIfInBounds_toArray, List.set_cons_zero, List.set_cons_succ]
        refine' wpAnyH_take (i := 12) (oi := ?o13) (v := ?v13) ?hi13 (by kernel_rfl) (by kernel_rfl) (by kernel_rfl) (fun c a w h => hP c a _ _ w h) (Or.inl ⟨?hw13, ?hy13⟩) hHeld ?rest13
        case hi13 => simp only [List.getElem?_toArray, List.getElem?_cons_succ, List.getElem?_cons_zero]; rfl
        case hw13 => rfl
        case hy13 =>
          intro w _
          go_simp
          try with_reducible rfl
        simp only [Act.put, List.setIfInBounds_toArray, List.set_cons_zero, List.set_cons_succ]
        refine' wpAnyH_take (i := 13) (oi := ?o14) (v := ?v14) ?hi14 (by kernel_rfl) (by kernel_rfl) (by kernel_rfl) (fun c a w h => hP c a _ _ w h) (Or.inl ⟨?hw14, ?hy14⟩) hHeld ?rest14
        case hi14 => simp only [List.getElem?_toArray, List.getElem?_cons_succ, List.getElem?_cons_zero]; rfl
        case hw14 => rfl
        case hy14 =>
          intro w _
          go_simp
          try with_reducible rfl
        simp only [Act.put, List.setIfInBounds_toArray, List.set_cons_zero, List.set_cons_succ]
        refine' wpAnyH_take (i := 14) (oi := ?o15) (v := ?v15) ?hi15 (by kernel_rfl) (by kernel_rfl) (by kernel_rfl) (fun c a w h => hP c a _ _ w h) (Or.inl ⟨?hw15, ?hy15⟩) hHeld ?rest15
        case hi15 => simp only [List.getElem?_toArray, List.getElem?_cons_succ, List.getElem?_cons_zero]; rfl
        case hw15 => rfl
        case hy15 =>
          intro w hSw
          obtain ⟨c0, c1, c2, c3, c4, c5, c6, c7, c8, c9, ca⟩ := CB.out _ hSw
          go_simp
          try with_reducible rfl
        simp only [Act.put, List.setIfInBounds_toArray, List.set_cons_zero, List.set_cons_succ]
        refine wpAnyH_ready (rs := [15]) (by kernel_rfl) (by simp) ?_
        refine' AllReadyH.cons (i := 15) (o := ?o16) ?hi16 (fun K hK => ?st16) ?mo16
        case hi16 => simp only [List.getElem?_toArray, List.getElem?_cons_succ, List.getElem?_cons_zero]; rfl
        case st16 =>
          go_simp
          refine (F4.out _ hHeld).mono ?_
          rintro e v4 ⟨rfl, h6⟩
          clear hHeld
          go_simp
          refine hK.out _ _ h6 (fun hHeld => ?_)
          clear hK K h6
          try simp only [Act.put, List.setIfInBounds_toArray, List.set_cons_zero, List.set_cons_succ]
          refine' wpAnyH_take (i := 16) (oi := ?o17) (v := ?v17) ?hi17 (by kernel_rfl) (by kernel_rfl) (by kernel_rfl) (fun c a w h => hP c a _ _ w h) (Or.inl ⟨?hw17, ?hy17⟩) hHeld ?rest17
          case hi17 => simp only [List.getElem?_toArray, List.getElem?_cons_succ, List.getElem?_cons_zero]; rfl
          case hw17 => rfl
          case hy17 =>
            intro w _
            go_simp
            try with_reducible rfl
          simp only [Act.put, List.setIfInBounds_toArray, List.set_cons_zero, List.set_cons_succ]
          refine' wpAnyH_take (i := 17) (oi := ?o18) (v := ?v18) ?hi18 (by kernel_rfl) (by kernel_rfl) (by kernel_rfl) (fun c a w h => hP c a _ _ w h) (Or.inl ⟨?hw18, ?hy18⟩) hHeld ?rest18
          case hi18 => simp only [List.getElem?_toArray, List.getElem?_cons_succ, List.getElem?_cons_zero]; rfl
          case hw18 => rfl
          case hy18 =>
            intro w _
            go_simp
            try with_reducible rfl
          simp only [Act.put, List.setIfInBounds_toArray, List.set_cons_zero, List.set_cons_succ]
          refine' wpAnyH_take (i := 18) (oi := ?o19) (v := undef) ?hi19 (by kernel_rfl) (by kernel_rfl) (by kernel_rfl) (fun c a w h => hP c a _ _ w h) (Or.inr ⟨?hw19, rfl⟩) hHeld ?rest19
          case hi19 => simp only [List.getElem?_toArray, List.getElem?_cons_succ, List.getElem?_cons_zero]; rfl
          case hw19 => rfl
          simp only [Act.put, List.setIfInBounds_toArray, List.set_cons_zero, List.set_cons_succ]
          refine' wpAnyH_take (i := 19) (oi := ?o20) (v := undef) ?hi20 (by kernel_rfl) (by kernel_rfl) (by kernel_rfl) (fun c a w h => hP c a _ _ w h) (Or.inr ⟨?hw20, rfl⟩) hHeld ?rest20
          case hi20 => simp only [List.getElem?_toArray, List.getElem?_cons_succ, List.getElem?_cons_zero]; rfl
          case hw20 => rfl
          simp only [Act.put, List.setIfInBounds_toArray, List.set_cons_zero, List.set_cons_succ]
          refine' wpAnyH_take (i := 20) (oi := ?o21) (v := undef) ?hi21 (by kernel_rfl) (by kernel_rfl) (by kernel_rfl) (fun c a w h => hP c a _ _ w h) (Or.inr ⟨?hw21, rfl⟩) hHeld ?rest21
          case hi21 => simp only [List.getElem?_toArray, List.getElem?_cons_succ, List.getElem?_cons_zero]; rfl
          case hw21 => rfl
          simp only [Act.put, List.setIfInBounds_toArray, List.set_cons_zero, List.set_cons_succ]
          refine' wpAnyH_take (i := 21) (oi := ?o22) (v := undef) ?hi22 (by kernel_rfl) (by kernel_rfl) (by kernel_rfl) (fun c a w h => hP c a _ _ w h) (Or.inr ⟨?hw22, rfl⟩) hHeld ?rest22
          case hi22 => simp only [List.getElem?_toArray, List.getElem?_cons_succ, List.getElem?_cons_zero]; rfl
          case hw22 => rfl
          simp only [Act.put, List.setIfInBounds_toArray, List.set_cons_zero, List.set_cons_succ]
          refine' wpAnyH_take (i := 22) (oi := ?o23) (v := undef) ?hi23 (by kernel_rfl) (by kernel_rfl) (by kernel_rfl) (fun c a w h => hP c a _ _ w h) (Or.inr ⟨?hw23, rfl⟩) hHeld ?rest23
          case hi23 => simp only [List.getElem?_toArray, List.getElem?_cons_succ, List.getElem?_cons_zero]; rfl
          case hw23 => rfl
          simp only [Act.put, List.setIfInBounds_toArray, List.set_cons_zero, List.set_cons_succ]
          refine' wpAnyH_take (i := 23) (oi := ?o24) (v := undef) ?hi24 (by kernel_rfl) (by kernel_rfl) (by kernel_rfl) (fun c a w h => hP c a _ _ w h) (Or.inr ⟨?hw24, rfl⟩) hHeld ?rest24
          case hi24 => simp only [List.getElem?_toArray, List.getElem?_cons_succ, List.getElem?_cons_zero]; rfl
          case hw24 => rfl
          simp only [Act.put, List.setIfInBounds_toArray, List.set_cons_zero, List.set_cons_succ]
          refine' wpAnyH_take (i := 24) (oi := ?o25) (v := undef) ?hi25 (by kernel_rfl) (by kernel_rfl) (by kernel_rfl) (fun c a w h => hP c a _ _ w h) (Or.inr ⟨?hw25, rfl⟩) hHeld ?rest25
          case hi25 => simp only [List.getElem?_toArray, List.getElem?_cons_succ, List.getElem?_cons_zero]; rfl
          case hw25 => rfl
          simp only [Act.put, List.setIfInBounds_toArray, List.set_cons_zero, List.set_cons_succ]
          refine' wpAnyH_take (i := 25) (oi := ?o26) (v := undef) ?hi26 (by kernel_rfl) (by kernel_rfl) (by kernel_rfl) (fun c a w h => hP c a _ _ w h) (Or.inr ⟨?hw26, rfl⟩) hHeld ?rest26
          case hi26 => simp only [List.getElem?_toArray, List.getElem?_cons_succ, List.getElem?_cons_zero]; rfl
          case hw26 => rfl
          simp only [Act.put, List.setIfInBounds_toArray, List.set_cons_zero, List.set_cons_succ]
          refine' wpAnyH_take (i := 26) (oi := ?o27) (v := ?v27) ?hi27 (by kernel_rfl) (by kernel_rfl) (by kernel_rfl) (fun c a w h => hP c a _ _ w h) (Or.inl ⟨?hw27, ?hy27⟩) hHeld ?rest27
          case hi27 => simp only [List.getElem?_toArray, List.getElem?_cons_succ, List.getElem?_cons_zero]; rfl
          case hw27 => rfl
          case hy27 =>
            intro w _
            go_simp
            try with_reducible rfl
          simp only [Act.put, List.setIfInBounds_toArray, List.set_cons_zero, List.set_cons_succ]
          refine' wpAnyH_take (i := 27) (oi := ?o28) (v := ?v28) ?hi28 (by kernel_rfl) (by kernel_rfl) (by kernel_rfl) (fun c a w h => hP c a _ _ w h) (Or.inl ⟨?hw28, ?hy28⟩) hHeld ?rest28
          case hi28 => simp only [List.getElem?_toArray, List.getElem?_cons_succ, List.getElem?_cons_zero]; rfl
          case hw28 => rfl
          case hy28 =>
            intro w _
            go_simp
            try with_reducible rfl
          simp only [Act.put, List.setIfInBounds_toArray, List.set_cons_zero, List.set_cons_succ]
          refine wpAnyH_done (by kernel_rfl) ?_ _
          exact hQ.out _ _ _ _ _ _ _ _ _ _ _ _ _ _ _ _ _ _ _ _ _ _ _ _ _ _ _ _  hHeld
        case mo16 => exact AllReadyH.nil
      case mo12 => exact AllReadyH.nil
    case mo7 => exact AllReadyH.nil
  case mo3 => exact AllReadyH.nil
set_option maxHeartbeats 12800000 in
theorem qm1e (z0 z2 z3 z4 z5 z6 z7 z8 z9 z10 z11 z12 z13 z14 z15 z16 z17 z18 z19 z20 z21 z22 z23 z24 z25 z26 z27 z28 z29 : Value) (W : World) (q n : Nat) (s : Sag) (m k : Int) (r : Bool)
    (CB : Hid (∀ w', Below W.heap.size W w' → CellS w' q s))
    (F1 : Hid (∀ w', Below W.heap.size W w' → Calls Tryd.prog 39 #[.int .i64 s.ph, .int .i64 1, .int .i64 5] w' fun e w'' => e = .returned (.bool true) ∧ Below W.heap.size W w''))
    (F2 : Hid (∀ w', Below W.heap.size W w' → Calls Tryd.prog 40 #[.agg #[.int .i64 s.w.book, .int .i64 s.w.cust, .int .i64 s.w.dead, .int .i64 s.w.u0, .int .i64 s.w.u1, .int .i64 s.w.u2, .int .i64 s.w.price]] w' fun e w'' => e = .returned (.bool true) ∧ Below W.heap.size W w''))
    (F3 : Hid (∀ w', Below W.heap.size W w' → Calls Tryd.prog 41 #[.int .i64 s.si] w' fun e w'' => e = .returned (.bool true) ∧ Below W.heap.size W w''))
    (F4 : Hid (∀ w', Below W.heap.size W w' → Calls Tryd.prog 42 #[.agg #[.int .i64 s.w.book, .int .i64 s.w.cust, .int .i64 s.w.dead, .int .i64 s.w.u0, .int .i64 s.w.u1, .int .i64 s.w.u2, .int .i64 s.w.price, .int .i64 s.ph, .int .i64 s.st, .int .i64 s.rs, .int .i64 s.si]] w' fun e w'' => e = .returned (.bool true) ∧ Below W.heap.size W w''))
    (F5 : Hid (∀ w', Below W.heap.size W w' → Calls Tryd.prog 35 #[.agg #[.int .i64 s.w.book, .int .i64 s.w.cust, .int .i64 s.w.dead, .int .i64 s.w.u0, .int .i64 s.w.u1, .int .i64 s.w.u2, .int .i64 s.w.price, .int .i64 s.ph, .int .i64 s.st, .int .i64 s.rs, .int .i64 s.si]] w' fun e w'' => (∃ A c, e = .returned (.slice A n c)) ∧ Below W.heap.size W w''))
    (F6 : Hid (∀ w', Below W.heap.size W w' → Calls Tryd.prog 39 #[.int .i64 s.st, .int .i64 0, .int .i64 k] w' fun e w'' => e = .returned (.bool r) ∧ Below W.heap.size W w''))
    (em : max (n : Int) 1 = m)
    (hk : IntKind.i64.wrap (m - 1) = k)
    (Q : Exit → Act → World → Prop)
    (hP : ∀ c a d v w, Q (.panic c) (Act.put a d v) w → Q (.panic c) a w)
    (hQ : ∀ (y3 y4 y5 y6 y7 y8 y9 y10 y11 y12 y13 y14 y15 y16 y17 y18 y19 y20 y21 y22 y23 y24 y25 y26 y27 y28 y29 : Value)  (W3 : World), Below W.heap.size W W3 → Q .normal ⟨#[z0, .pointer (some ⟨q, 0, none⟩), .bool r, y3, y4, y5, y6, y7, y8, y9, y10, y11, y12, y13, y14, y15, y16, y17, y18, y19, y20, y21, y22, y23, y24, y25, y26, y27, y28, y29], []⟩ W3) :
    Code.wp Tryd.prog qm_1 Q ⟨#[z0, .pointer (some ⟨q, 0, none⟩), z2, z3, z4, z5, z6, z7, z8, z9, z10, z11, z12, z13, z14, z15, z16, z17, z18, z19, z20, z21, z22, z23, z24, z25, z26, z27, z28, z29], []⟩ W := by
  conv => arg 2; whnf
  have b0 : Below W.heap.size W W.drew := ⟨rfl, rfl, rfl, Nat.le_refl _, fun _ _ => rfl⟩
  refine wp_region_held_drew (S := fun w => Below W.heap.size W w) (by kernel_rfl) b0 (fun hHeld => ?_)
  replace hQ := Lib.hid hQ
  clear b0
  obtain ⟨v0, hv⟩ : ∃ v, v = W.drew := ⟨_, rfl⟩
  rw [← hv] at hHeld ⊢
  clear hv
  refine' wpAnyH_take (i := 0) (oi := ?o1) (v := ?v1) ?hi1 (by kernel_rfl) (by kernel_rfl) (by kernel_rfl) (fun c a w h => hP c a _ _ w h) (Or.inl ⟨?hw1, ?hy1⟩) hHeld ?rest1
  case hi1 => simp only [List.getElem?_toArray, List.getElem?_cons_zero]; rfl
  case hw1 => rfl
  case hy1 =>
    intro w _
    go_simp
    try with_reducible rfl
  simp only [Act.put, List.setIfInBounds_toArray, List.set_cons_zero, List.set_cons_succ]
  refine' wpAnyH_take (i := 1) (oi := ?o2) (v := ?v2) ?hi2 (by kernel_rfl) (by kernel_rfl) (by kernel_rfl) (fun c a w h => hP c a _ _ w h) (Or.inl ⟨?hw2, ?hy2⟩) hHeld ?rest2
  case hi2 => simp only [List.getElem?_toArray, List.getElem?_cons_succ, List.getElem?_cons_zero]; rfl
  case hw2 => rfl
  case hy2 =>
    intro w hSw
    obtain ⟨c0, c1, c2, c3, c4, c5, c6, c7, c8, c9, ca⟩ := CB.out _ hSw
    go_simp
    try with_reducible rfl
  simp only [Act.put, List.setIfInBounds_toArray, List.set_cons_zero, List.set_cons_succ]
  refine wpAnyH_ready (rs := [2]) (by kernel_rfl) (by simp) ?_
  refine' AllReadyH.cons (i := 2) (o := ?o3) ?hi3 (fun K hK => ?st3) ?mo3
  case hi3 => simp only [List.getElem?_toArray, List.getElem?_cons_succ, List.getElem?_cons_zero]; rfl
  case st3 =>
    go_simp
    refine (F1.out _ hHeld).mono ?_
    rintro e v1 ⟨rfl, h6⟩
    clear hHeld
    go_simp
    refine hK.out _ _ h6 (fun hHeld => ?_)
    clear hK K h6
    try simp only [Act.put, List.setIfInBounds_toArray, List.set_cons_zero, List.set_cons_succ]
    refine' wpAnyH_take (i := 3) (oi := ?o4) (v := ?v4) ?hi4 (by kernel_rfl) (by kernel_rfl) (by kernel_rfl) (fun c a w h => hP c a _ _ w h) (Or.inl ⟨?hw4, ?hy4⟩) hHeld ?rest4
    case hi4 => simp only [List.getElem?_toArray, List.getElem?_cons_succ, List.getElem?_cons_zero]; rfl
    case hw4 => rfl
    case hy4 =>
      intro w _
      go_simp
      try with_reducible rfl
    simp only [Act.put, List.setIfInBounds_toArray, List.set_cons_zero, List.set_cons_succ]
    refine' wpAnyH_take (i := 4) (oi := ?o5) (v := ?v5) ?hi5 (by kernel_rfl) (by kernel_rfl) (by kernel_rfl) (fun c a w h => hP c a _ _ w h) (Or.inl ⟨?hw5, ?hy5⟩) hHeld ?rest5
    case hi5 => simp only [List.getElem?_toArray, List.getElem?_cons_succ, List.getElem?_cons_zero]; rfl
    case hw5 => rfl
    case hy5 =>
      intro w _
      go_simp
      try with_reducible rfl
    simp only [Act.put, List.setIfInBounds_toArray, List.set_cons_zero, List.set_cons_succ]
    refine' wpAnyH_take (i := 5) (oi := ?o6) (v := ?v6) ?hi6 (by kernel_rfl) (by kernel_rfl) (by kernel_rfl) (fun c a w h => hP c a _ _ w h) (Or.inl ⟨?hw6, ?hy6⟩) hHeld ?rest6
    case hi6 => simp only [List.getElem?_toArray, List.getElem?_cons_succ, List.getElem?_cons_zero]; rfl
    case hw6 => rfl
    case hy6 =>
      intro w hSw
      obtain ⟨c0, c1, c2, c3, c4, c5, c6, c7, c8, c9, ca⟩ := CB.out _ hSw
      go_simp
      try with_reducible rfl
    simp only [Act.put, List.setIfInBounds_toArray, List.set_cons_zero, List.set_cons_succ]
    refine wpAnyH_ready (rs := [6]) (by kernel_rfl) (by simp) ?_
    refine' AllReadyH.cons (i := 6) (o := ?o7) ?hi7 (fun K hK => ?st7) ?mo7
    case hi7 => simp only [List.getElem?_toArray, List.getElem?_cons_succ, List.getElem?_cons_zero]; rfl
    case st7 =>
      go_simp
      refine (F2.out _ hHeld).mono ?_
      rintro e v2 ⟨rfl, h6⟩
      clear hHeld
      go_simp
      refine hK.out _ _ h6 (fun hHeld => ?_)
      clear hK K h6
      try simp only [Act.put, List.setIfInBounds_toArray, List.set_cons_zero, List.set_cons_succ]
      refine' wpAnyH_take (i := 7) (oi := ?o8) (v := ?v8) ?hi8 (by kernel_rfl) (by kernel_rfl) (by kernel_rfl) (fun c a w h => hP c a _ _ w h) (Or.inl ⟨?hw8, ?hy8⟩) hHeld ?rest8
      case hi8 => simp only [List.getElem?_toArray, List.getElem?_cons_succ, List.getElem?_cons_zero]; rfl
      case hw8 => rfl
      case hy8 =>
        intro w _
        go_simp
        try with_reducible rfl
      simp only [Act.put, List.setIfInBounds_toArray, List.set_cons_zero, List.set_cons_succ]
      refine' wpAnyH_take (i := 8) (oi := ?o9) (v := ?v9) ?hi9 (by kernel_rfl) (by kernel_rfl) (by kernel_rfl) (fun c a w h => hP c a _ _ w h) (Or.inl ⟨?hw9, ?hy9⟩) hHeld ?rest9
      case hi9 => simp only [List.getElem?_toArray, List.getElem?_cons_succ, List.getElem?_cons_zero]; rfl
      case hw9 => rfl
      case hy9 =>
        intro w _
        go_simp
        try with_reducible rfl
      simp only [Act.put, List.setIfInBounds_toArray, List.set_cons_zero, List.set_cons_succ]
      refine' wpAnyH_take (i := 9) (oi := ?o10) (v := ?v10) ?hi10 (by kernel_rfl) (by kernel_rfl) (by kernel_rfl) (fun c a w h => hP c a _ _ w h) (Or.inl ⟨?hw10, ?hy10⟩) hHeld ?rest10
      case hi10 => simp only [List.getElem?_toArray, List.getElem?_cons_succ, List.getElem?_cons_zero]; rfl
      case hw10 => rfl
      case hy10 =>
        intro w _
        go_simp
        try with_reducible rfl
      simp only [Act.put, List.setIfInBounds_toArray, List.set_cons_zero, List.set_cons_succ]
      refine' wpAnyH_take (i := 10) (oi := ?o11) (v := ?v11) ?hi11 (by kernel_rfl) (by kernel_rfl) (by kernel_rfl) (fun c a w h => hP c a _ _ w h) (Or.inl ⟨?hw11, ?hy11⟩) hHeld ?rest11
      case hi11 => simp only [List.getElem?_toArray, List.getElem?_cons_succ, List.getElem?_cons_zero]; rfl
      case hw11 => rfl
      case hy11 =>
        intro w hSw
        obtain ⟨c0, c1, c2, c3, c4, c5, c6, c7, c8, c9, ca⟩ := CB.out _ hSw
        go_simp
        try with_reducible rfl
      simp only [Act.put, List.setIfInBounds_toArray, List.set_cons_zero, List.set_cons_succ]
      refine wpAnyH_ready (rs := [11]) (by kernel_rfl) (by simp) ?_
      refine' AllReadyH.cons (i := 11) (o := ?o12) ?hi12 (fun K hK => ?st12) ?mo12
      case hi12 => simp only [List.getElem?_toArray, List.getElem?_cons_succ, List.getElem?_cons_zero]; rfl
      case st12 =>
        go_simp
        refine (F3.out _ hHeld).mono ?_
        rintro e v3 ⟨rfl, h6⟩
        clear hHeld
        go_simp
        refine hK.out _ _ h6 (fun hHeld => ?_)
        clear hK K h6
        try simp only [Act.put, List.setIfInBounds_toArray, List.set_cons_zero, List.set_cons_succ]
        refine' wpAnyH_take (i := 12) (oi := ?o13) (v := ?v13) ?hi13 (by kernel_rfl) (by kernel_rfl) (by kernel_rfl) (fun c a w h => hP c a _ _ w h) (Or.inl ⟨?hw13, ?hy13⟩) hHeld ?rest13
        case hi13 => simp only [List.getElem?_toArray, List.getElem?_cons_succ, List.getElem?_cons_zero]; rfl
        case hw13 => rfl
        case hy13 =>
          intro w _
          go_simp
          try with_reducible rfl
        simp only [Act.put, List.setIfInBounds_toArray, List.set_cons_zero, List.set_cons_succ]
        refine' wpAnyH_take (i := 13) (oi := ?o14) (v := ?v14) ?hi14 (by kernel_rfl) (by kernel_rfl) (by kernel_rfl) (fun c a w h => hP c a _ _ w h) (Or.inl ⟨?hw14, ?hy14⟩) hHeld ?rest14
        case hi14 => simp only [List.getElem?_toArray, List.getElem?_cons_succ, List.getElem?_cons_zero]; rfl
        case hw14 => rfl
        case hy14 =>
          intro w _
          go_simp
          try with_reducible rfl
        simp only [Act.put, List.setIfInBounds_toArray, List.set_cons_zero, List.set_cons_succ]
        refine' wpAnyH_take (i := 14) (oi := ?o15) (v := ?v15) ?hi15 (by kernel_rfl) (by kernel_rfl) (by kernel_rfl) (fun c a w h => hP c a _ _ w h) (Or.inl ⟨?hw15, ?hy15⟩) hHeld ?rest15
        case hi15 => simp only [List.getElem?_toArray, List.getElem?_cons_succ, List.getElem?_cons_zero]; rfl
        case hw15 => rfl
        case hy15 =>
          intro w hSw
          obtain ⟨c0, c1, c2, c3, c4, c5, c6, c7, c8, c9, ca⟩ := CB.out _ hSw
          go_simp
          try with_reducible rfl
        simp only [Act.put, List.setIfInBounds_toArray, List.set_cons_zero, List.set_cons_succ]
        refine wpAnyH_ready (rs := [15]) (by kernel_rfl) (by simp) ?_
        refine' AllReadyH.cons (i := 15) (o := ?o16) ?hi16 (fun K hK => ?st16) ?mo16
        case hi16 => simp only [List.getElem?_toArray, List.getElem?_cons_succ, List.getElem?_cons_zero]; rfl
        case st16 =>
          go_simp
          refine (F4.out _ hHeld).mono ?_
          rintro e v4 ⟨rfl, h6⟩
          clear hHeld
          go_simp
          refine hK.out _ _ h6 (fun hHeld => ?_)
          clear hK K h6
          try simp only [Act.put, List.setIfInBounds_toArray, List.set_cons_zero, List.set_cons_succ]
          refine' wpAnyH_take (i := 16) (oi := ?o17) (v := ?v17) ?hi17 (by kernel_rfl) (by kernel_rfl) (by kernel_rfl) (fun c a w h => hP c a _ _ w h) (Or.inl ⟨?hw17, ?hy17⟩) hHeld ?rest17
          case hi17 => simp only [List.getElem?_toArray, List.getElem?_cons_succ, List.getElem?_cons_zero]; rfl
          case hw17 => rfl
          case hy17 =>
            intro w _
            go_simp
            try with_reducible rfl
          simp only [Act.put, List.setIfInBounds_toArray, List.set_cons_zero, List.set_cons_succ]
          refine' wpAnyH_take (i := 17) (oi := ?o18) (v := ?v18) ?hi18 (by kernel_rfl) (by kernel_rfl) (by kernel_rfl) (fun c a w h => hP c a _ _ w h) (Or.inl ⟨?hw18, ?hy18⟩) hHeld ?rest18
          case hi18 => simp only [List.getElem?_toArray, List.getElem?_cons_succ, List.getElem?_cons_zero]; rfl
          case hw18 => rfl
          case hy18 =>
            intro w _
            go_simp
            try with_reducible rfl
          simp only [Act.put, List.setIfInBounds_toArray, List.set_cons_zero, List.set_cons_succ]
          refine' wpAnyH_take (i := 18) (oi := ?o19) (v := ?v19) ?hi19 (by kernel_rfl) (by kernel_rfl) (by kernel_rfl) (fun c a w h => hP c a _ _ w h) (Or.inl ⟨?hw19, ?hy19⟩) hHeld ?rest19
          case hi19 => simp only [List.getElem?_toArray, List.getElem?_cons_succ, List.getElem?_cons_zero]; rfl
          case hw19 => rfl
          case hy19 =>
            intro w _
            go_simp
            try with_reducible rfl
          simp only [Act.put, List.setIfInBounds_toArray, List.set_cons_zero, List.set_cons_succ]
          refine' wpAnyH_take (i := 19) (oi := ?o20) (v := ?v20) ?hi20 (by kernel_rfl) (by kernel_rfl) (by kernel_rfl) (fun c a w h => hP c a _ _ w h) (Or.inl ⟨?hw20, ?hy20⟩) hHeld ?rest20
          case hi20 => simp only [List.getElem?_toArray, List.getElem?_cons_succ, List.getElem?_cons_zero]; rfl
          case hw20 => rfl
          case hy20 =>
            intro w hSw
            obtain ⟨c0, c1, c2, c3, c4, c5, c6, c7, c8, c9, ca⟩ := CB.out _ hSw
            go_simp
            try with_reducible rfl
          simp only [Act.put, List.setIfInBounds_toArray, List.set_cons_zero, List.set_cons_succ]
          refine' wpAnyH_take (i := 20) (oi := ?o21) (v := ?v21) ?hi21 (by kernel_rfl) (by kernel_rfl) (by kernel_rfl) (fun c a w h => hP c a _ _ w h) (Or.inl ⟨?hw21, ?hy21⟩) hHeld ?rest21
          case hi21 => simp only [List.getElem?_toArray, List.getElem?_cons_succ, List.getElem?_cons_zero]; rfl
          case hw21 => rfl
          case hy21 =>
            intro w hSw
            obtain ⟨c0, c1, c2, c3, c4, c5, c6, c7, c8, c9, ca⟩ := CB.out _ hSw
            go_simp
            try with_reducible rfl
          simp only [Act.put, List.setIfInBounds_toArray, List.set_cons_zero, List.set_cons_succ]
          refine wpAnyH_ready (rs := [21]) (by kernel_rfl) (by simp) ?_
          refine' AllReadyH.cons (i := 21) (o := ?o22) ?hi22 (fun K hK => ?st22) ?mo22
          case hi22 => simp only [List.getElem?_toArray, List.getElem?_cons_succ, List.getElem?_cons_zero]; rfl
          case st22 =>
            go_simp
            refine (F5.out _ hHeld).mono ?_
            rintro e v5 ⟨⟨A, c, rfl⟩, h6⟩
            clear hHeld
            go_simp
            refine hK.out _ _ h6 (fun hHeld => ?_)
            clear hK K h6
            try simp only [Act.put, List.setIfInBounds_toArray, List.set_cons_zero, List.set_cons_succ]
            refine' wpAnyH_take (i := 22) (oi := ?o23) (v := ?v23) ?hi23 (by kernel_rfl) (by kernel_rfl) (by kernel_rfl) (fun c a w h => hP c a _ _ w h) (Or.inl ⟨?hw23, ?hy23⟩) hHeld ?rest23
            case hi23 => simp only [List.getElem?_toArray, List.getElem?_cons_succ, List.getElem?_cons_zero]; rfl
            case hw23 => rfl
            case hy23 =>
              intro w _
              go_simp
              try with_reducible rfl
            simp only [Act.put, List.setIfInBounds_toArray, List.set_cons_zero, List.set_cons_succ]
            refine' wpAnyH_take (i := 23) (oi := ?o24) (v := ?v24) ?hi24 (by kernel_rfl) (by kernel_rfl) (by kernel_rfl) (fun c a w h => hP c a _ _ w h) (Or.inl ⟨?hw24, ?hy24⟩) hHeld ?rest24
            case hi24 => simp only [List.getElem?_toArray, List.getElem?_cons_succ, List.getElem?_cons_zero]; rfl
            case hw24 => rfl
            case hy24 =>
              intro w _
              go_simp
              try with_reducible rfl
            simp only [Act.put, List.setIfInBounds_toArray, List.set_cons_zero, List.set_cons_succ]
            refine' wpAnyH_take (i := 24) (oi := ?o25) (v := ?v25) ?hi25 (by kernel_rfl) (by kernel_rfl) (by kernel_rfl) (fun c a w h => hP c a _ _ w h) (Or.inl ⟨?hw25, ?hy25⟩) hHeld ?rest25
            case hi25 => simp only [List.getElem?_toArray, List.getElem?_cons_succ, List.getElem?_cons_zero]; rfl
            case hw25 => rfl
            case hy25 =>
              intro w _
              go_simp
              try with_reducible rfl
            simp only [Act.put, List.setIfInBounds_toArray, List.set_cons_zero, List.set_cons_succ]
            refine wpAnyH_ready (rs := [25]) (by kernel_rfl) (by simp) ?_
            refine' AllReadyH.cons (i := 25) (o := ?o26) ?hi26 (fun K hK => ?st26) ?mo26
            case hi26 => simp only [List.getElem?_toArray, List.getElem?_cons_succ, List.getElem?_cons_zero]; rfl
            case st26 =>
              go_simp
              refine (F6.out _ hHeld).mono ?_
              rintro e v6 ⟨rfl, h6⟩
              clear hHeld
              go_simp
              refine hK.out _ _ h6 (fun hHeld => ?_)
              clear hK K h6
              try simp only [Act.put, List.setIfInBounds_toArray, List.set_cons_zero, List.set_cons_succ]
              refine' wpAnyH_take (i := 26) (oi := ?o27) (v := ?v27) ?hi27 (by kernel_rfl) (by kernel_rfl) (by kernel_rfl) (fun c a w h => hP c a _ _ w h) (Or.inl ⟨?hw27, ?hy27⟩) hHeld ?rest27
              case hi27 => simp only [List.getElem?_toArray, List.getElem?_cons_succ, List.getElem?_cons_zero]; rfl
              case hw27 => rfl
              case hy27 =>
                intro w _
                go_simp
                try with_reducible rfl
              simp only [Act.put, List.setIfInBounds_toArray, List.set_cons_zero, List.set_cons_succ]
              refine' wpAnyH_take (i := 27) (oi := ?o28) (v := ?v28) ?hi28 (by kernel_rfl) (by kernel_rfl) (by kernel_rfl) (fun c a w h => hP c a _ _ w h) (Or.inl ⟨?hw28, ?hy28⟩) hHeld ?rest28
              case hi28 => simp only [List.getElem?_toArray, List.getElem?_cons_succ, List.getElem?_cons_zero]; rfl
              case hw28 => rfl
              case hy28 =>
                intro w _
                go_simp
                try with_reducible rfl
              simp only [Act.put, List.setIfInBounds_toArray, List.set_cons_zero, List.set_cons_succ]
              refine wpAnyH_done (by kernel_rfl) ?_ _
              exact hQ.out _ _ _ _ _ _ _ _ _ _ _ _ _ _ _ _ _ _ _ _ _ _ _ _ _ _ _ _  hHeld
            case mo26 => exact AllReadyH.nil
          case mo22 => exact AllReadyH.nil
        case mo16 => exact AllReadyH.nil
      case mo12 => exact AllReadyH.nil
    case mo7 => exact AllReadyH.nil
  case mo3 => exact AllReadyH.nil
end Sg
end Go.Proofs.YtakicogelkdofaaDoor

namespace Go.Proofs.YtakicogelkdofaaDoor
set_option maxRecDepth 100000
open Go.RowKit
open Go.Proofs.YtakicogelkdofaaDoor.Pk (one_at one_free one_set lt_some grown_set grown_trans below_grown grown_refl)
namespace Sg
open Wt (Wan may Opn mayOp may_any inR)
open Pl (Stp fwd bck cap z0 wanv spv RowT rt_form rt_mono fwd_any bck_any cap_any)

theorem pst_len (s : Sag) : (pst s).length ≤ 7 := by
  unfold pst
  split
  · exact List.length_filter_le _ _
  · split
    · simp
    · split
      · exact Nat.le_trans (List.length_filter_le _ _) (by show 4 ≤ 7; decide)
      · simp
theorem smay_d {s : Sag} (h1 : 1 ≤ s.ph) (h2 : s.ph ≤ 5) (hr : mre s = false) : smay s = false := by
  have : phs s = false := by
    rcases (by omega : s.ph = 1 ∨ s.ph = 2 ∨ s.ph = 3 ∨ s.ph = 4 ∨ s.ph = 5) with hp | hp | hp | hp | hp
    · rw [phs_1 hp]; unfold mre at hr; rw [if_neg (by omega)] at hr; rw [hr]; simp
    · rw [phs_2 (.inl hp)]; unfold mre at hr; rw [if_neg (by omega)] at hr; rw [hr]; simp
    · rw [phs_3 hp, ← why_mre (.inl hp), hr]; simp
    · rw [phs_2 (.inr hp)]; unfold mre at hr; rw [if_neg (by omega)] at hr; rw [hr]; simp
    · rw [phs_5 hp, ← why_mre (.inr hp), hr]; simp
  unfold smay
  rw [this]
  simp
theorem smay_e {s : Sag} (h1 : 1 ≤ s.ph) (h2 : s.ph ≤ 5) (hm : may s.w = true) (ht : inR s.si 0 1099511627776 = true) (hr : mre s = true) : smay s = inR s.st 0 (max ((pst s).length : Int) 1 - 1) := by
  have f := fwd_pos hm
  have b := bck_pos hm
  have e : smay s = phs s := by unfold smay; rw [hm, ht]; rfl
  rw [e]
  rcases (by omega : s.ph = 1 ∨ s.ph = 2 ∨ s.ph = 3 ∨ s.ph = 4 ∨ s.ph = 5) with hp | hp | hp | hp | hp
  · rw [phs_1 hp]; unfold mre at hr; rw [if_neg (by omega)] at hr; rw [hr]; unfold inR pst nF; rw [if_pos hp, Bool.and_true, ← Bool.decide_and, decide_eq_decide]; omega
  · rw [phs_2 (.inl hp)]; unfold mre at hr; rw [if_neg (by omega)] at hr; rw [hr]; unfold inR pst; rw [if_neg (by omega), if_pos hp, Bool.and_true, Bool.eq_iff_iff, beq_iff_eq, decide_eq_true_iff]; simp only [List.length_cons, List.length_nil]; omega
  · rw [phs_3 hp, ← why_mre (.inl hp), hr]; unfold inR pst nB; rw [if_neg (by omega), if_neg (by omega), if_pos hp, Bool.and_true, ← Bool.decide_and, decide_eq_decide]; omega
  · rw [phs_2 (.inr hp)]; unfold mre at hr; rw [if_neg (by omega)] at hr; rw [hr]; unfold inR pst; rw [if_neg (by omega), if_neg (by omega), if_neg (by omega), Bool.and_true, Bool.eq_iff_iff, beq_iff_eq, decide_eq_true_iff]; simp only [List.length_nil]; omega
  · rw [phs_5 hp, ← why_mre (.inr hp), hr]; unfold inR pst; rw [if_neg (by omega), if_neg (by omega), if_neg (by omega), Bool.and_true, Bool.eq_iff_iff, beq_iff_eq, decide_eq_true_iff]; simp only [List.length_nil]; omega
set_option maxHeartbeats 6400000 in
theorem smay_any (w : World) (t : Tab w) (s : Sag) : Calls Tryd.prog 12 #[sgv s] w fun e w' => e = .returned (.bool (smay s)) ∧ Below w.heap.size w w' := by
  obtain ⟨W0, hW0⟩ : ∃ W0, W0 = w.alloc (.cells (sgc s) 26) := ⟨_, rfl⟩
  have B0 : BoxS W0 w.heap.size s := by rw [hW0]; exact heap_alloc_new _ _
  have be0 : Hid (Below w.heap.size w W0) := by rw [hW0]; exact (Below.refl _ w).alloc (Nat.le_refl _) _
  have CB : Hid (∀ w', Below W0.heap.size W0 w' → CellS w' w.heap.size s) := fun w' h => (B0.below h B0.lt).cells
  have t0 : Tab W0 := t.below be0.out
  have F1 : ∀ b, inR s.ph 1 5 = b → Hid (∀ w', Below W0.heap.size W0 w' → Calls Tryd.prog 39 #[.int .i64 s.ph, .int .i64 1, .int .i64 5] w' fun e w'' => e = .returned (.bool b) ∧ Below W0.heap.size W0 w'') := fun b hb w' h => (swithin_any w' s.ph 1 5).mono fun _ _ ⟨a, c⟩ => ⟨by rw [a, hb], c ▸ h⟩
  have F2 : ∀ b, may s.w = b → Hid (∀ w', Below W0.heap.size W0 w' → Calls Tryd.prog 40 #[wanv s.w] w' fun e w'' => e = .returned (.bool b) ∧ Below W0.heap.size W0 w'') := fun b hb w' h => (may_any w' s.w).mono fun _ _ ⟨a, c⟩ => ⟨by rw [a, hb], h.trans (c.mono h.size)⟩
  have F3 : ∀ b, inR s.si 0 1099511627776 = b → Hid (∀ w', Below W0.heap.size W0 w' → Calls Tryd.prog 41 #[.int .i64 s.si] w' fun e w'' => e = .returned (.bool b) ∧ Below W0.heap.size W0 w'') := fun b hb w' h => (stick_any w' s.si).mono fun _ _ ⟨a, c⟩ => ⟨by rw [a, hb], c ▸ h⟩
  have F4 : 1 ≤ s.ph → s.ph ≤ 5 → ∀ b, mre s = b → Hid (∀ w', Below W0.heap.size W0 w' → Calls Tryd.prog 42 #[sgv s] w' fun e w'' => e = .returned (.bool b) ∧ Below W0.heap.size W0 w'') := fun h1 h2 b hb w' h => (mre_any w' (t0.below h) s h1 h2).mono fun _ _ ⟨a, c⟩ => ⟨by rw [a, hb], h.trans (c.mono h.size)⟩
  have F5 : Hid (∀ w', Below W0.heap.size W0 w' → Calls Tryd.prog 35 #[sgv s] w' fun e w'' => (∃ A c, e = .returned (.slice A (pst s).length c)) ∧ Below W0.heap.size W0 w'') := fun w' h => (steps_any w' s).mono fun _ _ ⟨A, c, a, _, b⟩ => ⟨⟨A, c, a⟩, h.trans (b.mono h.size)⟩
  have F6 : ∀ k, Hid (∀ w', Below W0.heap.size W0 w' → Calls Tryd.prog 39 #[.int .i64 s.st, .int .i64 0, .int .i64 k] w' fun e w'' => e = .returned (.bool (inR s.st 0 k)) ∧ Below W0.heap.size W0 w'') := fun k w' h => (swithin_any w' s.st 0 k).mono fun _ _ ⟨a, c⟩ => ⟨a, c ▸ h⟩
  clear t t0
  replace hW0 := Lib.hid hW0
  unfold sgv
  unfold sgc at hW0
  go_enter Tryd.func12, Tryd.ntmps12
  go_upto_region 1 with fail
  rw [← hW0.out]
  clear hW0 B0
  by_cases hp : s.ph < 1 ∨ 5 < s.ph
  ·
    refine qm1a _ _ _ _ _ _ _ _ _ _ _ _ _ _ _ _ _ _ _ _ _ _ _ _ _ _ _ _ _ W0 w.heap.size s CB (F1 false (by unfold inR; rw [decide_eq_false_iff_not]; omega)) _ (fun _ _ d _ _ h => by cases d <;> exact h) (fun _ _ _ _ _ _ _ _ _ _ _ _ _ _ _ _ _ _ _ _ _ _ _ _ _ _ _ w3 hb => ?_)
    have E : Hid (Below w.heap.size w w3) := be0.out.trans (hb.mono be0.out.size)
    have EE : Hid (smay s = false) := by unfold Hid smay; rw [phs_0 hp]; simp
    clear hb F1 F2 F3 F4 F5 F6 CB be0 hp
    go_wp2_with fail
    go_ret
    rw [EE.out]
    exact ⟨rfl, E.out⟩
  have h1 : 1 ≤ s.ph := by omega
  have h2 : s.ph ≤ 5 := by omega
  have r1 : inR s.ph 1 5 = true := by unfold inR; rw [decide_eq_true_iff]; omega
  clear hp
  cases hm : may s.w with
  | false =>
    refine qm1b _ _ _ _ _ _ _ _ _ _ _ _ _ _ _ _ _ _ _ _ _ _ _ _ _ _ _ _ _ W0 w.heap.size s CB (F1 true r1) (F2 false hm) _ (fun _ _ d _ _ h => by cases d <;> exact h) (fun _ _ _ _ _ _ _ _ _ _ _ _ _ _ _ _ _ _ _ _ _ _ _ _ _ _ _ w3 hb => ?_)
    have E : Hid (Below w.heap.size w w3) := be0.out.trans (hb.mono be0.out.size)
    have EE : Hid (smay s = false) := smay_no1 hm
    clear hb F1 F2 F3 F4 F5 F6 CB be0 hm h1 h2 r1
    go_wp2_with fail
    go_ret
    rw [EE.out]
    exact ⟨rfl, E.out⟩
  | true =>
    cases ht : inR s.si 0 1099511627776 with
    | false =>
      refine qm1c _ _ _ _ _ _ _ _ _ _ _ _ _ _ _ _ _ _ _ _ _ _ _ _ _ _ _ _ _ W0 w.heap.size s CB (F1 true r1) (F2 true hm) (F3 false ht) _ (fun _ _ d _ _ h => by cases d <;> exact h) (fun _ _ _ _ _ _ _ _ _ _ _ _ _ _ _ _ _ _ _ _ _ _ _ _ _ _ _ w3 hb => ?_)
      have E : Hid (Below w.heap.size w w3) := be0.out.trans (hb.mono be0.out.size)
      have EE : Hid (smay s = false) := by unfold Hid smay; rw [ht]; simp
      clear hb F1 F2 F3 F4 F5 F6 CB be0 hm ht h1 h2 r1
      go_wp2_with fail
      go_ret
      rw [EE.out]
      exact ⟨rfl, E.out⟩
    | true =>
      cases hr : mre s with
      | false =>
        refine qm1d _ _ _ _ _ _ _ _ _ _ _ _ _ _ _ _ _ _ _ _ _ _ _ _ _ _ _ _ _ W0 w.heap.size s CB (F1 true r1) (F2 true hm) (F3 true ht) (F4 h1 h2 false hr) _ (fun _ _ d _ _ h => by cases d <;> exact h) (fun _ _ _ _ _ _ _ _ _ _ _ _ _ _ _ _ _ _ _ _ _ _ _ _ _ _ _ w3 hb => ?_)
        have E : Hid (Below w.heap.size w w3) := be0.out.trans (hb.mono be0.out.size)
        have EE : Hid (smay s = false) := smay_d h1 h2 hr
        clear hb F1 F2 F3 F4 F5 F6 CB be0 hm ht hr h1 h2 r1
        go_wp2_with fail
        go_ret
        rw [EE.out]
        exact ⟨rfl, E.out⟩
      | true =>
        have hl := pst_len s
        have he := smay_e h1 h2 hm ht hr
        refine qm1e _ _ _ _ _ _ _ _ _ _ _ _ _ _ _ _ _ _ _ _ _ _ _ _ _ _ _ _ _ W0 w.heap.size (pst s).length s (max ((pst s).length : Int) 1) (max ((pst s).length : Int) 1 - 1) (inR s.st 0 (max ((pst s).length : Int) 1 - 1)) CB (F1 true r1) (F2 true hm) (F3 true ht) (F4 h1 h2 true hr) F5 (F6 _) rfl (by rw [IntKind.wrap_i64]; omega) _ (fun _ _ d _ _ h => by cases d <;> exact h) (fun _ _ _ _ _ _ _ _ _ _ _ _ _ _ _ _ _ _ _ _ _ _ _ _ _ _ _ w3 hb => ?_)
        have E : Hid (Below w.heap.size w w3) := be0.out.trans (hb.mono be0.out.size)
        have EE : Hid (smay s = inR s.st 0 (max ((pst s).length : Int) 1 - 1)) := he
        clear hb F1 F2 F3 F4 F5 F6 CB be0 hm ht hr h1 h2 r1 hl he
        go_wp2_with fail
        go_ret
        rw [EE.out]
        exact ⟨rfl, E.out⟩
end Sg
end Go.Proofs.YtakicogelkdofaaDoor

namespace Go.Proofs.YtakicogelkdofaaDoor
set_option maxRecDepth 100000
open Go.RowKit
open Go.Proofs.YtakicogelkdofaaDoor.Pk (one_at one_free one_set lt_some grown_set grown_trans below_grown grown_refl)
namespace Sg
open Wt (Wan may Opn mayOp may_any inR)
open Pl (Stp fwd bck cap z0 wanv spv BoxW wpList_store_row setRow_below below_of_grown)

/-- It goes forward, and is turned. -/
def stn (s : Sag) (r : Int) : Sag × Bool := if smay s = true ∧ s.ph = 1 then (sback s r, true) else (s, false)
theorem stn_results : Tryd.f44.results = #[.cell 4 26, .tmp 5] := by kernel_rfl
set_option maxHeartbeats 6400000 in
theorem stn_any (w : World) (t : Tab w) (s : Sag) (r : Int) : Calls Tryd.prog 44 #[sgv s, .int .i64 r] w fun e w' => e = .returned (.tuple #[sgv (stn s r).1, .bool (stn s r).2]) ∧ Below w.heap.size w w' := by
  obtain ⟨W0, hW0⟩ : ∃ W0, W0 = (w.alloc (.cells #[.int .i64 s.w.book, .int .i64 s.w.cust, .int .i64 s.w.dead, .int .i64 s.w.u0, .int .i64 s.w.u1, .int .i64 s.w.u2, .int .i64 s.w.price, .int .i64 s.ph, .int .i64 s.st, .int .i64 s.rs, .int .i64 s.si] 26)).alloc (.cells #[.int .i64 0, .int .i64 0, .int .i64 0, .int .i64 0, .int .i64 0, .int .i64 0, .int .i64 0, .int .i64 0, .int .i64 0, .int .i64 0, .int .i64 0] 26) := ⟨_, rfl⟩
  have B0 : BoxS W0 w.heap.size s := by rw [hW0]; exact heap_alloc2_old _ _ _
  have Z0 : W0.heap[w.heap.size + 1]? = some (.cells #[.int .i64 0, .int .i64 0, .int .i64 0, .int .i64 0, .int .i64 0, .int .i64 0, .int .i64 0, .int .i64 0, .int .i64 0, .int .i64 0, .int .i64 0] 26 (0, 0)) := by
    have := heap_alloc_new (w.alloc (.cells #[.int .i64 s.w.book, .int .i64 s.w.cust, .int .i64 s.w.dead, .int .i64 s.w.u0, .int .i64 s.w.u1, .int .i64 s.w.u2, .int .i64 s.w.price, .int .i64 s.ph, .int .i64 s.st, .int .i64 s.rs, .int .i64 s.si] 26)) (.cells #[.int .i64 0, .int .i64 0, .int .i64 0, .int .i64 0, .int .i64 0, .int .i64 0, .int .i64 0, .int .i64 0, .int .i64 0, .int .i64 0, .int .i64 0] 26)
    rw [show (w.alloc (.cells #[.int .i64 s.w.book, .int .i64 s.w.cust, .int .i64 s.w.dead, .int .i64 s.w.u0, .int .i64 s.w.u1, .int .i64 s.w.u2, .int .i64 s.w.price, .int .i64 s.ph, .int .i64 s.st, .int .i64 s.rs, .int .i64 s.si] 26)).heap.size = w.heap.size + 1 by simp] at this
    rw [hW0]
    exact this
  have be0 : Below w.heap.size w W0 := by rw [hW0]; exact ((Below.refl _ w).alloc (Nat.le_refl _) _).alloc (by simp) _
  have s0 : w.heap.size + 1 < W0.heap.size := lt_some Z0
  have M := smay_any W0 (t.below be0) s
  have LY : smay s = true → s.ph = 1 → stn s r = (sback s r, true) := fun h1 h2 => by unfold stn; rw [if_pos ⟨h1, h2⟩]
  have LN : ¬ (smay s = true ∧ s.ph = 1) → stn s r = (s, false) := fun h => by unfold stn; rw [if_neg h]
  unfold sback at LY
  generalize stn s r = y at *
  generalize smay s = m at *
  unfold sgv sgc at *
  clear t
  replace hW0 := Lib.hid hW0
  replace M := Lib.hid M
  replace LY := Lib.hid LY
  replace LN := Lib.hid LN
  go_enter Tryd.func44, Tryd.ntmps44
  go_wp2_with fail
  rw [← hW0.out]
  refine M.out.mono ?_
  rintro e w1 ⟨rfl, h1⟩
  have B1 := B0.below h1 B0.lt
  have Z1 := Lib.hid ((h1.block _ s0).trans Z0)
  have b1 : Hid (Below w.heap.size w w1) := be0.trans (h1.mono be0.size)
  have s1 : w.heap.size + 1 < w1.heap.size := lt_some Z1.out
  have hwl : w.heap.size < w1.heap.size := by omega
  obtain ⟨c0, c1, c2, c3, c4, c5, c6, c7, c8, c9, ca⟩ := B1.cells
  replace B1 := Lib.hid B1
  clear M h1 B0 Z0 be0 hW0 s0
  cases m with
  | false =>
    have EE := Lib.hid (LN.out (by simp))
    clear LY LN
    go_wp2_with (refine wpList_store_row rfl 26 (.tmp 4) (.tmp 14) rfl (w.heap.size + 1) #[.int .i64 s.w.book, .int .i64 s.w.cust, .int .i64 s.w.dead, .int .i64 s.w.u0, .int .i64 s.w.u1, .int .i64 s.w.u2, .int .i64 s.w.price, .int .i64 s.ph, .int .i64 s.st, .int .i64 s.rs, .int .i64 s.si] rfl rfl 26 _ Z1.out sag_size rfl (by simp [Value.oneCell']) ?_)
    refine bodyPost_ret (res_row stn_results _ _ (w.heap.size + 1) 26 _ (0, 0) _ rfl (setRow_heap _ _ _ _ _ _ Z1.out) Tryd.underlying26 rfl sag_size) rfl ?_
    exact ⟨by rw [EE.out]; rfl, b1.out.trans (setRow_below _ (Nat.le_succ _))⟩
  | true =>
    by_cases hp : s.ph = 1
    case neg =>
      have EE := Lib.hid (LN.out (fun h => hp h.2))
      have g1 : (s.ph == 1) = false := beq_eq_false_iff_ne.2 hp
      clear LY LN hp
      go_wp2_with (refine wpList_store_row rfl 26 (.tmp 4) (.tmp 14) rfl (w.heap.size + 1) #[.int .i64 s.w.book, .int .i64 s.w.cust, .int .i64 s.w.dead, .int .i64 s.w.u0, .int .i64 s.w.u1, .int .i64 s.w.u2, .int .i64 s.w.price, .int .i64 s.ph, .int .i64 s.st, .int .i64 s.rs, .int .i64 s.si] rfl rfl 26 _ Z1.out sag_size rfl (by simp [Value.oneCell']) ?_)
      refine bodyPost_ret (res_row stn_results _ _ (w.heap.size + 1) 26 _ (0, 0) _ rfl (setRow_heap _ _ _ _ _ _ Z1.out) Tryd.underlying26 rfl sag_size) rfl ?_
      exact ⟨by rw [EE.out]; rfl, b1.out.trans (setRow_below _ (Nat.le_succ _))⟩
    have EE := Lib.hid (LY.out rfl hp)
    clear LY LN
    have f7 : w1.frozen? ⟨w.heap.size, 7, none⟩ = false := one_free B1.out
    have f8 : w1.frozen? ⟨w.heap.size, 8, none⟩ = false := one_free B1.out
    have f9 : w1.frozen? ⟨w.heap.size, 9, none⟩ = false := one_free B1.out
    have gs := grown_trans (grown_trans (grown_set w1 w.heap.size 7 (.int .i64 3)) (grown_set (w1.setCell ⟨w.heap.size, 7, none⟩ (.int .i64 3)) w.heap.size 8 (.int .i64 0))) (grown_set ((w1.setCell ⟨w.heap.size, 7, none⟩ (.int .i64 3)).setCell ⟨w.heap.size, 8, none⟩ (.int .i64 0)) w.heap.size 9 (.int .i64 r))
    have Z2 : Hid ((((w1.setCell ⟨w.heap.size, 7, none⟩ (.int .i64 3)).setCell ⟨w.heap.size, 8, none⟩ (.int .i64 0)).setCell ⟨w.heap.size, 9, none⟩ (.int .i64 r)).heap[w.heap.size + 1]? = some (.cells #[.int .i64 0, .int .i64 0, .int .i64 0, .int .i64 0, .int .i64 0, .int .i64 0, .int .i64 0, .int .i64 0, .int .i64 0, .int .i64 0, .int .i64 0] 26 (0, 0))) := (gs.block _ s1 (by simp)).trans Z1.out
    have b2 : Hid (Below w.heap.size w (((w1.setCell ⟨w.heap.size, 7, none⟩ (.int .i64 3)).setCell ⟨w.heap.size, 8, none⟩ (.int .i64 0)).setCell ⟨w.heap.size, 9, none⟩ (.int .i64 r))) := b1.out.trans (below_of_grown gs b1.out.size fun j hj => by injection hj with hj; omega)
    rw [hp] at c7
    have g1 : (s.ph == 1) = true := by rw [hp]; rfl
    clear gs hp B1
    go_wp2_with (refine wpList_store_row rfl 26 (.tmp 4) (.tmp 19) rfl (w.heap.size + 1) #[.int .i64 s.w.book, .int .i64 s.w.cust, .int .i64 s.w.dead, .int .i64 s.w.u0, .int .i64 s.w.u1, .int .i64 s.w.u2, .int .i64 s.w.price, .int .i64 3, .int .i64 0, .int .i64 r, .int .i64 s.si] rfl rfl 26 _ Z2.out sag_size rfl (by simp [Value.oneCell']) ?_)
    refine bodyPost_ret (res_row stn_results _ _ (w.heap.size + 1) 26 _ (0, 0) _ rfl (setRow_heap _ _ _ _ _ _ Z2.out) Tryd.underlying26 rfl sag_size) rfl ?_
    exact ⟨by rw [EE.out]; rfl, b2.out.trans (setRow_below _ (Nat.le_succ _))⟩
theorem qcan_results : Tryd.f20.results = #[.cell 2 26, .tmp 3] := by kernel_rfl
set_option maxHeartbeats 6400000 in
theorem qcan_any (w : World) (t : Tab w) (s : Sag) : Calls Tryd.prog 20 #[sgv s] w fun e w' => e = .returned (.tuple #[sgv (scan s).1, .bool (scan s).2]) ∧ Below w.heap.size w w' := by
  obtain ⟨W0, hW0⟩ : ∃ W0, W0 = (w.alloc (.cells #[.int .i64 s.w.book, .int .i64 s.w.cust, .int .i64 s.w.dead, .int .i64 s.w.u0, .int .i64 s.w.u1, .int .i64 s.w.u2, .int .i64 s.w.price, .int .i64 s.ph, .int .i64 s.st, .int .i64 s.rs, .int .i64 s.si] 26)).alloc (.cells #[.int .i64 0, .int .i64 0, .int .i64 0, .int .i64 0, .int .i64 0, .int .i64 0, .int .i64 0, .int .i64 0, .int .i64 0, .int .i64 0, .int .i64 0] 26) := ⟨_, rfl⟩
  have B0 : BoxS W0 w.heap.size s := by rw [hW0]; exact heap_alloc2_old _ _ _
  have Z0 : W0.heap[w.heap.size + 1]? = some (.cells #[.int .i64 0, .int .i64 0, .int .i64 0, .int .i64 0, .int .i64 0, .int .i64 0, .int .i64 0, .int .i64 0, .int .i64 0, .int .i64 0, .int .i64 0] 26 (0, 0)) := by
    have := heap_alloc_new (w.alloc (.cells #[.int .i64 s.w.book, .int .i64 s.w.cust, .int .i64 s.w.dead, .int .i64 s.w.u0, .int .i64 s.w.u1, .int .i64 s.w.u2, .int .i64 s.w.price, .int .i64 s.ph, .int .i64 s.st, .int .i64 s.rs, .int .i64 s.si] 26)) (.cells #[.int .i64 0, .int .i64 0, .int .i64 0, .int .i64 0, .int .i64 0, .int .i64 0, .int .i64 0, .int .i64 0, .int .i64 0, .int .i64 0, .int .i64 0] 26)
    rw [show (w.alloc (.cells #[.int .i64 s.w.book, .int .i64 s.w.cust, .int .i64 s.w.dead, .int .i64 s.w.u0, .int .i64 s.w.u1, .int .i64 s.w.u2, .int .i64 s.w.price, .int .i64 s.ph, .int .i64 s.st, .int .i64 s.rs, .int .i64 s.si] 26)).heap.size = w.heap.size + 1 by simp] at this
    rw [hW0]
    exact this
  have be0 : Below w.heap.size w W0 := by rw [hW0]; exact ((Below.refl _ w).alloc (Nat.le_refl _) _).alloc (by simp) _
  have s0 : w.heap.size + 1 < W0.heap.size := lt_some Z0
  have M := stn_any W0 (t.below be0) s 4
  rw [show stn s 4 = scan s from rfl] at M
  generalize (scan s).1 = y at *
  generalize (scan s).2 = b at *
  unfold sgv sgc at *
  clear t
  replace M := Lib.hid M
  replace hW0 := Lib.hid hW0
  go_enter Tryd.func20, Tryd.ntmps20
  go_wp2_with fail
  rw [← hW0.out]
  refine M.out.mono ?_
  rintro e w1 ⟨rfl, h1⟩
  have Z1 := Lib.hid ((h1.block _ s0).trans Z0)
  have b1 : Hid (Below w.heap.size w w1) := be0.trans (h1.mono be0.size)
  clear M h1 B0 Z0 be0 hW0 s0
  go_wp2_with (refine wpList_store_row rfl 26 (.tmp 2) (.tmp 6) rfl (w.heap.size + 1) _ rfl rfl 26 _ Z1.out sag_size rfl (by simp [Value.oneCell']) ?_)
  refine bodyPost_ret (res_row qcan_results _ _ (w.heap.size + 1) 26 _ (0, 0) _ rfl (setRow_heap _ _ _ _ _ _ Z1.out) Tryd.underlying26 rfl sag_size) rfl ?_
  exact ⟨rfl, b1.out.trans (setRow_below _ (Nat.le_succ _))⟩
set_option maxHeartbeats 6400000 in
theorem qover_any (w : World) (t : Tab w) (s : Sag) : Calls Tryd.prog 17 #[sgv s] w fun e w' => e = .returned (.bool (sover s)) ∧ Below w.heap.size w w' := by
  obtain ⟨W0, hW0⟩ : ∃ W0, W0 = w.alloc (.cells #[.int .i64 s.w.book, .int .i64 s.w.cust, .int .i64 s.w.dead, .int .i64 s.w.u0, .int .i64 s.w.u1, .int .i64 s.w.u2, .int .i64 s.w.price, .int .i64 s.ph, .int .i64 s.st, .int .i64 s.rs, .int .i64 s.si] 26) := ⟨_, rfl⟩
  have B0 : BoxS W0 w.heap.size s := by rw [hW0]; exact heap_alloc_new _ _
  have be0 : Below w.heap.size w W0 := by rw [hW0]; exact (Below.refl _ w).alloc (Nat.le_refl _) _
  have M := smay_any W0 (t.below be0) s
  have LN : smay s = false → sover s = false := fun h => by unfold sover; rw [h]; rfl
  have LY : smay s = true → sover s = (s.ph == 4 || s.ph == 5) := fun h => by unfold sover; rw [h]; rfl
  have PH : smay s = true → s.ph = 1 ∨ s.ph = 2 ∨ s.ph = 3 ∨ s.ph = 4 ∨ s.ph = 5 := fun h => by obtain ⟨-, -, h⟩ := smay_true h; omega
  have T0 := t.below be0
  generalize sover s = y at *
  generalize smay s = m at *
  obtain ⟨x, ph, st, rs, si⟩ := s
  unfold sgv sgc at *
  simp only at *
  clear t
  replace hW0 := Lib.hid hW0
  replace M := Lib.hid M
  replace LY := Lib.hid LY
  replace LN := Lib.hid LN
  replace PH := Lib.hid PH
  go_enter Tryd.func17, Tryd.ntmps17
  go_wp2_with fail
  rw [← hW0.out]
  refine M.out.mono ?_
  rintro e w1 ⟨rfl, h1⟩
  have B1 := B0.below h1 B0.lt
  have T1 := T0.below h1
  have b1 : Hid (Below w.heap.size w w1) := be0.trans (h1.mono be0.size)
  have hwl : w.heap.size < w1.heap.size := B1.lt
  obtain ⟨c0, c1, c2, c3, c4, c5, c6, c7, c8, c9, ca⟩ := BoxS.cells (s := ⟨x, ph, st, rs, si⟩) B1
  simp only at c0 c1 c2 c3 c4 c5 c6 c7 c8 c9 ca
  clear M h1 B0 T0 be0 hW0 B1
  cases m with
  | false =>
    have EE := Lib.hid (LN.out rfl)
    clear LY LN PH T1
    go_wp2_with fail
    go_ret
    rw [EE.out]
    exact ⟨rfl, b1.out⟩
  | true =>
    have EE := Lib.hid (LY.out rfl)
    obtain ⟨d0, -, -, e0, -, -, f0, -, -, g0, -, -, i0, -, -⟩ := T1
    rcases PH.out rfl with rfl | rfl | rfl | rfl | rfl
    · clear LY LN PH
      go_wp2_with fail
      go_ret
      rw [EE.out]
      exact ⟨rfl, b1.out⟩
    · clear LY LN PH
      go_wp2_with fail
      go_ret
      rw [EE.out]
      exact ⟨rfl, b1.out⟩
    · clear LY LN PH
      go_wp2_with fail
      go_ret
      rw [EE.out]
      exact ⟨rfl, b1.out⟩
    · clear LY LN PH
      go_wp2_with fail
      go_ret
      rw [EE.out]
      exact ⟨rfl, b1.out⟩
    · clear LY LN PH
      go_wp2_with fail
      go_ret
      rw [EE.out]
      exact ⟨rfl, b1.out⟩
set_option maxHeartbeats 6400000 in
theorem qtells_any (w : World) (t : Tab w) (s : Sag) : Calls Tryd.prog 15 #[sgv s] w fun e w' => e = .returned (.int .i64 (stells s)) ∧ Below w.heap.size w w' := by
  obtain ⟨W0, hW0⟩ : ∃ W0, W0 = w.alloc (.cells #[.int .i64 s.w.book, .int .i64 s.w.cust, .int .i64 s.w.dead, .int .i64 s.w.u0, .int .i64 s.w.u1, .int .i64 s.w.u2, .int .i64 s.w.price, .int .i64 s.ph, .int .i64 s.st, .int .i64 s.rs, .int .i64 s.si] 26) := ⟨_, rfl⟩
  have B0 : BoxS W0 w.heap.size s := by rw [hW0]; exact heap_alloc_new _ _
  have be0 : Below w.heap.size w W0 := by rw [hW0]; exact (Below.refl _ w).alloc (Nat.le_refl _) _
  have M := smay_any W0 (t.below be0) s
  have LN : smay s = false → stells s = 0 := fun h => by unfold stells; rw [if_neg (by rw [h]; decide)]
  have LY : smay s = true → stells s = (if s.ph = 4 then 3 else if s.ph = 5 then 4 else 2) := fun h => by unfold stells; rw [if_pos h]
  have PH : smay s = true → s.ph = 1 ∨ s.ph = 2 ∨ s.ph = 3 ∨ s.ph = 4 ∨ s.ph = 5 := fun h => by obtain ⟨-, -, h⟩ := smay_true h; omega
  have T0 := t.below be0
  generalize stells s = y at *
  generalize smay s = m at *
  obtain ⟨x, ph, st, rs, si⟩ := s
  unfold sgv sgc at *
  simp only at *
  clear t
  replace hW0 := Lib.hid hW0
  replace M := Lib.hid M
  replace LY := Lib.hid LY
  replace LN := Lib.hid LN
  replace PH := Lib.hid PH
  go_enter Tryd.func15, Tryd.ntmps15
  go_wp2_with fail
  rw [← hW0.out]
  refine M.out.mono ?_
  rintro e w1 ⟨rfl, h1⟩
  have B1 := B0.below h1 B0.lt
  have T1 := T0.below h1
  have b1 : Hid (Below w.heap.size w w1) := be0.trans (h1.mono be0.size)
  have hwl : w.heap.size < w1.heap.size := B1.lt
  obtain ⟨c0, c1, c2, c3, c4, c5, c6, c7, c8, c9, ca⟩ := BoxS.cells (s := ⟨x, ph, st, rs, si⟩) B1
  simp only at c0 c1 c2 c3 c4 c5 c6 c7 c8 c9 ca
  clear M h1 B0 T0 be0 hW0 B1
  cases m with
  | false =>
    have EE := Lib.hid (LN.out rfl)
    clear LY LN PH T1
    go_wp2_with fail
    go_ret
    rw [EE.out]
    exact ⟨rfl, b1.out⟩
  | true =>
    have EE := Lib.hid (LY.out rfl)
    obtain ⟨-, d0, -, -, e0, -, -, f0, -, -, g0, -, -, i0, -⟩ := T1
    rcases PH.out rfl with rfl | rfl | rfl | rfl | rfl
    · clear LY LN PH
      go_wp2_with fail
      go_ret
      rw [EE.out]
      exact ⟨rfl, b1.out⟩
    · clear LY LN PH
      go_wp2_with fail
      go_ret
      rw [EE.out]
      exact ⟨rfl, b1.out⟩
    · clear LY LN PH
      go_wp2_with fail
      go_ret
      rw [EE.out]
      exact ⟨rfl, b1.out⟩
    · clear LY LN PH
      go_wp2_with fail
      go_ret
      rw [EE.out]
      exact ⟨rfl, b1.out⟩
    · clear LY LN PH
      go_wp2_with fail
      go_ret
      rw [EE.out]
      exact ⟨rfl, b1.out⟩
theorem qnew_results : Tryd.f24.results = #[.cell 4 26, .tmp 5] := by kernel_rfl
set_option maxHeartbeats 6400000 in
theorem qnew_any (w : World) (x : Wan) (now : Int) : Calls Tryd.prog 24 #[wanv x, .int .i64 now] w fun e w' => e = .returned (.tuple #[sgv (snew x now).1, .int .i64 (snew x now).2]) ∧ Below w.heap.size w w' := by
  obtain ⟨W0, hW0⟩ : ∃ W0, W0 = (w.alloc (.cells #[.int .i64 x.book, .int .i64 x.cust, .int .i64 x.dead, .int .i64 x.u0, .int .i64 x.u1, .int .i64 x.u2, .int .i64 x.price] 24)).alloc (.cells #[.int .i64 0, .int .i64 0, .int .i64 0, .int .i64 0, .int .i64 0, .int .i64 0, .int .i64 0, .int .i64 0, .int .i64 0, .int .i64 0, .int .i64 0] 26) := ⟨_, rfl⟩
  have B0 : BoxW W0 w.heap.size x := by rw [hW0]; exact heap_alloc2_old _ _ _
  have Z0 : W0.heap[w.heap.size + 1]? = some (.cells #[.int .i64 0, .int .i64 0, .int .i64 0, .int .i64 0, .int .i64 0, .int .i64 0, .int .i64 0, .int .i64 0, .int .i64 0, .int .i64 0, .int .i64 0] 26 (0, 0)) := by
    have := heap_alloc_new (w.alloc (.cells #[.int .i64 x.book, .int .i64 x.cust, .int .i64 x.dead, .int .i64 x.u0, .int .i64 x.u1, .int .i64 x.u2, .int .i64 x.price] 24)) (.cells #[.int .i64 0, .int .i64 0, .int .i64 0, .int .i64 0, .int .i64 0, .int .i64 0, .int .i64 0, .int .i64 0, .int .i64 0, .int .i64 0, .int .i64 0] 26)
    rw [show (w.alloc (.cells #[.int .i64 x.book, .int .i64 x.cust, .int .i64 x.dead, .int .i64 x.u0, .int .i64 x.u1, .int .i64 x.u2, .int .i64 x.price] 24)).heap.size = w.heap.size + 1 by simp] at this
    rw [hW0]
    exact this
  have be0 : Below w.heap.size w W0 := by rw [hW0]; exact ((Below.refl _ w).alloc (Nat.le_refl _) _).alloc (by simp) _
  have s0 : w.heap.size + 1 < W0.heap.size := lt_some Z0
  have M := may_any W0 x
  have TK := fun w => stick_any w now
  have LY : may x = true → inR now 0 1099511627776 = true → snew x now = (⟨x, 1, 0, 0, now⟩, 0) := fun h h1 => by unfold snew; rw [if_pos ⟨h, h1⟩]
  have LN : (may x = false ∨ inR now 0 1099511627776 = false) → snew x now = (sz, 1) := fun h => by
    unfold snew
    rw [if_neg]
    rintro ⟨h1, h2⟩
    rcases h with h | h
    · rw [h1] at h; cases h
    · rw [h2] at h; cases h
  unfold sz at LN
  generalize snew x now = y at *
  generalize may x = m at *
  generalize inR now 0 1099511627776 = tk at *
  unfold wanv
  replace hW0 := Lib.hid hW0
  replace LY := Lib.hid LY
  replace LN := Lib.hid LN
  replace TK := Lib.hid TK
  replace M := Lib.hid M
  go_enter Tryd.func24, Tryd.ntmps24
  go_wp2_with fail
  rw [← hW0.out]
  refine M.out.mono ?_
  rintro e w1 ⟨rfl, h1⟩
  obtain ⟨c0, c1, c2, c3, c4, c5, c6⟩ := (B0.below h1 B0.lt).cells
  have hwl := (B0.below h1 B0.lt).lt
  have Z1 := Lib.hid ((h1.block _ s0).trans Z0)
  have b1 : Hid (Below w.heap.size w w1) := be0.trans (h1.mono be0.size)
  have s1 : w.heap.size + 1 < w1.heap.size := lt_some Z1.out
  clear M h1 B0 Z0 be0 hW0 s0
  cases m with
  | false =>
    have EE := Lib.hid (LN.out (.inl rfl))
    clear LY LN TK
    go_wp2_with (refine wpList_store_row rfl 26 (.tmp 4) (.tmp 14) rfl (w.heap.size + 1) _ rfl rfl 26 _ Z1.out sag_size rfl (by simp [Value.oneCell']) ?_)
    refine bodyPost_ret (res_row qnew_results _ _ (w.heap.size + 1) 26 _ (0, 0) _ rfl (setRow_heap _ _ _ _ _ _ Z1.out) Tryd.underlying26 rfl sag_size) rfl ?_
    exact ⟨by rw [EE.out]; rfl, b1.out.trans (setRow_below _ (Nat.le_succ _))⟩
  | true =>
    go_wp2_with fail
    refine (TK.out _).mono ?_
    rintro e w2 ⟨rfl, rfl⟩
    cases tk with
    | false =>
      have EE := Lib.hid (LN.out (.inr rfl))
      clear LY LN TK
      go_wp2_with (refine wpList_store_row rfl 26 (.tmp 4) (.tmp 14) rfl (w.heap.size + 1) _ rfl rfl 26 _ Z1.out sag_size rfl (by simp [Value.oneCell']) ?_)
      refine bodyPost_ret (res_row qnew_results _ _ (w.heap.size + 1) 26 _ (0, 0) _ rfl (setRow_heap _ _ _ _ _ _ Z1.out) Tryd.underlying26 rfl sag_size) rfl ?_
      exact ⟨by rw [EE.out]; rfl, b1.out.trans (setRow_below _ (Nat.le_succ _))⟩
    | true =>
      have EE := Lib.hid (LY.out (by simp) (by simp))
      clear LY LN TK
      go_wp2_with (refine wpList_store_row rfl 26 (.tmp 4) (.tmp 17) rfl (w.heap.size + 1) _ rfl rfl 26 _ Z1.out sag_size rfl (by simp [Value.oneCell']) ?_)
      refine bodyPost_ret (res_row qnew_results _ _ (w.heap.size + 1) 26 _ (0, 0) _ rfl (setRow_heap _ _ _ _ _ _ Z1.out) Tryd.underlying26 rfl sag_size) rfl ?_
      exact ⟨by rw [EE.out]; rfl, b1.out.trans (setRow_below _ (Nat.le_succ _))⟩
def sref (a : Stp) : Int := if a.op.kind = 4 then 2 else 1
set_option maxHeartbeats 3200000 in
theorem sref_any (w : World) (a : Stp) : Calls Tryd.prog 45 #[spv a] w fun e w' => e = .returned (.int .i64 (sref a)) ∧ Below w.heap.size w w' := by
  have be : Hid (Below w.heap.size w (w.alloc (.cells #[.int .i64 a.node, .int .i64 a.op.kind, .int .i64 a.op.book, .int .i64 a.op.units, .int .i64 a.op.cust, .int .i64 a.op.amount] 30))) := (Below.refl _ w).alloc (Nat.le_refl _) _
  by_cases h : a.op.kind = 4
  · have EE : Hid (sref a = 2) := if_pos h
    have g1 : (a.op.kind == 4) = true := by rw [h]; rfl
    generalize sref a = y at *
    unfold spv
    clear h
    go_enter Tryd.func45, Tryd.ntmps45
    go_wp2_with fail
    go_ret
    rw [EE.out]
    exact ⟨rfl, be.out⟩
  · have EE : Hid (sref a = 1) := if_neg h
    have g1 : (a.op.kind == 4) = false := beq_eq_false_iff_ne.2 h
    generalize sref a = y at *
    unfold spv
    clear h
    go_enter Tryd.func45, Tryd.ntmps45
    go_wp2_with fail
    go_ret
    rw [EE.out]
    exact ⟨rfl, be.out⟩
end Sg
end Go.Proofs.YtakicogelkdofaaDoor

namespace Go.Proofs.YtakicogelkdofaaDoor
set_option maxRecDepth 100000
open Go.RowKit
open Go.Proofs.YtakicogelkdofaaDoor.Pk (one_at one_free one_set lt_some grown_set grown_trans below_grown grown_refl)
namespace Sg
open Wt (Wan may Opn mayOp may_any inR)
open Pl (Stp fwd bck cap z0 wanv spv RowT rt_form rt_mono rt_cell At regionAt one6 BoxW wpList_store_row setRow_below below_of_grown)

noncomputable def qs_2 : Code := (Tryd.f43.body.bind (regionAt 2)).getD .skip
set_option maxHeartbeats 12800000 in
theorem qs2 (z0 z2 z3 z4 z5 z6 z7 z8 z9 z10 z11 z12 z13 z14 z15 z16 z17 z18 z19 z20 : Value) (W : World) (q n : Nat) (s : Sag)
    (CB : Hid (∀ w', Below W.heap.size W w' → CellS w' q s))
    (F : Hid (∀ w', Below W.heap.size W w' → Calls Tryd.prog 35 #[.agg #[.int .i64 s.w.book, .int .i64 s.w.cust, .int .i64 s.w.dead, .int .i64 s.w.u0, .int .i64 s.w.u1, .int .i64 s.w.u2, .int .i64 s.w.price, .int .i64 s.ph, .int .i64 s.st, .int .i64 s.rs, .int .i64 s.si]] w' fun e w'' => (∃ A c, e = .returned (.slice A n c)) ∧ Below W.heap.size W w''))
    (Q : Exit → Act → World → Prop)
    (hP : ∀ c a d v w, Q (.panic c) (Act.put a d v) w → Q (.panic c) a w)
    (hQ : ∀ (y7 y8 y9 y10 y11 : Value)  (W3 : World), Below W.heap.size W W3 → Q .normal ⟨#[z0, .pointer (some ⟨q, 0, none⟩), z2, z3, z4, z5, z6, y7, y8, y9, y10, y11, .bool (s.st == (n : Int)), z13, z14, z15, z16, z17, z18, z19, z20], []⟩ W3) :
    Code.wp Tryd.prog qs_2 Q ⟨#[z0, .pointer (some ⟨q, 0, none⟩), z2, z3, z4, z5, z6, z7, z8, z9, z10, z11, z12, z13, z14, z15, z16, z17, z18, z19, z20], []⟩ W := by
  conv => arg 2; whnf
  have b0 : Below W.heap.size W W.drew := ⟨rfl, rfl, rfl, Nat.le_refl _, fun _ _ => rfl⟩
  refine wp_region_held_drew (S := fun w => Below W.heap.size W w) (by kernel_rfl) b0 (fun hHeld => ?_)
  replace hQ := Lib.hid hQ
  clear b0
  obtain ⟨v0, hv⟩ : ∃ v, v = W.drew := ⟨_, rfl⟩
  rw [← hv] at hHeld ⊢
  clear hv
  refine' wpAnyH_take (i := 0) (oi := ?o1) (v := ?v1) ?hi1 (by kernel_rfl) (by kernel_rfl) (by kernel_rfl) (fun c a w h => hP c a _ _ w h) (Or.inl ⟨?hw1, ?hy1⟩) hHeld ?rest1
  case hi1 => simp only [List.getElem?_toArray, List.getElem?_cons_zero]; rfl
  case hw1 => rfl
  case hy1 =>
    intro w _
    go_simp
    try with_reducible rfl
  simp only [Act.put, List.setIfInBounds_toArray, List.set_cons_zero, List.set_cons_succ]
  refine' wpAnyH_take (i := 1) (oi := ?o2) (v := ?v2) ?hi2 (by kernel_rfl) (by kernel_rfl) (by kernel_rfl) (fun c a w h => hP c a _ _ w h) (Or.inl ⟨?hw2, ?hy2⟩) hHeld ?rest2
  case hi2 => simp only [List.getElem?_toArray, List.getElem?_cons_succ, List.getElem?_cons_zero]; rfl
  case hw2 => rfl
  case hy2 =>
    intro w hSw
    obtain ⟨c0, c1, c2, c3, c4, c5, c6, c7, c8, c9, ca⟩ := CB.out _ hSw
    go_simp
    try with_reducible rfl
  simp only [Act.put, List.setIfInBounds_toArray, List.set_cons_zero, List.set_cons_succ]
  refine' wpAnyH_take (i := 2) (oi := ?o3) (v := ?v3) ?hi3 (by kernel_rfl) (by kernel_rfl) (by kernel_rfl) (fun c a w h => hP c a _ _ w h) (Or.inl ⟨?hw3, ?hy3⟩) hHeld ?rest3
  case hi3 => simp only [List.getElem?_toArray, List.getElem?_cons_succ, List.getElem?_cons_zero]; rfl
  case hw3 => rfl
  case hy3 =>
    intro w hSw
    obtain ⟨c0, c1, c2, c3, c4, c5, c6, c7, c8, c9, ca⟩ := CB.out _ hSw
    go_simp
    try with_reducible rfl
  simp only [Act.put, List.setIfInBounds_toArray, List.set_cons_zero, List.set_cons_succ]
  refine wpAnyH_ready (rs := [3]) (by kernel_rfl) (by simp) ?_
  refine' AllReadyH.cons (i := 3) (o := ?o4) ?hi4 (fun K hK => ?st4) ?mo4
  case hi4 => simp only [List.getElem?_toArray, List.getElem?_cons_succ, List.getElem?_cons_zero]; rfl
  case st4 =>
    go_simp
    refine (F.out _ hHeld).mono ?_
    rintro e v1 ⟨⟨A, c, rfl⟩, h6⟩
    clear hHeld
    go_simp
    refine hK.out _ _ h6 (fun hHeld => ?_)
    clear hK K h6
    try simp only [Act.put, List.setIfInBounds_toArray, List.set_cons_zero, List.set_cons_succ]
    refine' wpAnyH_take (i := 4) (oi := ?o5) (v := ?v5) ?hi5 (by kernel_rfl) (by kernel_rfl) (by kernel_rfl) (fun c a w h => hP c a _ _ w h) (Or.inl ⟨?hw5, ?hy5⟩) hHeld ?rest5
    case hi5 => simp only [List.getElem?_toArray, List.getElem?_cons_succ, List.getElem?_cons_zero]; rfl
    case hw5 => rfl
    case hy5 =>
      intro w _
      go_simp
      try with_reducible rfl
    simp only [Act.put, List.setIfInBounds_toArray, List.set_cons_zero, List.set_cons_succ]
    refine' wpAnyH_take (i := 5) (oi := ?o6) (v := ?v6) ?hi6 (by kernel_rfl) (by kernel_rfl) (by kernel_rfl) (fun c a w h => hP c a _ _ w h) (Or.inl ⟨?hw6, ?hy6⟩) hHeld ?rest6
    case hi6 => simp only [List.getElem?_toArray, List.getElem?_cons_succ, List.getElem?_cons_zero]; rfl
    case hw6 => rfl
    case hy6 =>
      intro w _
      go_simp
      try with_reducible rfl
    simp only [Act.put, List.setIfInBounds_toArray, List.set_cons_zero, List.set_cons_succ]
    refine wpAnyH_done (by kernel_rfl) ?_ _
    exact hQ.out _ _ _ _ _ _  hHeld
  case mo4 => exact AllReadyH.nil
noncomputable def qn_3 : Code := (Tryd.f10.body.bind (regionAt 3)).getD .skip
set_option maxHeartbeats 12800000 in
theorem qn3 (z0 z3 z4 z5 z6 z7 z8 z9 z10 z11 z12 z13 z14 z15 z16 z17 : Value) (W : World) (q q2 n k : Nat) (s : Sag) (a : Stp) (l : List Stp)
    (CB : Hid (∀ w', Below q2 W w' → CellS w' q s))
    (F : Hid (∀ w', Below q2 W w' → Calls Tryd.prog 35 #[.agg #[.int .i64 s.w.book, .int .i64 s.w.cust, .int .i64 s.w.dead, .int .i64 s.w.u0, .int .i64 s.w.u1, .int .i64 s.w.u2, .int .i64 s.w.price, .int .i64 s.ph, .int .i64 (k : Int), .int .i64 s.rs, .int .i64 s.si]] w' fun e w'' => ∃ A c, e = .returned (.slice A n c) ∧ RowT 30 w'' q2 (.slice A n c) n l ∧ Below q2 W w'' ∧ Below w'.heap.size w' w''))
    (Z : W.heap[q2]? = some (.cells #[.int .i64 0, .int .i64 0, .int .i64 0, .int .i64 0, .int .i64 0, .int .i64 0] 30 (0, 0)))
    (hk : s.st = (k : Int))
    (hl : l[k]? = some a)
    (i1 : (k : Int) < (n : Int))
    (Q : Exit → Act → World → Prop)
    (hP : ∀ c a d v w, Q (.panic c) (Act.put a d v) w → Q (.panic c) a w)
    (hQ : ∀ (y12 y13 y14 y15 y16 y17 : Value)  (W3 : World), W3.heap[q2]? = some (.cells #[Value.int .i64 a.node, .int .i64 a.op.kind, .int .i64 a.op.book, .int .i64 a.op.units, .int .i64 a.op.cust, .int .i64 a.op.amount] 30 (0, 0)) → Below q2 W W3 → Q .normal ⟨#[z0, .pointer (some ⟨q, 0, none⟩), .pointer (some ⟨q2, 0, none⟩), .bool true, z4, z5, z6, z7, z8, z9, z10, z11, y12, y13, y14, y15, y16, y17], []⟩ W3) :
    Code.wp Tryd.prog qn_3 Q ⟨#[z0, .pointer (some ⟨q, 0, none⟩), .pointer (some ⟨q2, 0, none⟩), z3, z4, z5, z6, z7, z8, z9, z10, z11, z12, z13, z14, z15, z16, z17], []⟩ W := by
  conv => arg 2; whnf
  have b0 : Below q2 W W.drew := ⟨rfl, rfl, rfl, Nat.le_refl _, fun _ _ => rfl⟩
  refine wp_region_held_drew (S := fun w => Below q2 W w) (by kernel_rfl) b0 (fun hHeld => ?_)
  replace hQ := Lib.hid hQ
  clear b0
  obtain ⟨v0, hv⟩ : ∃ v, v = W.drew := ⟨_, rfl⟩
  have Z0 : v0.heap[q2]? = some (.cells #[.int .i64 0, .int .i64 0, .int .i64 0, .int .i64 0, .int .i64 0, .int .i64 0] 30 (0, 0)) := by rw [hv]; exact Z
  have i2 : (0 : Int) ≤ (k : Int) := by omega
  rw [← hv] at hHeld ⊢
  clear hv
  refine' wpAnyH_take (i := 0) (oi := ?o1) (v := ?v1) ?hi1 (by kernel_rfl) (by kernel_rfl) (by kernel_rfl) (fun c a w h => hP c a _ _ w h) (Or.inl ⟨?hw1, ?hy1⟩) hHeld ?rest1
  case hi1 => simp only [List.getElem?_toArray, List.getElem?_cons_zero]; rfl
  case hw1 => rfl
  case hy1 =>
    intro w hSw
    obtain ⟨c0, c1, c2, c3, c4, c5, c6, c7, c8, c9, ca⟩ := CB.out _ hSw; rw [hk] at c8
    go_simp
    try with_reducible rfl
  simp only [Act.put, List.setIfInBounds_toArray, List.set_cons_zero, List.set_cons_succ]
  refine' wpAnyH_take (i := 2) (oi := ?o2) (v := ?v2) ?hi2 (by kernel_rfl) (by kernel_rfl) (by kernel_rfl) (fun c a w h => hP c a _ _ w h) (Or.inl ⟨?hw2, ?hy2⟩) hHeld ?rest2
  case hi2 => simp only [List.getElem?_toArray, List.getElem?_cons_succ, List.getElem?_cons_zero]; rfl
  case hw2 => rfl
  case hy2 =>
    intro w _
    go_simp
    try with_reducible rfl
  simp only [Act.put, List.setIfInBounds_toArray, List.set_cons_zero, List.set_cons_succ]
  refine' wpAnyH_take (i := 3) (oi := ?o3) (v := ?v3) ?hi3 (by kernel_rfl) (by kernel_rfl) (by kernel_rfl) (fun c a w h => hP c a _ _ w h) (Or.inl ⟨?hw3, ?hy3⟩) hHeld ?rest3
  case hi3 => simp only [List.getElem?_toArray, List.getElem?_cons_succ, List.getElem?_cons_zero]; rfl
  case hw3 => rfl
  case hy3 =>
    intro w hSw
    obtain ⟨c0, c1, c2, c3, c4, c5, c6, c7, c8, c9, ca⟩ := CB.out _ hSw; rw [hk] at c8
    go_simp
    try with_reducible rfl
  simp only [Act.put, List.setIfInBounds_toArray, List.set_cons_zero, List.set_cons_succ]
  refine wpAnyH_ready (rs := [1]) (by kernel_rfl) (by simp) ?_
  refine' AllReadyH.cons (i := 1) (o := ?o4) ?hi4 (fun K hK => ?st4) ?mo4
  case hi4 => simp only [List.getElem?_toArray, List.getElem?_cons_succ, List.getElem?_cons_zero]; rfl
  case st4 =>
    go_simp
    refine (F.out _ hHeld).mono ?_
    rintro e v1 ⟨A, c, rfl, hR, h6, h7⟩
    replace Z0 := (h7.block _ (lt_some Z0)).trans Z0
    obtain ⟨g, rfl, a0, a1, a2, a3, a4, a5⟩ := rt_cell hR hl
    clear hR h7 hHeld
    go_simp
    refine hK.out _ _ h6 (fun hHeld => ?_)
    clear hK K h6
    try simp only [Act.put, List.setIfInBounds_toArray, List.set_cons_zero, List.set_cons_succ]
    refine' wpAnyH_take (i := 4) (oi := ?o5) (v := ?v5) ?hi5 (by kernel_rfl) (by kernel_rfl) (by kernel_rfl) (fun c a w h => hP c a _ _ w h) (Or.inl ⟨?hw5, ?hy5⟩) hHeld ?rest5
    case hi5 => simp only [List.getElem?_toArray, List.getElem?_cons_succ, List.getElem?_cons_zero]; rfl
    case hw5 => rfl
    case hy5 =>
      intro w _
      go_simp
      try with_reducible rfl
    simp only [Act.put, List.setIfInBounds_toArray, List.set_cons_zero, List.set_cons_succ]
    refine wpAnyH_ready (rs := [5]) (by kernel_rfl) (by simp) ?_
    refine' AllReadyH.cons (i := 5) (o := ?o6) ?hi6 (fun K hK => ?st6) ?mo6
    case hi6 => simp only [List.getElem?_toArray, List.getElem?_cons_succ, List.getElem?_cons_zero]; rfl
    case st6 =>
      go_simp
      refine hK.out _ _ hHeld (fun hHeld2 => ?_)
      clear hK K hHeld2
      try simp only [Act.put, List.setIfInBounds_toArray, List.set_cons_zero, List.set_cons_succ]
      refine wpAnyH_ready (rs := [6]) (by kernel_rfl) (by simp) ?_
      refine' AllReadyH.cons (i := 6) (o := ?o7) ?hi7 (fun K hK => ?st7) ?mo7
      case hi7 => simp only [List.getElem?_toArray, List.getElem?_cons_succ, List.getElem?_cons_zero]; rfl
      case st7 =>
        refine step_store_row rfl 30 (.tmp 2) (.tmp 17) rfl q2 #[Value.int .i64 a.node, .int .i64 a.op.kind, .int .i64 a.op.book, .int .i64 a.op.units, .int .i64 a.op.cust, .int .i64 a.op.amount] rfl rfl 30 _ Z0 Pl.ask_size rfl (one6 _ _ _ _ _ _) ?_
        refine hK.out _ _ (hHeld.trans (setRow_below _ (Nat.le_refl _))) (fun hHeld2 => ?_)
        clear hK K
        try simp only [Act.put]
        replace Z0 : (v1.setRow q2 #[Value.int .i64 a.node, .int .i64 a.op.kind, .int .i64 a.op.book, .int .i64 a.op.units, .int .i64 a.op.cust, .int .i64 a.op.amount]).heap[q2]? = some (.cells #[Value.int .i64 a.node, .int .i64 a.op.kind, .int .i64 a.op.book, .int .i64 a.op.units, .int .i64 a.op.cust, .int .i64 a.op.amount] 30 (0, 0)) := setRow_heap _ _ _ _ _ _ Z0
        obtain ⟨v2, hv⟩ : ∃ v, v = v1.setRow q2 #[Value.int .i64 a.node, .int .i64 a.op.kind, .int .i64 a.op.book, .int .i64 a.op.units, .int .i64 a.op.cust, .int .i64 a.op.amount] := ⟨_, rfl⟩
        rw [← hv] at Z0 hHeld2 ⊢
        clear hv hHeld
        have hHeld := hHeld2
        clear hHeld2
        refine' wpAnyH_take (i := 7) (oi := ?o8) (v := ?v8) ?hi8 (by kernel_rfl) (by kernel_rfl) (by kernel_rfl) (fun c a w h => hP c a _ _ w h) (Or.inl ⟨?hw8, ?hy8⟩) hHeld ?rest8
        case hi8 => simp only [List.getElem?_toArray, List.getElem?_cons_succ, List.getElem?_cons_zero]; rfl
        case hw8 => rfl
        case hy8 =>
          intro w _
          go_simp
          try with_reducible rfl
        simp only [Act.put, List.setIfInBounds_toArray, List.set_cons_zero, List.set_cons_succ]
        refine wpAnyH_done (by kernel_rfl) ?_ _
        exact hQ.out _ _ _ _ _ _ _ Z0 hHeld
      case mo7 => exact AllReadyH.nil
    case mo6 => exact AllReadyH.nil
  case mo4 => exact AllReadyH.nil
theorem stp_results : Tryd.f43.results = #[.cell 2 26] := by kernel_rfl
set_option maxHeartbeats 12800000 in
theorem stp_any (w : World) (t : Tab w) (s : Sag) (hp : s.ph = 1 ∨ s.ph = 2 ∨ s.ph = 3) (h0 : 0 ≤ s.st) (h1 : s.st ≤ 10) (h2 : s.ph = 2 → s.st = 0) : Calls Tryd.prog 43 #[sgv s] w fun e w' => e = .returned (sgv (sdone s)) ∧ Below w.heap.size w w' := by
  obtain ⟨W0, hW0⟩ : ∃ W0, W0 = (w.alloc (.cells #[.int .i64 s.w.book, .int .i64 s.w.cust, .int .i64 s.w.dead, .int .i64 s.w.u0, .int .i64 s.w.u1, .int .i64 s.w.u2, .int .i64 s.w.price, .int .i64 s.ph, .int .i64 s.st, .int .i64 s.rs, .int .i64 s.si] 26)).alloc (.cells #[.int .i64 0, .int .i64 0, .int .i64 0, .int .i64 0, .int .i64 0, .int .i64 0, .int .i64 0, .int .i64 0, .int .i64 0, .int .i64 0, .int .i64 0] 26) := ⟨_, rfl⟩
  have B0 : BoxS W0 w.heap.size s := by rw [hW0]; exact heap_alloc2_old _ _ _
  have Z0 : W0.heap[w.heap.size + 1]? = some (.cells #[.int .i64 0, .int .i64 0, .int .i64 0, .int .i64 0, .int .i64 0, .int .i64 0, .int .i64 0, .int .i64 0, .int .i64 0, .int .i64 0, .int .i64 0] 26 (0, 0)) := by
    have := heap_alloc_new (w.alloc (.cells #[.int .i64 s.w.book, .int .i64 s.w.cust, .int .i64 s.w.dead, .int .i64 s.w.u0, .int .i64 s.w.u1, .int .i64 s.w.u2, .int .i64 s.w.price, .int .i64 s.ph, .int .i64 s.st, .int .i64 s.rs, .int .i64 s.si] 26)) (.cells #[.int .i64 0, .int .i64 0, .int .i64 0, .int .i64 0, .int .i64 0, .int .i64 0, .int .i64 0, .int .i64 0, .int .i64 0, .int .i64 0, .int .i64 0] 26)
    rw [show (w.alloc (.cells #[.int .i64 s.w.book, .int .i64 s.w.cust, .int .i64 s.w.dead, .int .i64 s.w.u0, .int .i64 s.w.u1, .int .i64 s.w.u2, .int .i64 s.w.price, .int .i64 s.ph, .int .i64 s.st, .int .i64 s.rs, .int .i64 s.si] 26)).heap.size = w.heap.size + 1 by simp] at this
    rw [hW0]
    exact this
  have be0 : Below w.heap.size w W0 := by rw [hW0]; exact ((Below.refl _ w).alloc (Nat.le_refl _) _).alloc (by simp) _
  have s0 : w.heap.size + 1 < W0.heap.size := lt_some Z0
  have D : ∀ n : Nat, n = (pst s).length → s.st + 1 = (n : Int) → sdone s = { s with ph := behind s.ph, st := 0 } := fun n hn h => by
    unfold sdone behind
    rcases hp with hp | hp | hp
    · rw [if_pos hp, if_pos hp, if_pos (by unfold nF; rw [hn] at h; unfold pst at h; rw [if_pos hp] at h; exact h)]
    · rw [if_neg (by omega), if_pos hp, if_neg (by omega), if_pos hp]
    · rw [if_neg (by omega), if_neg (by omega), if_pos (by unfold nB; rw [hn] at h; unfold pst at h; rw [if_neg (by omega), if_neg (by omega), if_pos hp] at h; exact h), if_neg (by omega), if_neg (by omega), if_pos hp]
  have D' : ∀ n : Nat, n = (pst s).length → ¬ s.st + 1 = (n : Int) → sdone s = { s with st := s.st + 1 } := fun n hn h => by
    unfold sdone
    rcases hp with hp | hp | hp
    · rw [if_pos hp, if_neg (by unfold nF; rw [hn] at h; unfold pst at h; rw [if_pos hp] at h; exact h)]
    · exact absurd (by rw [hn, h2 hp]; unfold pst; rw [if_neg (by omega), if_pos hp]; rfl) h
    · rw [if_neg (by omega), if_neg (by omega), if_neg (by unfold nB; rw [hn] at h; unfold pst at h; rw [if_neg (by omega), if_neg (by omega), if_pos hp] at h; exact h)]
  obtain ⟨W2, hW2⟩ : ∃ W2, W2 = W0.setCell ⟨w.heap.size, 8, none⟩ (.int .i64 (s.st + 1)) := ⟨_, rfl⟩
  have B2 : BoxS W2 w.heap.size { s with st := s.st + 1 } := by rw [hW2]; exact one_set B0 _
  have gs := grown_set W0 w.heap.size 8 (.int .i64 (s.st + 1))
  rw [← hW2] at gs
  have Z2 : Hid (W2.heap[w.heap.size + 1]? = some (.cells #[.int .i64 0, .int .i64 0, .int .i64 0, .int .i64 0, .int .i64 0, .int .i64 0, .int .i64 0, .int .i64 0, .int .i64 0, .int .i64 0, .int .i64 0] 26 (0, 0))) := (gs.block _ s0 (by simp)).trans Z0
  have b2 : Hid (Below w.heap.size w W2) := be0.trans (below_of_grown gs be0.size fun j hj => by injection hj with hj; omega)
  have T2 : Tab W2 := t.sub b2.out t.lt
  have CB : Hid (∀ w', Below W2.heap.size W2 w' → CellS w' w.heap.size { s with st := s.st + 1 }) := fun w' h => (B2.below h B2.lt).cells
  have F : Hid (∀ w', Below W2.heap.size W2 w' → Calls Tryd.prog 35 #[sgv { s with st := s.st + 1 }] w' fun e w'' => (∃ A c, e = .returned (.slice A (pst s).length c)) ∧ Below W2.heap.size W2 w'') := fun w' h => (steps_any w' { s with st := s.st + 1 }).mono fun _ _ ⟨A, c, a, _, b⟩ => ⟨⟨A, c, a⟩, h.trans (b.mono h.size)⟩
  have f8 : W0.frozen? ⟨w.heap.size, 8, none⟩ = false := one_free B0
  obtain ⟨c0, c1, c2, c3, c4, c5, c6, c7, c8, c9, ca⟩ := B0.cells
  have hwl : w.heap.size < W0.heap.size := B0.lt
  replace D := D _ rfl
  replace D' := D' _ rfl
  generalize sdone s = y at *
  generalize (pst s).length = n at *
  clear t gs Z0 be0 B0 h2
  obtain ⟨⟨bk, cu, de, u0, u1, u2, pr⟩, ph, st, rs, si⟩ := s
  unfold BoxS at B2
  unfold sgv sgc at *
  simp only at *
  replace hW0 := Lib.hid hW0
  replace hW2 := Lib.hid hW2
  replace B2 := Lib.hid B2
  replace T2 := Lib.hid T2
  replace D := Lib.hid D
  replace D' := Lib.hid D'
  go_enter Tryd.func43, Tryd.ntmps43
  go_upto_region 1 with fail
  rw [← hW0.out]
  go_upto_region 2 with fail
  rw [← hW2.out]
  clear c0 c1 c2 c3 c4 c5 c6 c7 c8 c9 ca f8 hW0 hW2 s0 hwl
  refine qs2 _ _ _ _ _ _ _ _ _ _ _ _ _ _ _ _ _ _ _ _ W2 w.heap.size n ⟨⟨bk, cu, de, u0, u1, u2, pr⟩, ph, st + 1, rs, si⟩ CB F _ (fun _ _ d _ _ h => by cases d <;> exact h) (fun _ _ _ _ _ w3 hb3 => ?_)
  have CB3 := CB.out _ hb3
  have B3 := (hb3.block _ (lt_some B2.out)).trans B2.out
  have Z3 : Hid (w3.heap[w.heap.size + 1]? = some (.cells #[.int .i64 0, .int .i64 0, .int .i64 0, .int .i64 0, .int .i64 0, .int .i64 0, .int .i64 0, .int .i64 0, .int .i64 0, .int .i64 0, .int .i64 0] 26 (0, 0))) := (hb3.block _ (lt_some Z2.out)).trans Z2.out
  have b3 : Hid (Below w.heap.size w w3) := b2.out.trans (hb3.mono b2.out.size)
  have T3 := T2.out.below hb3
  have hw3 : w.heap.size < w3.heap.size := lt_some B3
  have hz3 : w.heap.size + 1 < w3.heap.size := lt_some Z3.out
  clear CB F Z2 b2 B2 T2 hb3
  obtain ⟨c0, c1, c2, c3, c4, c5, c6, c7, c8, c9, ca⟩ := CB3
  simp only at c0 c1 c2 c3 c4 c5 c6 c7 c8 c9 ca
  by_cases hf : st + 1 = (n : Int)
  case neg =>
    have EE : Hid (y = ⟨⟨bk, cu, de, u0, u1, u2, pr⟩, ph, st + 1, rs, si⟩) := D'.out hf
    have g1 : (st + 1 == (n : Int)) = false := beq_eq_false_iff_ne.2 hf
    clear D D' hf T3 B3
    go_wp2_with (refine wpList_store_row rfl 26 (.tmp 2) (.tmp 20) rfl (w.heap.size + 1) #[.int .i64 bk, .int .i64 cu, .int .i64 de, .int .i64 u0, .int .i64 u1, .int .i64 u2, .int .i64 pr, .int .i64 ph, .int .i64 (st + 1), .int .i64 rs, .int .i64 si] rfl rfl 26 _ Z3.out sag_size rfl (by simp [Value.oneCell']) ?_)
    refine bodyPost_ret (results_cell_row stp_results _ _ (w.heap.size + 1) 26 _ (0, 0) _ rfl (setRow_heap _ _ _ _ _ _ Z3.out) Tryd.underlying26 rfl sag_size) rfl ?_
    exact ⟨by rw [EE.out], b3.out.trans (setRow_below _ (Nat.le_succ _))⟩
  have EE : Hid (y = ⟨⟨bk, cu, de, u0, u1, u2, pr⟩, behind ph, 0, rs, si⟩) := D.out hf
  have g1 : (st + 1 == (n : Int)) = true := by rw [hf]; simp
  have f7 : w3.frozen? ⟨w.heap.size, 7, none⟩ = false := one_free B3
  have f8 : w3.frozen? ⟨w.heap.size, 8, none⟩ = false := one_free B3
  clear D D' hf
  rcases hp with rfl | rfl | rfl
  · have gs := grown_set w3 w.heap.size 7 (.int .i64 2)
    have gt := grown_set (w3.setCell ⟨w.heap.size, 7, none⟩ (.int .i64 2)) w.heap.size 8 (.int .i64 0)
    have ZZ : Hid (((w3.setCell ⟨w.heap.size, 7, none⟩ (.int .i64 2)).setCell ⟨w.heap.size, 8, none⟩ (.int .i64 0)).heap[w.heap.size + 1]? = some (.cells #[.int .i64 0, .int .i64 0, .int .i64 0, .int .i64 0, .int .i64 0, .int .i64 0, .int .i64 0, .int .i64 0, .int .i64 0, .int .i64 0, .int .i64 0] 26 (0, 0))) := ((grown_trans gs gt).block _ hz3 (by simp)).trans Z3.out
    have bb : Hid (Below w.heap.size w ((w3.setCell ⟨w.heap.size, 7, none⟩ (.int .i64 2)).setCell ⟨w.heap.size, 8, none⟩ (.int .i64 0))) := b3.out.trans (below_of_grown (grown_trans gs gt) b3.out.size fun j hj => by injection hj with hj; omega)
    obtain ⟨d0, -, -, e0, -, -, f0, -, -, g0, -, -, i0, -, -⟩ := T3
    clear gs gt B3
    go_wp2_with (refine wpList_store_row rfl 26 (.tmp 2) (.tmp 20) rfl (w.heap.size + 1) #[.int .i64 bk, .int .i64 cu, .int .i64 de, .int .i64 u0, .int .i64 u1, .int .i64 u2, .int .i64 pr, .int .i64 2, .int .i64 0, .int .i64 rs, .int .i64 si] rfl rfl 26 _ ZZ.out sag_size rfl (by simp [Value.oneCell']) ?_)
    refine bodyPost_ret (results_cell_row stp_results _ _ (w.heap.size + 1) 26 _ (0, 0) _ rfl (setRow_heap _ _ _ _ _ _ ZZ.out) Tryd.underlying26 rfl sag_size) rfl ?_
    exact ⟨by rw [EE.out]; rfl, bb.out.trans (setRow_below _ (Nat.le_succ _))⟩
  · have gs := grown_set w3 w.heap.size 7 (.int .i64 4)
    have gt := grown_set (w3.setCell ⟨w.heap.size, 7, none⟩ (.int .i64 4)) w.heap.size 8 (.int .i64 0)
    have ZZ : Hid (((w3.setCell ⟨w.heap.size, 7, none⟩ (.int .i64 4)).setCell ⟨w.heap.size, 8, none⟩ (.int .i64 0)).heap[w.heap.size + 1]? = some (.cells #[.int .i64 0, .int .i64 0, .int .i64 0, .int .i64 0, .int .i64 0, .int .i64 0, .int .i64 0, .int .i64 0, .int .i64 0, .int .i64 0, .int .i64 0] 26 (0, 0))) := ((grown_trans gs gt).block _ hz3 (by simp)).trans Z3.out
    have bb : Hid (Below w.heap.size w ((w3.setCell ⟨w.heap.size, 7, none⟩ (.int .i64 4)).setCell ⟨w.heap.size, 8, none⟩ (.int .i64 0))) := b3.out.trans (below_of_grown (grown_trans gs gt) b3.out.size fun j hj => by injection hj with hj; omega)
    obtain ⟨d0, -, -, e0, -, -, f0, -, -, g0, -, -, i0, -, -⟩ := T3
    clear gs gt B3
    go_wp2_with (refine wpList_store_row rfl 26 (.tmp 2) (.tmp 20) rfl (w.heap.size + 1) #[.int .i64 bk, .int .i64 cu, .int .i64 de, .int .i64 u0, .int .i64 u1, .int .i64 u2, .int .i64 pr, .int .i64 4, .int .i64 0, .int .i64 rs, .int .i64 si] rfl rfl 26 _ ZZ.out sag_size rfl (by simp [Value.oneCell']) ?_)
    refine bodyPost_ret (results_cell_row stp_results _ _ (w.heap.size + 1) 26 _ (0, 0) _ rfl (setRow_heap _ _ _ _ _ _ ZZ.out) Tryd.underlying26 rfl sag_size) rfl ?_
    exact ⟨by rw [EE.out]; rfl, bb.out.trans (setRow_below _ (Nat.le_succ _))⟩
  · have gs := grown_set w3 w.heap.size 7 (.int .i64 5)
    have gt := grown_set (w3.setCell ⟨w.heap.size, 7, none⟩ (.int .i64 5)) w.heap.size 8 (.int .i64 0)
    have ZZ : Hid (((w3.setCell ⟨w.heap.size, 7, none⟩ (.int .i64 5)).setCell ⟨w.heap.size, 8, none⟩ (.int .i64 0)).heap[w.heap.size + 1]? = some (.cells #[.int .i64 0, .int .i64 0, .int .i64 0, .int .i64 0, .int .i64 0, .int .i64 0, .int .i64 0, .int .i64 0, .int .i64 0, .int .i64 0, .int .i64 0] 26 (0, 0))) := ((grown_trans gs gt).block _ hz3 (by simp)).trans Z3.out
    have bb : Hid (Below w.heap.size w ((w3.setCell ⟨w.heap.size, 7, none⟩ (.int .i64 5)).setCell ⟨w.heap.size, 8, none⟩ (.int .i64 0))) := b3.out.trans (below_of_grown (grown_trans gs gt) b3.out.size fun j hj => by injection hj with hj; omega)
    obtain ⟨d0, -, -, e0, -, -, f0, -, -, g0, -, -, i0, -, -⟩ := T3
    clear gs gt B3
    go_wp2_with (refine wpList_store_row rfl 26 (.tmp 2) (.tmp 20) rfl (w.heap.size + 1) #[.int .i64 bk, .int .i64 cu, .int .i64 de, .int .i64 u0, .int .i64 u1, .int .i64 u2, .int .i64 pr, .int .i64 5, .int .i64 0, .int .i64 rs, .int .i64 si] rfl rfl 26 _ ZZ.out sag_size rfl (by simp [Value.oneCell']) ?_)
    refine bodyPost_ret (results_cell_row stp_results _ _ (w.heap.size + 1) 26 _ (0, 0) _ rfl (setRow_heap _ _ _ _ _ _ ZZ.out) Tryd.underlying26 rfl sag_size) rfl ?_
    exact ⟨by rw [EE.out]; rfl, bb.out.trans (setRow_below _ (Nat.le_succ _))⟩
theorem qnext_results : Tryd.f10.results = #[.cell 2 30, .tmp 3] := by kernel_rfl
theorem pst_at {s : Sag} (h : smay s = true) (hv : sover s = false) : ∃ k : Nat, s.st = (k : Int) ∧ (pst s)[k]? = some (snext s).1 ∧ (snext s).2 = true := by
  obtain ⟨-, -, hc⟩ := smay_true h
  unfold sover at hv
  rw [h, Bool.true_and, Bool.or_eq_false_iff, beq_eq_false_iff_ne, beq_eq_false_iff_ne] at hv
  rcases hc with ⟨hp, h0, h1, -⟩ | ⟨hp, h0, -⟩ | ⟨hp, h0, h1, -⟩ | ⟨hp, -, -⟩ | ⟨hp, -, -⟩
  · refine ⟨s.st.toNat, by omega, ?_, by rw [snext_1 h hp]⟩
    rw [snext_1 h hp]; unfold pst; rw [if_pos hp]; exact at_F h0 h1
  · refine ⟨0, by omega, ?_, by rw [snext_2 h hp]⟩
    rw [snext_2 h hp]; unfold pst; rw [if_neg (by omega), if_pos hp]; rfl
  · refine ⟨s.st.toNat, by omega, ?_, by rw [snext_3 h hp]⟩
    rw [snext_3 h hp]; unfold pst; rw [if_neg (by omega), if_neg (by omega), if_pos hp]; exact at_B h0 h1
  · exact absurd hp hv.1
  · exact absurd hp hv.2
theorem snext_ov {s : Sag} (h : smay s = false ∨ sover s = true) : snext s = (z0, false) := by
  rcases h with h | h
  · exact snext_no h
  · unfold sover at h
    rw [Bool.and_eq_true, Bool.or_eq_true, beq_iff_eq, beq_iff_eq] at h
    exact snext_4 h.1 h.2
set_option maxHeartbeats 6400000 in
theorem qnext_any (w : World) (t : Tab w) (s : Sag) : Calls Tryd.prog 10 #[sgv s] w fun e w' => e = .returned (.tuple #[spv (snext s).1, .bool (snext s).2]) ∧ Below w.heap.size w w' := by
  obtain ⟨W0, hW0⟩ : ∃ W0, W0 = (w.alloc (.cells #[.int .i64 s.w.book, .int .i64 s.w.cust, .int .i64 s.w.dead, .int .i64 s.w.u0, .int .i64 s.w.u1, .int .i64 s.w.u2, .int .i64 s.w.price, .int .i64 s.ph, .int .i64 s.st, .int .i64 s.rs, .int .i64 s.si] 26)).alloc (.cells #[.int .i64 0, .int .i64 0, .int .i64 0, .int .i64 0, .int .i64 0, .int .i64 0] 30) := ⟨_, rfl⟩
  have B0 : BoxS W0 w.heap.size s := by rw [hW0]; exact heap_alloc2_old _ _ _
  have Z0 : W0.heap[w.heap.size + 1]? = some (.cells #[.int .i64 0, .int .i64 0, .int .i64 0, .int .i64 0, .int .i64 0, .int .i64 0] 30 (0, 0)) := by
    have := heap_alloc_new (w.alloc (.cells #[.int .i64 s.w.book, .int .i64 s.w.cust, .int .i64 s.w.dead, .int .i64 s.w.u0, .int .i64 s.w.u1, .int .i64 s.w.u2, .int .i64 s.w.price, .int .i64 s.ph, .int .i64 s.st, .int .i64 s.rs, .int .i64 s.si] 26)) (.cells #[.int .i64 0, .int .i64 0, .int .i64 0, .int .i64 0, .int .i64 0, .int .i64 0] 30)
    rw [show (w.alloc (.cells #[.int .i64 s.w.book, .int .i64 s.w.cust, .int .i64 s.w.dead, .int .i64 s.w.u0, .int .i64 s.w.u1, .int .i64 s.w.u2, .int .i64 s.w.price, .int .i64 s.ph, .int .i64 s.st, .int .i64 s.rs, .int .i64 s.si] 26)).heap.size = w.heap.size + 1 by simp] at this
    rw [hW0]
    exact this
  have be0 : Below w.heap.size w W0 := by rw [hW0]; exact ((Below.refl _ w).alloc (Nat.le_refl _) _).alloc (by simp) _
  have t0 := t.below be0
  have M := Lib.hid (smay_any W0 t0 s)
  have s0 : w.heap.size + 1 < W0.heap.size := lt_some Z0
  have V : Hid (∀ w', Below W0.heap.size W0 w' → Calls Tryd.prog 17 #[sgv s] w' fun e w'' => e = .returned (.bool (sover s)) ∧ Below w'.heap.size w' w'') := fun w' h => qover_any w' (t0.below h) s
  clear t t0
  unfold sgv at *
  unfold sgc at *
  replace hW0 := Lib.hid hW0
  go_enter Tryd.func10, Tryd.ntmps10
  go_wp2_with fail
  rw [← hW0.out]
  refine M.out.mono ?_
  rintro e w1 ⟨rfl, h1⟩
  have B1 := B0.below h1 B0.lt
  have Z1 := Lib.hid ((h1.block _ s0).trans Z0)
  have b1 : Hid (Below w.heap.size w w1) := be0.trans (h1.mono be0.size)
  have hwl : w.heap.size < w1.heap.size := B1.lt
  obtain ⟨c0, c1, c2, c3, c4, c5, c6, c7, c8, c9, ca⟩ := B1.cells
  cases hm : smay s with
  | false =>
    have EE := snext_ov (.inl hm)
    unfold z0 at EE
    replace EE := Lib.hid EE
    clear hm V M h1 B0 Z0 be0 hW0 s0 B1
    go_wp2_with (refine wpList_store_row rfl 30 (.tmp 2) (.tmp 11) rfl (w.heap.size + 1) #[.int .i64 0, .int .i64 0, .int .i64 0, .int .i64 0, .int .i64 0, .int .i64 0] rfl rfl 30 _ Z1.out Pl.ask_size rfl (one6 _ _ _ _ _ _) ?_)
    refine bodyPost_ret (res_row qnext_results _ _ (w.heap.size + 1) 30 #[.int .i64 0, .int .i64 0, .int .i64 0, .int .i64 0, .int .i64 0, .int .i64 0] (0, 0) _ rfl (setRow_heap _ _ _ _ _ _ Z1.out) Tryd.underlying30 rfl Pl.ask_size) rfl ?_
    exact ⟨by rw [EE.out]; rfl, b1.out.trans (setRow_below _ (Nat.le_succ _))⟩
  | true =>
    have K := V.out w1 h1
    clear M V B0 Z0 be0 hW0 s0 h1
    replace K := Lib.hid K
    go_wp2_with fail
    refine K.out.mono ?_
    rintro e w2 ⟨rfl, h2⟩
    have B2 := B1.below h2 B1.lt
    have Z2 := Lib.hid ((h2.block _ (lt_some Z1.out)).trans Z1.out)
    have b2 : Hid (Below w.heap.size w w2) := b1.out.trans (h2.mono b1.out.size)
    clear K c0 c1 c2 c3 c4 c5 c6 c7 c8 c9 ca Z1 b1 B1 h2 hwl
    have hwl : w.heap.size < w2.heap.size := B2.lt
    cases hv : sover s with
    | true =>
      have EE := snext_ov (.inr hv)
      unfold z0 at EE
      replace EE := Lib.hid EE
      clear hm hv B2
      go_wp2_with (refine wpList_store_row rfl 30 (.tmp 2) (.tmp 11) rfl (w.heap.size + 1) #[.int .i64 0, .int .i64 0, .int .i64 0, .int .i64 0, .int .i64 0, .int .i64 0] rfl rfl 30 _ Z2.out Pl.ask_size rfl (one6 _ _ _ _ _ _) ?_)
      refine bodyPost_ret (res_row qnext_results _ _ (w.heap.size + 1) 30 #[.int .i64 0, .int .i64 0, .int .i64 0, .int .i64 0, .int .i64 0, .int .i64 0] (0, 0) _ rfl (setRow_heap _ _ _ _ _ _ Z2.out) Tryd.underlying30 rfl Pl.ask_size) rfl ?_
      exact ⟨by rw [EE.out]; rfl, b2.out.trans (setRow_below _ (Nat.le_succ _))⟩
    | false =>
      obtain ⟨k, hk, hl, hn⟩ := pst_at hm hv
      have EE : snext s = ((snext s).1, true) := by rw [← hn]
      generalize (snext s).1 = a at *
      have CB : Hid (∀ w', Below (w.heap.size + 1) w2 w' → CellS w' w.heap.size s) := fun w' h => (B2.below h (Nat.lt_succ_self _)).cells
      have F : Hid (∀ w', Below (w.heap.size + 1) w2 w' → Calls Tryd.prog 35 #[.agg #[.int .i64 s.w.book, .int .i64 s.w.cust, .int .i64 s.w.dead, .int .i64 s.w.u0, .int .i64 s.w.u1, .int .i64 s.w.u2, .int .i64 s.w.price, .int .i64 s.ph, .int .i64 (k : Int), .int .i64 s.rs, .int .i64 s.si]] w' fun e w'' => ∃ A c, e = .returned (.slice A (pst s).length c) ∧ RowT 30 w'' (w.heap.size + 1) (.slice A (pst s).length c) (pst s).length (pst s) ∧ Below (w.heap.size + 1) w2 w'' ∧ Below w'.heap.size w' w'') := fun w' h => by
        have hz : w.heap.size + 1 ≤ w'.heap.size := by have := h.size; have := lt_some Z2.out; omega
        have := steps_any w' s
        unfold sgv sgc at this
        rw [hk] at this
        exact this.mono fun _ _ ⟨A, c, e1, e2, e3⟩ => ⟨A, c, e1, rt_mono e2 hz, h.trans (e3.mono hz), e3⟩
      have hi : (k : Int) < ((pst s).length : Int) := by have := (List.getElem?_eq_some_iff.1 hl).1; omega
      replace EE := Lib.hid EE
      clear hm hv hn B2
      go_upto_region 3 with fail
      refine qn3 _ _ _ _ _ _ _ _ _ _ _ _ _ _ _ _ w2 w.heap.size (w.heap.size + 1) _ k s a _ CB F Z2.out hk hl hi _ (fun _ _ d _ _ h => by cases d <;> exact h) (fun _ _ _ _ _ _ w3 hz hb => ?_)
      have E : Hid (Below w.heap.size w w3) := b2.out.trans (hb.mono (Nat.le_succ _))
      replace hz := Lib.hid hz
      clear hb F hl hk hi CB
      go_wp2_with fail
      refine bodyPost_ret (res_row qnext_results _ _ (w.heap.size + 1) 30 #[Value.int .i64 a.node, .int .i64 a.op.kind, .int .i64 a.op.book, .int .i64 a.op.units, .int .i64 a.op.cust, .int .i64 a.op.amount] (0, 0) _ rfl hz.out Tryd.underlying30 rfl Pl.ask_size) rfl ?_
      exact ⟨by rw [EE.out]; rfl, E.out⟩
end Sg
end Go.Proofs.YtakicogelkdofaaDoor

namespace Go.Proofs.YtakicogelkdofaaDoor
set_option maxRecDepth 100000
open Go.RowKit
open Go.Proofs.YtakicogelkdofaaDoor.Pk (one_at one_free one_set lt_some grown_set grown_trans below_grown grown_refl)
namespace Sg
open Wt (Wan may Opn mayOp may_any inR)
open Pl (Stp fwd bck cap z0 wanv spv regionAt one6 wpList_store_row setRow_below below_of_grown)

noncomputable def qa_8 : Code := (Tryd.f18.body.bind (regionAt 8)).getD .skip
set_option maxHeartbeats 12800000 in
theorem qa8 (z0 z1 z2 z5 z7 z8 z9 z10 z11 z12 z13 z14 z15 z16 z17 z18 z19 z20 z21 z22 z23 z24 z25 z26 z27 z28 z29 z30 z31 z32 z33 z34 z35 z36 : Value) (W : World) (q qa qz : Nat) (s : Sag) (a : Stp) (r : Int) (y : Sag) (b : Bool)
    (CB : Hid (∀ w', Below qz W w' → CellS w' q s))
    (CA : Hid (∀ w', Below qz W w' → w'.cell? ⟨qa, 0, none⟩ = some (.int .i64 a.node) ∧ w'.cell? ⟨qa, 1, none⟩ = some (.int .i64 a.op.kind) ∧ w'.cell? ⟨qa, 2, none⟩ = some (.int .i64 a.op.book) ∧ w'.cell? ⟨qa, 3, none⟩ = some (.int .i64 a.op.units) ∧ w'.cell? ⟨qa, 4, none⟩ = some (.int .i64 a.op.cust) ∧ w'.cell? ⟨qa, 5, none⟩ = some (.int .i64 a.op.amount)))
    (F1 : Hid (∀ w', Below qz W w' → Calls Tryd.prog 45 #[.agg #[.int .i64 a.node, .int .i64 a.op.kind, .int .i64 a.op.book, .int .i64 a.op.units, .int .i64 a.op.cust, .int .i64 a.op.amount]] w' fun e w'' => e = .returned (.int .i64 r) ∧ Below qz W w'' ∧ Below w'.heap.size w' w''))
    (F2 : Hid (∀ w', Below qz W w' → Calls Tryd.prog 44 #[.agg #[.int .i64 s.w.book, .int .i64 s.w.cust, .int .i64 s.w.dead, .int .i64 s.w.u0, .int .i64 s.w.u1, .int .i64 s.w.u2, .int .i64 s.w.price, .int .i64 s.ph, .int .i64 s.st, .int .i64 s.rs, .int .i64 s.si], .int .i64 r] w' fun e w'' => e = .returned (.tuple #[.agg #[.int .i64 y.w.book, .int .i64 y.w.cust, .int .i64 y.w.dead, .int .i64 y.w.u0, .int .i64 y.w.u1, .int .i64 y.w.u2, .int .i64 y.w.price, .int .i64 y.ph, .int .i64 y.st, .int .i64 y.rs, .int .i64 y.si], .bool b]) ∧ Below qz W w'' ∧ Below w'.heap.size w' w''))
    (Z : W.heap[qz]? = some (.cells #[.int .i64 0, .int .i64 0, .int .i64 0, .int .i64 0, .int .i64 0, .int .i64 0, .int .i64 0, .int .i64 0, .int .i64 0, .int .i64 0, .int .i64 0] 26 (0, 0)))
    (Q : Exit → Act → World → Prop)
    (hP : ∀ c a d v w, Q (.panic c) (Act.put a d v) w → Q (.panic c) a w)
    (hQ : ∀ (y30 y31 y32 y33 y34 y35 : Value)  (W3 : World), W3.heap[qz]? = some (.cells #[.int .i64 y.w.book, .int .i64 y.w.cust, .int .i64 y.w.dead, .int .i64 y.w.u0, .int .i64 y.w.u1, .int .i64 y.w.u2, .int .i64 y.w.price, .int .i64 y.ph, .int .i64 y.st, .int .i64 y.rs, .int .i64 y.si] 26 (0, 0)) → Below qz W W3 → Q .normal ⟨#[z0, z1, z2, .pointer (some ⟨q, 0, none⟩), .pointer (some ⟨qa, 0, none⟩), z5, .pointer (some ⟨qz, 0, none⟩), .bool b, z8, z9, z10, z11, z12, z13, z14, z15, z16, z17, z18, z19, z20, z21, z22, z23, z24, z25, z26, z27, z28, z29, y30, y31, y32, y33, y34, y35, z36], []⟩ W3) :
    Code.wp Tryd.prog qa_8 Q ⟨#[z0, z1, z2, .pointer (some ⟨q, 0, none⟩), .pointer (some ⟨qa, 0, none⟩), z5, .pointer (some ⟨qz, 0, none⟩), z7, z8, z9, z10, z11, z12, z13, z14, z15, z16, z17, z18, z19, z20, z21, z22, z23, z24, z25, z26, z27, z28, z29, z30, z31, z32, z33, z34, z35, z36], []⟩ W := by
  conv => arg 2; whnf
  have b0 : Below qz W W.drew := ⟨rfl, rfl, rfl, Nat.le_refl _, fun _ _ => rfl⟩
  refine wp_region_held_drew (S := fun w => Below qz W w) (by kernel_rfl) b0 (fun hHeld => ?_)
  replace hQ := Lib.hid hQ
  clear b0
  obtain ⟨v0, hv⟩ : ∃ v, v = W.drew := ⟨_, rfl⟩
  have Z0 : v0.heap[qz]? = some (.cells #[.int .i64 0, .int .i64 0, .int .i64 0, .int .i64 0, .int .i64 0, .int .i64 0, .int .i64 0, .int .i64 0, .int .i64 0, .int .i64 0, .int .i64 0] 26 (0, 0)) := by rw [hv]; exact Z
  rw [← hv] at hHeld ⊢
  clear hv
  refine' wpAnyH_take (i := 0) (oi := ?o1) (v := ?v1) ?hi1 (by kernel_rfl) (by kernel_rfl) (by kernel_rfl) (fun c a w h => hP c a _ _ w h) (Or.inl ⟨?hw1, ?hy1⟩) hHeld ?rest1
  case hi1 => simp only [List.getElem?_toArray, List.getElem?_cons_zero]; rfl
  case hw1 => rfl
  case hy1 =>
    intro w hSw
    obtain ⟨c0, c1, c2, c3, c4, c5, c6, c7, c8, c9, ca⟩ := CB.out _ hSw
    go_simp
    try with_reducible rfl
  simp only [Act.put, List.setIfInBounds_toArray, List.set_cons_zero, List.set_cons_succ]
  refine' wpAnyH_take (i := 1) (oi := ?o2) (v := ?v2) ?hi2 (by kernel_rfl) (by kernel_rfl) (by kernel_rfl) (fun c a w h => hP c a _ _ w h) (Or.inl ⟨?hw2, ?hy2⟩) hHeld ?rest2
  case hi2 => simp only [List.getElem?_toArray, List.getElem?_cons_succ, List.getElem?_cons_zero]; rfl
  case hw2 => rfl
  case hy2 =>
    intro w hSw
    obtain ⟨a0, a1, a2, a3, a4, a5⟩ := CA.out _ hSw
    go_simp
    try with_reducible rfl
  simp only [Act.put, List.setIfInBounds_toArray, List.set_cons_zero, List.set_cons_succ]
  refine wpAnyH_ready (rs := [2]) (by kernel_rfl) (by simp) ?_
  refine' AllReadyH.cons (i := 2) (o := ?o3) ?hi3 (fun K hK => ?st3) ?mo3
  case hi3 => simp only [List.getElem?_toArray, List.getElem?_cons_succ, List.getElem?_cons_zero]; rfl
  case st3 =>
    go_simp
    refine (F1.out _ hHeld).mono ?_
    rintro e v1 ⟨rfl, h6, h7⟩
    replace Z0 := (h7.block _ (lt_some Z0)).trans Z0
    clear h7 hHeld
    go_simp
    refine hK.out _ _ h6 (fun hHeld => ?_)
    clear hK K h6
    try simp only [Act.put, List.setIfInBounds_toArray, List.set_cons_zero, List.set_cons_succ]
    refine wpAnyH_ready (rs := [3]) (by kernel_rfl) (by simp) ?_
    refine' AllReadyH.cons (i := 3) (o := ?o4) ?hi4 (fun K hK => ?st4) ?mo4
    case hi4 => simp only [List.getElem?_toArray, List.getElem?_cons_succ, List.getElem?_cons_zero]; rfl
    case st4 =>
      go_simp
      refine (F2.out _ hHeld).mono ?_
      rintro e v2 ⟨rfl, h6, h7⟩
      replace Z0 := (h7.block _ (lt_some Z0)).trans Z0
      clear h7 hHeld
      go_simp
      refine hK.out _ _ h6 (fun hHeld => ?_)
      clear hK K h6
      try simp only [Act.put, List.setIfInBounds_toArray, List.set_cons_zero, List.set_cons_succ]
      refine' wpAnyH_take (i := 4) (oi := ?o5) (v := ?v5) ?hi5 (by kernel_rfl) (by kernel_rfl) (by kernel_rfl) (fun c a w h => hP c a _ _ w h) (Or.inl ⟨?hw5, ?hy5⟩) hHeld ?rest5
      case hi5 => simp only [List.getElem?_toArray, List.getElem?_cons_succ, List.getElem?_cons_zero]; rfl
      case hw5 => rfl
      case hy5 =>
        intro w _
        go_simp
        try with_reducible rfl
      simp only [Act.put, List.setIfInBounds_toArray, List.set_cons_zero, List.set_cons_succ]
      refine' wpAnyH_take (i := 5) (oi := ?o6) (v := ?v6) ?hi6 (by kernel_rfl) (by kernel_rfl) (by kernel_rfl) (fun c a w h => hP c a _ _ w h) (Or.inl ⟨?hw6, ?hy6⟩) hHeld ?rest6
      case hi6 => simp only [List.getElem?_toArray, List.getElem?_cons_succ, List.getElem?_cons_zero]; rfl
      case hw6 => rfl
      case hy6 =>
        intro w _
        go_simp
        try with_reducible rfl
      simp only [Act.put, List.setIfInBounds_toArray, List.set_cons_zero, List.set_cons_succ]
      refine wpAnyH_ready (rs := [6]) (by kernel_rfl) (by simp) ?_
      refine' AllReadyH.cons (i := 6) (o := ?o7) ?hi7 (fun K hK => ?st7) ?mo7
      case hi7 => simp only [List.getElem?_toArray, List.getElem?_cons_succ, List.getElem?_cons_zero]; rfl
      case st7 =>
        refine step_store_row rfl 26 (.tmp 6) (.tmp 34) rfl qz #[.int .i64 y.w.book, .int .i64 y.w.cust, .int .i64 y.w.dead, .int .i64 y.w.u0, .int .i64 y.w.u1, .int .i64 y.w.u2, .int .i64 y.w.price, .int .i64 y.ph, .int .i64 y.st, .int .i64 y.rs, .int .i64 y.si] rfl rfl 26 _ Z0 sag_size rfl (by simp [Value.oneCell']) ?_
        refine hK.out _ _ (hHeld.trans (setRow_below _ (Nat.le_refl _))) (fun hHeld2 => ?_)
        clear hK K
        try simp only [Act.put]
        replace Z0 : (v2.setRow qz #[.int .i64 y.w.book, .int .i64 y.w.cust, .int .i64 y.w.dead, .int .i64 y.w.u0, .int .i64 y.w.u1, .int .i64 y.w.u2, .int .i64 y.w.price, .int .i64 y.ph, .int .i64 y.st, .int .i64 y.rs, .int .i64 y.si]).heap[qz]? = some (.cells #[.int .i64 y.w.book, .int .i64 y.w.cust, .int .i64 y.w.dead, .int .i64 y.w.u0, .int .i64 y.w.u1, .int .i64 y.w.u2, .int .i64 y.w.price, .int .i64 y.ph, .int .i64 y.st, .int .i64 y.rs, .int .i64 y.si] 26 (0, 0)) := setRow_heap _ _ _ _ _ _ Z0
        obtain ⟨v3, hv⟩ : ∃ v, v = v2.setRow qz #[.int .i64 y.w.book, .int .i64 y.w.cust, .int .i64 y.w.dead, .int .i64 y.w.u0, .int .i64 y.w.u1, .int .i64 y.w.u2, .int .i64 y.w.price, .int .i64 y.ph, .int .i64 y.st, .int .i64 y.rs, .int .i64 y.si] := ⟨_, rfl⟩
        rw [← hv] at Z0 hHeld2 ⊢
        clear hv hHeld
        have hHeld := hHeld2
        clear hHeld2
        refine' wpAnyH_take (i := 7) (oi := ?o8) (v := ?v8) ?hi8 (by kernel_rfl) (by kernel_rfl) (by kernel_rfl) (fun c a w h => hP c a _ _ w h) (Or.inl ⟨?hw8, ?hy8⟩) hHeld ?rest8
        case hi8 => simp only [List.getElem?_toArray, List.getElem?_cons_succ, List.getElem?_cons_zero]; rfl
        case hw8 => rfl
        case hy8 =>
          intro w _
          go_simp
          try with_reducible rfl
        simp only [Act.put, List.setIfInBounds_toArray, List.set_cons_zero, List.set_cons_succ]
        refine wpAnyH_done (by kernel_rfl) ?_ _
        exact hQ.out _ _ _ _ _ _ _ Z0 hHeld
      case mo7 => exact AllReadyH.nil
    case mo4 => exact AllReadyH.nil
  case mo3 => exact AllReadyH.nil
theorem qans_results : Tryd.f18.results = #[.cell 6 26, .tmp 7] := by kernel_rfl
set_option maxHeartbeats 6400000 in
theorem qans_any (w : World) (t : Tab w) (s : Sag) (a : Stp) (n : Int) : Calls Tryd.prog 18 #[sgv s, spv a, .int .i64 n] w fun e w' => e = .returned (.tuple #[sgv (sans s a n).1, .bool (sans s a n).2]) ∧ Below w.heap.size w w' := by
  obtain ⟨W0, hW0⟩ : ∃ W0, W0 = ((w.alloc (.cells #[.int .i64 s.w.book, .int .i64 s.w.cust, .int .i64 s.w.dead, .int .i64 s.w.u0, .int .i64 s.w.u1, .int .i64 s.w.u2, .int .i64 s.w.price, .int .i64 s.ph, .int .i64 s.st, .int .i64 s.rs, .int .i64 s.si] 26)).alloc (.cells #[.int .i64 a.node, .int .i64 a.op.kind, .int .i64 a.op.book, .int .i64 a.op.units, .int .i64 a.op.cust, .int .i64 a.op.amount] 30)).alloc (.cells #[.int .i64 0, .int .i64 0, .int .i64 0, .int .i64 0, .int .i64 0, .int .i64 0, .int .i64 0, .int .i64 0, .int .i64 0, .int .i64 0, .int .i64 0] 26) := ⟨_, rfl⟩
  obtain ⟨Wa, hWa⟩ : ∃ Wa, Wa = (w.alloc (.cells #[.int .i64 s.w.book, .int .i64 s.w.cust, .int .i64 s.w.dead, .int .i64 s.w.u0, .int .i64 s.w.u1, .int .i64 s.w.u2, .int .i64 s.w.price, .int .i64 s.ph, .int .i64 s.st, .int .i64 s.rs, .int .i64 s.si] 26)).alloc (.cells #[.int .i64 a.node, .int .i64 a.op.kind, .int .i64 a.op.book, .int .i64 a.op.units, .int .i64 a.op.cust, .int .i64 a.op.amount] 30) := ⟨_, rfl⟩
  have sa : Wa.heap.size = w.heap.size + 2 := by rw [hWa]; simp
  have Ba : BoxS Wa w.heap.size s := by rw [hWa]; exact heap_alloc2_old _ _ _
  have Aa : Wa.heap[w.heap.size + 1]? = some (.cells #[.int .i64 a.node, .int .i64 a.op.kind, .int .i64 a.op.book, .int .i64 a.op.units, .int .i64 a.op.cust, .int .i64 a.op.amount] 30 (0, 0)) := by
    have := heap_alloc_new (w.alloc (.cells #[.int .i64 s.w.book, .int .i64 s.w.cust, .int .i64 s.w.dead, .int .i64 s.w.u0, .int .i64 s.w.u1, .int .i64 s.w.u2, .int .i64 s.w.price, .int .i64 s.ph, .int .i64 s.st, .int .i64 s.rs, .int .i64 s.si] 26)) (.cells #[.int .i64 a.node, .int .i64 a.op.kind, .int .i64 a.op.book, .int .i64 a.op.units, .int .i64 a.op.cust, .int .i64 a.op.amount] 30)
    rw [show (w.alloc (.cells #[.int .i64 s.w.book, .int .i64 s.w.cust, .int .i64 s.w.dead, .int .i64 s.w.u0, .int .i64 s.w.u1, .int .i64 s.w.u2, .int .i64 s.w.price, .int .i64 s.ph, .int .i64 s.st, .int .i64 s.rs, .int .i64 s.si] 26)).heap.size = w.heap.size + 1 by simp] at this
    rw [hWa]
    exact this
  have ba : Below w.heap.size w Wa := by rw [hWa]; exact ((Below.refl _ w).alloc (Nat.le_refl _) _).alloc (by simp) _
  have e0 : W0 = Wa.alloc (.cells #[.int .i64 0, .int .i64 0, .int .i64 0, .int .i64 0, .int .i64 0, .int .i64 0, .int .i64 0, .int .i64 0, .int .i64 0, .int .i64 0, .int .i64 0] 26) := by rw [hW0, hWa]
  have bz : Below Wa.heap.size Wa W0 := by rw [e0]; exact (Below.refl _ Wa).alloc (Nat.le_refl _) _
  have B0 : BoxS W0 w.heap.size s := Ba.below bz Ba.lt
  have A0 : W0.heap[w.heap.size + 1]? = _ := (bz.block _ (lt_some Aa)).trans Aa
  have Z0 : W0.heap[w.heap.size + 2]? = some (.cells #[.int .i64 0, .int .i64 0, .int .i64 0, .int .i64 0, .int .i64 0, .int .i64 0, .int .i64 0, .int .i64 0, .int .i64 0, .int .i64 0, .int .i64 0] 26 (0, 0)) := by rw [← sa, e0]; exact heap_alloc_new _ _
  have be0 : Below w.heap.size w W0 := ba.trans (bz.mono ba.size)
  have t0 := t.below be0
  have M := qnext_any W0 t0 s
  have LN : ¬ ((snext s).2 = true ∧ (snext s).1 = a ∧ (n = 1 ∨ n = 2)) → sans s a n = (s, false) := fun h => by unfold sans; rw [if_neg h]
  have OK : (snext s).2 = true → smay s = true ∧ (s.ph = 1 ∨ s.ph = 2 ∨ s.ph = 3) ∧ 0 ≤ s.st ∧ s.st ≤ 10 ∧ (s.ph = 2 → s.st = 0) := fun h => by
    cases hm : smay s with
    | false => rw [snext_no hm] at h; cases h
    | true =>
      obtain ⟨-, -, hc⟩ := smay_true hm
      have l1 := Pl.fwd_len s.w
      have l2 := Pl.bck_len s.w
      unfold nF nB at hc
      rcases hc with ⟨hp, h0, h1, -⟩ | ⟨hp, h0, -⟩ | ⟨hp, h0, h1, -⟩ | ⟨hp, -, -⟩ | ⟨hp, -, -⟩
      · exact ⟨rfl, .inl hp, h0, by omega, by omega⟩
      · exact ⟨rfl, .inr (.inl hp), by omega, by omega, fun _ => h0⟩
      · exact ⟨rfl, .inr (.inr hp), h0, by omega, by omega⟩
      · rw [snext_4 hm (.inl hp)] at h; cases h
      · rw [snext_4 hm (.inr hp)] at h; cases h
  have L1 : (snext s).2 = true → (snext s).1 = a → n = 1 → sans s a n = (sdone s, true) := fun h1 h2 h3 => by unfold sans; rw [if_pos ⟨h1, h2, .inl h3⟩, if_neg (by omega)]
  have L2 : (snext s).2 = true → (snext s).1 = a → n = 2 → sans s a n = stn s (sref a) := fun h1 h2 h3 => by
    unfold sans stn sref
    rw [if_pos ⟨h1, h2, .inr h3⟩, if_pos h3]
    by_cases hp : s.ph = 1
    · have hm : smay s = true ∧ s.ph = 1 := ⟨(OK h1).1, hp⟩
      by_cases hk : a.op.kind = 4
      · simp only [if_pos hp, if_pos hk, if_pos hm]
      · simp only [if_pos hp, if_neg hk, if_pos hm]
    · rw [if_neg hp, if_neg (fun h => hp h.2)]
  have RS : (snext s).2 = true → Hid (∀ w', Below W0.heap.size W0 w' → Calls Tryd.prog 43 #[sgv s] w' fun e w'' => e = .returned (sgv (sdone s)) ∧ Below w'.heap.size w' w'') := fun h w' hb => stp_any w' (t0.below hb) s (OK h).2.1 (OK h).2.2.1 (OK h).2.2.2.1 (OK h).2.2.2.2
  have RT : Hid (∀ w', Below (w.heap.size + 2) W0 w' → Calls Tryd.prog 44 #[sgv s, .int .i64 (sref a)] w' fun e w'' => e = .returned (.tuple #[sgv (stn s (sref a)).1, .bool (stn s (sref a)).2]) ∧ Below w'.heap.size w' w'') := fun w' hb => stn_any w' (t0.sub hb (by omega)) s (sref a)
  have RR : Hid (∀ w', Calls Tryd.prog 45 #[spv a] w' fun e w'' => e = .returned (.int .i64 (sref a)) ∧ Below w'.heap.size w' w'') := fun w' => sref_any w' a
  clear OK t t0
  generalize stn s (sref a) = yt at *
  generalize sref a = rf at *
  generalize sans s a n = y at *
  generalize sdone s = yd at *
  generalize (snext s).1 = nx at *
  generalize (snext s).2 = ok at *
  have CB0 : Hid (∀ w', Below (w.heap.size + 2) W0 w' → BoxS w' w.heap.size s ∧ w'.heap[w.heap.size + 1]? = some (.cells #[.int .i64 a.node, .int .i64 a.op.kind, .int .i64 a.op.book, .int .i64 a.op.units, .int .i64 a.op.cust, .int .i64 a.op.amount] 30 (0, 0))) := fun w' h => ⟨(h.block _ (by omega)).trans B0, (h.block _ (by omega)).trans A0⟩
  have z0 : w.heap.size + 2 < W0.heap.size := lt_some Z0
  clear sa Ba Aa ba e0 bz hWa B0 A0
  unfold sgv sgc at *
  unfold spv at *
  replace hW0 := Lib.hid hW0
  replace M := Lib.hid M
  replace LN := Lib.hid LN
  replace L1 := Lib.hid L1
  replace L2 := Lib.hid L2
  replace RS := Lib.hid RS
  go_enter Tryd.func18, Tryd.ntmps18
  go_wp2_with fail
  rw [← hW0.out]
  refine M.out.mono ?_
  rintro e w1 ⟨rfl, h1⟩
  go_upto_region 2 with fail
  obtain ⟨W1, hW1⟩ : ∃ W1, W1 = w1.alloc (.cells #[.int .i64 nx.node, .int .i64 nx.op.kind, .int .i64 nx.op.book, .int .i64 nx.op.units, .int .i64 nx.op.cust, .int .i64 nx.op.amount] 30) := ⟨_, rfl⟩
  rw [← hW1]
  have bW1 : Below w1.heap.size w1 W1 := by rw [hW1]; exact (Below.refl _ _).alloc (Nat.le_refl _) _
  have h2 : Below W0.heap.size W0 W1 := h1.trans (bW1.mono h1.size)
  have N1 : W1.heap[w1.heap.size]? = some (.cells #[.int .i64 nx.node, .int .i64 nx.op.kind, .int .i64 nx.op.book, .int .i64 nx.op.units, .int .i64 nx.op.cust, .int .i64 nx.op.amount] 30 (0, 0)) := by rw [hW1]; exact heap_alloc_new _ _
  have b1 : Hid (Below w.heap.size w W1) := be0.trans (h2.mono be0.size)
  obtain ⟨B1, A1⟩ := CB0.out _ (h2.mono (Nat.le_of_lt z0))
  have Z1 := Lib.hid ((h2.block _ z0).trans Z0)
  have n0 : W1.cell? ⟨w1.heap.size, 0, none⟩ = _ := one_at N1
  have n1 : W1.cell? ⟨w1.heap.size, 1, none⟩ = _ := one_at N1
  have n2 : W1.cell? ⟨w1.heap.size, 2, none⟩ = _ := one_at N1
  have n3 : W1.cell? ⟨w1.heap.size, 3, none⟩ = _ := one_at N1
  have n4 : W1.cell? ⟨w1.heap.size, 4, none⟩ = _ := one_at N1
  have n5 : W1.cell? ⟨w1.heap.size, 5, none⟩ = _ := one_at N1
  have a0 : W1.cell? ⟨w.heap.size + 1, 0, none⟩ = _ := one_at A1
  have a1 : W1.cell? ⟨w.heap.size + 1, 1, none⟩ = _ := one_at A1
  have a2 : W1.cell? ⟨w.heap.size + 1, 2, none⟩ = _ := one_at A1
  have a3 : W1.cell? ⟨w.heap.size + 1, 3, none⟩ = _ := one_at A1
  have a4 : W1.cell? ⟨w.heap.size + 1, 4, none⟩ = _ := one_at A1
  have a5 : W1.cell? ⟨w.heap.size + 1, 5, none⟩ = _ := one_at A1
  obtain ⟨c0, c1, c2, c3, c4, c5, c6, c7, c8, c9, ca⟩ := BoxS.cells B1
  have hw1 : w.heap.size < W1.heap.size := lt_some B1
  have hw2 : w.heap.size + 1 < W1.heap.size := lt_some A1
  have hw3 : w.heap.size + 2 < W1.heap.size := lt_some Z1.out
  have hw4 : w1.heap.size < W1.heap.size := lt_some N1
  have H2 : Hid (Below W0.heap.size W0 W1) := h2
  have z0h : Hid (w.heap.size + 2 < W0.heap.size) := z0
  clear hW1 bW1 h2 N1 A1 h1 be0 hW0 M Z0 z0 B1
  cases ok with
  | false =>
    have EE := Lib.hid (LN.out (by simp))
    clear LN L1 L2 RS RT RR CB0
    go_wp2_with (refine wpList_store_row rfl 26 (.tmp 6) (.tmp 22) rfl (w.heap.size + 2) #[.int .i64 s.w.book, .int .i64 s.w.cust, .int .i64 s.w.dead, .int .i64 s.w.u0, .int .i64 s.w.u1, .int .i64 s.w.u2, .int .i64 s.w.price, .int .i64 s.ph, .int .i64 s.st, .int .i64 s.rs, .int .i64 s.si] rfl rfl 26 _ Z1.out sag_size rfl (by simp [Value.oneCell']) ?_)
    refine bodyPost_ret (res_row qans_results _ _ (w.heap.size + 2) 26 _ (0, 0) _ rfl (setRow_heap _ _ _ _ _ _ Z1.out) Tryd.underlying26 rfl sag_size) rfl ?_
    exact ⟨by rw [EE.out]; rfl, b1.out.trans (setRow_below _ (Nat.le_add_right _ 2))⟩
  | true =>
    have EQ := fun w => eq_pask w a nx
    unfold spv at EQ
    by_cases hna : nx = a
    case neg =>
      have EE := Lib.hid (LN.out (by simp [hna]))
      rw [decide_eq_false (fun h => hna h.symm)] at EQ
      clear LN L1 L2 RS RT RR CB0 hna
      go_wp2_with (refine wpList_store_row rfl 26 (.tmp 6) (.tmp 22) rfl (w.heap.size + 2) #[.int .i64 s.w.book, .int .i64 s.w.cust, .int .i64 s.w.dead, .int .i64 s.w.u0, .int .i64 s.w.u1, .int .i64 s.w.u2, .int .i64 s.w.price, .int .i64 s.ph, .int .i64 s.st, .int .i64 s.rs, .int .i64 s.si] rfl rfl 26 _ Z1.out sag_size rfl (by simp [Value.oneCell']) ?_)
      refine bodyPost_ret (res_row qans_results _ _ (w.heap.size + 2) 26 _ (0, 0) _ rfl (setRow_heap _ _ _ _ _ _ Z1.out) Tryd.underlying26 rfl sag_size) rfl ?_
      exact ⟨by rw [EE.out]; rfl, b1.out.trans (setRow_below _ (Nat.le_add_right _ 2))⟩
    subst hna
    rw [decide_eq_true rfl] at EQ
    by_cases hn1 : n = 1
    case pos =>
      subst hn1
      have EE := Lib.hid (L1.out rfl rfl rfl)
      have K := Lib.hid ((RS.out rfl).out W1 H2.out)
      clear LN L1 L2 RS RT RR CB0
      go_wp2_with fail
      refine K.out.mono ?_
      rintro e w3 ⟨rfl, h3⟩
      have Z3 := Lib.hid ((h3.block _ hw3).trans Z1.out)
      have b3 : Hid (Below w.heap.size w w3) := b1.out.trans (h3.mono b1.out.size)
      clear K h3 c0 c1 c2 c3 c4 c5 c6 c7 c8 c9 ca a0 a1 a2 a3 a4 a5 n0 n1 n2 n3 n4 n5 EQ
      go_wp2_with (refine wpList_store_row rfl 26 (.tmp 6) (.tmp 27) rfl (w.heap.size + 2) #[.int .i64 yd.w.book, .int .i64 yd.w.cust, .int .i64 yd.w.dead, .int .i64 yd.w.u0, .int .i64 yd.w.u1, .int .i64 yd.w.u2, .int .i64 yd.w.price, .int .i64 yd.ph, .int .i64 yd.st, .int .i64 yd.rs, .int .i64 yd.si] rfl rfl 26 _ Z3.out sag_size rfl (by simp [Value.oneCell']) ?_)
      refine bodyPost_ret (res_row qans_results _ _ (w.heap.size + 2) 26 _ (0, 0) _ rfl (setRow_heap _ _ _ _ _ _ Z3.out) Tryd.underlying26 rfl sag_size) rfl ?_
      exact ⟨by rw [EE.out]; rfl, b3.out.trans (setRow_below _ (Nat.le_add_right _ 2))⟩
    have q1 : (n == 1) = false := beq_eq_false_iff_ne.2 hn1
    by_cases hn2 : n = 2
    case neg =>
      have q2 : (n == 2) = false := beq_eq_false_iff_ne.2 hn2
      have EE := Lib.hid (LN.out (by intro h; rcases h.2.2 with h | h; exact hn1 h; exact hn2 h))
      clear LN L1 L2 RS RT RR CB0 hn1 hn2
      go_wp2_with (refine wpList_store_row rfl 26 (.tmp 6) (.tmp 36) rfl (w.heap.size + 2) #[.int .i64 s.w.book, .int .i64 s.w.cust, .int .i64 s.w.dead, .int .i64 s.w.u0, .int .i64 s.w.u1, .int .i64 s.w.u2, .int .i64 s.w.price, .int .i64 s.ph, .int .i64 s.st, .int .i64 s.rs, .int .i64 s.si] rfl rfl 26 _ Z1.out sag_size rfl (by simp [Value.oneCell']) ?_)
      refine bodyPost_ret (res_row qans_results _ _ (w.heap.size + 2) 26 _ (0, 0) _ rfl (setRow_heap _ _ _ _ _ _ Z1.out) Tryd.underlying26 rfl sag_size) rfl ?_
      exact ⟨by rw [EE.out]; rfl, b1.out.trans (setRow_below _ (Nat.le_add_right _ 2))⟩
    subst hn2
    have EE := Lib.hid (L2.out rfl rfl rfl)
    have HH : Below (w.heap.size + 2) W0 W1 := H2.out.mono (Nat.le_of_lt z0h.out)
    have CB : Hid (∀ w', Below (w.heap.size + 2) W1 w' → CellS w' w.heap.size s) := fun w' h => (CB0.out _ (HH.trans h)).1.cells
    have CA : Hid (∀ w', Below (w.heap.size + 2) W1 w' → w'.cell? ⟨w.heap.size + 1, 0, none⟩ = some (.int .i64 nx.node) ∧ w'.cell? ⟨w.heap.size + 1, 1, none⟩ = some (.int .i64 nx.op.kind) ∧ w'.cell? ⟨w.heap.size + 1, 2, none⟩ = some (.int .i64 nx.op.book) ∧ w'.cell? ⟨w.heap.size + 1, 3, none⟩ = some (.int .i64 nx.op.units) ∧ w'.cell? ⟨w.heap.size + 1, 4, none⟩ = some (.int .i64 nx.op.cust) ∧ w'.cell? ⟨w.heap.size + 1, 5, none⟩ = some (.int .i64 nx.op.amount)) := fun w' h => by
      have := (CB0.out _ (HH.trans h)).2
      exact ⟨one_at this, one_at this, one_at this, one_at this, one_at this, one_at this⟩
    have F1 : Hid (∀ w', Below (w.heap.size + 2) W1 w' → Calls Tryd.prog 45 #[.agg #[.int .i64 nx.node, .int .i64 nx.op.kind, .int .i64 nx.op.book, .int .i64 nx.op.units, .int .i64 nx.op.cust, .int .i64 nx.op.amount]] w' fun e w'' => e = .returned (.int .i64 rf) ∧ Below (w.heap.size + 2) W1 w'' ∧ Below w'.heap.size w' w'') := fun w' h => (RR.out w').mono fun _ _ ⟨e1, e2⟩ => ⟨e1, h.trans (e2.mono (by have := h.size; omega)), e2⟩
    have F2 : Hid (∀ w', Below (w.heap.size + 2) W1 w' → Calls Tryd.prog 44 #[.agg #[.int .i64 s.w.book, .int .i64 s.w.cust, .int .i64 s.w.dead, .int .i64 s.w.u0, .int .i64 s.w.u1, .int .i64 s.w.u2, .int .i64 s.w.price, .int .i64 s.ph, .int .i64 s.st, .int .i64 s.rs, .int .i64 s.si], .int .i64 rf] w' fun e w'' => e = .returned (.tuple #[.agg #[.int .i64 yt.1.w.book, .int .i64 yt.1.w.cust, .int .i64 yt.1.w.dead, .int .i64 yt.1.w.u0, .int .i64 yt.1.w.u1, .int .i64 yt.1.w.u2, .int .i64 yt.1.w.price, .int .i64 yt.1.ph, .int .i64 yt.1.st, .int .i64 yt.1.rs, .int .i64 yt.1.si], .bool yt.2]) ∧ Below (w.heap.size + 2) W1 w'' ∧ Below w'.heap.size w' w'') := fun w' h => (RT.out w' (HH.trans h)).mono fun _ _ ⟨e1, e2⟩ => ⟨e1, h.trans (e2.mono (by have := h.size; omega)), e2⟩
    clear LN L1 L2 RS RT RR CB0 hn1 HH H2 z0h
    go_upto_region 8 with fail
    refine qa8 _ _ _ _ _ _ _ _ _ _ _ _ _ _ _ _ _ _ _ _ _ _ _ _ _ _ _ _ _ _ _ _ _ _ W1 w.heap.size (w.heap.size + 1) (w.heap.size + 2) s nx rf yt.1 yt.2 CB CA F1 F2 Z1.out _ (fun _ _ d _ _ h => by cases d <;> exact h) (fun _ _ _ _ _ _ w3 hz hb => ?_)
    have E : Hid (Below w.heap.size w w3) := b1.out.trans (hb.mono (Nat.le_add_right _ 2))
    replace hz := Lib.hid hz
    clear hb F1 F2 CB CA c0 c1 c2 c3 c4 c5 c6 c7 c8 c9 ca a0 a1 a2 a3 a4 a5 n0 n1 n2 n3 n4 n5 EQ Z1 b1 hw1 hw2 hw3 hw4 q1
    go_wp2_with fail
    refine bodyPost_ret (res_row qans_results _ _ (w.heap.size + 2) 26 #[.int .i64 yt.1.w.book, .int .i64 yt.1.w.cust, .int .i64 yt.1.w.dead, .int .i64 yt.1.w.u0, .int .i64 yt.1.w.u1, .int .i64 yt.1.w.u2, .int .i64 yt.1.w.price, .int .i64 yt.1.ph, .int .i64 yt.1.st, .int .i64 yt.1.rs, .int .i64 yt.1.si] (0, 0) _ rfl hz.out Tryd.underlying26 rfl sag_size) rfl ?_
    exact ⟨by rw [EE.out]; rfl, E.out⟩
end Sg
end Go.Proofs.YtakicogelkdofaaDoor

namespace Go.Proofs.YtakicogelkdofaaDoor
set_option maxRecDepth 100000
open Go.RowKit
open Go.Proofs.YtakicogelkdofaaDoor.Pk (one_at one_free one_set lt_some grown_set grown_trans below_grown grown_refl)
namespace Sg
open Wt (Wan may Opn mayOp may_any inR)
open Pl (Stp fwd bck cap z0 wanv spv BoxW wpList_store_row setRow_below below_of_grown)

theorem qlate_results : Tryd.f22.results = #[.cell 4 26, .tmp 5] := by kernel_rfl
set_option maxHeartbeats 6400000 in
theorem qlate_any (w : World) (t : Tab w) (s : Sag) (now : Int) : Calls Tryd.prog 22 #[sgv s, .int .i64 now] w fun e w' => e = .returned (.tuple #[sgv (slate s now).1, .bool (slate s now).2]) ∧ Below w.heap.size w w' := by
  have IN : smay s = true → 0 ≤ s.si ∧ s.si ≤ 1099511627776 ∧ 0 ≤ s.w.dead ∧ s.w.dead ≤ 1099511627776 := fun h => by
    obtain ⟨h1, h2, -⟩ := smay_true h
    have h3 := h1
    simp only [may, Bool.and_eq_true] at h3
    have h4 := of_decide_eq_true h3.1.1.2
    exact ⟨h2.1, h2.2, h4.1, h4.2⟩
  obtain ⟨sm, em⟩ : ∃ sm, sm = wrap64 (s.si + s.w.dead) := ⟨_, rfl⟩
  have SM : smay s = true → sm = s.si + s.w.dead := fun h => by have := IN h; rw [em]; unfold wrap64; omega
  have LN : (s.w.dead ≤ 0 ∨ now < sm ∨ inR now 0 1099511627776 = false) → slate s now = (s, false) := fun h => by
    unfold slate
    rw [if_neg]
    rintro ⟨h1, h2, h3, h4, h5⟩
    have h6 := IN h1
    have h7 := SM h1
    rcases h with h | h | h
    · omega
    · omega
    · rw [show inR now 0 1099511627776 = true by unfold inR; rw [decide_eq_true_iff]; omega] at h
      cases h
  have LY : ¬ s.w.dead ≤ 0 → ¬ now < sm → inR now 0 1099511627776 = true → stn s 3 = slate s now := fun h1 h2 h3 => by
    unfold stn slate
    have h4 := of_decide_eq_true h3
    by_cases h : smay s = true ∧ s.ph = 1
    · have := SM h.1
      rw [if_pos h, if_pos ⟨h.1, h.2, by omega, h4.2, by omega⟩]
    · rw [if_neg h, if_neg (fun g => h ⟨g.1, g.2.1⟩)]
  obtain ⟨W0, hW0⟩ : ∃ W0, W0 = (w.alloc (.cells #[.int .i64 s.w.book, .int .i64 s.w.cust, .int .i64 s.w.dead, .int .i64 s.w.u0, .int .i64 s.w.u1, .int .i64 s.w.u2, .int .i64 s.w.price, .int .i64 s.ph, .int .i64 s.st, .int .i64 s.rs, .int .i64 s.si] 26)).alloc (.cells #[.int .i64 0, .int .i64 0, .int .i64 0, .int .i64 0, .int .i64 0, .int .i64 0, .int .i64 0, .int .i64 0, .int .i64 0, .int .i64 0, .int .i64 0] 26) := ⟨_, rfl⟩
  have B0 : BoxS W0 w.heap.size s := by rw [hW0]; exact heap_alloc2_old _ _ _
  have Z0 : W0.heap[w.heap.size + 1]? = some (.cells #[.int .i64 0, .int .i64 0, .int .i64 0, .int .i64 0, .int .i64 0, .int .i64 0, .int .i64 0, .int .i64 0, .int .i64 0, .int .i64 0, .int .i64 0] 26 (0, 0)) := by
    have := heap_alloc_new (w.alloc (.cells #[.int .i64 s.w.book, .int .i64 s.w.cust, .int .i64 s.w.dead, .int .i64 s.w.u0, .int .i64 s.w.u1, .int .i64 s.w.u2, .int .i64 s.w.price, .int .i64 s.ph, .int .i64 s.st, .int .i64 s.rs, .int .i64 s.si] 26)) (.cells #[.int .i64 0, .int .i64 0, .int .i64 0, .int .i64 0, .int .i64 0, .int .i64 0, .int .i64 0, .int .i64 0, .int .i64 0, .int .i64 0, .int .i64 0] 26)
    rw [show (w.alloc (.cells #[.int .i64 s.w.book, .int .i64 s.w.cust, .int .i64 s.w.dead, .int .i64 s.w.u0, .int .i64 s.w.u1, .int .i64 s.w.u2, .int .i64 s.w.price, .int .i64 s.ph, .int .i64 s.st, .int .i64 s.rs, .int .i64 s.si] 26)).heap.size = w.heap.size + 1 by simp] at this
    rw [hW0]
    exact this
  have be0 : Below w.heap.size w W0 := by rw [hW0]; exact ((Below.refl _ w).alloc (Nat.le_refl _) _).alloc (by simp) _
  have s0 : w.heap.size + 1 < W0.heap.size := lt_some Z0
  have K : Hid (∀ w', Below W0.heap.size W0 w' → Calls Tryd.prog 44 #[sgv s, .int .i64 3] w' fun e w'' => e = .returned (.tuple #[sgv (stn s 3).1, .bool (stn s 3).2]) ∧ Below w'.heap.size w' w'') := fun w' h => stn_any w' ((t.below be0).below h) s 3
  have TK := fun w => stick_any w now
  have cells := B0.cells
  generalize inR now 0 1099511627776 = tk at *
  generalize slate s now = y at *
  generalize stn s 3 = ys at *
  have e2 : IntKind.i64.wrap (s.si + s.w.dead) = sm := by rw [em, IntKind.wrap_i64]; simp only [wrap64]
  replace em := em.symm
  unfold sgv sgc at *
  clear t IN SM
  replace hW0 := Lib.hid hW0
  replace TK := Lib.hid TK
  replace LY := Lib.hid LY
  replace LN := Lib.hid LN
  obtain ⟨c0, c1, c2, c3, c4, c5, c6, c7, c8, c9, ca⟩ := cells
  replace Z0 := Lib.hid Z0
  replace be0 := Lib.hid be0
  clear B0
  have hwl : w.heap.size < W0.heap.size := by omega
  by_cases hd : s.w.dead ≤ 0
  case pos =>
    have EE := Lib.hid (LN.out (.inl hd))
    clear LY LN K TK em e2
    go_enter Tryd.func22, Tryd.ntmps22
    go_upto_region 1 with fail
    rw [← hW0.out]
    go_wp2_with (refine wpList_store_row rfl 26 (.tmp 4) (.tmp 25) rfl (w.heap.size + 1) #[.int .i64 s.w.book, .int .i64 s.w.cust, .int .i64 s.w.dead, .int .i64 s.w.u0, .int .i64 s.w.u1, .int .i64 s.w.u2, .int .i64 s.w.price, .int .i64 s.ph, .int .i64 s.st, .int .i64 s.rs, .int .i64 s.si] rfl rfl 26 _ Z0.out sag_size rfl (by simp [Value.oneCell']) ?_)
    refine bodyPost_ret (res_row qlate_results _ _ (w.heap.size + 1) 26 _ (0, 0) _ rfl (setRow_heap _ _ _ _ _ _ Z0.out) Tryd.underlying26 rfl sag_size) rfl ?_
    exact ⟨by rw [EE.out]; rfl, be0.out.trans (setRow_below _ (Nat.le_succ _))⟩
  have hd2 : 0 < s.w.dead := by omega
  by_cases hn : now < sm
  case pos =>
    have EE := Lib.hid (LN.out (.inr (.inl hn)))
    clear LY LN K TK
    go_enter Tryd.func22, Tryd.ntmps22
    go_upto_region 1 with fail
    rw [← hW0.out]
    go_wp2_with (refine wpList_store_row rfl 26 (.tmp 4) (.tmp 25) rfl (w.heap.size + 1) #[.int .i64 s.w.book, .int .i64 s.w.cust, .int .i64 s.w.dead, .int .i64 s.w.u0, .int .i64 s.w.u1, .int .i64 s.w.u2, .int .i64 s.w.price, .int .i64 s.ph, .int .i64 s.st, .int .i64 s.rs, .int .i64 s.si] rfl rfl 26 _ Z0.out sag_size rfl (by simp [Value.oneCell']) ?_)
    refine bodyPost_ret (res_row qlate_results _ _ (w.heap.size + 1) 26 _ (0, 0) _ rfl (setRow_heap _ _ _ _ _ _ Z0.out) Tryd.underlying26 rfl sag_size) rfl ?_
    exact ⟨by rw [EE.out]; rfl, be0.out.trans (setRow_below _ (Nat.le_succ _))⟩
  go_enter Tryd.func22, Tryd.ntmps22
  go_upto_region 1 with fail
  rw [← hW0.out]
  go_wp2_with fail
  refine (TK.out _).mono ?_
  rintro e w1 ⟨rfl, rfl⟩
  cases tk with
  | false =>
    have EE := Lib.hid (LN.out (.inr (.inr rfl)))
    clear LY LN K TK
    go_wp2_with (refine wpList_store_row rfl 26 (.tmp 4) (.tmp 25) rfl (w.heap.size + 1) #[.int .i64 s.w.book, .int .i64 s.w.cust, .int .i64 s.w.dead, .int .i64 s.w.u0, .int .i64 s.w.u1, .int .i64 s.w.u2, .int .i64 s.w.price, .int .i64 s.ph, .int .i64 s.st, .int .i64 s.rs, .int .i64 s.si] rfl rfl 26 _ Z0.out sag_size rfl (by simp [Value.oneCell']) ?_)
    refine bodyPost_ret (res_row qlate_results _ _ (w.heap.size + 1) 26 _ (0, 0) _ rfl (setRow_heap _ _ _ _ _ _ Z0.out) Tryd.underlying26 rfl sag_size) rfl ?_
    exact ⟨by rw [EE.out]; rfl, be0.out.trans (setRow_below _ (Nat.le_succ _))⟩
  | true =>
    have EE := Lib.hid (LY.out hd hn rfl)
    clear LY LN TK
    go_wp2_with fail
    refine (K.out _ (Below.refl _ _)).mono ?_
    rintro e w3 ⟨rfl, h3⟩
    have Z3 := Lib.hid ((h3.block _ s0).trans Z0.out)
    have b3 : Hid (Below w.heap.size w w3) := be0.out.trans (h3.mono be0.out.size)
    clear K h3 c0 c1 c2 c3 c4 c5 c6 c7 c8 c9 ca em e2
    go_wp2_with (refine wpList_store_row rfl 26 (.tmp 4) (.tmp 28) rfl (w.heap.size + 1) _ rfl rfl 26 _ Z3.out sag_size rfl (by simp [Value.oneCell']) ?_)
    refine bodyPost_ret (res_row qlate_results _ _ (w.heap.size + 1) 26 _ (0, 0) _ rfl (setRow_heap _ _ _ _ _ _ Z3.out) Tryd.underlying26 rfl sag_size) rfl ?_
    exact ⟨by rw [EE.out]; rfl, b3.out.trans (setRow_below _ (Nat.le_succ _))⟩
end Sg
end Go.Proofs.YtakicogelkdofaaDoor

namespace Go.Proofs.YtakicogelkdofaaDoor
set_option maxRecDepth 100000
open Go.RowKit
open Go.Proofs.YtakicogelkdofaaDoor.Pk (one_at one_free one_set lt_some grown_set grown_trans below_grown grown_refl)
namespace Sg
open Wt (Wan may Opn mayOp may_any inR put_any PutTo)
open Pl (Stp fwd bck cap z0 wanv spv)

set_option maxHeartbeats 6400000 in
theorem qputE_any (w : World) (t : Tab w) (s : Sag) (hs : smay s = false) : Calls Tryd.prog 27 #[sgv s] w fun e w' => e = .returned (.tuple #[.slice none 0 0, .int .i64 1]) ∧ Below w.heap.size w w' := by
  obtain ⟨W0, hW0⟩ : ∃ W0, W0 = w.alloc (.cells (sgc s) 26) := ⟨_, rfl⟩
  have B0 : BoxS W0 w.heap.size s := by rw [hW0]; exact heap_alloc_new _ _
  have be0 : Hid (Below w.heap.size w W0) := by rw [hW0]; exact (Below.refl _ w).alloc (Nat.le_refl _) _
  have M := put_any W0 s.w
  have T0 := t.below be0.out
  have V : Hid (∀ w', Below W0.heap.size W0 w' → Calls Tryd.prog 12 #[sgv s] w' fun e w'' => e = .returned (.bool false) ∧ Below w'.heap.size w' w'') := fun w' h => by
    have := smay_any w' (T0.below h) s
    rw [hs] at this
    exact this
  have C0 := B0.cells
  unfold sgv sgc at *
  clear t hs T0
  have hwl : w.heap.size < W0.heap.size := B0.lt
  replace hW0 := Lib.hid hW0
  replace M := Lib.hid M
  obtain ⟨c0, c1, c2, c3, c4, c5, c6, c7, c8, c9, ca⟩ := C0
  go_enter Tryd.func27, Tryd.ntmps27
  go_upto_region 1 with fail
  rw [← hW0.out]
  go_wp2_with fail
  refine M.out.mono ?_
  intro e w1 h1
  clear M hW0 c0 c1 c2 c3 c4 c5 c6 c7 c8 c9 ca
  cases hm : may s.w with
  | false =>
    obtain rfl := h1.no hm
    have b1 : Hid (Below w.heap.size w w1) := be0.out.trans (h1.be.mono be0.out.size)
    clear h1 V B0 be0 hm
    go_wp2_with fail
    go_ret2
    exact ⟨rfl, b1.out⟩
  | true =>
    obtain ⟨v, rfl, -⟩ := h1.yes hm
    have B1 := B0.below h1.be B0.lt
    obtain ⟨c0, c1, c2, c3, c4, c5, c6, c7, c8, c9, ca⟩ := B1.cells
    have hwl1 : w.heap.size < w1.heap.size := B1.lt
    have K := Lib.hid (V.out w1 h1.be)
    have b1 : Hid (Below w.heap.size w w1) := be0.out.trans (h1.be.mono be0.out.size)
    clear h1 V B0 be0 hm B1
    go_wp2_with fail
    refine K.out.mono ?_
    rintro e w2 ⟨rfl, h2⟩
    have b2 : Hid (Below w.heap.size w w2) := b1.out.trans (h2.mono b1.out.size)
    clear h2 K c0 c1 c2 c3 c4 c5 c6 c7 c8 c9 ca
    go_wp2_with fail
    go_ret2
    exact ⟨rfl, b2.out⟩
theorem qputN_any (w : World) (t : Tab w) (s : Sag) (hs : smay s = false) : Calls Tryd.prog 27 #[sgv s] w fun e w' => (∃ A c, e = .returned (.tuple #[.slice A 0 c, .int .i64 1])) ∧ Below w.heap.size w w' :=
  (qputE_any w t s hs).mono fun _ _ ⟨h1, h2⟩ => ⟨⟨_, _, h1⟩, h2⟩
/-- What the program's calls answer. -/
theorem prg : Prg where
  new := fun w _ x now => qnew_any w x now
  may := smay_any
  next := qnext_any
  ans := qans_any
  can := qcan_any
  late := qlate_any
  over := qover_any
  tells := qtells_any
  putN := qputN_any
end Sg
end Go.Proofs.YtakicogelkdofaaDoor
