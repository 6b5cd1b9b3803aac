/- Part of the claim: SgQ1 -/
import Derived.Test.YtpkdigegkemogaaGreatDoorTkT
import Derived.Deep.RegionHeld3
import Derived.Test.YtpkdigegkemogaaGreatDoorSgQ0T
namespace Go.Proofs.YtpkdigegkemogaaGreatDoor
set_option maxRecDepth 100000
open Go.RowKit
namespace Sg
open Pl (regionAt)

noncomputable def qm_1 : Code := (Tryz.f71.body.bind (regionAt 1)).getD .skip
set_option maxHeartbeats 12800000 in
theorem qm1a (z0 z2 z3 z4 z5 z6 z7 z8 z9 z10 z11 z12 z13 z14 z15 z16 z17 z18 z19 z20 z21 z22 z23 z24 z25 z26 z27 z28 z29 : Value) (W : World) (q : Nat) (s : Sag)
    (CB : Hid (∀ w', Below W.heap.size W w' → CellS w' q s))
    (F1 : Hid (∀ w', Below W.heap.size W w' → Calls Tryz.prog 106 #[.int .i64 s.ph, .int .i64 1, .int .i64 5] w' fun e w'' => e = .returned (.bool false) ∧ Below W.heap.size W w''))
    (Q : Exit → Act → World → Prop)
    (hP : ∀ c a d v w, Q (.panic c) (Act.put a d v) w → Q (.panic c) a w)
    (hQ : ∀ (y3 y4 y5 y6 y7 y8 y9 y10 y11 y12 y13 y14 y15 y16 y17 y18 y19 y20 y21 y22 y23 y24 y25 y26 y27 y28 y29 : Value)  (W3 : World), Below W.heap.size W W3 → Q .normal ⟨#[z0, .pointer (some ⟨q, 0, none⟩), .bool false, y3, y4, y5, y6, y7, y8, y9, y10, y11, y12, y13, y14, y15, y16, y17, y18, y19, y20, y21, y22, y23, y24, y25, y26, y27, y28, y29], []⟩ W3) :
    Code.wp Tryz.prog qm_1 Q ⟨#[z0, .pointer (some ⟨q, 0, none⟩), z2, z3, z4, z5, z6, z7, z8, z9, z10, z11, z12, z13, z14, z15, z16, z17, z18, z19, z20, z21, z22, z23, z24, z25, z26, z27, z28, z29], []⟩ W := by
  conv => arg 2; whnf
  have b0 : Below W.heap.size W W.drew := ⟨rfl, rfl, rfl, Nat.le_refl _, fun _ _ => rfl⟩
  refine wp_region_held_drew (S := fun w => Below W.heap.size W w) (by kernel_rfl) b0 (fun hHeld => ?_)
  replace hQ := Lib.hid hQ
  clear b0
  obtain ⟨v0, hv⟩ : ∃ v, v = W.drew := ⟨_, rfl⟩
  rw [← hv] at hHeld ⊢
  clear hv
  refine' tkY 0 hP ?c hHeld ?_
  case c => intro w _; go_simp; try with_reducible rfl
  simp only [Act.put, sQa, sQb, sQc]
  refine' tkY 1 hP ?c hHeld ?_
  case c => intro w hSw; obtain ⟨c0, c1, c2, c3, c4, c5, c6, c7, c8, c9, ca⟩ := CB.out _ hSw; go_simp; try with_reducible rfl
  simp only [Act.put, sQa, sQb, sQc]
  refine wpAnyH_ready (rs := [2]) (by kernel_rfl) (by simp) ?_
  refine' tkC 2 (fun K hK => ?st3) ?mo3
  case st3 =>
    go_simp
    refine (F1.out _ hHeld).mono ?_
    rintro e v1 ⟨rfl, h6⟩
    clear hHeld
    go_simp
    refine hK.out _ _ h6 (fun hHeld => ?_)
    clear hK K h6
    try simp only [Act.put, sQa, sQb, sQc]
    refine' tkY 3 hP ?c hHeld ?_
    case c => intro w _; go_simp; try with_reducible rfl
    simp only [Act.put, sQa, sQb, sQc]
    refine' tkN 4 hP hHeld ?_
    simp only [Act.put, sQa, sQb, sQc]
    refine' tkN 5 hP hHeld ?_
    simp only [Act.put, sQa, sQb, sQc]
    refine' tkN 6 hP hHeld ?_
    simp only [Act.put, sQa, sQb, sQc]
    refine' tkY 7 hP ?c hHeld ?_
    case c => intro w _; go_simp; try with_reducible rfl
    simp only [Act.put, sQa, sQb, sQc]
    refine' tkY 8 hP ?c hHeld ?_
    case c => intro w _; go_simp; try with_reducible rfl
    simp only [Act.put, sQa, sQb, sQc]
    refine' tkN 9 hP hHeld ?_
    simp only [Act.put, sQa, sQb, sQc]
    refine' tkN 10 hP hHeld ?_
    simp only [Act.put, sQa, sQb, sQc]
    refine' tkN 11 hP hHeld ?_
    simp only [Act.put, sQa, sQb, sQc]
    refine' tkY 12 hP ?c hHeld ?_
    case c => intro w _; go_simp; try with_reducible rfl
    simp only [Act.put, sQa, sQb, sQc]
    refine' tkY 13 hP ?c hHeld ?_
    case c => intro w _; go_simp; try with_reducible rfl
    simp only [Act.put, sQa, sQb, sQc]
    refine' tkN 14 hP hHeld ?_
    simp only [Act.put, sQa, sQb, sQc]
    refine' tkN 15 hP hHeld ?_
    simp only [Act.put, sQa, sQb, sQc]
    refine' tkY 16 hP ?c hHeld ?_
    case c => intro w _; go_simp; try with_reducible rfl
    simp only [Act.put, sQa, sQb, sQc]
    refine' tkY 17 hP ?c hHeld ?_
    case c => intro w _; go_simp; try with_reducible rfl
    simp only [Act.put, sQa, sQb, sQc]
    refine' tkN 18 hP hHeld ?_
    simp only [Act.put, sQa, sQb, sQc]
    refine' tkN 19 hP hHeld ?_
    simp only [Act.put, sQa, sQb, sQc]
    refine' tkN 20 hP hHeld ?_
    simp only [Act.put, sQa, sQb, sQc]
    refine' tkN 21 hP hHeld ?_
    simp only [Act.put, sQa, sQb, sQc]
    refine' tkN 22 hP hHeld ?_
    simp only [Act.put, sQa, sQb, sQc]
    refine' tkN 23 hP hHeld ?_
    simp only [Act.put, sQa, sQb, sQc]
    refine' tkN 24 hP hHeld ?_
    simp only [Act.put, sQa, sQb, sQc]
    refine' tkN 25 hP hHeld ?_
    simp only [Act.put, sQa, sQb, sQc]
    refine' tkY 26 hP ?c hHeld ?_
    case c => intro w _; go_simp; try with_reducible rfl
    simp only [Act.put, sQa, sQb, sQc]
    refine' tkY 27 hP ?c hHeld ?_
    case c => intro w _; go_simp; try with_reducible rfl
    simp only [Act.put, sQa, sQb, sQc]
    refine wpAnyH_done (by kernel_rfl) ?_ _
    exact hQ.out _ _ _ _ _ _ _ _ _ _ _ _ _ _ _ _ _ _ _ _ _ _ _ _ _ _ _ _  hHeld
  case mo3 => exact AllReadyH.nil
set_option maxHeartbeats 12800000 in
theorem qm1b (z0 z2 z3 z4 z5 z6 z7 z8 z9 z10 z11 z12 z13 z14 z15 z16 z17 z18 z19 z20 z21 z22 z23 z24 z25 z26 z27 z28 z29 : Value) (W : World) (q : Nat) (s : Sag)
    (CB : Hid (∀ w', Below W.heap.size W w' → CellS w' q s))
    (F1 : Hid (∀ w', Below W.heap.size W w' → Calls Tryz.prog 106 #[.int .i64 s.ph, .int .i64 1, .int .i64 5] w' fun e w'' => e = .returned (.bool true) ∧ Below W.heap.size W w''))
    (F2 : Hid (∀ w', Below W.heap.size W w' → Calls Tryz.prog 107 #[.agg #[.int .i64 s.w.book, .int .i64 s.w.cust, .int .i64 s.w.dead, .int .i64 s.w.u0, .int .i64 s.w.u1, .int .i64 s.w.u2, .int .i64 s.w.price]] w' fun e w'' => e = .returned (.bool false) ∧ Below W.heap.size W w''))
    (Q : Exit → Act → World → Prop)
    (hP : ∀ c a d v w, Q (.panic c) (Act.put a d v) w → Q (.panic c) a w)
    (hQ : ∀ (y3 y4 y5 y6 y7 y8 y9 y10 y11 y12 y13 y14 y15 y16 y17 y18 y19 y20 y21 y22 y23 y24 y25 y26 y27 y28 y29 : Value)  (W3 : World), Below W.heap.size W W3 → Q .normal ⟨#[z0, .pointer (some ⟨q, 0, none⟩), .bool false, y3, y4, y5, y6, y7, y8, y9, y10, y11, y12, y13, y14, y15, y16, y17, y18, y19, y20, y21, y22, y23, y24, y25, y26, y27, y28, y29], []⟩ W3) :
    Code.wp Tryz.prog qm_1 Q ⟨#[z0, .pointer (some ⟨q, 0, none⟩), z2, z3, z4, z5, z6, z7, z8, z9, z10, z11, z12, z13, z14, z15, z16, z17, z18, z19, z20, z21, z22, z23, z24, z25, z26, z27, z28, z29], []⟩ W := by
  conv => arg 2; whnf
  have b0 : Below W.heap.size W W.drew := ⟨rfl, rfl, rfl, Nat.le_refl _, fun _ _ => rfl⟩
  refine wp_region_held_drew (S := fun w => Below W.heap.size W w) (by kernel_rfl) b0 (fun hHeld => ?_)
  replace hQ := Lib.hid hQ
  clear b0
  obtain ⟨v0, hv⟩ : ∃ v, v = W.drew := ⟨_, rfl⟩
  rw [← hv] at hHeld ⊢
  clear hv
  refine' tkY 0 hP ?c hHeld ?_
  case c => intro w _; go_simp; try with_reducible rfl
  simp only [Act.put, sQa, sQb, sQc]
  refine' tkY 1 hP ?c hHeld ?_
  case c => intro w hSw; obtain ⟨c0, c1, c2, c3, c4, c5, c6, c7, c8, c9, ca⟩ := CB.out _ hSw; go_simp; try with_reducible rfl
  simp only [Act.put, sQa, sQb, sQc]
  refine wpAnyH_ready (rs := [2]) (by kernel_rfl) (by simp) ?_
  refine' tkC 2 (fun K hK => ?st3) ?mo3
  case st3 =>
    go_simp
    refine (F1.out _ hHeld).mono ?_
    rintro e v1 ⟨rfl, h6⟩
    clear hHeld
    go_simp
    refine hK.out _ _ h6 (fun hHeld => ?_)
    clear hK K h6
    try simp only [Act.put, sQa, sQb, sQc]
    refine' tkY 3 hP ?c hHeld ?_
    case c => intro w _; go_simp; try with_reducible rfl
    simp only [Act.put, sQa, sQb, sQc]
    refine' tkY 4 hP ?c hHeld ?_
    case c => intro w _; go_simp; try with_reducible rfl
    simp only [Act.put, sQa, sQb, sQc]
    refine' tkY 5 hP ?c hHeld ?_
    case c => intro w hSw; obtain ⟨c0, c1, c2, c3, c4, c5, c6, c7, c8, c9, ca⟩ := CB.out _ hSw; go_simp; try with_reducible rfl
    simp only [Act.put, sQa, sQb, sQc]
    refine wpAnyH_ready (rs := [6]) (by kernel_rfl) (by simp) ?_
    refine' tkC 6 (fun K hK => ?st7) ?mo7
    case st7 =>
      go_simp
      refine (F2.out _ hHeld).mono ?_
      rintro e v2 ⟨rfl, h6⟩
      clear hHeld
      go_simp
      refine hK.out _ _ h6 (fun hHeld => ?_)
      clear hK K h6
      try simp only [Act.put, sQa, sQb, sQc]
      refine' tkY 7 hP ?c hHeld ?_
      case c => intro w _; go_simp; try with_reducible rfl
      simp only [Act.put, sQa, sQb, sQc]
      refine' tkY 8 hP ?c hHeld ?_
      case c => intro w _; go_simp; try with_reducible rfl
      simp only [Act.put, sQa, sQb, sQc]
      refine' tkN 9 hP hHeld ?_
      simp only [Act.put, sQa, sQb, sQc]
      refine' tkN 10 hP hHeld ?_
      simp only [Act.put, sQa, sQb, sQc]
      refine' tkN 11 hP hHeld ?_
      simp only [Act.put, sQa, sQb, sQc]
      refine' tkY 12 hP ?c hHeld ?_
      case c => intro w _; go_simp; try with_reducible rfl
      simp only [Act.put, sQa, sQb, sQc]
      refine' tkY 13 hP ?c hHeld ?_
      case c => intro w _; go_simp; try with_reducible rfl
      simp only [Act.put, sQa, sQb, sQc]
      refine' tkN 14 hP hHeld ?_
      simp only [Act.put, sQa, sQb, sQc]
      refine' tkN 15 hP hHeld ?_
      simp only [Act.put, sQa, sQb, sQc]
      refine' tkY 16 hP ?c hHeld ?_
      case c => intro w _; go_simp; try with_reducible rfl
      simp only [Act.put, sQa, sQb, sQc]
      refine' tkY 17 hP ?c hHeld ?_
      case c => intro w _; go_simp; try with_reducible rfl
      simp only [Act.put, sQa, sQb, sQc]
      refine' tkN 18 hP hHeld ?_
      simp only [Act.put, sQa, sQb, sQc]
      refine' tkN 19 hP hHeld ?_
      simp only [Act.put, sQa, sQb, sQc]
      refine' tkN 20 hP hHeld ?_
      simp only [Act.put, sQa, sQb, sQc]
      refine' tkN 21 hP hHeld ?_
      simp only [Act.put, sQa, sQb, sQc]
      refine' tkN 22 hP hHeld ?_
      simp only [Act.put, sQa, sQb, sQc]
      refine' tkN 23 hP hHeld ?_
      simp only [Act.put, sQa, sQb, sQc]
      refine' tkN 24 hP hHeld ?_
      simp only [Act.put, sQa, sQb, sQc]
      refine' tkN 25 hP hHeld ?_
      simp only [Act.put, sQa, sQb, sQc]
      refine' tkY 26 hP ?c hHeld ?_
      case c => intro w _; go_simp; try with_reducible rfl
      simp only [Act.put, sQa, sQb, sQc]
      refine' tkY 27 hP ?c hHeld ?_
      case c => intro w _; go_simp; try with_reducible rfl
      simp only [Act.put, sQa, sQb, sQc]
      refine wpAnyH_done (by kernel_rfl) ?_ _
      exact hQ.out _ _ _ _ _ _ _ _ _ _ _ _ _ _ _ _ _ _ _ _ _ _ _ _ _ _ _ _  hHeld
    case mo7 => exact AllReadyH.nil
  case mo3 => exact AllReadyH.nil
set_option maxHeartbeats 12800000 in
theorem qm1c (z0 z2 z3 z4 z5 z6 z7 z8 z9 z10 z11 z12 z13 z14 z15 z16 z17 z18 z19 z20 z21 z22 z23 z24 z25 z26 z27 z28 z29 : Value) (W : World) (q : Nat) (s : Sag)
    (CB : Hid (∀ w', Below W.heap.size W w' → CellS w' q s))
    (F1 : Hid (∀ w', Below W.heap.size W w' → Calls Tryz.prog 106 #[.int .i64 s.ph, .int .i64 1, .int .i64 5] w' fun e w'' => e = .returned (.bool true) ∧ Below W.heap.size W w''))
    (F2 : Hid (∀ w', Below W.heap.size W w' → Calls Tryz.prog 107 #[.agg #[.int .i64 s.w.book, .int .i64 s.w.cust, .int .i64 s.w.dead, .int .i64 s.w.u0, .int .i64 s.w.u1, .int .i64 s.w.u2, .int .i64 s.w.price]] w' fun e w'' => e = .returned (.bool true) ∧ Below W.heap.size W w''))
    (F3 : Hid (∀ w', Below W.heap.size W w' → Calls Tryz.prog 108 #[.int .i64 s.si] w' fun e w'' => e = .returned (.bool false) ∧ Below W.heap.size W w''))
    (Q : Exit → Act → World → Prop)
    (hP : ∀ c a d v w, Q (.panic c) (Act.put a d v) w → Q (.panic c) a w)
    (hQ : ∀ (y3 y4 y5 y6 y7 y8 y9 y10 y11 y12 y13 y14 y15 y16 y17 y18 y19 y20 y21 y22 y23 y24 y25 y26 y27 y28 y29 : Value)  (W3 : World), Below W.heap.size W W3 → Q .normal ⟨#[z0, .pointer (some ⟨q, 0, none⟩), .bool false, y3, y4, y5, y6, y7, y8, y9, y10, y11, y12, y13, y14, y15, y16, y17, y18, y19, y20, y21, y22, y23, y24, y25, y26, y27, y28, y29], []⟩ W3) :
    Code.wp Tryz.prog qm_1 Q ⟨#[z0, .pointer (some ⟨q, 0, none⟩), z2, z3, z4, z5, z6, z7, z8, z9, z10, z11, z12, z13, z14, z15, z16, z17, z18, z19, z20, z21, z22, z23, z24, z25, z26, z27, z28, z29], []⟩ W := by
  conv => arg 2; whnf
  have b0 : Below W.heap.size W W.drew := ⟨rfl, rfl, rfl, Nat.le_refl _, fun _ _ => rfl⟩
  refine wp_region_held_drew (S := fun w => Below W.heap.size W w) (by kernel_rfl) b0 (fun hHeld => ?_)
  replace hQ := Lib.hid hQ
  clear b0
  obtain ⟨v0, hv⟩ : ∃ v, v = W.drew := ⟨_, rfl⟩
  rw [← hv] at hHeld ⊢
  clear hv
  refine' tkY 0 hP ?c hHeld ?_
  case c => intro w _; go_simp; try with_reducible rfl
  simp only [Act.put, sQa, sQb, sQc]
  refine' tkY 1 hP ?c hHeld ?_
  case c => intro w hSw; obtain ⟨c0, c1, c2, c3, c4, c5, c6, c7, c8, c9, ca⟩ := CB.out _ hSw; go_simp; try with_reducible rfl
  simp only [Act.put, sQa, sQb, sQc]
  refine wpAnyH_ready (rs := [2]) (by kernel_rfl) (by simp) ?_
  refine' tkC 2 (fun K hK => ?st3) ?mo3
  case st3 =>
    go_simp
    refine (F1.out _ hHeld).mono ?_
    rintro e v1 ⟨rfl, h6⟩
    clear hHeld
    go_simp
    refine hK.out _ _ h6 (fun hHeld => ?_)
    clear hK K h6
    try simp only [Act.put, sQa, sQb, sQc]
    refine' tkY 3 hP ?c hHeld ?_
    case c => intro w _; go_simp; try with_reducible rfl
    simp only [Act.put, sQa, sQb, sQc]
    refine' tkY 4 hP ?c hHeld ?_
    case c => intro w _; go_simp; try with_reducible rfl
    simp only [Act.put, sQa, sQb, sQc]
    refine' tkY 5 hP ?c hHeld ?_
    case c => intro w hSw; obtain ⟨c0, c1, c2, c3, c4, c5, c6, c7, c8, c9, ca⟩ := CB.out _ hSw; go_simp; try with_reducible rfl
    simp only [Act.put, sQa, sQb, sQc]
    refine wpAnyH_ready (rs := [6]) (by kernel_rfl) (by simp) ?_
    refine' tkC 6 (fun K hK => ?st7) ?mo7
    case st7 =>
      go_simp
      refine (F2.out _ hHeld).mono ?_
      rintro e v2 ⟨rfl, h6⟩
      clear hHeld
      go_simp
      refine hK.out _ _ h6 (fun hHeld => ?_)
      clear hK K h6
      try simp only [Act.put, sQa, sQb, sQc]
      refine' tkY 7 hP ?c hHeld ?_
      case c => intro w _; go_simp; try with_reducible rfl
      simp only [Act.put, sQa, sQb, sQc]
      refine' tkY 8 hP ?c hHeld ?_
      case c => intro w _; go_simp; try with_reducible rfl
      simp only [Act.put, sQa, sQb, sQc]
      refine' tkY 9 hP ?c hHeld ?_
      case c => intro w _; go_simp; try with_reducible rfl
      simp only [Act.put, sQa, sQb, sQc]
      refine' tkY 10 hP ?c hHeld ?_
      case c => intro w hSw; obtain ⟨c0, c1, c2, c3, c4, c5, c6, c7, c8, c9, ca⟩ := CB.out _ hSw; go_simp; try with_reducible rfl
      simp only [Act.put, sQa, sQb, sQc]
      refine wpAnyH_ready (rs := [11]) (by kernel_rfl) (by simp) ?_
      refine' tkC 11 (fun K hK => ?st12) ?mo12
      case st12 =>
        go_simp
        refine (F3.out _ hHeld).mono ?_
        rintro e v3 ⟨rfl, h6⟩
        clear hHeld
        go_simp
        refine hK.out _ _ h6 (fun hHeld => ?_)
        clear hK K h6
        try simp only [Act.put, sQa, sQb, sQc]
        refine' tkY 12 hP ?c hHeld ?_
        case c => intro w _; go_simp; try with_reducible rfl
        simp only [Act.put, sQa, sQb, sQc]
        refine' tkY 13 hP ?c hHeld ?_
        case c => intro w _; go_simp; try with_reducible rfl
        simp only [Act.put, sQa, sQb, sQc]
        refine' tkN 14 hP hHeld ?_
        simp only [Act.put, sQa, sQb, sQc]
        refine' tkN 15 hP hHeld ?_
        simp only [Act.put, sQa, sQb, sQc]
        refine' tkY 16 hP ?c hHeld ?_
        case c => intro w _; go_simp; try with_reducible rfl
        simp only [Act.put, sQa, sQb, sQc]
        refine' tkY 17 hP ?c hHeld ?_
        case c => intro w _; go_simp; try with_reducible rfl
        simp only [Act.put, sQa, sQb, sQc]
        refine' tkN 18 hP hHeld ?_
        simp only [Act.put, sQa, sQb, sQc]
        refine' tkN 19 hP hHeld ?_
        simp only [Act.put, sQa, sQb, sQc]
        refine' tkN 20 hP hHeld ?_
        simp only [Act.put, sQa, sQb, sQc]
        refine' tkN 21 hP hHeld ?_
        simp only [Act.put, sQa, sQb, sQc]
        refine' tkN 22 hP hHeld ?_
        simp only [Act.put, sQa, sQb, sQc]
        refine' tkN 23 hP hHeld ?_
        simp only [Act.put, sQa, sQb, sQc]
        refine' tkN 24 hP hHeld ?_
        simp only [Act.put, sQa, sQb, sQc]
        refine' tkN 25 hP hHeld ?_
        simp only [Act.put, sQa, sQb, sQc]
        refine' tkY 26 hP ?c hHeld ?_
        case c => intro w _; go_simp; try with_reducible rfl
        simp only [Act.put, sQa, sQb, sQc]
        refine' tkY 27 hP ?c hHeld ?_
        case c => intro w _; go_simp; try with_reducible rfl
        simp only [Act.put, sQa, sQb, sQc]
        refine wpAnyH_done (by kernel_rfl) ?_ _
        exact hQ.out _ _ _ _ _ _ _ _ _ _ _ _ _ _ _ _ _ _ _ _ _ _ _ _ _ _ _ _  hHeld
      case mo12 => exact AllReadyH.nil
    case mo7 => exact AllReadyH.nil
  case mo3 => exact AllReadyH.nil
set_option maxHeartbeats 12800000 in
theorem qm1d (z0 z2 z3 z4 z5 z6 z7 z8 z9 z10 z11 z12 z13 z14 z15 z16 z17 z18 z19 z20 z21 z22 z23 z24 z25 z26 z27 z28 z29 : Value) (W : World) (q : Nat) (s : Sag)
    (CB : Hid (∀ w', Below W.heap.size W w' → CellS w' q s))
    (F1 : Hid (∀ w', Below W.heap.size W w' → Calls Tryz.prog 106 #[.int .i64 s.ph, .int .i64 1, .int .i64 5] w' fun e w'' => e = .returned (.bool true) ∧ Below W.heap.size W w''))
    (F2 : Hid (∀ w', Below W.heap.size W w' → Calls Tryz.prog 107 #[.agg #[.int .i64 s.w.book, .int .i64 s.w.cust, .int .i64 s.w.dead, .int .i64 s.w.u0, .int .i64 s.w.u1, .int .i64 s.w.u2, .int .i64 s.w.price]] w' fun e w'' => e = .returned (.bool true) ∧ Below W.heap.size W w''))
    (F3 : Hid (∀ w', Below W.heap.size W w' → Calls Tryz.prog 108 #[.int .i64 s.si] w' fun e w'' => e = .returned (.bool true) ∧ Below W.heap.size W w''))
    (F4 : Hid (∀ w', Below W.heap.size W w' → Calls Tryz.prog 109 #[.agg #[.int .i64 s.w.book, .int .i64 s.w.cust, .int .i64 s.w.dead, .int .i64 s.w.u0, .int .i64 s.w.u1, .int .i64 s.w.u2, .int .i64 s.w.price, .int .i64 s.ph, .int .i64 s.st, .int .i64 s.rs, .int .i64 s.si]] w' fun e w'' => e = .returned (.bool false) ∧ Below W.heap.size W w''))
    (Q : Exit → Act → World → Prop)
    (hP : ∀ c a d v w, Q (.panic c) (Act.put a d v) w → Q (.panic c) a w)
    (hQ : ∀ (y3 y4 y5 y6 y7 y8 y9 y10 y11 y12 y13 y14 y15 y16 y17 y18 y19 y20 y21 y22 y23 y24 y25 y26 y27 y28 y29 : Value)  (W3 : World), Below W.heap.size W W3 → Q .normal ⟨#[z0, .pointer (some ⟨q, 0, none⟩), .bool false, y3, y4, y5, y6, y7, y8, y9, y10, y11, y12, y13, y14, y15, y16, y17, y18, y19, y20, y21, y22, y23, y24, y25, y26, y27, y28, y29], []⟩ W3) :
    Code.wp Tryz.prog qm_1 Q ⟨#[z0, .pointer (some ⟨q, 0, none⟩), z2, z3, z4, z5, z6, z7, z8, z9, z10, z11, z12, z13, z14, z15, z16, z17, z18, z19, z20, z21, z22, z23, z24, z25, z26, z27, z28, z29], []⟩ W := by
  conv => arg 2; whnf
  have b0 : Below W.heap.size W W.drew := ⟨rfl, rfl, rfl, Nat.le_refl _, fun _ _ => rfl⟩
  refine wp_region_held_drew (S := fun w => Below W.heap.size W w) (by kernel_rfl) b0 (fun hHeld => ?_)
  replace hQ := Lib.hid hQ
  clear b0
  obtain ⟨v0, hv⟩ : ∃ v, v = W.drew := ⟨_, rfl⟩
  rw [← hv] at hHeld ⊢
  clear hv
  refine' tkY 0 hP ?c hHeld ?_
  case c => intro w _; go_simp; try with_reducible rfl
  simp only [Act.put, sQa, sQb, sQc]
  refine' tkY 1 hP ?c hHeld ?_
  case c => intro w hSw; obtain ⟨c0, c1, c2, c3, c4, c5, c6, c7, c8, c9, ca⟩ := CB.out _ hSw; go_simp; try with_reducible rfl
  simp only [Act.put, sQa, sQb, sQc]
  refine wpAnyH_ready (rs := [2]) (by kernel_rfl) (by simp) ?_
  refine' tkC 2 (fun K hK => ?st3) ?mo3
  case st3 =>
    go_simp
    refine (F1.out _ hHeld).mono ?_
    rintro e v1 ⟨rfl, h6⟩
    clear hHeld
    go_simp
    refine hK.out _ _ h6 (fun hHeld => ?_)
    clear hK K h6
    try simp only [Act.put, sQa, sQb, sQc]
    refine' tkY 3 hP ?c hHeld ?_
    case c => intro w _; go_simp; try with_reducible rfl
    simp only [Act.put, sQa, sQb, sQc]
    refine' tkY 4 hP ?c hHeld ?_
    case c => intro w _; go_simp; try with_reducible rfl
    simp only [Act.put, sQa, sQb, sQc]
    refine' tkY 5 hP ?c hHeld ?_
    case c => intro w hSw; obtain ⟨c0, c1, c2, c3, c4, c5, c6, c7, c8, c9, ca⟩ := CB.out _ hSw; go_simp; try with_reducible rfl
    simp only [Act.put, sQa, sQb, sQc]
    refine wpAnyH_ready (rs := [6]) (by kernel_rfl) (by simp) ?_
    refine' tkC 6 (fun K hK => ?st7) ?mo7
    case st7 =>
      go_simp
      refine (F2.out _ hHeld).mono ?_
      rintro e v2 ⟨rfl, h6⟩
      clear hHeld
      go_simp
      refine hK.out _ _ h6 (fun hHeld => ?_)
      clear hK K h6
      try simp only [Act.put, sQa, sQb, sQc]
      refine' tkY 7 hP ?c hHeld ?_
      case c => intro w _; go_simp; try with_reducible rfl
      simp only [Act.put, sQa, sQb, sQc]
      refine' tkY 8 hP ?c hHeld ?_
      case c => intro w _; go_simp; try with_reducible rfl
      simp only [Act.put, sQa, sQb, sQc]
      refine' tkY 9 hP ?c hHeld ?_
      case c => intro w _; go_simp; try with_reducible rfl
      simp only [Act.put, sQa, sQb, sQc]
      refine' tkY 10 hP ?c hHeld ?_
      case c => intro w hSw; obtain ⟨c0, c1, c2, c3, c4, c5, c6, c7, c8, c9, ca⟩ := CB.out _ hSw; go_simp; try with_reducible rfl
      simp only [Act.put, sQa, sQb, sQc]
      refine wpAnyH_ready (rs := [11]) (by kernel_rfl) (by simp) ?_
      refine' tkC 11 (fun K hK => ?st12) ?mo12
      case st12 =>
        go_simp
        refine (F3.out _ hHeld).mono ?_
        rintro e v3 ⟨rfl, h6⟩
        clear hHeld
        go_simp
        refine hK.out _ _ h6 (fun hHeld => ?_)
        clear hK K h6
        try simp only [Act.put, sQa, sQb, sQc]
        refine' tkY 12 hP ?c hHeld ?_
        case c => intro w _; go_simp; try with_reducible rfl
        simp only [Act.put, sQa, sQb, sQc]
        refine' tkY 13 hP ?c hHeld ?_
        case c => intro w _; go_simp; try with_reducible rfl
        simp only [Act.put, sQa, sQb, sQc]
        refine' tkY 14 hP ?c hHeld ?_
        case c => intro w hSw; obtain ⟨c0, c1, c2, c3, c4, c5, c6, c7, c8, c9, ca⟩ := CB.out _ hSw; go_simp; try with_reducible rfl
        simp only [Act.put, sQa, sQb, sQc]
        refine wpAnyH_ready (rs := [15]) (by kernel_rfl) (by simp) ?_
        refine' tkC 15 (fun K hK => ?st16) ?mo16
        case st16 =>
          go_simp
          refine (F4.out _ hHeld).mono ?_
          rintro e v4 ⟨rfl, h6⟩
          clear hHeld
          go_simp
          refine hK.out _ _ h6 (fun hHeld => ?_)
          clear hK K h6
          try simp only [Act.put, sQa, sQb, sQc]
          refine' tkY 16 hP ?c hHeld ?_
          case c => intro w _; go_simp; try with_reducible rfl
          simp only [Act.put, sQa, sQb, sQc]
          refine' tkY 17 hP ?c hHeld ?_
          case c => intro w _; go_simp; try with_reducible rfl
          simp only [Act.put, sQa, sQb, sQc]
          refine' tkN 18 hP hHeld ?_
          simp only [Act.put, sQa, sQb, sQc]
          refine' tkN 19 hP hHeld ?_
          simp only [Act.put, sQa, sQb, sQc]
          refine' tkN 20 hP hHeld ?_
          simp only [Act.put, sQa, sQb, sQc]
          refine' tkN 21 hP hHeld ?_
          simp only [Act.put, sQa, sQb, sQc]
          refine' tkN 22 hP hHeld ?_
          simp only [Act.put, sQa, sQb, sQc]
          refine' tkN 23 hP hHeld ?_
          simp only [Act.put, sQa, sQb, sQc]
          refine' tkN 24 hP hHeld ?_
          simp only [Act.put, sQa, sQb, sQc]
          refine' tkN 25 hP hHeld ?_
          simp only [Act.put, sQa, sQb, sQc]
          refine' tkY 26 hP ?c hHeld ?_
          case c => intro w _; go_simp; try with_reducible rfl
          simp only [Act.put, sQa, sQb, sQc]
          refine' tkY 27 hP ?c hHeld ?_
          case c => intro w _; go_simp; try with_reducible rfl
          simp only [Act.put, sQa, sQb, sQc]
          refine wpAnyH_done (by kernel_rfl) ?_ _
          exact hQ.out _ _ _ _ _ _ _ _ _ _ _ _ _ _ _ _ _ _ _ _ _ _ _ _ _ _ _ _  hHeld
        case mo16 => exact AllReadyH.nil
      case mo12 => exact AllReadyH.nil
    case mo7 => exact AllReadyH.nil
  case mo3 => exact AllReadyH.nil
set_option maxHeartbeats 12800000 in
theorem qm1e (z0 z2 z3 z4 z5 z6 z7 z8 z9 z10 z11 z12 z13 z14 z15 z16 z17 z18 z19 z20 z21 z22 z23 z24 z25 z26 z27 z28 z29 : Value) (W : World) (q n : Nat) (s : Sag) (m k : Int) (r : Bool)
    (CB : Hid (∀ w', Below W.heap.size W w' → CellS w' q s))
    (F1 : Hid (∀ w', Below W.heap.size W w' → Calls Tryz.prog 106 #[.int .i64 s.ph, .int .i64 1, .int .i64 5] w' fun e w'' => e = .returned (.bool true) ∧ Below W.heap.size W w''))
    (F2 : Hid (∀ w', Below W.heap.size W w' → Calls Tryz.prog 107 #[.agg #[.int .i64 s.w.book, .int .i64 s.w.cust, .int .i64 s.w.dead, .int .i64 s.w.u0, .int .i64 s.w.u1, .int .i64 s.w.u2, .int .i64 s.w.price]] w' fun e w'' => e = .returned (.bool true) ∧ Below W.heap.size W w''))
    (F3 : Hid (∀ w', Below W.heap.size W w' → Calls Tryz.prog 108 #[.int .i64 s.si] w' fun e w'' => e = .returned (.bool true) ∧ Below W.heap.size W w''))
    (F4 : Hid (∀ w', Below W.heap.size W w' → Calls Tryz.prog 109 #[.agg #[.int .i64 s.w.book, .int .i64 s.w.cust, .int .i64 s.w.dead, .int .i64 s.w.u0, .int .i64 s.w.u1, .int .i64 s.w.u2, .int .i64 s.w.price, .int .i64 s.ph, .int .i64 s.st, .int .i64 s.rs, .int .i64 s.si]] w' fun e w'' => e = .returned (.bool true) ∧ Below W.heap.size W w''))
    (F5 : Hid (∀ w', Below W.heap.size W w' → Calls Tryz.prog 110 #[.agg #[.int .i64 s.w.book, .int .i64 s.w.cust, .int .i64 s.w.dead, .int .i64 s.w.u0, .int .i64 s.w.u1, .int .i64 s.w.u2, .int .i64 s.w.price, .int .i64 s.ph, .int .i64 s.st, .int .i64 s.rs, .int .i64 s.si]] w' fun e w'' => (∃ A c, e = .returned (.slice A n c)) ∧ Below W.heap.size W w''))
    (F6 : Hid (∀ w', Below W.heap.size W w' → Calls Tryz.prog 106 #[.int .i64 s.st, .int .i64 0, .int .i64 k] w' fun e w'' => e = .returned (.bool r) ∧ Below W.heap.size W w''))
    (em : max (n : Int) 1 = m)
    (hk : IntKind.i64.wrap (m - 1) = k)
    (Q : Exit → Act → World → Prop)
    (hP : ∀ c a d v w, Q (.panic c) (Act.put a d v) w → Q (.panic c) a w)
    (hQ : ∀ (y3 y4 y5 y6 y7 y8 y9 y10 y11 y12 y13 y14 y15 y16 y17 y18 y19 y20 y21 y22 y23 y24 y25 y26 y27 y28 y29 : Value)  (W3 : World), Below W.heap.size W W3 → Q .normal ⟨#[z0, .pointer (some ⟨q, 0, none⟩), .bool r, y3, y4, y5, y6, y7, y8, y9, y10, y11, y12, y13, y14, y15, y16, y17, y18, y19, y20, y21, y22, y23, y24, y25, y26, y27, y28, y29], []⟩ W3) :
    Code.wp Tryz.prog qm_1 Q ⟨#[z0, .pointer (some ⟨q, 0, none⟩), z2, z3, z4, z5, z6, z7, z8, z9, z10, z11, z12, z13, z14, z15, z16, z17, z18, z19, z20, z21, z22, z23, z24, z25, z26, z27, z28, z29], []⟩ W := by
  conv => arg 2; whnf
  have b0 : Below W.heap.size W W.drew := ⟨rfl, rfl, rfl, Nat.le_refl _, fun _ _ => rfl⟩
  refine wp_region_held_drew (S := fun w => Below W.heap.size W w) (by kernel_rfl) b0 (fun hHeld => ?_)
  replace hQ := Lib.hid hQ
  clear b0
  obtain ⟨v0, hv⟩ : ∃ v, v = W.drew := ⟨_, rfl⟩
  rw [← hv] at hHeld ⊢
  clear hv
  refine' tkY 0 hP ?c hHeld ?_
  case c => intro w _; go_simp; try with_reducible rfl
  simp only [Act.put, sQa, sQb, sQc]
  refine' tkY 1 hP ?c hHeld ?_
  case c => intro w hSw; obtain ⟨c0, c1, c2, c3, c4, c5, c6, c7, c8, c9, ca⟩ := CB.out _ hSw; go_simp; try with_reducible rfl
  simp only [Act.put, sQa, sQb, sQc]
  refine wpAnyH_ready (rs := [2]) (by kernel_rfl) (by simp) ?_
  refine' tkC 2 (fun K hK => ?st3) ?mo3
  case st3 =>
    go_simp
    refine (F1.out _ hHeld).mono ?_
    rintro e v1 ⟨rfl, h6⟩
    clear hHeld
    go_simp
    refine hK.out _ _ h6 (fun hHeld => ?_)
    clear hK K h6
    try simp only [Act.put, sQa, sQb, sQc]
    refine' tkY 3 hP ?c hHeld ?_
    case c => intro w _; go_simp; try with_reducible rfl
    simp only [Act.put, sQa, sQb, sQc]
    refine' tkY 4 hP ?c hHeld ?_
    case c => intro w _; go_simp; try with_reducible rfl
    simp only [Act.put, sQa, sQb, sQc]
    refine' tkY 5 hP ?c hHeld ?_
    case c => intro w hSw; obtain ⟨c0, c1, c2, c3, c4, c5, c6, c7, c8, c9, ca⟩ := CB.out _ hSw; go_simp; try with_reducible rfl
    simp only [Act.put, sQa, sQb, sQc]
    refine wpAnyH_ready (rs := [6]) (by kernel_rfl) (by simp) ?_
    refine' tkC 6 (fun K hK => ?st7) ?mo7
    case st7 =>
      go_simp
      refine (F2.out _ hHeld).mono ?_
      rintro e v2 ⟨rfl, h6⟩
      clear hHeld
      go_simp
      refine hK.out _ _ h6 (fun hHeld => ?_)
      clear hK K h6
      try simp only [Act.put, sQa, sQb, sQc]
      refine' tkY 7 hP ?c hHeld ?_
      case c => intro w _; go_simp; try with_reducible rfl
      simp only [Act.put, sQa, sQb, sQc]
      refine' tkY 8 hP ?c hHeld ?_
      case c => intro w _; go_simp; try with_reducible rfl
      simp only [Act.put, sQa, sQb, sQc]
      refine' tkY 9 hP ?c hHeld ?_
      case c => intro w _; go_simp; try with_reducible rfl
      simp only [Act.put, sQa, sQb, sQc]
      refine' tkY 10 hP ?c hHeld ?_
      case c => intro w hSw; obtain ⟨c0, c1, c2, c3, c4, c5, c6, c7, c8, c9, ca⟩ := CB.out _ hSw; go_simp; try with_reducible rfl
      simp only [Act.put, sQa, sQb, sQc]
      refine wpAnyH_ready (rs := [11]) (by kernel_rfl) (by simp) ?_
      refine' tkC 11 (fun K hK => ?st12) ?mo12
      case st12 =>
        go_simp
        refine (F3.out _ hHeld).mono ?_
        rintro e v3 ⟨rfl, h6⟩
        clear hHeld
        go_simp
        refine hK.out _ _ h6 (fun hHeld => ?_)
        clear hK K h6
        try simp only [Act.put, sQa, sQb, sQc]
        refine' tkY 12 hP ?c hHeld ?_
        case c => intro w _; go_simp; try with_reducible rfl
        simp only [Act.put, sQa, sQb, sQc]
        refine' tkY 13 hP ?c hHeld ?_
        case c => intro w _; go_simp; try with_reducible rfl
        simp only [Act.put, sQa, sQb, sQc]
        refine' tkY 14 hP ?c hHeld ?_
        case c => intro w hSw; obtain ⟨c0, c1, c2, c3, c4, c5, c6, c7, c8, c9, ca⟩ := CB.out _ hSw; go_simp; try with_reducible rfl
        simp only [Act.put, sQa, sQb, sQc]
        refine wpAnyH_ready (rs := [15]) (by kernel_rfl) (by simp) ?_
        refine' tkC 15 (fun K hK => ?st16) ?mo16
        case st16 =>
          go_simp
          refine (F4.out _ hHeld).mono ?_
          rintro e v4 ⟨rfl, h6⟩
          clear hHeld
          go_simp
          refine hK.out _ _ h6 (fun hHeld => ?_)
          clear hK K h6
          try simp only [Act.put, sQa, sQb, sQc]
          refine' tkY 16 hP ?c hHeld ?_
          case c => intro w _; go_simp; try with_reducible rfl
          simp only [Act.put, sQa, sQb, sQc]
          refine' tkY 17 hP ?c hHeld ?_
          case c => intro w _; go_simp; try with_reducible rfl
          simp only [Act.put, sQa, sQb, sQc]
          refine' tkY 18 hP ?c hHeld ?_
          case c => intro w _; go_simp; try with_reducible rfl
          simp only [Act.put, sQa, sQb, sQc]
          refine' tkY 19 hP ?c hHeld ?_
          case c => intro w hSw; obtain ⟨c0, c1, c2, c3, c4, c5, c6, c7, c8, c9, ca⟩ := CB.out _ hSw; go_simp; try with_reducible rfl
          simp only [Act.put, sQa, sQb, sQc]
          refine' tkY 20 hP ?c hHeld ?_
          case c => intro w hSw; obtain ⟨c0, c1, c2, c3, c4, c5, c6, c7, c8, c9, ca⟩ := CB.out _ hSw; go_simp; try with_reducible rfl
          simp only [Act.put, sQa, sQb, sQc]
          refine wpAnyH_ready (rs := [21]) (by kernel_rfl) (by simp) ?_
          refine' tkC 21 (fun K hK => ?st22) ?mo22
          case st22 =>
            go_simp
            refine (F5.out _ hHeld).mono ?_
            rintro e v5 ⟨⟨A, c, rfl⟩, h6⟩
            clear hHeld
            go_simp
            refine hK.out _ _ h6 (fun hHeld => ?_)
            clear hK K h6
            try simp only [Act.put, sQa, sQb, sQc]
            refine' tkY 22 hP ?c hHeld ?_
            case c => intro w _; go_simp; try with_reducible rfl
            simp only [Act.put, sQa, sQb, sQc]
            refine' tkY 23 hP ?c hHeld ?_
            case c => intro w _; go_simp; try with_reducible rfl
            simp only [Act.put, sQa, sQb, sQc]
            refine' tkY 24 hP ?c hHeld ?_
            case c => intro w _; go_simp; try with_reducible rfl
            simp only [Act.put, sQa, sQb, sQc]
            refine wpAnyH_ready (rs := [25]) (by kernel_rfl) (by simp) ?_
            refine' tkC 25 (fun K hK => ?st26) ?mo26
            case st26 =>
              go_simp
              refine (F6.out _ hHeld).mono ?_
              rintro e v6 ⟨rfl, h6⟩
              clear hHeld
              go_simp
              refine hK.out _ _ h6 (fun hHeld => ?_)
              clear hK K h6
              try simp only [Act.put, sQa, sQb, sQc]
              refine' tkY 26 hP ?c hHeld ?_
              case c => intro w _; go_simp; try with_reducible rfl
              simp only [Act.put, sQa, sQb, sQc]
              refine' tkY 27 hP ?c hHeld ?_
              case c => intro w _; go_simp; try with_reducible rfl
              simp only [Act.put, sQa, sQb, sQc]
              refine wpAnyH_done (by kernel_rfl) ?_ _
              exact hQ.out _ _ _ _ _ _ _ _ _ _ _ _ _ _ _ _ _ _ _ _ _ _ _ _ _ _ _ _  hHeld
            case mo26 => exact AllReadyH.nil
          case mo22 => exact AllReadyH.nil
        case mo16 => exact AllReadyH.nil
      case mo12 => exact AllReadyH.nil
    case mo7 => exact AllReadyH.nil
  case mo3 => exact AllReadyH.nil
end Sg
end Go.Proofs.YtpkdigegkemogaaGreatDoor
