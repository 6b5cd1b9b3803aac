/- Part of the claim: FnD -/
import Derived.Test.YtpkdigegkemogaaGreatDoorTkT
import Derived.Test.YtpkdigegkemogaaGreatDoorFnCT
import Derived.Test.YtpkdigegkemogaaGreatDoorReXbT
namespace Go.Proofs.YtpkdigegkemogaaGreatDoor
set_option maxRecDepth 100000
open Go.RowKit
open Go.Proofs.YtpkdigegkemogaaGreatDoor.Pk (one_at one_free one_set lt_some)
namespace Fo
open Re (Rec rcc rcv BoxR rmay wpList_rload wpList_rload_g rload_yields pmay_any)
open St (Kq grq grq_grq)
open Ho (Hst HTo)
open Ti (Til TTo)
open Sg (Tab)
open Pl (regionAt)

def RTo (w : World) (q : Nat) (fp : Nat → Prop) (s : Nd) (w' : World) : Prop := R w' q s (grq fp w w') ∧ Kq fp w w'
theorem RTo.after {w w1 w2 : World} {q : Nat} {fp : Nat → Prop} {s s' : Nd} (H : R w q s fp) (b : Below w.heap.size w w1) (x : RTo w1 q fp s' w2) : RTo w q fp s' w2 := by
  obtain ⟨x1, x2⟩ := x
  have k : Kq fp w w2 := (Kq.of_below b).trans (x2.mono fun _ e => .inl e)
  refine ⟨⟨.inl H.pin, fun g hg => ?_, ?_⟩, k⟩
  · rcases hg with hg | hg
    · exact Nat.lt_of_lt_of_le (H.size g hg) k.size
    · exact hg.2
  · obtain ⟨ff, hf, C⟩ := x1.core
    refine ⟨ff, fun g hg => ⟨?_, (hf g hg).2⟩, C⟩
    rcases (hf g hg).1 with e | ⟨e1, e2⟩
    · exact .inl e
    · exact .inr ⟨Nat.le_trans b.size e1, e2⟩
theorem RTo.of_below {w w1 : World} {q : Nat} {fp : Nat → Prop} {s : Nd} (H : R w q s fp) (b : Below w.heap.size w w1) : RTo w q fp s w1 := H.same b
noncomputable def ar_1 : Code := (Tryz.f14.body.bind (regionAt 1)).getD .skip
set_option maxHeartbeats 12800000 in
theorem arHn (z1 z2 z4 z5 z6 z7 z8 z9 z10 z11 z12 z13 z14 z15 z16 z17 z18 z19 z20 z21 z22 z23 z24 z25 : Value) (W : World) (q b : Nat) (r : Rec) (h : Nat) (Done : World → Prop)
    (C0 : W.heap[q]? = some (.cells (hostC h) 94 (0, 0))) (B0 : BoxR W b r)
    (F1 : Hid (Calls Tryz.prog 39 #[rcv r] W.drew fun e w' => e = .returned (.bool false) ∧ Below W.drew.heap.size W.drew w' ∧ Done w'))
    (Q : Exit → Act → World → Prop)
    (hP : ∀ c a d v w, Q (.panic c) (Act.put a d v) w → Q (.panic c) a w)
    (hQ : ∀ (y5 y6 y7 y8 y9 y10 y11 y12 y13 y14 y15 y16 y17 y18 y19 y20 y21 y22 y23 y24 y25 : Value) (W3 : World), Done W3 → Q .normal ⟨#[ptr q, z1, z2, ptr b, .bool false, y5, y6, y7, y8, y9, y10, y11, y12, y13, y14, y15, y16, y17, y18, y19, y20, y21, y22, y23, y24, y25], []⟩ W3) :
    Code.wp Tryz.prog ar_1 Q ⟨#[ptr q, z1, z2, ptr b, z4, z5, z6, z7, z8, z9, z10, z11, z12, z13, z14, z15, z16, z17, z18, z19, z20, z21, z22, z23, z24, z25], []⟩ W := by
  conv => arg 2; whnf
  have b0 : W.drew.heap[q]? = some (.cells (hostC h) 94 (0, 0)) ∧ BoxR W.drew b r := ⟨C0, B0⟩
  refine wp_region_held_drew (S := fun w => w.heap[q]? = some (.cells (hostC h) 94 (0, 0)) ∧ BoxR w b r) (by kernel_rfl) b0 (fun hHeld => ?_)
  replace hQ := Lib.hid hQ
  clear b0
  obtain ⟨v0, hv⟩ : ∃ v, v = W.drew := ⟨_, rfl⟩
  rw [← hv] at F1 hHeld ⊢
  clear hv
  refine' tkY 0 hP ?c hHeld ?_
  case c => intro w _; go_simp; try with_reducible rfl
  simp only [Act.put, sQa, sQb, sQc]
  refine' tkY 1 hP ?c hHeld ?_
  case c => intro w _; go_simp; try with_reducible rfl
  simp only [Act.put, sQa, sQb, sQc]
  refine' tkY 2 hP ?c hHeld ?_
  case c => intro w _; go_simp; try with_reducible rfl
  simp only [Act.put, sQa, sQb, sQc]
  refine' tkY 3 hP ?c hHeld ?_
  case c => intro w _; go_simp; try with_reducible rfl
  simp only [Act.put, sQa, sQb, sQc]
  refine' tkY 4 hP ?c hHeld ?_
  case c => intro w _; go_simp; try with_reducible rfl
  simp only [Act.put, sQa, sQb, sQc]
  refine' tkY 5 hP ?c hHeld ?_
  case c => intro w _; go_simp; try with_reducible rfl
  simp only [Act.put, sQa, sQb, sQc]
  refine' tkY 6 hP ?c hHeld ?_
  case c => intro w hSw; have cq := one_at (i := 0) hSw.1; have lk := lt_some hSw.1; go_simp; try with_reducible rfl
  simp only [Act.put, sQa, sQb, sQc]
  refine' tkY 7 hP ?c hHeld ?_
  case c => intro w _; go_simp; try with_reducible rfl
  simp only [Act.put, sQa, sQb, sQc]
  refine' tkY 8 hP ?c hHeld ?_
  case c => intro w _; go_simp; try with_reducible rfl
  simp only [Act.put, sQa, sQb, sQc]
  refine' tkY 9 hP ?c hHeld ?_
  case c => intro w _; go_simp; try with_reducible rfl
  simp only [Act.put, sQa, sQb, sQc]
  refine' tkY 10 (v := rcv r) hP ?c hHeld ?_
  case c => exact fun w hSw => rload_yields (.tmp 3) rfl b rfl r hSw.2
  simp only [Act.put, sQa, sQb, sQc]
  refine wpAnyH_ready (rs := [11]) (by kernel_rfl) (by simp) ?_
  refine' tkC 11 (fun K hK => ?st12) ?mo12
  case st12 =>
    go_simp
    refine F1.out.mono ?_
    rintro e v1 ⟨rfl, h1, dn⟩
    have h6 := And.intro ((h1.block _ (lt_some hHeld.1)).trans hHeld.1) (hHeld.2.below h1)
    clear hHeld
    go_simp
    refine hK.out _ _ h6 (fun hHeld => ?_)
    clear hK K h6
    try simp only [Act.put, sQa, sQb, sQc]
    refine' tkY 12 hP ?c hHeld ?_
    case c => intro w _; go_simp; try with_reducible rfl
    simp only [Act.put, sQa, sQb, sQc]
    refine' tkY 13 hP ?c hHeld ?_
    case c => intro w _; go_simp; try with_reducible rfl
    simp only [Act.put, sQa, sQb, sQc]
    refine' tkN 14 hP hHeld ?_
    simp only [Act.put, sQa, sQb, sQc]
    refine' tkN 15 hP hHeld ?_
    simp only [Act.put, sQa, sQb, sQc]
    refine' tkN 16 hP hHeld ?_
    simp only [Act.put, sQa, sQb, sQc]
    refine' tkN 17 hP hHeld ?_
    simp only [Act.put, sQa, sQb, sQc]
    refine' tkN 18 hP hHeld ?_
    simp only [Act.put, sQa, sQb, sQc]
    refine' tkN 19 hP hHeld ?_
    simp only [Act.put, sQa, sQb, sQc]
    refine' tkY 20 hP ?c hHeld ?_
    case c => intro w _; go_simp; try with_reducible rfl
    simp only [Act.put, sQa, sQb, sQc]
    refine' tkY 21 hP ?c hHeld ?_
    case c => intro w _; go_simp; try with_reducible rfl
    simp only [Act.put, sQa, sQb, sQc]
    refine wpAnyH_done (by kernel_rfl) ?_ _
    exact hQ.out _ _ _ _ _ _ _ _ _ _ _ _ _ _ _ _ _ _ _ _ _ _ dn
  case mo12 => exact AllReadyH.nil

set_option maxHeartbeats 12800000 in
theorem arH (z1 z2 z4 z5 z6 z7 z8 z9 z10 z11 z12 z13 z14 z15 z16 z17 z18 z19 z20 z21 z22 z23 z24 z25 : Value) (W : World) (q b : Nat) (r : Rec) (h : Nat) (ok : Bool) (Done : World → Prop)
    (C0 : W.heap[q]? = some (.cells (hostC h) 94 (0, 0))) (B0 : BoxR W b r)
    (F1 : Hid (Calls Tryz.prog 39 #[rcv r] W.drew fun e w' => e = .returned (.bool true) ∧ Below W.drew.heap.size W.drew w'))
    (F2 : Hid (∀ w', Below W.drew.heap.size W.drew w' → Calls Tryz.prog 206 #[.agg (hostV h), rcv r] w' fun e w'' => e = .returned (.bool ok) ∧ Done w'' ∧ w''.heap[q]? = w'.heap[q]? ∧ w''.heap[b]? = w'.heap[b]?))
    (Q : Exit → Act → World → Prop)
    (hP : ∀ c a d v w, Q (.panic c) (Act.put a d v) w → Q (.panic c) a w)
    (hQ : ∀ (y5 y6 y7 y8 y9 y10 y11 y12 y13 y14 y15 y16 y17 y18 y19 y20 y21 y22 y23 y24 y25 : Value) (W3 : World), Done W3 → Q .normal ⟨#[ptr q, z1, z2, ptr b, .bool ok, y5, y6, y7, y8, y9, y10, y11, y12, y13, y14, y15, y16, y17, y18, y19, y20, y21, y22, y23, y24, y25], []⟩ W3) :
    Code.wp Tryz.prog ar_1 Q ⟨#[ptr q, z1, z2, ptr b, z4, z5, z6, z7, z8, z9, z10, z11, z12, z13, z14, z15, z16, z17, z18, z19, z20, z21, z22, z23, z24, z25], []⟩ W := by
  conv => arg 2; whnf
  have b0 : W.drew.heap[q]? = some (.cells (hostC h) 94 (0, 0)) ∧ BoxR W.drew b r := ⟨C0, B0⟩
  refine wp_region_held_drew (S := fun w => w.heap[q]? = some (.cells (hostC h) 94 (0, 0)) ∧ BoxR w b r) (by kernel_rfl) b0 (fun hHeld => ?_)
  replace hQ := Lib.hid hQ
  clear b0
  obtain ⟨v0, hv⟩ : ∃ v, v = W.drew := ⟨_, rfl⟩
  rw [← hv] at F1 hHeld ⊢
  rw [← hv] at F2
  clear hv
  refine' tkY 0 hP ?c hHeld ?_
  case c => intro w _; go_simp; try with_reducible rfl
  simp only [Act.put, sQa, sQb, sQc]
  refine' tkY 1 hP ?c hHeld ?_
  case c => intro w _; go_simp; try with_reducible rfl
  simp only [Act.put, sQa, sQb, sQc]
  refine' tkY 2 hP ?c hHeld ?_
  case c => intro w _; go_simp; try with_reducible rfl
  simp only [Act.put, sQa, sQb, sQc]
  refine' tkY 3 hP ?c hHeld ?_
  case c => intro w _; go_simp; try with_reducible rfl
  simp only [Act.put, sQa, sQb, sQc]
  refine' tkY 4 hP ?c hHeld ?_
  case c => intro w _; go_simp; try with_reducible rfl
  simp only [Act.put, sQa, sQb, sQc]
  refine' tkY 5 hP ?c hHeld ?_
  case c => intro w _; go_simp; try with_reducible rfl
  simp only [Act.put, sQa, sQb, sQc]
  refine' tkY 6 hP ?c hHeld ?_
  case c => intro w hSw; have cq := one_at (i := 0) hSw.1; have lk := lt_some hSw.1; go_simp; try with_reducible rfl
  simp only [Act.put, sQa, sQb, sQc]
  refine' tkY 7 hP ?c hHeld ?_
  case c => intro w _; go_simp; try with_reducible rfl
  simp only [Act.put, sQa, sQb, sQc]
  refine' tkY 8 hP ?c hHeld ?_
  case c => intro w _; go_simp; try with_reducible rfl
  simp only [Act.put, sQa, sQb, sQc]
  refine' tkY 9 hP ?c hHeld ?_
  case c => intro w _; go_simp; try with_reducible rfl
  simp only [Act.put, sQa, sQb, sQc]
  refine' tkY 10 (v := rcv r) hP ?c hHeld ?_
  case c => exact fun w hSw => rload_yields (.tmp 3) rfl b rfl r hSw.2
  simp only [Act.put, sQa, sQb, sQc]
  refine wpAnyH_ready (rs := [11]) (by kernel_rfl) (by simp) ?_
  refine' tkC 11 (fun K hK => ?st12) ?mo12
  case st12 =>
    go_simp
    refine F1.out.mono ?_
    rintro e v1 ⟨rfl, h1⟩
    have h6 := And.intro ((h1.block _ (lt_some hHeld.1)).trans hHeld.1) (hHeld.2.below h1)
    clear hHeld
    go_simp
    refine hK.out _ _ h6 (fun hHeld => ?_)
    clear hK K h6
    try simp only [Act.put, sQa, sQb, sQc]
    refine' tkY 12 hP ?c hHeld ?_
    case c => intro w _; go_simp; try with_reducible rfl
    simp only [Act.put, sQa, sQb, sQc]
    refine' tkY 13 hP ?c hHeld ?_
    case c => intro w _; go_simp; try with_reducible rfl
    simp only [Act.put, sQa, sQb, sQc]
    refine' tkY 14 hP ?c hHeld ?_
    case c => intro w _; go_simp; try with_reducible rfl
    simp only [Act.put, sQa, sQb, sQc]
    refine' tkY 15 hP ?c hHeld ?_
    case c => intro w _; go_simp; try with_reducible rfl
    simp only [Act.put, sQa, sQb, sQc]
    refine' tkY 16 hP ?c hHeld ?_
    case c => intro w _; go_simp; try with_reducible rfl
    simp only [Act.put, sQa, sQb, sQc]
    refine' tkY 17 hP ?c hHeld ?_
    case c => intro w hSw; have cq := one_at (i := 0) hSw.1; have lk := lt_some hSw.1; go_simp; try with_reducible rfl
    simp only [Act.put, sQa, sQb, sQc]
    refine' tkY 18 (v := rcv r) hP ?c hHeld ?_
    case c => exact fun w hSw => rload_yields (.tmp 3) rfl b rfl r hSw.2
    simp only [Act.put, sQa, sQb, sQc]
    refine wpAnyH_ready (rs := [19]) (by kernel_rfl) (by simp) ?_
    refine' tkC 19 (fun K hK => ?st20) ?mo20
    case st20 =>
      have mf := m_foldH h
      go_simp
      refine (F2.out _ h1).mono ?_
      rintro e v2 ⟨rfl, dn, k1, k2⟩
      have h6 := And.intro (k1.trans hHeld.1) (show BoxR v2 b r from k2.trans hHeld.2)
      clear hHeld mf h1
      go_simp
      refine hK.out _ _ h6 (fun hHeld => ?_)
      clear hK K h6
      try simp only [Act.put, sQa, sQb, sQc]
      refine' tkY 20 hP ?c hHeld ?_
      case c => intro w _; go_simp; try with_reducible rfl
      simp only [Act.put, sQa, sQb, sQc]
      refine' tkY 21 hP ?c hHeld ?_
      case c => intro w _; go_simp; try with_reducible rfl
      simp only [Act.put, sQa, sQb, sQc]
      refine wpAnyH_done (by kernel_rfl) ?_ _
      exact hQ.out _ _ _ _ _ _ _ _ _ _ _ _ _ _ _ _ _ _ _ _ _ _ dn
    case mo20 => exact AllReadyH.nil
  case mo12 => exact AllReadyH.nil

set_option maxHeartbeats 12800000 in
theorem arTn (z1 z2 z4 z5 z6 z7 z8 z9 z10 z11 z12 z13 z14 z15 z16 z17 z18 z19 z20 z21 z22 z23 z24 z25 : Value) (W : World) (q b : Nat) (r : Rec) (h : Nat) (Done : World → Prop)
    (C0 : W.heap[q]? = some (.cells (tillC h) 94 (0, 0))) (B0 : BoxR W b r)
    (F1 : Hid (Calls Tryz.prog 39 #[rcv r] W.drew fun e w' => e = .returned (.bool false) ∧ Below W.drew.heap.size W.drew w' ∧ Done w'))
    (Q : Exit → Act → World → Prop)
    (hP : ∀ c a d v w, Q (.panic c) (Act.put a d v) w → Q (.panic c) a w)
    (hQ : ∀ (y5 y6 y7 y8 y9 y10 y11 y12 y13 y14 y15 y16 y17 y18 y19 y20 y21 y22 y23 y24 y25 : Value) (W3 : World), Done W3 → Q .normal ⟨#[ptr q, z1, z2, ptr b, .bool false, y5, y6, y7, y8, y9, y10, y11, y12, y13, y14, y15, y16, y17, y18, y19, y20, y21, y22, y23, y24, y25], []⟩ W3) :
    Code.wp Tryz.prog ar_1 Q ⟨#[ptr q, z1, z2, ptr b, z4, z5, z6, z7, z8, z9, z10, z11, z12, z13, z14, z15, z16, z17, z18, z19, z20, z21, z22, z23, z24, z25], []⟩ W := by
  conv => arg 2; whnf
  have b0 : W.drew.heap[q]? = some (.cells (tillC h) 94 (0, 0)) ∧ BoxR W.drew b r := ⟨C0, B0⟩
  refine wp_region_held_drew (S := fun w => w.heap[q]? = some (.cells (tillC h) 94 (0, 0)) ∧ BoxR w b r) (by kernel_rfl) b0 (fun hHeld => ?_)
  replace hQ := Lib.hid hQ
  clear b0
  obtain ⟨v0, hv⟩ : ∃ v, v = W.drew := ⟨_, rfl⟩
  rw [← hv] at F1 hHeld ⊢
  clear hv
  refine' tkY 0 hP ?c hHeld ?_
  case c => intro w _; go_simp; try with_reducible rfl
  simp only [Act.put, sQa, sQb, sQc]
  refine' tkY 1 hP ?c hHeld ?_
  case c => intro w _; go_simp; try with_reducible rfl
  simp only [Act.put, sQa, sQb, sQc]
  refine' tkY 2 hP ?c hHeld ?_
  case c => intro w _; go_simp; try with_reducible rfl
  simp only [Act.put, sQa, sQb, sQc]
  refine' tkY 3 hP ?c hHeld ?_
  case c => intro w _; go_simp; try with_reducible rfl
  simp only [Act.put, sQa, sQb, sQc]
  refine' tkY 4 hP ?c hHeld ?_
  case c => intro w _; go_simp; try with_reducible rfl
  simp only [Act.put, sQa, sQb, sQc]
  refine' tkY 5 hP ?c hHeld ?_
  case c => intro w _; go_simp; try with_reducible rfl
  simp only [Act.put, sQa, sQb, sQc]
  refine' tkY 6 hP ?c hHeld ?_
  case c => intro w hSw; have cq := one_at (i := 0) hSw.1; have lk := lt_some hSw.1; go_simp; try with_reducible rfl
  simp only [Act.put, sQa, sQb, sQc]
  refine' tkY 7 hP ?c hHeld ?_
  case c => intro w _; go_simp; try with_reducible rfl
  simp only [Act.put, sQa, sQb, sQc]
  refine' tkY 8 hP ?c hHeld ?_
  case c => intro w _; go_simp; try with_reducible rfl
  simp only [Act.put, sQa, sQb, sQc]
  refine' tkY 9 hP ?c hHeld ?_
  case c => intro w _; go_simp; try with_reducible rfl
  simp only [Act.put, sQa, sQb, sQc]
  refine' tkY 10 (v := rcv r) hP ?c hHeld ?_
  case c => exact fun w hSw => rload_yields (.tmp 3) rfl b rfl r hSw.2
  simp only [Act.put, sQa, sQb, sQc]
  refine wpAnyH_ready (rs := [11]) (by kernel_rfl) (by simp) ?_
  refine' tkC 11 (fun K hK => ?st12) ?mo12
  case st12 =>
    go_simp
    refine F1.out.mono ?_
    rintro e v1 ⟨rfl, h1, dn⟩
    have h6 := And.intro ((h1.block _ (lt_some hHeld.1)).trans hHeld.1) (hHeld.2.below h1)
    clear hHeld
    go_simp
    refine hK.out _ _ h6 (fun hHeld => ?_)
    clear hK K h6
    try simp only [Act.put, sQa, sQb, sQc]
    refine' tkY 12 hP ?c hHeld ?_
    case c => intro w _; go_simp; try with_reducible rfl
    simp only [Act.put, sQa, sQb, sQc]
    refine' tkY 13 hP ?c hHeld ?_
    case c => intro w _; go_simp; try with_reducible rfl
    simp only [Act.put, sQa, sQb, sQc]
    refine' tkN 14 hP hHeld ?_
    simp only [Act.put, sQa, sQb, sQc]
    refine' tkN 15 hP hHeld ?_
    simp only [Act.put, sQa, sQb, sQc]
    refine' tkN 16 hP hHeld ?_
    simp only [Act.put, sQa, sQb, sQc]
    refine' tkN 17 hP hHeld ?_
    simp only [Act.put, sQa, sQb, sQc]
    refine' tkN 18 hP hHeld ?_
    simp only [Act.put, sQa, sQb, sQc]
    refine' tkN 19 hP hHeld ?_
    simp only [Act.put, sQa, sQb, sQc]
    refine' tkY 20 hP ?c hHeld ?_
    case c => intro w _; go_simp; try with_reducible rfl
    simp only [Act.put, sQa, sQb, sQc]
    refine' tkY 21 hP ?c hHeld ?_
    case c => intro w _; go_simp; try with_reducible rfl
    simp only [Act.put, sQa, sQb, sQc]
    refine wpAnyH_done (by kernel_rfl) ?_ _
    exact hQ.out _ _ _ _ _ _ _ _ _ _ _ _ _ _ _ _ _ _ _ _ _ _ dn
  case mo12 => exact AllReadyH.nil

set_option maxHeartbeats 12800000 in
theorem arT (z1 z2 z4 z5 z6 z7 z8 z9 z10 z11 z12 z13 z14 z15 z16 z17 z18 z19 z20 z21 z22 z23 z24 z25 : Value) (W : World) (q b : Nat) (r : Rec) (h : Nat) (ok : Bool) (Done : World → Prop)
    (C0 : W.heap[q]? = some (.cells (tillC h) 94 (0, 0))) (B0 : BoxR W b r)
    (F1 : Hid (Calls Tryz.prog 39 #[rcv r] W.drew fun e w' => e = .returned (.bool true) ∧ Below W.drew.heap.size W.drew w'))
    (F2 : Hid (∀ w', Below W.drew.heap.size W.drew w' → Calls Tryz.prog 220 #[.agg (tillV h), rcv r] w' fun e w'' => e = .returned (.bool ok) ∧ Done w'' ∧ w''.heap[q]? = w'.heap[q]? ∧ w''.heap[b]? = w'.heap[b]?))
    (Q : Exit → Act → World → Prop)
    (hP : ∀ c a d v w, Q (.panic c) (Act.put a d v) w → Q (.panic c) a w)
    (hQ : ∀ (y5 y6 y7 y8 y9 y10 y11 y12 y13 y14 y15 y16 y17 y18 y19 y20 y21 y22 y23 y24 y25 : Value) (W3 : World), Done W3 → Q .normal ⟨#[ptr q, z1, z2, ptr b, .bool ok, y5, y6, y7, y8, y9, y10, y11, y12, y13, y14, y15, y16, y17, y18, y19, y20, y21, y22, y23, y24, y25], []⟩ W3) :
    Code.wp Tryz.prog ar_1 Q ⟨#[ptr q, z1, z2, ptr b, z4, z5, z6, z7, z8, z9, z10, z11, z12, z13, z14, z15, z16, z17, z18, z19, z20, z21, z22, z23, z24, z25], []⟩ W := by
  conv => arg 2; whnf
  have b0 : W.drew.heap[q]? = some (.cells (tillC h) 94 (0, 0)) ∧ BoxR W.drew b r := ⟨C0, B0⟩
  refine wp_region_held_drew (S := fun w => w.heap[q]? = some (.cells (tillC h) 94 (0, 0)) ∧ BoxR w b r) (by kernel_rfl) b0 (fun hHeld => ?_)
  replace hQ := Lib.hid hQ
  clear b0
  obtain ⟨v0, hv⟩ : ∃ v, v = W.drew := ⟨_, rfl⟩
  rw [← hv] at F1 hHeld ⊢
  rw [← hv] at F2
  clear hv
  refine' tkY 0 hP ?c hHeld ?_
  case c => intro w _; go_simp; try with_reducible rfl
  simp only [Act.put, sQa, sQb, sQc]
  refine' tkY 1 hP ?c hHeld ?_
  case c => intro w _; go_simp; try with_reducible rfl
  simp only [Act.put, sQa, sQb, sQc]
  refine' tkY 2 hP ?c hHeld ?_
  case c => intro w _; go_simp; try with_reducible rfl
  simp only [Act.put, sQa, sQb, sQc]
  refine' tkY 3 hP ?c hHeld ?_
  case c => intro w _; go_simp; try with_reducible rfl
  simp only [Act.put, sQa, sQb, sQc]
  refine' tkY 4 hP ?c hHeld ?_
  case c => intro w _; go_simp; try with_reducible rfl
  simp only [Act.put, sQa, sQb, sQc]
  refine' tkY 5 hP ?c hHeld ?_
  case c => intro w _; go_simp; try with_reducible rfl
  simp only [Act.put, sQa, sQb, sQc]
  refine' tkY 6 hP ?c hHeld ?_
  case c => intro w hSw; have cq := one_at (i := 0) hSw.1; have lk := lt_some hSw.1; go_simp; try with_reducible rfl
  simp only [Act.put, sQa, sQb, sQc]
  refine' tkY 7 hP ?c hHeld ?_
  case c => intro w _; go_simp; try with_reducible rfl
  simp only [Act.put, sQa, sQb, sQc]
  refine' tkY 8 hP ?c hHeld ?_
  case c => intro w _; go_simp; try with_reducible rfl
  simp only [Act.put, sQa, sQb, sQc]
  refine' tkY 9 hP ?c hHeld ?_
  case c => intro w _; go_simp; try with_reducible rfl
  simp only [Act.put, sQa, sQb, sQc]
  refine' tkY 10 (v := rcv r) hP ?c hHeld ?_
  case c => exact fun w hSw => rload_yields (.tmp 3) rfl b rfl r hSw.2
  simp only [Act.put, sQa, sQb, sQc]
  refine wpAnyH_ready (rs := [11]) (by kernel_rfl) (by simp) ?_
  refine' tkC 11 (fun K hK => ?st12) ?mo12
  case st12 =>
    go_simp
    refine F1.out.mono ?_
    rintro e v1 ⟨rfl, h1⟩
    have h6 := And.intro ((h1.block _ (lt_some hHeld.1)).trans hHeld.1) (hHeld.2.below h1)
    clear hHeld
    go_simp
    refine hK.out _ _ h6 (fun hHeld => ?_)
    clear hK K h6
    try simp only [Act.put, sQa, sQb, sQc]
    refine' tkY 12 hP ?c hHeld ?_
    case c => intro w _; go_simp; try with_reducible rfl
    simp only [Act.put, sQa, sQb, sQc]
    refine' tkY 13 hP ?c hHeld ?_
    case c => intro w _; go_simp; try with_reducible rfl
    simp only [Act.put, sQa, sQb, sQc]
    refine' tkY 14 hP ?c hHeld ?_
    case c => intro w _; go_simp; try with_reducible rfl
    simp only [Act.put, sQa, sQb, sQc]
    refine' tkY 15 hP ?c hHeld ?_
    case c => intro w _; go_simp; try with_reducible rfl
    simp only [Act.put, sQa, sQb, sQc]
    refine' tkY 16 hP ?c hHeld ?_
    case c => intro w _; go_simp; try with_reducible rfl
    simp only [Act.put, sQa, sQb, sQc]
    refine' tkY 17 hP ?c hHeld ?_
    case c => intro w hSw; have cq := one_at (i := 0) hSw.1; have lk := lt_some hSw.1; go_simp; try with_reducible rfl
    simp only [Act.put, sQa, sQb, sQc]
    refine' tkY 18 (v := rcv r) hP ?c hHeld ?_
    case c => exact fun w hSw => rload_yields (.tmp 3) rfl b rfl r hSw.2
    simp only [Act.put, sQa, sQb, sQc]
    refine wpAnyH_ready (rs := [19]) (by kernel_rfl) (by simp) ?_
    refine' tkC 19 (fun K hK => ?st20) ?mo20
    case st20 =>
      have mf := m_foldT h
      go_simp
      refine (F2.out _ h1).mono ?_
      rintro e v2 ⟨rfl, dn, k1, k2⟩
      have h6 := And.intro (k1.trans hHeld.1) (show BoxR v2 b r from k2.trans hHeld.2)
      clear hHeld mf h1
      go_simp
      refine hK.out _ _ h6 (fun hHeld => ?_)
      clear hK K h6
      try simp only [Act.put, sQa, sQb, sQc]
      refine' tkY 20 hP ?c hHeld ?_
      case c => intro w _; go_simp; try with_reducible rfl
      simp only [Act.put, sQa, sQb, sQc]
      refine' tkY 21 hP ?c hHeld ?_
      case c => intro w _; go_simp; try with_reducible rfl
      simp only [Act.put, sQa, sQb, sQc]
      refine wpAnyH_done (by kernel_rfl) ?_ _
      exact hQ.out _ _ _ _ _ _ _ _ _ _ _ _ _ _ _ _ _ _ _ _ _ _ dn
    case mo20 => exact AllReadyH.nil
  case mo12 => exact AllReadyH.nil

set_option maxHeartbeats 12800000 in
theorem arDn (z1 z2 z4 z5 z6 z7 z8 z9 z10 z11 z12 z13 z14 z15 z16 z17 z18 z19 z20 z21 z22 z23 z24 z25 : Value) (W : World) (q b : Nat) (r : Rec) (h : Nat) (Done : World → Prop)
    (C0 : W.heap[q]? = some (.cells (deskC h) 94 (0, 0))) (B0 : BoxR W b r)
    (F1 : Hid (Calls Tryz.prog 39 #[rcv r] W.drew fun e w' => e = .returned (.bool false) ∧ Below W.drew.heap.size W.drew w' ∧ Done w'))
    (Q : Exit → Act → World → Prop)
    (hP : ∀ c a d v w, Q (.panic c) (Act.put a d v) w → Q (.panic c) a w)
    (hQ : ∀ (y5 y6 y7 y8 y9 y10 y11 y12 y13 y14 y15 y16 y17 y18 y19 y20 y21 y22 y23 y24 y25 : Value) (W3 : World), Done W3 → Q .normal ⟨#[ptr q, z1, z2, ptr b, .bool false, y5, y6, y7, y8, y9, y10, y11, y12, y13, y14, y15, y16, y17, y18, y19, y20, y21, y22, y23, y24, y25], []⟩ W3) :
    Code.wp Tryz.prog ar_1 Q ⟨#[ptr q, z1, z2, ptr b, z4, z5, z6, z7, z8, z9, z10, z11, z12, z13, z14, z15, z16, z17, z18, z19, z20, z21, z22, z23, z24, z25], []⟩ W := by
  conv => arg 2; whnf
  have b0 : W.drew.heap[q]? = some (.cells (deskC h) 94 (0, 0)) ∧ BoxR W.drew b r := ⟨C0, B0⟩
  refine wp_region_held_drew (S := fun w => w.heap[q]? = some (.cells (deskC h) 94 (0, 0)) ∧ BoxR w b r) (by kernel_rfl) b0 (fun hHeld => ?_)
  replace hQ := Lib.hid hQ
  clear b0
  obtain ⟨v0, hv⟩ : ∃ v, v = W.drew := ⟨_, rfl⟩
  rw [← hv] at F1 hHeld ⊢
  clear hv
  refine' tkY 0 hP ?c hHeld ?_
  case c => intro w _; go_simp; try with_reducible rfl
  simp only [Act.put, sQa, sQb, sQc]
  refine' tkY 1 hP ?c hHeld ?_
  case c => intro w _; go_simp; try with_reducible rfl
  simp only [Act.put, sQa, sQb, sQc]
  refine' tkY 2 hP ?c hHeld ?_
  case c => intro w _; go_simp; try with_reducible rfl
  simp only [Act.put, sQa, sQb, sQc]
  refine' tkY 3 hP ?c hHeld ?_
  case c => intro w _; go_simp; try with_reducible rfl
  simp only [Act.put, sQa, sQb, sQc]
  refine' tkY 4 hP ?c hHeld ?_
  case c => intro w _; go_simp; try with_reducible rfl
  simp only [Act.put, sQa, sQb, sQc]
  refine' tkY 5 hP ?c hHeld ?_
  case c => intro w _; go_simp; try with_reducible rfl
  simp only [Act.put, sQa, sQb, sQc]
  refine' tkY 6 hP ?c hHeld ?_
  case c => intro w hSw; have cq := one_at (i := 0) hSw.1; have lk := lt_some hSw.1; go_simp; try with_reducible rfl
  simp only [Act.put, sQa, sQb, sQc]
  refine' tkY 7 hP ?c hHeld ?_
  case c => intro w _; go_simp; try with_reducible rfl
  simp only [Act.put, sQa, sQb, sQc]
  refine' tkY 8 hP ?c hHeld ?_
  case c => intro w _; go_simp; try with_reducible rfl
  simp only [Act.put, sQa, sQb, sQc]
  refine' tkY 9 hP ?c hHeld ?_
  case c => intro w _; go_simp; try with_reducible rfl
  simp only [Act.put, sQa, sQb, sQc]
  refine' tkY 10 (v := rcv r) hP ?c hHeld ?_
  case c => exact fun w hSw => rload_yields (.tmp 3) rfl b rfl r hSw.2
  simp only [Act.put, sQa, sQb, sQc]
  refine wpAnyH_ready (rs := [11]) (by kernel_rfl) (by simp) ?_
  refine' tkC 11 (fun K hK => ?st12) ?mo12
  case st12 =>
    go_simp
    refine F1.out.mono ?_
    rintro e v1 ⟨rfl, h1, dn⟩
    have h6 := And.intro ((h1.block _ (lt_some hHeld.1)).trans hHeld.1) (hHeld.2.below h1)
    clear hHeld
    go_simp
    refine hK.out _ _ h6 (fun hHeld => ?_)
    clear hK K h6
    try simp only [Act.put, sQa, sQb, sQc]
    refine' tkY 12 hP ?c hHeld ?_
    case c => intro w _; go_simp; try with_reducible rfl
    simp only [Act.put, sQa, sQb, sQc]
    refine' tkY 13 hP ?c hHeld ?_
    case c => intro w _; go_simp; try with_reducible rfl
    simp only [Act.put, sQa, sQb, sQc]
    refine' tkN 14 hP hHeld ?_
    simp only [Act.put, sQa, sQb, sQc]
    refine' tkN 15 hP hHeld ?_
    simp only [Act.put, sQa, sQb, sQc]
    refine' tkN 16 hP hHeld ?_
    simp only [Act.put, sQa, sQb, sQc]
    refine' tkN 17 hP hHeld ?_
    simp only [Act.put, sQa, sQb, sQc]
    refine' tkN 18 hP hHeld ?_
    simp only [Act.put, sQa, sQb, sQc]
    refine' tkN 19 hP hHeld ?_
    simp only [Act.put, sQa, sQb, sQc]
    refine' tkY 20 hP ?c hHeld ?_
    case c => intro w _; go_simp; try with_reducible rfl
    simp only [Act.put, sQa, sQb, sQc]
    refine' tkY 21 hP ?c hHeld ?_
    case c => intro w _; go_simp; try with_reducible rfl
    simp only [Act.put, sQa, sQb, sQc]
    refine wpAnyH_done (by kernel_rfl) ?_ _
    exact hQ.out _ _ _ _ _ _ _ _ _ _ _ _ _ _ _ _ _ _ _ _ _ _ dn
  case mo12 => exact AllReadyH.nil

set_option maxHeartbeats 12800000 in
theorem arD (z1 z2 z4 z5 z6 z7 z8 z9 z10 z11 z12 z13 z14 z15 z16 z17 z18 z19 z20 z21 z22 z23 z24 z25 : Value) (W : World) (q b : Nat) (r : Rec) (h : Nat) (ok : Bool) (Done : World → Prop)
    (C0 : W.heap[q]? = some (.cells (deskC h) 94 (0, 0))) (B0 : BoxR W b r)
    (F1 : Hid (Calls Tryz.prog 39 #[rcv r] W.drew fun e w' => e = .returned (.bool true) ∧ Below W.drew.heap.size W.drew w'))
    (F2 : Hid (∀ w', Below W.drew.heap.size W.drew w' → Calls Tryz.prog 223 #[.agg (deskV h), rcv r] w' fun e w'' => e = .returned (.bool ok) ∧ Done w'' ∧ w''.heap[q]? = w'.heap[q]? ∧ w''.heap[b]? = w'.heap[b]?))
    (Q : Exit → Act → World → Prop)
    (hP : ∀ c a d v w, Q (.panic c) (Act.put a d v) w → Q (.panic c) a w)
    (hQ : ∀ (y5 y6 y7 y8 y9 y10 y11 y12 y13 y14 y15 y16 y17 y18 y19 y20 y21 y22 y23 y24 y25 : Value) (W3 : World), Done W3 → Q .normal ⟨#[ptr q, z1, z2, ptr b, .bool ok, y5, y6, y7, y8, y9, y10, y11, y12, y13, y14, y15, y16, y17, y18, y19, y20, y21, y22, y23, y24, y25], []⟩ W3) :
    Code.wp Tryz.prog ar_1 Q ⟨#[ptr q, z1, z2, ptr b, z4, z5, z6, z7, z8, z9, z10, z11, z12, z13, z14, z15, z16, z17, z18, z19, z20, z21, z22, z23, z24, z25], []⟩ W := by
  conv => arg 2; whnf
  have b0 : W.drew.heap[q]? = some (.cells (deskC h) 94 (0, 0)) ∧ BoxR W.drew b r := ⟨C0, B0⟩
  refine wp_region_held_drew (S := fun w => w.heap[q]? = some (.cells (deskC h) 94 (0, 0)) ∧ BoxR w b r) (by kernel_rfl) b0 (fun hHeld => ?_)
  replace hQ := Lib.hid hQ
  clear b0
  obtain ⟨v0, hv⟩ : ∃ v, v = W.drew := ⟨_, rfl⟩
  rw [← hv] at F1 hHeld ⊢
  rw [← hv] at F2
  clear hv
  refine' tkY 0 hP ?c hHeld ?_
  case c => intro w _; go_simp; try with_reducible rfl
  simp only [Act.put, sQa, sQb, sQc]
  refine' tkY 1 hP ?c hHeld ?_
  case c => intro w _; go_simp; try with_reducible rfl
  simp only [Act.put, sQa, sQb, sQc]
  refine' tkY 2 hP ?c hHeld ?_
  case c => intro w _; go_simp; try with_reducible rfl
  simp only [Act.put, sQa, sQb, sQc]
  refine' tkY 3 hP ?c hHeld ?_
  case c => intro w _; go_simp; try with_reducible rfl
  simp only [Act.put, sQa, sQb, sQc]
  refine' tkY 4 hP ?c hHeld ?_
  case c => intro w _; go_simp; try with_reducible rfl
  simp only [Act.put, sQa, sQb, sQc]
  refine' tkY 5 hP ?c hHeld ?_
  case c => intro w _; go_simp; try with_reducible rfl
  simp only [Act.put, sQa, sQb, sQc]
  refine' tkY 6 hP ?c hHeld ?_
  case c => intro w hSw; have cq := one_at (i := 0) hSw.1; have lk := lt_some hSw.1; go_simp; try with_reducible rfl
  simp only [Act.put, sQa, sQb, sQc]
  refine' tkY 7 hP ?c hHeld ?_
  case c => intro w _; go_simp; try with_reducible rfl
  simp only [Act.put, sQa, sQb, sQc]
  refine' tkY 8 hP ?c hHeld ?_
  case c => intro w _; go_simp; try with_reducible rfl
  simp only [Act.put, sQa, sQb, sQc]
  refine' tkY 9 hP ?c hHeld ?_
  case c => intro w _; go_simp; try with_reducible rfl
  simp only [Act.put, sQa, sQb, sQc]
  refine' tkY 10 (v := rcv r) hP ?c hHeld ?_
  case c => exact fun w hSw => rload_yields (.tmp 3) rfl b rfl r hSw.2
  simp only [Act.put, sQa, sQb, sQc]
  refine wpAnyH_ready (rs := [11]) (by kernel_rfl) (by simp) ?_
  refine' tkC 11 (fun K hK => ?st12) ?mo12
  case st12 =>
    go_simp
    refine F1.out.mono ?_
    rintro e v1 ⟨rfl, h1⟩
    have h6 := And.intro ((h1.block _ (lt_some hHeld.1)).trans hHeld.1) (hHeld.2.below h1)
    clear hHeld
    go_simp
    refine hK.out _ _ h6 (fun hHeld => ?_)
    clear hK K h6
    try simp only [Act.put, sQa, sQb, sQc]
    refine' tkY 12 hP ?c hHeld ?_
    case c => intro w _; go_simp; try with_reducible rfl
    simp only [Act.put, sQa, sQb, sQc]
    refine' tkY 13 hP ?c hHeld ?_
    case c => intro w _; go_simp; try with_reducible rfl
    simp only [Act.put, sQa, sQb, sQc]
    refine' tkY 14 hP ?c hHeld ?_
    case c => intro w _; go_simp; try with_reducible rfl
    simp only [Act.put, sQa, sQb, sQc]
    refine' tkY 15 hP ?c hHeld ?_
    case c => intro w _; go_simp; try with_reducible rfl
    simp only [Act.put, sQa, sQb, sQc]
    refine' tkY 16 hP ?c hHeld ?_
    case c => intro w _; go_simp; try with_reducible rfl
    simp only [Act.put, sQa, sQb, sQc]
    refine' tkY 17 hP ?c hHeld ?_
    case c => intro w hSw; have cq := one_at (i := 0) hSw.1; have lk := lt_some hSw.1; go_simp; try with_reducible rfl
    simp only [Act.put, sQa, sQb, sQc]
    refine' tkY 18 (v := rcv r) hP ?c hHeld ?_
    case c => exact fun w hSw => rload_yields (.tmp 3) rfl b rfl r hSw.2
    simp only [Act.put, sQa, sQb, sQc]
    refine wpAnyH_ready (rs := [19]) (by kernel_rfl) (by simp) ?_
    refine' tkC 19 (fun K hK => ?st20) ?mo20
    case st20 =>
      have mf := m_foldD h
      go_simp
      refine (F2.out _ h1).mono ?_
      rintro e v2 ⟨rfl, dn, k1, k2⟩
      have h6 := And.intro (k1.trans hHeld.1) (show BoxR v2 b r from k2.trans hHeld.2)
      clear hHeld mf h1
      go_simp
      refine hK.out _ _ h6 (fun hHeld => ?_)
      clear hK K h6
      try simp only [Act.put, sQa, sQb, sQc]
      refine' tkY 20 hP ?c hHeld ?_
      case c => intro w _; go_simp; try with_reducible rfl
      simp only [Act.put, sQa, sQb, sQc]
      refine' tkY 21 hP ?c hHeld ?_
      case c => intro w _; go_simp; try with_reducible rfl
      simp only [Act.put, sQa, sQb, sQc]
      refine wpAnyH_done (by kernel_rfl) ?_ _
      exact hQ.out _ _ _ _ _ _ _ _ _ _ _ _ _ _ _ _ _ _ _ _ _ _ dn
    case mo20 => exact AllReadyH.nil
  case mo12 => exact AllReadyH.nil

theorem drew_below (w : World) (B : Nat) : Below B w w.drew := ⟨rfl, rfl, rfl, Nat.le_refl _, fun _ _ => rfl⟩
set_option maxHeartbeats 6400000 in
theorem apply_any (w : World) (t : Tab w) (q : Nat) (s : Nd) (fp : Nat → Prop) (H : R w q s fp) (r : Rec) : Calls Tryz.prog 14 #[ptr q, rcv r] w fun e w' => e = .returned (.bool (ap s r).1) ∧ RTo w q fp (ap s r).2 w' := by
  obtain ⟨w0, e0⟩ : ∃ z, z = w.alloc (.cells (rcc r) 64) := ⟨_, rfl⟩
  have be0 : Hid (Below w.heap.size w w0) := by rw [e0]; exact (Below.refl _ w).alloc (Nat.le_refl _) _
  have B0 : Hid (BoxR w0 w.heap.size r) := by rw [e0]; exact heap_alloc_new _ _
  have bd : Hid (Below w.heap.size w w0.drew) := be0.out.trans (drew_below w0 _)
  have MY := pmay_any w0.drew (t.below bd.out) r
  have T0 := t.below bd.out
  have H0 := Lib.hid (H.below bd.out)
  have H' := Lib.hid H
  replace e0 := Lib.hid e0
  clear H t
  obtain ⟨ff, hf, C⟩ := H0.out.core
  have dl : Hid (∀ w', Below w0.drew.heap.size w0.drew w' → Below w.heap.size w w') := fun w' h => bd.out.trans (h.mono bd.out.size)
  have keepb : Hid (∀ w' w'', Below w0.drew.heap.size w0.drew w' → Kq ff w' w'' → w''.heap[q]? = w'.heap[q]? ∧ w''.heap[w.heap.size]? = w'.heap[w.heap.size]?) := fun w' w'' h k => by
    have h1 := (dl.out w' h).size
    have h2 := H'.out.lt
    have h3 : w.heap.size < w0.heap.size := lt_some B0.out
    have h4 : w0.heap.size ≤ w'.heap.size := h.size
    exact ⟨k.block q (by omega) fun e => (hf q e).2 rfl, k.block _ (by omega) fun e => by have := H'.out.size _ (hf _ e).1; omega⟩
  cases hm : rmay r with
  | false =>
    have F := ap_bad s hm
    rw [F]
    rw [hm] at MY
    have F1 : Hid (Calls Tryz.prog 39 #[rcv r] w0.drew fun e w' => e = .returned (.bool false) ∧ Below w0.drew.heap.size w0.drew w' ∧ RTo w q fp s w') := MY.mono fun e w' h => ⟨h.1, h.2, RTo.of_below H'.out (dl.out w' h.2)⟩
    clear MY F keepb T0
    cases s with
    | host c v s =>
      obtain ⟨h, e, -⟩ := C
      replace e : w0.heap[q]? = _ := e
      unfold rcv
      go_enter Tryz.func14, Tryz.ntmps14
      go_upto_region 1 with fail
      have e0' := e0.out
      unfold rcc at e0'
      rw [← e0']
      clear e0' e0
      refine arHn _ _ _ _ _ _ _ _ _ _ _ _ _ _ _ _ _ _ _ _ _ _ _ _ w0 q w.heap.size r h _ e B0.out F1 _ (fun _ _ d _ _ h => by cases d <;> exact h) (fun _ _ _ _ _ _ _ _ _ _ _ _ _ _ _ _ _ _ _ _ _ w3 dn => ?_)
      replace dn := Lib.hid dn
      go_wp2
      go_ret
      exact ⟨rfl, dn.out⟩
    | till s =>
      obtain ⟨h, e, -⟩ := C
      replace e : w0.heap[q]? = _ := e
      unfold rcv
      go_enter Tryz.func14, Tryz.ntmps14
      go_upto_region 1 with fail
      have e0' := e0.out
      unfold rcc at e0'
      rw [← e0']
      clear e0' e0
      refine arTn _ _ _ _ _ _ _ _ _ _ _ _ _ _ _ _ _ _ _ _ _ _ _ _ w0 q w.heap.size r h _ e B0.out F1 _ (fun _ _ d _ _ h => by cases d <;> exact h) (fun _ _ _ _ _ _ _ _ _ _ _ _ _ _ _ _ _ _ _ _ _ w3 dn => ?_)
      replace dn := Lib.hid dn
      go_wp2
      go_ret
      exact ⟨rfl, dn.out⟩
    | desk f =>
      obtain ⟨h, e, -⟩ := C
      replace e : w0.heap[q]? = _ := e
      unfold rcv
      go_enter Tryz.func14, Tryz.ntmps14
      go_upto_region 1 with fail
      have e0' := e0.out
      unfold rcc at e0'
      rw [← e0']
      clear e0' e0
      refine arDn _ _ _ _ _ _ _ _ _ _ _ _ _ _ _ _ _ _ _ _ _ _ _ _ w0 q w.heap.size r h _ e B0.out F1 _ (fun _ _ d _ _ h => by cases d <;> exact h) (fun _ _ _ _ _ _ _ _ _ _ _ _ _ _ _ _ _ _ _ _ _ w3 dn => ?_)
      replace dn := Lib.hid dn
      go_wp2
      go_ret
      exact ⟨rfl, dn.out⟩
  | true =>
    rw [hm] at MY
    replace MY := Lib.hid MY
    cases s with
    | host c v s =>
      obtain ⟨h, e, J⟩ := C
      have F2 : Hid (∀ w', Below w0.drew.heap.size w0.drew w' → Calls Tryz.prog 206 #[.agg (hostV h), rcv r] w' fun e w'' => e = .returned (.bool (apH c v s r).1) ∧ RTo w q fp (.host c v (apH c v s r).2) w'' ∧ w''.heap[q]? = w'.heap[q]? ∧ w''.heap[w.heap.size]? = w'.heap[w.heap.size]?) := fun w' hb => (foldH_any w' h c v s ff (J.below hb) r hm).mono fun e2 w'' h2 => by
        have k : Kq ff w' w'' := ⟨h2.2.2.os, h2.2.2.tape, h2.2.2.output, h2.2.2.size, h2.2.2.block⟩
        have h3 := keepb.out w' w'' hb k
        refine ⟨h2.1, RTo.after H'.out (dl.out w' hb) (R.turn (H0.out.below hb) hf k fun e3 => ?_), h3.1, h3.2⟩
        exact ⟨h, (e3.trans (hb.block _ (lt_some e))).trans e, h2.2.1⟩
      replace e : w0.heap[q]? = _ := e
      have F1 := MY
      unfold rcv
      go_enter Tryz.func14, Tryz.ntmps14
      go_upto_region 1 with fail
      have e0' := e0.out
      unfold rcc at e0'
      rw [← e0']
      clear e0' e0
      refine arH _ _ _ _ _ _ _ _ _ _ _ _ _ _ _ _ _ _ _ _ _ _ _ _ w0 q w.heap.size r h _ _ e B0.out F1 F2 _ (fun _ _ d _ _ h => by cases d <;> exact h) (fun _ _ _ _ _ _ _ _ _ _ _ _ _ _ _ _ _ _ _ _ _ w3 dn => ?_)
      replace dn := Lib.hid dn
      go_wp2
      go_ret
      exact ⟨rfl, dn.out⟩
    | till s =>
      obtain ⟨h, e, J⟩ := C
      have F2 : Hid (∀ w', Below w0.drew.heap.size w0.drew w' → Calls Tryz.prog 220 #[.agg (tillV h), rcv r] w' fun e w'' => e = .returned (.bool (apT s r).1) ∧ RTo w q fp (.till (apT s r).2) w'' ∧ w''.heap[q]? = w'.heap[q]? ∧ w''.heap[w.heap.size]? = w'.heap[w.heap.size]?) := fun w' hb => (foldT_any w' h s ff (J.below hb) r hm).mono fun e2 w'' h2 => by
        have k : Kq ff w' w'' := ⟨h2.2.2.os, h2.2.2.tape, h2.2.2.output, h2.2.2.size, h2.2.2.block⟩
        have h3 := keepb.out w' w'' hb k
        refine ⟨h2.1, RTo.after H'.out (dl.out w' hb) (R.turn (H0.out.below hb) hf k fun e3 => ?_), h3.1, h3.2⟩
        exact ⟨h, (e3.trans (hb.block _ (lt_some e))).trans e, h2.2.1⟩
      replace e : w0.heap[q]? = _ := e
      have F1 := MY
      unfold rcv
      go_enter Tryz.func14, Tryz.ntmps14
      go_upto_region 1 with fail
      have e0' := e0.out
      unfold rcc at e0'
      rw [← e0']
      clear e0' e0
      refine arT _ _ _ _ _ _ _ _ _ _ _ _ _ _ _ _ _ _ _ _ _ _ _ _ w0 q w.heap.size r h _ _ e B0.out F1 F2 _ (fun _ _ d _ _ h => by cases d <;> exact h) (fun _ _ _ _ _ _ _ _ _ _ _ _ _ _ _ _ _ _ _ _ _ w3 dn => ?_)
      replace dn := Lib.hid dn
      go_wp2
      go_ret
      exact ⟨rfl, dn.out⟩
    | desk f =>
      obtain ⟨h, e, M, O, hfm, hfs⟩ := C
      have F2 : Hid (∀ w', Below w0.drew.heap.size w0.drew w' → Calls Tryz.prog 223 #[.agg (deskV h), rcv r] w' fun e w'' => e = .returned (.bool (Fs.tks f r)) ∧ RTo w q fp (.desk (Fs.put f r)) w'' ∧ w''.heap[q]? = w'.heap[q]? ∧ w''.heap[w.heap.size]? = w'.heap[w.heap.size]?) := fun w' hb => (foldD_any w' h (T0.below hb) f (M.below hb) r hm).mono fun e2 w'' h2 => by
        have k : Kq ff w' w'' := h2.2.2.mono fun g e => by rw [e]; exact hfm
        have h3 := keepb.out w' w'' hb k
        refine ⟨h2.1, RTo.after H'.out (dl.out w' hb) (R.turn (H0.out.below hb) hf k fun e3 => ?_), h3.1, h3.2⟩
        exact ⟨h, (e3.trans (hb.block _ (lt_some e))).trans e, h2.2.1, O.put hm, .inl hfm, fun g hg => by
          rcases hg with hg | hg
          · have := hfs g hg; have := hb.size; have := k.size; omega
          · exact hg.2⟩
      replace e : w0.heap[q]? = _ := e
      have FF : Hid (ap (.desk f) r = (Fs.tks f r, .desk (Fs.put f r))) := by unfold Hid; show (rmay r && Fs.tks f r, Nd.desk (if rmay r = true then Fs.put f r else f)) = _; rw [hm, Bool.true_and, if_pos rfl]
      rw [FF.out]
      clear FF
      have F1 := MY
      unfold rcv
      go_enter Tryz.func14, Tryz.ntmps14
      go_upto_region 1 with fail
      have e0' := e0.out
      unfold rcc at e0'
      rw [← e0']
      clear e0' e0
      refine arD _ _ _ _ _ _ _ _ _ _ _ _ _ _ _ _ _ _ _ _ _ _ _ _ w0 q w.heap.size r h _ _ e B0.out F1 F2 _ (fun _ _ d _ _ h => by cases d <;> exact h) (fun _ _ _ _ _ _ _ _ _ _ _ _ _ _ _ _ _ _ _ _ _ w3 dn => ?_)
      replace dn := Lib.hid dn
      go_wp2
      go_ret
      exact ⟨rfl, dn.out⟩
end Fo
end Go.Proofs.YtpkdigegkemogaaGreatDoor
