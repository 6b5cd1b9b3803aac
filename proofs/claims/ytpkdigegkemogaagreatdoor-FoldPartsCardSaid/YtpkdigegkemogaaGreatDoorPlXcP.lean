/- Parts of the claim: PlH, PlI -/
import Derived.Deep.RegionHeld3
import Derived.Test.YtpkdigegkemogaaGreatDoorPlXbP
namespace Go.Proofs.YtpkdigegkemogaaGreatDoor
set_option maxRecDepth 100000
open Go.RowKit
open Go.Proofs.YtpkdigegkemogaaGreatDoor.Pk (one_at one_free one_set lt_some grown_set grown_trans grown_refl)
namespace Pl
open Wt (Wan may Opn mayOp may_any below_drewN)

def regionAt (k : Nat) : Code → Option Code
  | .region id ops d => if id == k then some (.region id ops d) else none
  | .seq a b => (regionAt k a).orElse fun _ => regionAt k b
  | .cond _ a b => (regionAt k a).orElse fun _ => regionAt k b
  | .block _ c => regionAt k c
  | .loop c => regionAt k c
  | .scope c => regionAt k c
  | _ => none
noncomputable def bk_2 : Code := (Tryz.f134.body.bind (regionAt 2)).getD .skip
set_option maxHeartbeats 12800000 in
theorem bk2 (z0 z2 z4 z5 z6 z7 z8 z9 z10 z11 z12 z13 z14 z15 z16 z17 : Value) (W : World) (q g : Nat) (x : Wan) (s0 s1 s2 s3 : Stp) (nl : List Int) (l : List Stp)
    (CB : Hid (∀ w', Below W.heap.size W w' → BoxW w' q x))
    (F0 : Hid (∀ w', Below W.heap.size W w' → Calls Tryz.prog 170 #[.int .i64 3, .int .i64 6, .pointer (some ⟨g, 0, none⟩)] w' fun e w'' => e = .returned (.agg #[.int .i64 s0.node, .int .i64 s0.op.kind, .int .i64 s0.op.book, .int .i64 s0.op.units, .int .i64 s0.op.cust, .int .i64 s0.op.amount]) ∧ Below W.heap.size W w''))
    (F1 : Hid (∀ w', Below W.heap.size W w' → Calls Tryz.prog 170 #[.int .i64 2, .int .i64 3, .pointer (some ⟨g, 0, none⟩)] w' fun e w'' => e = .returned (.agg #[.int .i64 s1.node, .int .i64 s1.op.kind, .int .i64 s1.op.book, .int .i64 s1.op.units, .int .i64 s1.op.cust, .int .i64 s1.op.amount]) ∧ Below W.heap.size W w''))
    (F2 : Hid (∀ w', Below W.heap.size W w' → Calls Tryz.prog 170 #[.int .i64 1, .int .i64 3, .pointer (some ⟨g, 0, none⟩)] w' fun e w'' => e = .returned (.agg #[.int .i64 s2.node, .int .i64 s2.op.kind, .int .i64 s2.op.book, .int .i64 s2.op.units, .int .i64 s2.op.cust, .int .i64 s2.op.amount]) ∧ Below W.heap.size W w''))
    (F3 : Hid (∀ w', Below W.heap.size W w' → Calls Tryz.prog 170 #[.int .i64 0, .int .i64 3, .pointer (some ⟨g, 0, none⟩)] w' fun e w'' => e = .returned (.agg #[.int .i64 s3.node, .int .i64 s3.op.kind, .int .i64 s3.op.book, .int .i64 s3.op.units, .int .i64 s3.op.cust, .int .i64 s3.op.amount]) ∧ Below W.heap.size W w''))
    (AK : Hid (∀ w', Below W.heap.size W w' → Calls Tryz.prog 153 #[.agg #[.int .i64 x.book, .int .i64 x.cust, .int .i64 x.dead, .int .i64 x.u0, .int .i64 x.u1, .int .i64 x.u2, .int .i64 x.price]] w' fun e w'' => ∃ b, e = .returned (.func (.func 172) #[] #[.pointer (some ⟨b, 0, none⟩)]) ∧ Asker w'' W.heap.size b nl ∧ Below W.heap.size W w'' ∧ Below w'.heap.size w' w''))
    (TH : Hid (∀ w' t b, Below W.heap.size W w' → w'.heap[t]? = some (.cells #[Value.int .i64 s0.node, .int .i64 s0.op.kind, .int .i64 s0.op.book, .int .i64 s0.op.units, .int .i64 s0.op.cust, .int .i64 s0.op.amount, .int .i64 s1.node, .int .i64 s1.op.kind, .int .i64 s1.op.book, .int .i64 s1.op.units, .int .i64 s1.op.cust, .int .i64 s1.op.amount, .int .i64 s2.node, .int .i64 s2.op.kind, .int .i64 s2.op.book, .int .i64 s2.op.units, .int .i64 s2.op.cust, .int .i64 s2.op.amount, .int .i64 s3.node, .int .i64 s3.op.kind, .int .i64 s3.op.book, .int .i64 s3.op.units, .int .i64 s3.op.cust, .int .i64 s3.op.amount] 181 (0, 0)) → Asker w' W.heap.size b nl → Calls Tryz.prog 152 #[.slice (some ⟨t, 0, none⟩) 4 4, .func (.func 172) #[] #[.pointer (some ⟨b, 0, none⟩)]] w' fun e w'' => ∃ v, e = .returned v ∧ RowT 181 w'' W.heap.size v l.length l ∧ Below W.heap.size W w''))
    (Q : Exit → Act → World → Prop)
    (hP : ∀ c a d v w, Q (.panic c) (Act.put a d v) w → Q (.panic c) a w)
    (hQ : ∀ (y6 y7 y8 y9 y10 y11 y12 y13 y14 y15 y16 y17 v : Value) (W3 : World), RowT 181 W3 W.heap.size v l.length l → Below W.heap.size W W3 → Q .normal ⟨#[z0, .pointer (some ⟨q, 0, none⟩), v, .func (.func 170) #[] #[.pointer (some ⟨g, 0, none⟩)], z4, z5, y6, y7, y8, y9, y10, y11, y12, y13, y14, y15, y16, y17], []⟩ W3) :
    Code.wp Tryz.prog bk_2 Q ⟨#[z0, .pointer (some ⟨q, 0, none⟩), z2, .func (.func 170) #[] #[.pointer (some ⟨g, 0, none⟩)], z4, z5, z6, z7, z8, z9, z10, z11, z12, z13, z14, z15, z16, z17], []⟩ W := by
  conv => arg 2; whnf
  have b0 : Below W.heap.size W W.drew := ⟨rfl, rfl, rfl, Nat.le_refl _, fun _ _ => rfl⟩
  refine wp_region_held_drew (S := fun w => Below W.heap.size W w) (by kernel_rfl) b0 (fun hHeld => ?_)
  replace hQ := Lib.hid hQ
  clear b0
  obtain ⟨v0, hv⟩ : ∃ v, v = W.drew := ⟨_, rfl⟩
  rw [← hv] at hHeld ⊢
  clear hv
  refine' wpAnyH_take (i := 0) (oi := ?o1) (v := ?v1) ?hi1 (by kernel_rfl) (by kernel_rfl) (by kernel_rfl) (fun c a w h => hP c a _ _ w h) (Or.inl ⟨?hw1, ?hy1⟩) hHeld ?rest1
  case hi1 => simp only [List.getElem?_toArray, List.getElem?_cons_zero]; rfl
  case hw1 => rfl
  case hy1 =>
    intro w _
    go_simp
    try with_reducible rfl
  simp only [Act.put, List.setIfInBounds_toArray, List.set_cons_zero, List.set_cons_succ]
  refine' wpAnyH_take (i := 2) (oi := ?o2) (v := ?v2) ?hi2 (by kernel_rfl) (by kernel_rfl) (by kernel_rfl) (fun c a w h => hP c a _ _ w h) (Or.inl ⟨?hw2, ?hy2⟩) hHeld ?rest2
  case hi2 => simp only [List.getElem?_toArray, List.getElem?_cons_succ, List.getElem?_cons_zero]; rfl
  case hw2 => rfl
  case hy2 =>
    intro w _
    go_simp
    try with_reducible rfl
  simp only [Act.put, List.setIfInBounds_toArray, List.set_cons_zero, List.set_cons_succ]
  refine' wpAnyH_take (i := 4) (oi := ?o3) (v := ?v3) ?hi3 (by kernel_rfl) (by kernel_rfl) (by kernel_rfl) (fun c a w h => hP c a _ _ w h) (Or.inl ⟨?hw3, ?hy3⟩) hHeld ?rest3
  case hi3 => simp only [List.getElem?_toArray, List.getElem?_cons_succ, List.getElem?_cons_zero]; rfl
  case hw3 => rfl
  case hy3 =>
    intro w _
    go_simp
    try with_reducible rfl
  simp only [Act.put, List.setIfInBounds_toArray, List.set_cons_zero, List.set_cons_succ]
  refine' wpAnyH_take (i := 6) (oi := ?o4) (v := ?v4) ?hi4 (by kernel_rfl) (by kernel_rfl) (by kernel_rfl) (fun c a w h => hP c a _ _ w h) (Or.inl ⟨?hw4, ?hy4⟩) hHeld ?rest4
  case hi4 => simp only [List.getElem?_toArray, List.getElem?_cons_succ, List.getElem?_cons_zero]; rfl
  case hw4 => rfl
  case hy4 =>
    intro w _
    go_simp
    try with_reducible rfl
  simp only [Act.put, List.setIfInBounds_toArray, List.set_cons_zero, List.set_cons_succ]
  refine' wpAnyH_take (i := 9) (oi := ?o5) (v := ?v5) ?hi5 (by kernel_rfl) (by kernel_rfl) (by kernel_rfl) (fun c a w h => hP c a _ _ w h) (Or.inl ⟨?hw5, ?hy5⟩) hHeld ?rest5
  case hi5 => simp only [List.getElem?_toArray, List.getElem?_cons_succ, List.getElem?_cons_zero]; rfl
  case hw5 => rfl
  case hy5 =>
    intro w hSw
    obtain ⟨c0, c1, c2, c3, c4, c5, c6⟩ := (CB.out _ hSw).cells
    go_simp
    try with_reducible rfl
  simp only [Act.put, List.setIfInBounds_toArray, List.set_cons_zero, List.set_cons_succ]
  refine wpAnyH_ready (rs := [1]) (by kernel_rfl) (by simp) ?_
  refine' AllReadyH.cons (i := 1) (o := ?o6) ?hi6 (fun K hK => ?st6) ?mo6
  case hi6 => simp only [List.getElem?_toArray, List.getElem?_cons_succ, List.getElem?_cons_zero]; rfl
  case st6 =>
    go_simp
    refine (F0.out _ hHeld).mono ?_
    rintro e v1 ⟨rfl, h6⟩
    clear hHeld
    go_simp
    refine hK.out _ _ h6 (fun hHeld => ?_)
    clear hK K h6
    try simp only [Act.put, List.setIfInBounds_toArray, List.set_cons_zero, List.set_cons_succ]
    refine wpAnyH_ready (rs := [3]) (by kernel_rfl) (by simp) ?_
    refine' AllReadyH.cons (i := 3) (o := ?o7) ?hi7 (fun K hK => ?st7) ?mo7
    case hi7 => simp only [List.getElem?_toArray, List.getElem?_cons_succ, List.getElem?_cons_zero]; rfl
    case st7 =>
      go_simp
      refine (F1.out _ hHeld).mono ?_
      rintro e v2 ⟨rfl, h6⟩
      clear hHeld
      go_simp
      refine hK.out _ _ h6 (fun hHeld => ?_)
      clear hK K h6
      try simp only [Act.put, List.setIfInBounds_toArray, List.set_cons_zero, List.set_cons_succ]
      refine wpAnyH_ready (rs := [5]) (by kernel_rfl) (by simp) ?_
      refine' AllReadyH.cons (i := 5) (o := ?o8) ?hi8 (fun K hK => ?st8) ?mo8
      case hi8 => simp only [List.getElem?_toArray, List.getElem?_cons_succ, List.getElem?_cons_zero]; rfl
      case st8 =>
        go_simp
        refine (F2.out _ hHeld).mono ?_
        rintro e v3 ⟨rfl, h6⟩
        clear hHeld
        go_simp
        refine hK.out _ _ h6 (fun hHeld => ?_)
        clear hK K h6
        try simp only [Act.put, List.setIfInBounds_toArray, List.set_cons_zero, List.set_cons_succ]
        refine wpAnyH_ready (rs := [7]) (by kernel_rfl) (by simp) ?_
        refine' AllReadyH.cons (i := 7) (o := ?o9) ?hi9 (fun K hK => ?st9) ?mo9
        case hi9 => simp only [List.getElem?_toArray, List.getElem?_cons_succ, List.getElem?_cons_zero]; rfl
        case st9 =>
          go_simp
          refine (F3.out _ hHeld).mono ?_
          rintro e v4 ⟨rfl, h6⟩
          clear hHeld
          go_simp
          refine hK.out _ _ h6 (fun hHeld => ?_)
          clear hK K h6
          try simp only [Act.put, List.setIfInBounds_toArray, List.set_cons_zero, List.set_cons_succ]
          refine wpAnyH_ready (rs := [8, 10]) (by kernel_rfl) (by simp) ?_
          refine' AllReadyH.cons (i := 8) (o := ?o10) ?hi10 (fun K hK => ?st10) ?mo10
          case hi10 => simp only [List.getElem?_toArray, List.getElem?_cons_succ, List.getElem?_cons_zero]; rfl
          case st10 =>
            go_simp
            refine hK.out _ _ (hHeld.alloc hHeld.size _) (fun hHeld2 => ?_)
            clear hK K
            try simp only [Act.put, List.setIfInBounds_toArray, List.set_cons_zero, List.set_cons_succ]
            have T8 : (v4.alloc (.cells #[Value.int .i64 s0.node, .int .i64 s0.op.kind, .int .i64 s0.op.book, .int .i64 s0.op.units, .int .i64 s0.op.cust, .int .i64 s0.op.amount, .int .i64 s1.node, .int .i64 s1.op.kind, .int .i64 s1.op.book, .int .i64 s1.op.units, .int .i64 s1.op.cust, .int .i64 s1.op.amount, .int .i64 s2.node, .int .i64 s2.op.kind, .int .i64 s2.op.book, .int .i64 s2.op.units, .int .i64 s2.op.cust, .int .i64 s2.op.amount, .int .i64 s3.node, .int .i64 s3.op.kind, .int .i64 s3.op.book, .int .i64 s3.op.units, .int .i64 s3.op.cust, .int .i64 s3.op.amount] 181)).heap[v4.heap.size]? = _ := heap_alloc_new _ _
            obtain ⟨v5, hv⟩ : ∃ v, v = v4.alloc (.cells #[Value.int .i64 s0.node, .int .i64 s0.op.kind, .int .i64 s0.op.book, .int .i64 s0.op.units, .int .i64 s0.op.cust, .int .i64 s0.op.amount, .int .i64 s1.node, .int .i64 s1.op.kind, .int .i64 s1.op.book, .int .i64 s1.op.units, .int .i64 s1.op.cust, .int .i64 s1.op.amount, .int .i64 s2.node, .int .i64 s2.op.kind, .int .i64 s2.op.book, .int .i64 s2.op.units, .int .i64 s2.op.cust, .int .i64 s2.op.amount, .int .i64 s3.node, .int .i64 s3.op.kind, .int .i64 s3.op.book, .int .i64 s3.op.units, .int .i64 s3.op.cust, .int .i64 s3.op.amount] 181) := ⟨_, rfl⟩
            rw [← hv] at T8 hHeld2 ⊢
            clear hv hHeld
            have hHeld := hHeld2
            clear hHeld2
            obtain ⟨g8, hg⟩ : ∃ g, g = v4.heap.size := ⟨_, rfl⟩
            rw [← hg] at T8 ⊢
            clear hg
            refine wpAnyH_ready (rs := [10]) (by kernel_rfl) (by simp) ?_
            refine' AllReadyH.cons (i := 10) (o := ?o11) ?hi11 (fun K hK => ?st11) ?mo11
            case hi11 => simp only [List.getElem?_toArray, List.getElem?_cons_succ, List.getElem?_cons_zero]; rfl
            case st11 =>
              go_simp
              refine (AK.out _ hHeld).mono ?_
              rintro e v6 ⟨b, rfl, hA, h6, h7⟩
              replace T8 := (h7.block _ (lt_some T8)).trans T8
              clear h7 hHeld
              go_simp
              refine hK.out _ _ h6 (fun hHeld => ?_)
              clear hK K h6
              try simp only [Act.put, List.setIfInBounds_toArray, List.set_cons_zero, List.set_cons_succ]
              refine wpAnyH_ready (rs := [11]) (by kernel_rfl) (by simp) ?_
              refine' AllReadyH.cons (i := 11) (o := ?o12) ?hi12 (fun K hK => ?st12) ?mo12
              case hi12 => simp only [List.getElem?_toArray, List.getElem?_cons_succ, List.getElem?_cons_zero]; rfl
              case st12 =>
                go_simp
                refine (TH.out _ g8 b hHeld T8 hA).mono ?_
                rintro e v7 ⟨v, rfl, hR, h6⟩
                clear hHeld T8 hA
                go_simp
                refine hK.out _ _ h6 (fun hHeld => ?_)
                clear hK K h6
                try simp only [Act.put, List.setIfInBounds_toArray, List.set_cons_zero, List.set_cons_succ]
                refine' wpAnyH_take (i := 12) (oi := ?o13) (v := ?v13) ?hi13 (by kernel_rfl) (by kernel_rfl) (by kernel_rfl) (fun c a w h => hP c a _ _ w h) (Or.inl ⟨?hw13, ?hy13⟩) hHeld ?rest13
                case hi13 => simp only [List.getElem?_toArray, List.getElem?_cons_succ, List.getElem?_cons_zero]; rfl
                case hw13 => rfl
                case hy13 =>
                  intro w _
                  go_simp
                  try with_reducible rfl
                simp only [Act.put, List.setIfInBounds_toArray, List.set_cons_zero, List.set_cons_succ]
                refine wpAnyH_done (by kernel_rfl) ?_ _
                exact hQ.out _ _ _ _ _ _ _ _ _ _ _ _ _ _ hR hHeld
              case mo12 => exact AllReadyH.nil
            case mo11 => exact AllReadyH.nil
          case mo10 =>
            refine' AllReadyH.cons (i := 10) (o := ?o14) ?hi14 (fun K hK => ?st14) ?mo14
            case hi14 => simp only [List.getElem?_toArray, List.getElem?_cons_succ, List.getElem?_cons_zero]; rfl
            case st14 =>
              go_simp
              refine (AK.out _ hHeld).mono ?_
              rintro e v5 ⟨b, rfl, hA, h6, h7⟩
              clear h7 hHeld
              go_simp
              refine hK.out _ _ h6 (fun hHeld => ?_)
              clear hK K h6
              try simp only [Act.put, List.setIfInBounds_toArray, List.set_cons_zero, List.set_cons_succ]
              refine wpAnyH_ready (rs := [8]) (by kernel_rfl) (by simp) ?_
              refine' AllReadyH.cons (i := 8) (o := ?o15) ?hi15 (fun K hK => ?st15) ?mo15
              case hi15 => simp only [List.getElem?_toArray, List.getElem?_cons_succ, List.getElem?_cons_zero]; rfl
              case st15 =>
                go_simp
                refine hK.out _ _ (hHeld.alloc hHeld.size _) (fun hHeld2 => ?_)
                clear hK K
                try simp only [Act.put, List.setIfInBounds_toArray, List.set_cons_zero, List.set_cons_succ]
                have T8 : (v5.alloc (.cells #[Value.int .i64 s0.node, .int .i64 s0.op.kind, .int .i64 s0.op.book, .int .i64 s0.op.units, .int .i64 s0.op.cust, .int .i64 s0.op.amount, .int .i64 s1.node, .int .i64 s1.op.kind, .int .i64 s1.op.book, .int .i64 s1.op.units, .int .i64 s1.op.cust, .int .i64 s1.op.amount, .int .i64 s2.node, .int .i64 s2.op.kind, .int .i64 s2.op.book, .int .i64 s2.op.units, .int .i64 s2.op.cust, .int .i64 s2.op.amount, .int .i64 s3.node, .int .i64 s3.op.kind, .int .i64 s3.op.book, .int .i64 s3.op.units, .int .i64 s3.op.cust, .int .i64 s3.op.amount] 181)).heap[v5.heap.size]? = _ := heap_alloc_new _ _
                replace hA := hA.below ((Below.refl _ _).alloc (Nat.le_refl _) (.cells #[Value.int .i64 s0.node, .int .i64 s0.op.kind, .int .i64 s0.op.book, .int .i64 s0.op.units, .int .i64 s0.op.cust, .int .i64 s0.op.amount, .int .i64 s1.node, .int .i64 s1.op.kind, .int .i64 s1.op.book, .int .i64 s1.op.units, .int .i64 s1.op.cust, .int .i64 s1.op.amount, .int .i64 s2.node, .int .i64 s2.op.kind, .int .i64 s2.op.book, .int .i64 s2.op.units, .int .i64 s2.op.cust, .int .i64 s2.op.amount, .int .i64 s3.node, .int .i64 s3.op.kind, .int .i64 s3.op.book, .int .i64 s3.op.units, .int .i64 s3.op.cust, .int .i64 s3.op.amount] 181))
                obtain ⟨v6, hv⟩ : ∃ v, v = v5.alloc (.cells #[Value.int .i64 s0.node, .int .i64 s0.op.kind, .int .i64 s0.op.book, .int .i64 s0.op.units, .int .i64 s0.op.cust, .int .i64 s0.op.amount, .int .i64 s1.node, .int .i64 s1.op.kind, .int .i64 s1.op.book, .int .i64 s1.op.units, .int .i64 s1.op.cust, .int .i64 s1.op.amount, .int .i64 s2.node, .int .i64 s2.op.kind, .int .i64 s2.op.book, .int .i64 s2.op.units, .int .i64 s2.op.cust, .int .i64 s2.op.amount, .int .i64 s3.node, .int .i64 s3.op.kind, .int .i64 s3.op.book, .int .i64 s3.op.units, .int .i64 s3.op.cust, .int .i64 s3.op.amount] 181) := ⟨_, rfl⟩
                rw [← hv] at T8 hA hHeld2 ⊢
                clear hv hHeld
                have hHeld := hHeld2
                clear hHeld2
                obtain ⟨g8, hg⟩ : ∃ g, g = v5.heap.size := ⟨_, rfl⟩
                rw [← hg] at T8 ⊢
                clear hg
                refine wpAnyH_ready (rs := [11]) (by kernel_rfl) (by simp) ?_
                refine' AllReadyH.cons (i := 11) (o := ?o16) ?hi16 (fun K hK => ?st16) ?mo16
                case hi16 => simp only [List.getElem?_toArray, List.getElem?_cons_succ, List.getElem?_cons_zero]; rfl
                case st16 =>
                  go_simp
                  refine (TH.out _ g8 b hHeld T8 hA).mono ?_
                  rintro e v7 ⟨v, rfl, hR, h6⟩
                  clear hHeld T8 hA
                  go_simp
                  refine hK.out _ _ h6 (fun hHeld => ?_)
                  clear hK K h6
                  try simp only [Act.put, List.setIfInBounds_toArray, List.set_cons_zero, List.set_cons_succ]
                  refine' wpAnyH_take (i := 12) (oi := ?o17) (v := ?v17) ?hi17 (by kernel_rfl) (by kernel_rfl) (by kernel_rfl) (fun c a w h => hP c a _ _ w h) (Or.inl ⟨?hw17, ?hy17⟩) hHeld ?rest17
                  case hi17 => simp only [List.getElem?_toArray, List.getElem?_cons_succ, List.getElem?_cons_zero]; rfl
                  case hw17 => rfl
                  case hy17 =>
                    intro w _
                    go_simp
                    try with_reducible rfl
                  simp only [Act.put, List.setIfInBounds_toArray, List.set_cons_zero, List.set_cons_succ]
                  refine wpAnyH_done (by kernel_rfl) ?_ _
                  exact hQ.out _ _ _ _ _ _ _ _ _ _ _ _ _ _ hR hHeld
                case mo16 => exact AllReadyH.nil
              case mo15 => exact AllReadyH.nil
            case mo14 => exact AllReadyH.nil
        case mo9 => exact AllReadyH.nil
      case mo8 => exact AllReadyH.nil
    case mo7 => exact AllReadyH.nil
  case mo6 => exact AllReadyH.nil
set_option maxHeartbeats 3200000 in
theorem bck_any (w : World) (x : Wan) : Calls Tryz.prog 134 #[wanv x] w (StpsTo 181 w (bck x)) := by
  obtain ⟨W0, hW0⟩ : ∃ W0, W0 = w.alloc (.cells #[.int .i64 x.book, .int .i64 x.cust, .int .i64 x.dead, .int .i64 x.u0, .int .i64 x.u1, .int .i64 x.u2, .int .i64 x.price] 55) := ⟨_, rfl⟩
  have B0 : BoxW W0 w.heap.size x := by rw [hW0]; exact heap_alloc_new _ _
  have be0 : Below w.heap.size w W0 := by rw [hW0]; exact (Below.refl _ w).alloc (Nat.le_refl _) _
  have S := stepsOf_any W0 x
  unfold wanv at S
  replace S := Lib.hid S
  replace hW0 := Lib.hid hW0
  replace B0 := Lib.hid B0
  replace be0 := Lib.hid be0
  unfold wanv
  go_enter Tryz.func134, Tryz.ntmps134
  go_wp2_with fail
  rw [← hW0.out]
  refine S.out.mono ?_
  rintro e w1 ⟨g, rfl, hg, h1⟩
  have B1 := B0.out.below h1 B0.out.lt
  have b1 : Hid (Below w.heap.size w w1) := be0.out.trans (h1.mono be0.out.size)
  have G : ∀ w', Below w1.heap.size w1 w' → BoxW w' g x := fun w' h => hg.below h hg.lt
  have CB : Hid (∀ w', Below w1.heap.size w1 w' → BoxW w' w.heap.size x) := fun w' h => B1.below h B1.lt
  have F0 : ∀ w', Below w1.heap.size w1 w' → Calls Tryz.prog 170 #[.int .i64 3, .int .i64 6, .pointer (some ⟨g, 0, none⟩)] w' fun e w'' => e = .returned (spv (step x 3 6)) ∧ Below w1.heap.size w1 w'' := fun w' h => (stepO_any w' g x (G w' h) 3 6 (by decide) (by decide)).mono fun _ _ ⟨h1, h2⟩ => ⟨h1, h.trans (h2.mono h.size)⟩
  have F1 : ∀ w', Below w1.heap.size w1 w' → Calls Tryz.prog 170 #[.int .i64 2, .int .i64 3, .pointer (some ⟨g, 0, none⟩)] w' fun e w'' => e = .returned (spv (step x 2 3)) ∧ Below w1.heap.size w1 w'' := fun w' h => (stepO_any w' g x (G w' h) 2 3 (by decide) (by decide)).mono fun _ _ ⟨h1, h2⟩ => ⟨h1, h.trans (h2.mono h.size)⟩
  have F2 : ∀ w', Below w1.heap.size w1 w' → Calls Tryz.prog 170 #[.int .i64 1, .int .i64 3, .pointer (some ⟨g, 0, none⟩)] w' fun e w'' => e = .returned (spv (step x 1 3)) ∧ Below w1.heap.size w1 w'' := fun w' h => (stepO_any w' g x (G w' h) 1 3 (by decide) (by decide)).mono fun _ _ ⟨h1, h2⟩ => ⟨h1, h.trans (h2.mono h.size)⟩
  have F3 : ∀ w', Below w1.heap.size w1 w' → Calls Tryz.prog 170 #[.int .i64 0, .int .i64 3, .pointer (some ⟨g, 0, none⟩)] w' fun e w'' => e = .returned (spv (step x 0 3)) ∧ Below w1.heap.size w1 w'' := fun w' h => (stepO_any w' g x (G w' h) 0 3 (by decide) (by decide)).mono fun _ _ ⟨h1, h2⟩ => ⟨h1, h.trans (h2.mono h.size)⟩
  have AK : Hid (∀ w', Below w1.heap.size w1 w' → Calls Tryz.prog 153 #[.agg #[.int .i64 x.book, .int .i64 x.cust, .int .i64 x.dead, .int .i64 x.u0, .int .i64 x.u1, .int .i64 x.u2, .int .i64 x.price]] w' fun e w'' => ∃ b, e = .returned (.func (.func 172) #[] #[.pointer (some ⟨b, 0, none⟩)]) ∧ Asker w'' w1.heap.size b (nodes x) ∧ Below w1.heap.size w1 w'' ∧ Below w'.heap.size w' w'') := fun w' h => (isAsked_any w' x).mono fun _ _ ⟨b, h1, h2, h3⟩ => ⟨b, h1, h2.mono h.size, h.trans (h3.mono h.size), h3⟩
  have TH : ∀ w' t b, Below w1.heap.size w1 w' → w'.heap[t]? = some (.cells (fls [step x 3 6, step x 2 3, step x 1 3, step x 0 3]).toArray 181 (0, 0)) → Asker w' w1.heap.size b (nodes x) → Calls Tryz.prog 152 #[.slice (some ⟨t, 0, none⟩) 4 4, .func (.func 172) #[] #[.pointer (some ⟨b, 0, none⟩)]] w' fun e w'' => ∃ v, e = .returned v ∧ RowT 181 w'' w1.heap.size v (bck x).length (bck x) ∧ Below w1.heap.size w1 w'' := fun w' t b h ht ha => (those_any w' t 4 _ b [step x 3 6, step x 2 3, step x 1 3, step x 0 3] rfl (by omega) ht (nodes x) ha).mono fun e w'' ⟨v, h1, h2, h3⟩ => ⟨v, h1, rt_mono h2 h.size, h.trans (h3.mono h.size)⟩
  clear S hW0 B0 be0 hg h1 G B1
  generalize hs0 : step x 3 6 = s0 at *
  unfold spv at F0
  generalize hs1 : step x 2 3 = s1 at *
  unfold spv at F1
  generalize hs2 : step x 1 3 = s2 at *
  unfold spv at F2
  generalize hs3 : step x 0 3 = s3 at *
  unfold spv at F3
  replace TH := Lib.hid TH
  replace F0 := Lib.hid F0
  replace F1 := Lib.hid F1
  replace F2 := Lib.hid F2
  replace F3 := Lib.hid F3
  clear hs0 hs1 hs2 hs3
  go_upto_region 2 with fail
  refine bk2 _ _ _ _ _ _ _ _ _ _ _ _ _ _ _ _ w1 w.heap.size g x s0 s1 s2 s3 (nodes x) (bck x) CB F0 F1 F2 F3 AK TH _ (fun _ _ d _ _ h => by cases d <;> exact h) (fun y6 y7 y8 y9 y10 y11 y12 y13 y14 y15 y16 y17 v w3 hR hb => ?_)
  have E : Hid (StpsTo 181 w (bck x) (.returned v) w3) := ⟨v, rfl, rt_mono hR b1.out.size, b1.out.trans (hb.mono b1.out.size)⟩
  clear hR hb CB AK TH F0 F1 F2 F3
  go_wp2_with fail
  go_ret
  exact E.out
end Pl
end Go.Proofs.YtpkdigegkemogaaGreatDoor
namespace Go.Proofs.YtpkdigegkemogaaGreatDoor
set_option maxRecDepth 100000
open Go.RowKit
open Go.Proofs.YtpkdigegkemogaaGreatDoor.Pk (one_at one_free one_set lt_some grown_set grown_trans grown_refl)
namespace Pl
open Wt (Wan may Opn mayOp may_any below_drewN)

noncomputable def fw_2 : Code := (Tryz.f132.body.bind (regionAt 2)).getD .skip
set_option maxHeartbeats 12800000 in
theorem fw2 (z0 z2 z4 z5 z6 z7 z8 z9 z10 z11 z12 z13 z14 z15 z16 z17 z18 z19 z20 z21 z22 z23 : Value) (W : World) (q g : Nat) (x : Wan) (s0 s1 s2 s3 s4 s5 s6 : Stp) (nl : List Int) (l : List Stp)
    (CB : Hid (∀ w', Below W.heap.size W w' → BoxW w' q x))
    (F0 : Hid (∀ w', Below W.heap.size W w' → Calls Tryz.prog 170 #[.int .i64 0, .int .i64 1, .pointer (some ⟨g, 0, none⟩)] w' fun e w'' => e = .returned (.agg #[.int .i64 s0.node, .int .i64 s0.op.kind, .int .i64 s0.op.book, .int .i64 s0.op.units, .int .i64 s0.op.cust, .int .i64 s0.op.amount]) ∧ Below W.heap.size W w''))
    (F1 : Hid (∀ w', Below W.heap.size W w' → Calls Tryz.prog 170 #[.int .i64 1, .int .i64 1, .pointer (some ⟨g, 0, none⟩)] w' fun e w'' => e = .returned (.agg #[.int .i64 s1.node, .int .i64 s1.op.kind, .int .i64 s1.op.book, .int .i64 s1.op.units, .int .i64 s1.op.cust, .int .i64 s1.op.amount]) ∧ Below W.heap.size W w''))
    (F2 : Hid (∀ w', Below W.heap.size W w' → Calls Tryz.prog 170 #[.int .i64 2, .int .i64 1, .pointer (some ⟨g, 0, none⟩)] w' fun e w'' => e = .returned (.agg #[.int .i64 s2.node, .int .i64 s2.op.kind, .int .i64 s2.op.book, .int .i64 s2.op.units, .int .i64 s2.op.cust, .int .i64 s2.op.amount]) ∧ Below W.heap.size W w''))
    (F3 : Hid (∀ w', Below W.heap.size W w' → Calls Tryz.prog 170 #[.int .i64 3, .int .i64 4, .pointer (some ⟨g, 0, none⟩)] w' fun e w'' => e = .returned (.agg #[.int .i64 s3.node, .int .i64 s3.op.kind, .int .i64 s3.op.book, .int .i64 s3.op.units, .int .i64 s3.op.cust, .int .i64 s3.op.amount]) ∧ Below W.heap.size W w''))
    (F4 : Hid (∀ w', Below W.heap.size W w' → Calls Tryz.prog 170 #[.int .i64 0, .int .i64 2, .pointer (some ⟨g, 0, none⟩)] w' fun e w'' => e = .returned (.agg #[.int .i64 s4.node, .int .i64 s4.op.kind, .int .i64 s4.op.book, .int .i64 s4.op.units, .int .i64 s4.op.cust, .int .i64 s4.op.amount]) ∧ Below W.heap.size W w''))
    (F5 : Hid (∀ w', Below W.heap.size W w' → Calls Tryz.prog 170 #[.int .i64 1, .int .i64 2, .pointer (some ⟨g, 0, none⟩)] w' fun e w'' => e = .returned (.agg #[.int .i64 s5.node, .int .i64 s5.op.kind, .int .i64 s5.op.book, .int .i64 s5.op.units, .int .i64 s5.op.cust, .int .i64 s5.op.amount]) ∧ Below W.heap.size W w''))
    (F6 : Hid (∀ w', Below W.heap.size W w' → Calls Tryz.prog 170 #[.int .i64 2, .int .i64 2, .pointer (some ⟨g, 0, none⟩)] w' fun e w'' => e = .returned (.agg #[.int .i64 s6.node, .int .i64 s6.op.kind, .int .i64 s6.op.book, .int .i64 s6.op.units, .int .i64 s6.op.cust, .int .i64 s6.op.amount]) ∧ Below W.heap.size W w''))
    (AK : Hid (∀ w', Below W.heap.size W w' → Calls Tryz.prog 153 #[.agg #[.int .i64 x.book, .int .i64 x.cust, .int .i64 x.dead, .int .i64 x.u0, .int .i64 x.u1, .int .i64 x.u2, .int .i64 x.price]] w' fun e w'' => ∃ b, e = .returned (.func (.func 172) #[] #[.pointer (some ⟨b, 0, none⟩)]) ∧ Asker w'' W.heap.size b nl ∧ Below W.heap.size W w'' ∧ Below w'.heap.size w' w''))
    (TH : Hid (∀ w' t b, Below W.heap.size W w' → w'.heap[t]? = some (.cells #[Value.int .i64 s0.node, .int .i64 s0.op.kind, .int .i64 s0.op.book, .int .i64 s0.op.units, .int .i64 s0.op.cust, .int .i64 s0.op.amount, .int .i64 s1.node, .int .i64 s1.op.kind, .int .i64 s1.op.book, .int .i64 s1.op.units, .int .i64 s1.op.cust, .int .i64 s1.op.amount, .int .i64 s2.node, .int .i64 s2.op.kind, .int .i64 s2.op.book, .int .i64 s2.op.units, .int .i64 s2.op.cust, .int .i64 s2.op.amount, .int .i64 s3.node, .int .i64 s3.op.kind, .int .i64 s3.op.book, .int .i64 s3.op.units, .int .i64 s3.op.cust, .int .i64 s3.op.amount, .int .i64 s4.node, .int .i64 s4.op.kind, .int .i64 s4.op.book, .int .i64 s4.op.units, .int .i64 s4.op.cust, .int .i64 s4.op.amount, .int .i64 s5.node, .int .i64 s5.op.kind, .int .i64 s5.op.book, .int .i64 s5.op.units, .int .i64 s5.op.cust, .int .i64 s5.op.amount, .int .i64 s6.node, .int .i64 s6.op.kind, .int .i64 s6.op.book, .int .i64 s6.op.units, .int .i64 s6.op.cust, .int .i64 s6.op.amount] 181 (0, 0)) → Asker w' W.heap.size b nl → Calls Tryz.prog 152 #[.slice (some ⟨t, 0, none⟩) 7 7, .func (.func 172) #[] #[.pointer (some ⟨b, 0, none⟩)]] w' fun e w'' => ∃ v, e = .returned v ∧ RowT 181 w'' W.heap.size v l.length l ∧ Below W.heap.size W w''))
    (Q : Exit → Act → World → Prop)
    (hP : ∀ c a d v w, Q (.panic c) (Act.put a d v) w → Q (.panic c) a w)
    (hQ : ∀ (y6 y7 y8 y9 y10 y11 y12 y13 y14 y15 y16 y17 y18 y19 y20 y21 y22 y23 v : Value) (W3 : World), RowT 181 W3 W.heap.size v l.length l → Below W.heap.size W W3 → Q .normal ⟨#[z0, .pointer (some ⟨q, 0, none⟩), v, .func (.func 170) #[] #[.pointer (some ⟨g, 0, none⟩)], z4, z5, y6, y7, y8, y9, y10, y11, y12, y13, y14, y15, y16, y17, y18, y19, y20, y21, y22, y23], []⟩ W3) :
    Code.wp Tryz.prog fw_2 Q ⟨#[z0, .pointer (some ⟨q, 0, none⟩), z2, .func (.func 170) #[] #[.pointer (some ⟨g, 0, none⟩)], z4, z5, z6, z7, z8, z9, z10, z11, z12, z13, z14, z15, z16, z17, z18, z19, z20, z21, z22, z23], []⟩ W := by
  conv => arg 2; whnf
  have b0 : Below W.heap.size W W.drew := ⟨rfl, rfl, rfl, Nat.le_refl _, fun _ _ => rfl⟩
  refine wp_region_held_drew (S := fun w => Below W.heap.size W w) (by kernel_rfl) b0 (fun hHeld => ?_)
  replace hQ := Lib.hid hQ
  clear b0
  obtain ⟨v0, hv⟩ : ∃ v, v = W.drew := ⟨_, rfl⟩
  rw [← hv] at hHeld ⊢
  clear hv
  refine' wpAnyH_take (i := 0) (oi := ?o1) (v := ?v1) ?hi1 (by kernel_rfl) (by kernel_rfl) (by kernel_rfl) (fun c a w h => hP c a _ _ w h) (Or.inl ⟨?hw1, ?hy1⟩) hHeld ?rest1
  case hi1 => simp only [List.getElem?_toArray, List.getElem?_cons_zero]; rfl
  case hw1 => rfl
  case hy1 =>
    intro w _
    go_simp
    try with_reducible rfl
  simp only [Act.put, List.setIfInBounds_toArray, List.set_cons_zero, List.set_cons_succ]
  refine' wpAnyH_take (i := 2) (oi := ?o2) (v := ?v2) ?hi2 (by kernel_rfl) (by kernel_rfl) (by kernel_rfl) (fun c a w h => hP c a _ _ w h) (Or.inl ⟨?hw2, ?hy2⟩) hHeld ?rest2
  case hi2 => simp only [List.getElem?_toArray, List.getElem?_cons_succ, List.getElem?_cons_zero]; rfl
  case hw2 => rfl
  case hy2 =>
    intro w _
    go_simp
    try with_reducible rfl
  simp only [Act.put, List.setIfInBounds_toArray, List.set_cons_zero, List.set_cons_succ]
  refine' wpAnyH_take (i := 4) (oi := ?o3) (v := ?v3) ?hi3 (by kernel_rfl) (by kernel_rfl) (by kernel_rfl) (fun c a w h => hP c a _ _ w h) (Or.inl ⟨?hw3, ?hy3⟩) hHeld ?rest3
  case hi3 => simp only [List.getElem?_toArray, List.getElem?_cons_succ, List.getElem?_cons_zero]; rfl
  case hw3 => rfl
  case hy3 =>
    intro w _
    go_simp
    try with_reducible rfl
  simp only [Act.put, List.setIfInBounds_toArray, List.set_cons_zero, List.set_cons_succ]
  refine' wpAnyH_take (i := 6) (oi := ?o4) (v := ?v4) ?hi4 (by kernel_rfl) (by kernel_rfl) (by kernel_rfl) (fun c a w h => hP c a _ _ w h) (Or.inl ⟨?hw4, ?hy4⟩) hHeld ?rest4
  case hi4 => simp only [List.getElem?_toArray, List.getElem?_cons_succ, List.getElem?_cons_zero]; rfl
  case hw4 => rfl
  case hy4 =>
    intro w _
    go_simp
    try with_reducible rfl
  simp only [Act.put, List.setIfInBounds_toArray, List.set_cons_zero, List.set_cons_succ]
  refine' wpAnyH_take (i := 8) (oi := ?o5) (v := ?v5) ?hi5 (by kernel_rfl) (by kernel_rfl) (by kernel_rfl) (fun c a w h => hP c a _ _ w h) (Or.inl ⟨?hw5, ?hy5⟩) hHeld ?rest5
  case hi5 => simp only [List.getElem?_toArray, List.getElem?_cons_succ, List.getElem?_cons_zero]; rfl
  case hw5 => rfl
  case hy5 =>
    intro w _
    go_simp
    try with_reducible rfl
  simp only [Act.put, List.setIfInBounds_toArray, List.set_cons_zero, List.set_cons_succ]
  refine' wpAnyH_take (i := 10) (oi := ?o6) (v := ?v6) ?hi6 (by kernel_rfl) (by kernel_rfl) (by kernel_rfl) (fun c a w h => hP c a _ _ w h) (Or.inl ⟨?hw6, ?hy6⟩) hHeld ?rest6
  case hi6 => simp only [List.getElem?_toArray, List.getElem?_cons_succ, List.getElem?_cons_zero]; rfl
  case hw6 => rfl
  case hy6 =>
    intro w _
    go_simp
    try with_reducible rfl
  simp only [Act.put, List.setIfInBounds_toArray, List.set_cons_zero, List.set_cons_succ]
  refine' wpAnyH_take (i := 12) (oi := ?o7) (v := ?v7) ?hi7 (by kernel_rfl) (by kernel_rfl) (by kernel_rfl) (fun c a w h => hP c a _ _ w h) (Or.inl ⟨?hw7, ?hy7⟩) hHeld ?rest7
  case hi7 => simp only [List.getElem?_toArray, List.getElem?_cons_succ, List.getElem?_cons_zero]; rfl
  case hw7 => rfl
  case hy7 =>
    intro w _
    go_simp
    try with_reducible rfl
  simp only [Act.put, List.setIfInBounds_toArray, List.set_cons_zero, List.set_cons_succ]
  refine' wpAnyH_take (i := 15) (oi := ?o8) (v := ?v8) ?hi8 (by kernel_rfl) (by kernel_rfl) (by kernel_rfl) (fun c a w h => hP c a _ _ w h) (Or.inl ⟨?hw8, ?hy8⟩) hHeld ?rest8
  case hi8 => simp only [List.getElem?_toArray, List.getElem?_cons_succ, List.getElem?_cons_zero]; rfl
  case hw8 => rfl
  case hy8 =>
    intro w hSw
    obtain ⟨c0, c1, c2, c3, c4, c5, c6⟩ := (CB.out _ hSw).cells
    go_simp
    try with_reducible rfl
  simp only [Act.put, List.setIfInBounds_toArray, List.set_cons_zero, List.set_cons_succ]
  refine wpAnyH_ready (rs := [1]) (by kernel_rfl) (by simp) ?_
  refine' AllReadyH.cons (i := 1) (o := ?o9) ?hi9 (fun K hK => ?st9) ?mo9
  case hi9 => simp only [List.getElem?_toArray, List.getElem?_cons_succ, List.getElem?_cons_zero]; rfl
  case st9 =>
    go_simp
    refine (F0.out _ hHeld).mono ?_
    rintro e v1 ⟨rfl, h6⟩
    clear hHeld
    go_simp
    refine hK.out _ _ h6 (fun hHeld => ?_)
    clear hK K h6
    try simp only [Act.put, List.setIfInBounds_toArray, List.set_cons_zero, List.set_cons_succ]
    refine wpAnyH_ready (rs := [3]) (by kernel_rfl) (by simp) ?_
    refine' AllReadyH.cons (i := 3) (o := ?o10) ?hi10 (fun K hK => ?st10) ?mo10
    case hi10 => simp only [List.getElem?_toArray, List.getElem?_cons_succ, List.getElem?_cons_zero]; rfl
    case st10 =>
      go_simp
      refine (F1.out _ hHeld).mono ?_
      rintro e v2 ⟨rfl, h6⟩
      clear hHeld
      go_simp
      refine hK.out _ _ h6 (fun hHeld => ?_)
      clear hK K h6
      try simp only [Act.put, List.setIfInBounds_toArray, List.set_cons_zero, List.set_cons_succ]
      refine wpAnyH_ready (rs := [5]) (by kernel_rfl) (by simp) ?_
      refine' AllReadyH.cons (i := 5) (o := ?o11) ?hi11 (fun K hK => ?st11) ?mo11
      case hi11 => simp only [List.getElem?_toArray, List.getElem?_cons_succ, List.getElem?_cons_zero]; rfl
      case st11 =>
        go_simp
        refine (F2.out _ hHeld).mono ?_
        rintro e v3 ⟨rfl, h6⟩
        clear hHeld
        go_simp
        refine hK.out _ _ h6 (fun hHeld => ?_)
        clear hK K h6
        try simp only [Act.put, List.setIfInBounds_toArray, List.set_cons_zero, List.set_cons_succ]
        refine wpAnyH_ready (rs := [7]) (by kernel_rfl) (by simp) ?_
        refine' AllReadyH.cons (i := 7) (o := ?o12) ?hi12 (fun K hK => ?st12) ?mo12
        case hi12 => simp only [List.getElem?_toArray, List.getElem?_cons_succ, List.getElem?_cons_zero]; rfl
        case st12 =>
          go_simp
          refine (F3.out _ hHeld).mono ?_
          rintro e v4 ⟨rfl, h6⟩
          clear hHeld
          go_simp
          refine hK.out _ _ h6 (fun hHeld => ?_)
          clear hK K h6
          try simp only [Act.put, List.setIfInBounds_toArray, List.set_cons_zero, List.set_cons_succ]
          refine wpAnyH_ready (rs := [9]) (by kernel_rfl) (by simp) ?_
          refine' AllReadyH.cons (i := 9) (o := ?o13) ?hi13 (fun K hK => ?st13) ?mo13
          case hi13 => simp only [List.getElem?_toArray, List.getElem?_cons_succ, List.getElem?_cons_zero]; rfl
          case st13 =>
            go_simp
            refine (F4.out _ hHeld).mono ?_
            rintro e v5 ⟨rfl, h6⟩
            clear hHeld
            go_simp
            refine hK.out _ _ h6 (fun hHeld => ?_)
            clear hK K h6
            try simp only [Act.put, List.setIfInBounds_toArray, List.set_cons_zero, List.set_cons_succ]
            refine wpAnyH_ready (rs := [11]) (by kernel_rfl) (by simp) ?_
            refine' AllReadyH.cons (i := 11) (o := ?o14) ?hi14 (fun K hK => ?st14) ?mo14
            case hi14 => simp only [List.getElem?_toArray, List.getElem?_cons_succ, List.getElem?_cons_zero]; rfl
            case st14 =>
              go_simp
              refine (F5.out _ hHeld).mono ?_
              rintro e v6 ⟨rfl, h6⟩
              clear hHeld
              go_simp
              refine hK.out _ _ h6 (fun hHeld => ?_)
              clear hK K h6
              try simp only [Act.put, List.setIfInBounds_toArray, List.set_cons_zero, List.set_cons_succ]
              refine wpAnyH_ready (rs := [13]) (by kernel_rfl) (by simp) ?_
              refine' AllReadyH.cons (i := 13) (o := ?o15) ?hi15 (fun K hK => ?st15) ?mo15
              case hi15 => simp only [List.getElem?_toArray, List.getElem?_cons_succ, List.getElem?_cons_zero]; rfl
              case st15 =>
                go_simp
                refine (F6.out _ hHeld).mono ?_
                rintro e v7 ⟨rfl, h6⟩
                clear hHeld
                go_simp
                refine hK.out _ _ h6 (fun hHeld => ?_)
                clear hK K h6
                try simp only [Act.put, List.setIfInBounds_toArray, List.set_cons_zero, List.set_cons_succ]
                refine wpAnyH_ready (rs := [14, 16]) (by kernel_rfl) (by simp) ?_
                refine' AllReadyH.cons (i := 14) (o := ?o16) ?hi16 (fun K hK => ?st16) ?mo16
                case hi16 => simp only [List.getElem?_toArray, List.getElem?_cons_succ, List.getElem?_cons_zero]; rfl
                case st16 =>
                  go_simp
                  refine hK.out _ _ (hHeld.alloc hHeld.size _) (fun hHeld2 => ?_)
                  clear hK K
                  try simp only [Act.put, List.setIfInBounds_toArray, List.set_cons_zero, List.set_cons_succ]
                  have T8 : (v7.alloc (.cells #[Value.int .i64 s0.node, .int .i64 s0.op.kind, .int .i64 s0.op.book, .int .i64 s0.op.units, .int .i64 s0.op.cust, .int .i64 s0.op.amount, .int .i64 s1.node, .int .i64 s1.op.kind, .int .i64 s1.op.book, .int .i64 s1.op.units, .int .i64 s1.op.cust, .int .i64 s1.op.amount, .int .i64 s2.node, .int .i64 s2.op.kind, .int .i64 s2.op.book, .int .i64 s2.op.units, .int .i64 s2.op.cust, .int .i64 s2.op.amount, .int .i64 s3.node, .int .i64 s3.op.kind, .int .i64 s3.op.book, .int .i64 s3.op.units, .int .i64 s3.op.cust, .int .i64 s3.op.amount, .int .i64 s4.node, .int .i64 s4.op.kind, .int .i64 s4.op.book, .int .i64 s4.op.units, .int .i64 s4.op.cust, .int .i64 s4.op.amount, .int .i64 s5.node, .int .i64 s5.op.kind, .int .i64 s5.op.book, .int .i64 s5.op.units, .int .i64 s5.op.cust, .int .i64 s5.op.amount, .int .i64 s6.node, .int .i64 s6.op.kind, .int .i64 s6.op.book, .int .i64 s6.op.units, .int .i64 s6.op.cust, .int .i64 s6.op.amount] 181)).heap[v7.heap.size]? = _ := heap_alloc_new _ _
                  obtain ⟨v8, hv⟩ : ∃ v, v = v7.alloc (.cells #[Value.int .i64 s0.node, .int .i64 s0.op.kind, .int .i64 s0.op.book, .int .i64 s0.op.units, .int .i64 s0.op.cust, .int .i64 s0.op.amount, .int .i64 s1.node, .int .i64 s1.op.kind, .int .i64 s1.op.book, .int .i64 s1.op.units, .int .i64 s1.op.cust, .int .i64 s1.op.amount, .int .i64 s2.node, .int .i64 s2.op.kind, .int .i64 s2.op.book, .int .i64 s2.op.units, .int .i64 s2.op.cust, .int .i64 s2.op.amount, .int .i64 s3.node, .int .i64 s3.op.kind, .int .i64 s3.op.book, .int .i64 s3.op.units, .int .i64 s3.op.cust, .int .i64 s3.op.amount, .int .i64 s4.node, .int .i64 s4.op.kind, .int .i64 s4.op.book, .int .i64 s4.op.units, .int .i64 s4.op.cust, .int .i64 s4.op.amount, .int .i64 s5.node, .int .i64 s5.op.kind, .int .i64 s5.op.book, .int .i64 s5.op.units, .int .i64 s5.op.cust, .int .i64 s5.op.amount, .int .i64 s6.node, .int .i64 s6.op.kind, .int .i64 s6.op.book, .int .i64 s6.op.units, .int .i64 s6.op.cust, .int .i64 s6.op.amount] 181) := ⟨_, rfl⟩
                  rw [← hv] at T8 hHeld2 ⊢
                  clear hv hHeld
                  have hHeld := hHeld2
                  clear hHeld2
                  obtain ⟨g8, hg⟩ : ∃ g, g = v7.heap.size := ⟨_, rfl⟩
                  rw [← hg] at T8 ⊢
                  clear hg
                  refine wpAnyH_ready (rs := [16]) (by kernel_rfl) (by simp) ?_
                  refine' AllReadyH.cons (i := 16) (o := ?o17) ?hi17 (fun K hK => ?st17) ?mo17
                  case hi17 => simp only [List.getElem?_toArray, List.getElem?_cons_succ, List.getElem?_cons_zero]; rfl
                  case st17 =>
                    go_simp
                    refine (AK.out _ hHeld).mono ?_
                    rintro e v9 ⟨b, rfl, hA, h6, h7⟩
                    replace T8 := (h7.block _ (lt_some T8)).trans T8
                    clear h7 hHeld
                    go_simp
                    refine hK.out _ _ h6 (fun hHeld => ?_)
                    clear hK K h6
                    try simp only [Act.put, List.setIfInBounds_toArray, List.set_cons_zero, List.set_cons_succ]
                    refine wpAnyH_ready (rs := [17]) (by kernel_rfl) (by simp) ?_
                    refine' AllReadyH.cons (i := 17) (o := ?o18) ?hi18 (fun K hK => ?st18) ?mo18
                    case hi18 => simp only [List.getElem?_toArray, List.getElem?_cons_succ, List.getElem?_cons_zero]; rfl
                    case st18 =>
                      go_simp
                      refine (TH.out _ g8 b hHeld T8 hA).mono ?_
                      rintro e v10 ⟨v, rfl, hR, h6⟩
                      clear hHeld T8 hA
                      go_simp
                      refine hK.out _ _ h6 (fun hHeld => ?_)
                      clear hK K h6
                      try simp only [Act.put, List.setIfInBounds_toArray, List.set_cons_zero, List.set_cons_succ]
                      refine' wpAnyH_take (i := 18) (oi := ?o19) (v := ?v19) ?hi19 (by kernel_rfl) (by kernel_rfl) (by kernel_rfl) (fun c a w h => hP c a _ _ w h) (Or.inl ⟨?hw19, ?hy19⟩) hHeld ?rest19
                      case hi19 => simp only [List.getElem?_toArray, List.getElem?_cons_succ, List.getElem?_cons_zero]; rfl
                      case hw19 => rfl
                      case hy19 =>
                        intro w _
                        go_simp
                        try with_reducible rfl
                      simp only [Act.put, List.setIfInBounds_toArray, List.set_cons_zero, List.set_cons_succ]
                      refine wpAnyH_done (by kernel_rfl) ?_ _
                      exact hQ.out _ _ _ _ _ _ _ _ _ _ _ _ _ _ _ _ _ _ _ _ hR hHeld
                    case mo18 => exact AllReadyH.nil
                  case mo17 => exact AllReadyH.nil
                case mo16 =>
                  refine' AllReadyH.cons (i := 16) (o := ?o20) ?hi20 (fun K hK => ?st20) ?mo20
                  case hi20 => simp only [List.getElem?_toArray, List.getElem?_cons_succ, List.getElem?_cons_zero]; rfl
                  case st20 =>
                    go_simp
                    refine (AK.out _ hHeld).mono ?_
                    rintro e v8 ⟨b, rfl, hA, h6, h7⟩
                    clear h7 hHeld
                    go_simp
                    refine hK.out _ _ h6 (fun hHeld => ?_)
                    clear hK K h6
                    try simp only [Act.put, List.setIfInBounds_toArray, List.set_cons_zero, List.set_cons_succ]
                    refine wpAnyH_ready (rs := [14]) (by kernel_rfl) (by simp) ?_
                    refine' AllReadyH.cons (i := 14) (o := ?o21) ?hi21 (fun K hK => ?st21) ?mo21
                    case hi21 => simp only [List.getElem?_toArray, List.getElem?_cons_succ, List.getElem?_cons_zero]; rfl
                    case st21 =>
                      go_simp
                      refine hK.out _ _ (hHeld.alloc hHeld.size _) (fun hHeld2 => ?_)
                      clear hK K
                      try simp only [Act.put, List.setIfInBounds_toArray, List.set_cons_zero, List.set_cons_succ]
                      have T8 : (v8.alloc (.cells #[Value.int .i64 s0.node, .int .i64 s0.op.kind, .int .i64 s0.op.book, .int .i64 s0.op.units, .int .i64 s0.op.cust, .int .i64 s0.op.amount, .int .i64 s1.node, .int .i64 s1.op.kind, .int .i64 s1.op.book, .int .i64 s1.op.units, .int .i64 s1.op.cust, .int .i64 s1.op.amount, .int .i64 s2.node, .int .i64 s2.op.kind, .int .i64 s2.op.book, .int .i64 s2.op.units, .int .i64 s2.op.cust, .int .i64 s2.op.amount, .int .i64 s3.node, .int .i64 s3.op.kind, .int .i64 s3.op.book, .int .i64 s3.op.units, .int .i64 s3.op.cust, .int .i64 s3.op.amount, .int .i64 s4.node, .int .i64 s4.op.kind, .int .i64 s4.op.book, .int .i64 s4.op.units, .int .i64 s4.op.cust, .int .i64 s4.op.amount, .int .i64 s5.node, .int .i64 s5.op.kind, .int .i64 s5.op.book, .int .i64 s5.op.units, .int .i64 s5.op.cust, .int .i64 s5.op.amount, .int .i64 s6.node, .int .i64 s6.op.kind, .int .i64 s6.op.book, .int .i64 s6.op.units, .int .i64 s6.op.cust, .int .i64 s6.op.amount] 181)).heap[v8.heap.size]? = _ := heap_alloc_new _ _
                      replace hA := hA.below ((Below.refl _ _).alloc (Nat.le_refl _) (.cells #[Value.int .i64 s0.node, .int .i64 s0.op.kind, .int .i64 s0.op.book, .int .i64 s0.op.units, .int .i64 s0.op.cust, .int .i64 s0.op.amount, .int .i64 s1.node, .int .i64 s1.op.kind, .int .i64 s1.op.book, .int .i64 s1.op.units, .int .i64 s1.op.cust, .int .i64 s1.op.amount, .int .i64 s2.node, .int .i64 s2.op.kind, .int .i64 s2.op.book, .int .i64 s2.op.units, .int .i64 s2.op.cust, .int .i64 s2.op.amount, .int .i64 s3.node, .int .i64 s3.op.kind, .int .i64 s3.op.book, .int .i64 s3.op.units, .int .i64 s3.op.cust, .int .i64 s3.op.amount, .int .i64 s4.node, .int .i64 s4.op.kind, .int .i64 s4.op.book, .int .i64 s4.op.units, .int .i64 s4.op.cust, .int .i64 s4.op.amount, .int .i64 s5.node, .int .i64 s5.op.kind, .int .i64 s5.op.book, .int .i64 s5.op.units, .int .i64 s5.op.cust, .int .i64 s5.op.amount, .int .i64 s6.node, .int .i64 s6.op.kind, .int .i64 s6.op.book, .int .i64 s6.op.units, .int .i64 s6.op.cust, .int .i64 s6.op.amount] 181))
                      obtain ⟨v9, hv⟩ : ∃ v, v = v8.alloc (.cells #[Value.int .i64 s0.node, .int .i64 s0.op.kind, .int .i64 s0.op.book, .int .i64 s0.op.units, .int .i64 s0.op.cust, .int .i64 s0.op.amount, .int .i64 s1.node, .int .i64 s1.op.kind, .int .i64 s1.op.book, .int .i64 s1.op.units, .int .i64 s1.op.cust, .int .i64 s1.op.amount, .int .i64 s2.node, .int .i64 s2.op.kind, .int .i64 s2.op.book, .int .i64 s2.op.units, .int .i64 s2.op.cust, .int .i64 s2.op.amount, .int .i64 s3.node, .int .i64 s3.op.kind, .int .i64 s3.op.book, .int .i64 s3.op.units, .int .i64 s3.op.cust, .int .i64 s3.op.amount, .int .i64 s4.node, .int .i64 s4.op.kind, .int .i64 s4.op.book, .int .i64 s4.op.units, .int .i64 s4.op.cust, .int .i64 s4.op.amount, .int .i64 s5.node, .int .i64 s5.op.kind, .int .i64 s5.op.book, .int .i64 s5.op.units, .int .i64 s5.op.cust, .int .i64 s5.op.amount, .int .i64 s6.node, .int .i64 s6.op.kind, .int .i64 s6.op.book, .int .i64 s6.op.units, .int .i64 s6.op.cust, .int .i64 s6.op.amount] 181) := ⟨_, rfl⟩
                      rw [← hv] at T8 hA hHeld2 ⊢
                      clear hv hHeld
                      have hHeld := hHeld2
                      clear hHeld2
                      obtain ⟨g8, hg⟩ : ∃ g, g = v8.heap.size := ⟨_, rfl⟩
                      rw [← hg] at T8 ⊢
                      clear hg
                      refine wpAnyH_ready (rs := [17]) (by kernel_rfl) (by simp) ?_
                      refine' AllReadyH.cons (i := 17) (o := ?o22) ?hi22 (fun K hK => ?st22) ?mo22
                      case hi22 => simp only [List.getElem?_toArray, List.getElem?_cons_succ, List.getElem?_cons_zero]; rfl
                      case st22 =>
                        go_simp
                        refine (TH.out _ g8 b hHeld T8 hA).mono ?_
                        rintro e v10 ⟨v, rfl, hR, h6⟩
                        clear hHeld T8 hA
                        go_simp
                        refine hK.out _ _ h6 (fun hHeld => ?_)
                        clear hK K h6
                        try simp only [Act.put, List.setIfInBounds_toArray, List.set_cons_zero, List.set_cons_succ]
                        refine' wpAnyH_take (i := 18) (oi := ?o23) (v := ?v23) ?hi23 (by kernel_rfl) (by kernel_rfl) (by kernel_rfl) (fun c a w h => hP c a _ _ w h) (Or.inl ⟨?hw23, ?hy23⟩) hHeld ?rest23
                        case hi23 => simp only [List.getElem?_toArray, List.getElem?_cons_succ, List.getElem?_cons_zero]; rfl
                        case hw23 => rfl
                        case hy23 =>
                          intro w _
                          go_simp
                          try with_reducible rfl
                        simp only [Act.put, List.setIfInBounds_toArray, List.set_cons_zero, List.set_cons_succ]
                        refine wpAnyH_done (by kernel_rfl) ?_ _
                        exact hQ.out _ _ _ _ _ _ _ _ _ _ _ _ _ _ _ _ _ _ _ _ hR hHeld
                      case mo22 => exact AllReadyH.nil
                    case mo21 => exact AllReadyH.nil
                  case mo20 => exact AllReadyH.nil
              case mo15 => exact AllReadyH.nil
            case mo14 => exact AllReadyH.nil
          case mo13 => exact AllReadyH.nil
        case mo12 => exact AllReadyH.nil
      case mo11 => exact AllReadyH.nil
    case mo10 => exact AllReadyH.nil
  case mo9 => exact AllReadyH.nil
set_option maxHeartbeats 3200000 in
theorem fwd_any (w : World) (x : Wan) : Calls Tryz.prog 132 #[wanv x] w (StpsTo 181 w (fwd x)) := by
  obtain ⟨W0, hW0⟩ : ∃ W0, W0 = w.alloc (.cells #[.int .i64 x.book, .int .i64 x.cust, .int .i64 x.dead, .int .i64 x.u0, .int .i64 x.u1, .int .i64 x.u2, .int .i64 x.price] 55) := ⟨_, rfl⟩
  have B0 : BoxW W0 w.heap.size x := by rw [hW0]; exact heap_alloc_new _ _
  have be0 : Below w.heap.size w W0 := by rw [hW0]; exact (Below.refl _ w).alloc (Nat.le_refl _) _
  have S := stepsOf_any W0 x
  unfold wanv at S
  replace S := Lib.hid S
  replace hW0 := Lib.hid hW0
  replace B0 := Lib.hid B0
  replace be0 := Lib.hid be0
  unfold wanv
  go_enter Tryz.func132, Tryz.ntmps132
  go_wp2_with fail
  rw [← hW0.out]
  refine S.out.mono ?_
  rintro e w1 ⟨g, rfl, hg, h1⟩
  have B1 := B0.out.below h1 B0.out.lt
  have b1 : Hid (Below w.heap.size w w1) := be0.out.trans (h1.mono be0.out.size)
  have G : ∀ w', Below w1.heap.size w1 w' → BoxW w' g x := fun w' h => hg.below h hg.lt
  have CB : Hid (∀ w', Below w1.heap.size w1 w' → BoxW w' w.heap.size x) := fun w' h => B1.below h B1.lt
  have F0 : ∀ w', Below w1.heap.size w1 w' → Calls Tryz.prog 170 #[.int .i64 0, .int .i64 1, .pointer (some ⟨g, 0, none⟩)] w' fun e w'' => e = .returned (spv (step x 0 1)) ∧ Below w1.heap.size w1 w'' := fun w' h => (step10_any w' g x (G w' h)).mono fun _ _ ⟨h1, h2⟩ => ⟨h1, h.trans (h2.mono h.size)⟩
  have F1 : ∀ w', Below w1.heap.size w1 w' → Calls Tryz.prog 170 #[.int .i64 1, .int .i64 1, .pointer (some ⟨g, 0, none⟩)] w' fun e w'' => e = .returned (spv (step x 1 1)) ∧ Below w1.heap.size w1 w'' := fun w' h => (step11_any w' g x (G w' h)).mono fun _ _ ⟨h1, h2⟩ => ⟨h1, h.trans (h2.mono h.size)⟩
  have F2 : ∀ w', Below w1.heap.size w1 w' → Calls Tryz.prog 170 #[.int .i64 2, .int .i64 1, .pointer (some ⟨g, 0, none⟩)] w' fun e w'' => e = .returned (spv (step x 2 1)) ∧ Below w1.heap.size w1 w'' := fun w' h => (step12_any w' g x (G w' h)).mono fun _ _ ⟨h1, h2⟩ => ⟨h1, h.trans (h2.mono h.size)⟩
  have F3 : ∀ w', Below w1.heap.size w1 w' → Calls Tryz.prog 170 #[.int .i64 3, .int .i64 4, .pointer (some ⟨g, 0, none⟩)] w' fun e w'' => e = .returned (spv (step x 3 4)) ∧ Below w1.heap.size w1 w'' := fun w' h => (step4_any w' g x (G w' h) 3).mono fun _ _ ⟨h1, h2⟩ => ⟨h1, h.trans (h2.mono h.size)⟩
  have F4 : ∀ w', Below w1.heap.size w1 w' → Calls Tryz.prog 170 #[.int .i64 0, .int .i64 2, .pointer (some ⟨g, 0, none⟩)] w' fun e w'' => e = .returned (spv (step x 0 2)) ∧ Below w1.heap.size w1 w'' := fun w' h => (stepO_any w' g x (G w' h) 0 2 (by decide) (by decide)).mono fun _ _ ⟨h1, h2⟩ => ⟨h1, h.trans (h2.mono h.size)⟩
  have F5 : ∀ w', Below w1.heap.size w1 w' → Calls Tryz.prog 170 #[.int .i64 1, .int .i64 2, .pointer (some ⟨g, 0, none⟩)] w' fun e w'' => e = .returned (spv (step x 1 2)) ∧ Below w1.heap.size w1 w'' := fun w' h => (stepO_any w' g x (G w' h) 1 2 (by decide) (by decide)).mono fun _ _ ⟨h1, h2⟩ => ⟨h1, h.trans (h2.mono h.size)⟩
  have F6 : ∀ w', Below w1.heap.size w1 w' → Calls Tryz.prog 170 #[.int .i64 2, .int .i64 2, .pointer (some ⟨g, 0, none⟩)] w' fun e w'' => e = .returned (spv (step x 2 2)) ∧ Below w1.heap.size w1 w'' := fun w' h => (stepO_any w' g x (G w' h) 2 2 (by decide) (by decide)).mono fun _ _ ⟨h1, h2⟩ => ⟨h1, h.trans (h2.mono h.size)⟩
  have AK : Hid (∀ w', Below w1.heap.size w1 w' → Calls Tryz.prog 153 #[.agg #[.int .i64 x.book, .int .i64 x.cust, .int .i64 x.dead, .int .i64 x.u0, .int .i64 x.u1, .int .i64 x.u2, .int .i64 x.price]] w' fun e w'' => ∃ b, e = .returned (.func (.func 172) #[] #[.pointer (some ⟨b, 0, none⟩)]) ∧ Asker w'' w1.heap.size b (nodes x) ∧ Below w1.heap.size w1 w'' ∧ Below w'.heap.size w' w'') := fun w' h => (isAsked_any w' x).mono fun _ _ ⟨b, h1, h2, h3⟩ => ⟨b, h1, h2.mono h.size, h.trans (h3.mono h.size), h3⟩
  have TH : ∀ w' t b, Below w1.heap.size w1 w' → w'.heap[t]? = some (.cells (fls [step x 0 1, step x 1 1, step x 2 1, step x 3 4, step x 0 2, step x 1 2, step x 2 2]).toArray 181 (0, 0)) → Asker w' w1.heap.size b (nodes x) → Calls Tryz.prog 152 #[.slice (some ⟨t, 0, none⟩) 7 7, .func (.func 172) #[] #[.pointer (some ⟨b, 0, none⟩)]] w' fun e w'' => ∃ v, e = .returned v ∧ RowT 181 w'' w1.heap.size v (fwd x).length (fwd x) ∧ Below w1.heap.size w1 w'' := fun w' t b h ht ha => (those_any w' t 7 _ b [step x 0 1, step x 1 1, step x 2 1, step x 3 4, step x 0 2, step x 1 2, step x 2 2] rfl (by omega) ht (nodes x) ha).mono fun e w'' ⟨v, h1, h2, h3⟩ => ⟨v, h1, rt_mono h2 h.size, h.trans (h3.mono h.size)⟩
  clear S hW0 B0 be0 hg h1 G B1
  generalize hs0 : step x 0 1 = s0 at *
  unfold spv at F0
  generalize hs1 : step x 1 1 = s1 at *
  unfold spv at F1
  generalize hs2 : step x 2 1 = s2 at *
  unfold spv at F2
  generalize hs3 : step x 3 4 = s3 at *
  unfold spv at F3
  generalize hs4 : step x 0 2 = s4 at *
  unfold spv at F4
  generalize hs5 : step x 1 2 = s5 at *
  unfold spv at F5
  generalize hs6 : step x 2 2 = s6 at *
  unfold spv at F6
  replace TH := Lib.hid TH
  replace F0 := Lib.hid F0
  replace F1 := Lib.hid F1
  replace F2 := Lib.hid F2
  replace F3 := Lib.hid F3
  replace F4 := Lib.hid F4
  replace F5 := Lib.hid F5
  replace F6 := Lib.hid F6
  clear hs0 hs1 hs2 hs3 hs4 hs5 hs6
  go_upto_region 2 with fail
  refine fw2 _ _ _ _ _ _ _ _ _ _ _ _ _ _ _ _ _ _ _ _ _ _ w1 w.heap.size g x s0 s1 s2 s3 s4 s5 s6 (nodes x) (fwd x) CB F0 F1 F2 F3 F4 F5 F6 AK TH _ (fun _ _ d _ _ h => by cases d <;> exact h) (fun y6 y7 y8 y9 y10 y11 y12 y13 y14 y15 y16 y17 y18 y19 y20 y21 y22 y23 v w3 hR hb => ?_)
  have E : Hid (StpsTo 181 w (fwd x) (.returned v) w3) := ⟨v, rfl, rt_mono hR b1.out.size, b1.out.trans (hb.mono b1.out.size)⟩
  clear hR hb CB AK TH F0 F1 F2 F3 F4 F5 F6
  go_wp2_with fail
  go_ret
  exact E.out
end Pl
end Go.Proofs.YtpkdigegkemogaaGreatDoor
