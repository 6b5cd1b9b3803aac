/- The program's Answer of a saga. -/
import Derived.Test.YtakicogelkdofaaDoorSgQ4
namespace Go.Proofs.YtakicogelkdofaaDoor
set_option maxRecDepth 100000
open Go.RowKit
open Go.Proofs.YtakicogelkdofaaDoor.Pk (one_at one_free one_set lt_some grown_set grown_trans below_grown grown_refl)
namespace Sg
open Wt (Wan may Opn mayOp may_any inR)
open Pl (Stp fwd bck cap z0 wanv spv regionAt one6 wpList_store_row setRow_below below_of_grown)

noncomputable def qa_8 : Code := (Tryd.f18.body.bind (regionAt 8)).getD .skip
set_option maxHeartbeats 12800000 in
theorem qa8 (z0 z1 z2 z5 z7 z8 z9 z10 z11 z12 z13 z14 z15 z16 z17 z18 z19 z20 z21 z22 z23 z24 z25 z26 z27 z28 z29 z30 z31 z32 z33 z34 z35 z36 : Value) (W : World) (q qa qz : Nat) (s : Sag) (a : Stp) (r : Int) (y : Sag) (b : Bool)
    (CB : Hid (∀ w', Below qz W w' → CellS w' q s))
    (CA : Hid (∀ w', Below qz W w' → w'.cell? ⟨qa, 0, none⟩ = some (.int .i64 a.node) ∧ w'.cell? ⟨qa, 1, none⟩ = some (.int .i64 a.op.kind) ∧ w'.cell? ⟨qa, 2, none⟩ = some (.int .i64 a.op.book) ∧ w'.cell? ⟨qa, 3, none⟩ = some (.int .i64 a.op.units) ∧ w'.cell? ⟨qa, 4, none⟩ = some (.int .i64 a.op.cust) ∧ w'.cell? ⟨qa, 5, none⟩ = some (.int .i64 a.op.amount)))
    (F1 : Hid (∀ w', Below qz W w' → Calls Tryd.prog 45 #[.agg #[.int .i64 a.node, .int .i64 a.op.kind, .int .i64 a.op.book, .int .i64 a.op.units, .int .i64 a.op.cust, .int .i64 a.op.amount]] w' fun e w'' => e = .returned (.int .i64 r) ∧ Below qz W w'' ∧ Below w'.heap.size w' w''))
    (F2 : Hid (∀ w', Below qz W w' → Calls Tryd.prog 44 #[.agg #[.int .i64 s.w.book, .int .i64 s.w.cust, .int .i64 s.w.dead, .int .i64 s.w.u0, .int .i64 s.w.u1, .int .i64 s.w.u2, .int .i64 s.w.price, .int .i64 s.ph, .int .i64 s.st, .int .i64 s.rs, .int .i64 s.si], .int .i64 r] w' fun e w'' => e = .returned (.tuple #[.agg #[.int .i64 y.w.book, .int .i64 y.w.cust, .int .i64 y.w.dead, .int .i64 y.w.u0, .int .i64 y.w.u1, .int .i64 y.w.u2, .int .i64 y.w.price, .int .i64 y.ph, .int .i64 y.st, .int .i64 y.rs, .int .i64 y.si], .bool b]) ∧ Below qz W w'' ∧ Below w'.heap.size w' w''))
    (Z : W.heap[qz]? = some (.cells #[.int .i64 0, .int .i64 0, .int .i64 0, .int .i64 0, .int .i64 0, .int .i64 0, .int .i64 0, .int .i64 0, .int .i64 0, .int .i64 0, .int .i64 0] 26 (0, 0)))
    (Q : Exit → Act → World → Prop)
    (hP : ∀ c a d v w, Q (.panic c) (Act.put a d v) w → Q (.panic c) a w)
    (hQ : ∀ (y30 y31 y32 y33 y34 y35 : Value)  (W3 : World), W3.heap[qz]? = some (.cells #[.int .i64 y.w.book, .int .i64 y.w.cust, .int .i64 y.w.dead, .int .i64 y.w.u0, .int .i64 y.w.u1, .int .i64 y.w.u2, .int .i64 y.w.price, .int .i64 y.ph, .int .i64 y.st, .int .i64 y.rs, .int .i64 y.si] 26 (0, 0)) → Below qz W W3 → Q .normal ⟨#[z0, z1, z2, .pointer (some ⟨q, 0, none⟩), .pointer (some ⟨qa, 0, none⟩), z5, .pointer (some ⟨qz, 0, none⟩), .bool b, z8, z9, z10, z11, z12, z13, z14, z15, z16, z17, z18, z19, z20, z21, z22, z23, z24, z25, z26, z27, z28, z29, y30, y31, y32, y33, y34, y35, z36], []⟩ W3) :
    Code.wp Tryd.prog qa_8 Q ⟨#[z0, z1, z2, .pointer (some ⟨q, 0, none⟩), .pointer (some ⟨qa, 0, none⟩), z5, .pointer (some ⟨qz, 0, none⟩), z7, z8, z9, z10, z11, z12, z13, z14, z15, z16, z17, z18, z19, z20, z21, z22, z23, z24, z25, z26, z27, z28, z29, z30, z31, z32, z33, z34, z35, z36], []⟩ W := by
  conv => arg 2; whnf
  have b0 : Below qz W W.drew := ⟨rfl, rfl, rfl, Nat.le_refl _, fun _ _ => rfl⟩
  refine wp_region_held_drew (S := fun w => Below qz W w) (by kernel_rfl) b0 (fun hHeld => ?_)
  replace hQ := Lib.hid hQ
  clear b0
  obtain ⟨v0, hv⟩ : ∃ v, v = W.drew := ⟨_, rfl⟩
  have Z0 : v0.heap[qz]? = some (.cells #[.int .i64 0, .int .i64 0, .int .i64 0, .int .i64 0, .int .i64 0, .int .i64 0, .int .i64 0, .int .i64 0, .int .i64 0, .int .i64 0, .int .i64 0] 26 (0, 0)) := by rw [hv]; exact Z
  rw [← hv] at hHeld ⊢
  clear hv
  refine' wpAnyH_take (i := 0) (oi := ?o1) (v := ?v1) ?hi1 (by kernel_rfl) (by kernel_rfl) (by kernel_rfl) (fun c a w h => hP c a _ _ w h) (Or.inl ⟨?hw1, ?hy1⟩) hHeld ?rest1
  case hi1 => simp only [List.getElem?_toArray, List.getElem?_cons_zero]; rfl
  case hw1 => rfl
  case hy1 =>
    intro w hSw
    obtain ⟨c0, c1, c2, c3, c4, c5, c6, c7, c8, c9, ca⟩ := CB.out _ hSw
    go_simp
    try with_reducible rfl
  simp only [Act.put, List.setIfInBounds_toArray, List.set_cons_zero, List.set_cons_succ]
  refine' wpAnyH_take (i := 1) (oi := ?o2) (v := ?v2) ?hi2 (by kernel_rfl) (by kernel_rfl) (by kernel_rfl) (fun c a w h => hP c a _ _ w h) (Or.inl ⟨?hw2, ?hy2⟩) hHeld ?rest2
  case hi2 => simp only [List.getElem?_toArray, List.getElem?_cons_succ, List.getElem?_cons_zero]; rfl
  case hw2 => rfl
  case hy2 =>
    intro w hSw
    obtain ⟨a0, a1, a2, a3, a4, a5⟩ := CA.out _ hSw
    go_simp
    try with_reducible rfl
  simp only [Act.put, List.setIfInBounds_toArray, List.set_cons_zero, List.set_cons_succ]
  refine wpAnyH_ready (rs := [2]) (by kernel_rfl) (by simp) ?_
  refine' AllReadyH.cons (i := 2) (o := ?o3) ?hi3 (fun K hK => ?st3) ?mo3
  case hi3 => simp only [List.getElem?_toArray, List.getElem?_cons_succ, List.getElem?_cons_zero]; rfl
  case st3 =>
    go_simp
    refine (F1.out _ hHeld).mono ?_
    rintro e v1 ⟨rfl, h6, h7⟩
    replace Z0 := (h7.block _ (lt_some Z0)).trans Z0
    clear h7 hHeld
    go_simp
    refine hK.out _ _ h6 (fun hHeld => ?_)
    clear hK K h6
    try simp only [Act.put, List.setIfInBounds_toArray, List.set_cons_zero, List.set_cons_succ]
    refine wpAnyH_ready (rs := [3]) (by kernel_rfl) (by simp) ?_
    refine' AllReadyH.cons (i := 3) (o := ?o4) ?hi4 (fun K hK => ?st4) ?mo4
    case hi4 => simp only [List.getElem?_toArray, List.getElem?_cons_succ, List.getElem?_cons_zero]; rfl
    case st4 =>
      go_simp
      refine (F2.out _ hHeld).mono ?_
      rintro e v2 ⟨rfl, h6, h7⟩
      replace Z0 := (h7.block _ (lt_some Z0)).trans Z0
      clear h7 hHeld
      go_simp
      refine hK.out _ _ h6 (fun hHeld => ?_)
      clear hK K h6
      try simp only [Act.put, List.setIfInBounds_toArray, List.set_cons_zero, List.set_cons_succ]
      refine' wpAnyH_take (i := 4) (oi := ?o5) (v := ?v5) ?hi5 (by kernel_rfl) (by kernel_rfl) (by kernel_rfl) (fun c a w h => hP c a _ _ w h) (Or.inl ⟨?hw5, ?hy5⟩) hHeld ?rest5
      case hi5 => simp only [List.getElem?_toArray, List.getElem?_cons_succ, List.getElem?_cons_zero]; rfl
      case hw5 => rfl
      case hy5 =>
        intro w _
        go_simp
        try with_reducible rfl
      simp only [Act.put, List.setIfInBounds_toArray, List.set_cons_zero, List.set_cons_succ]
      refine' wpAnyH_take (i := 5) (oi := ?o6) (v := ?v6) ?hi6 (by kernel_rfl) (by kernel_rfl) (by kernel_rfl) (fun c a w h => hP c a _ _ w h) (Or.inl ⟨?hw6, ?hy6⟩) hHeld ?rest6
      case hi6 => simp only [List.getElem?_toArray, List.getElem?_cons_succ, List.getElem?_cons_zero]; rfl
      case hw6 => rfl
      case hy6 =>
        intro w _
        go_simp
        try with_reducible rfl
      simp only [Act.put, List.setIfInBounds_toArray, List.set_cons_zero, List.set_cons_succ]
      refine wpAnyH_ready (rs := [6]) (by kernel_rfl) (by simp) ?_
      refine' AllReadyH.cons (i := 6) (o := ?o7) ?hi7 (fun K hK => ?st7) ?mo7
      case hi7 => simp only [List.getElem?_toArray, List.getElem?_cons_succ, List.getElem?_cons_zero]; rfl
      case st7 =>
        refine step_store_row rfl 26 (.tmp 6) (.tmp 34) rfl qz #[.int .i64 y.w.book, .int .i64 y.w.cust, .int .i64 y.w.dead, .int .i64 y.w.u0, .int .i64 y.w.u1, .int .i64 y.w.u2, .int .i64 y.w.price, .int .i64 y.ph, .int .i64 y.st, .int .i64 y.rs, .int .i64 y.si] rfl rfl 26 _ Z0 sag_size rfl (by simp [Value.oneCell']) ?_
        refine hK.out _ _ (hHeld.trans (setRow_below _ (Nat.le_refl _))) (fun hHeld2 => ?_)
        clear hK K
        try simp only [Act.put]
        replace Z0 : (v2.setRow qz #[.int .i64 y.w.book, .int .i64 y.w.cust, .int .i64 y.w.dead, .int .i64 y.w.u0, .int .i64 y.w.u1, .int .i64 y.w.u2, .int .i64 y.w.price, .int .i64 y.ph, .int .i64 y.st, .int .i64 y.rs, .int .i64 y.si]).heap[qz]? = some (.cells #[.int .i64 y.w.book, .int .i64 y.w.cust, .int .i64 y.w.dead, .int .i64 y.w.u0, .int .i64 y.w.u1, .int .i64 y.w.u2, .int .i64 y.w.price, .int .i64 y.ph, .int .i64 y.st, .int .i64 y.rs, .int .i64 y.si] 26 (0, 0)) := setRow_heap _ _ _ _ _ _ Z0
        obtain ⟨v3, hv⟩ : ∃ v, v = v2.setRow qz #[.int .i64 y.w.book, .int .i64 y.w.cust, .int .i64 y.w.dead, .int .i64 y.w.u0, .int .i64 y.w.u1, .int .i64 y.w.u2, .int .i64 y.w.price, .int .i64 y.ph, .int .i64 y.st, .int .i64 y.rs, .int .i64 y.si] := ⟨_, rfl⟩
        rw [← hv] at Z0 hHeld2 ⊢
        clear hv hHeld
        have hHeld := hHeld2
        clear hHeld2
        refine' wpAnyH_take (i := 7) (oi := ?o8) (v := ?v8) ?hi8 (by kernel_rfl) (by kernel_rfl) (by kernel_rfl) (fun c a w h => hP c a _ _ w h) (Or.inl ⟨?hw8, ?hy8⟩) hHeld ?rest8
        case hi8 => simp only [List.getElem?_toArray, List.getElem?_cons_succ, List.getElem?_cons_zero]; rfl
        case hw8 => rfl
        case hy8 =>
          intro w _
          go_simp
          try with_reducible rfl
        simp only [Act.put, List.setIfInBounds_toArray, List.set_cons_zero, List.set_cons_succ]
        refine wpAnyH_done (by kernel_rfl) ?_ _
        exact hQ.out _ _ _ _ _ _ _ Z0 hHeld
      case mo7 => exact AllReadyH.nil
    case mo4 => exact AllReadyH.nil
  case mo3 => exact AllReadyH.nil
theorem qans_results : Tryd.f18.results = #[.cell 6 26, .tmp 7] := by kernel_rfl
set_option maxHeartbeats 6400000 in
theorem qans_any (w : World) (t : Tab w) (s : Sag) (a : Stp) (n : Int) : Calls Tryd.prog 18 #[sgv s, spv a, .int .i64 n] w fun e w' => e = .returned (.tuple #[sgv (sans s a n).1, .bool (sans s a n).2]) ∧ Below w.heap.size w w' := by
  obtain ⟨W0, hW0⟩ : ∃ W0, W0 = ((w.alloc (.cells #[.int .i64 s.w.book, .int .i64 s.w.cust, .int .i64 s.w.dead, .int .i64 s.w.u0, .int .i64 s.w.u1, .int .i64 s.w.u2, .int .i64 s.w.price, .int .i64 s.ph, .int .i64 s.st, .int .i64 s.rs, .int .i64 s.si] 26)).alloc (.cells #[.int .i64 a.node, .int .i64 a.op.kind, .int .i64 a.op.book, .int .i64 a.op.units, .int .i64 a.op.cust, .int .i64 a.op.amount] 30)).alloc (.cells #[.int .i64 0, .int .i64 0, .int .i64 0, .int .i64 0, .int .i64 0, .int .i64 0, .int .i64 0, .int .i64 0, .int .i64 0, .int .i64 0, .int .i64 0] 26) := ⟨_, rfl⟩
  obtain ⟨Wa, hWa⟩ : ∃ Wa, Wa = (w.alloc (.cells #[.int .i64 s.w.book, .int .i64 s.w.cust, .int .i64 s.w.dead, .int .i64 s.w.u0, .int .i64 s.w.u1, .int .i64 s.w.u2, .int .i64 s.w.price, .int .i64 s.ph, .int .i64 s.st, .int .i64 s.rs, .int .i64 s.si] 26)).alloc (.cells #[.int .i64 a.node, .int .i64 a.op.kind, .int .i64 a.op.book, .int .i64 a.op.units, .int .i64 a.op.cust, .int .i64 a.op.amount] 30) := ⟨_, rfl⟩
  have sa : Wa.heap.size = w.heap.size + 2 := by rw [hWa]; simp
  have Ba : BoxS Wa w.heap.size s := by rw [hWa]; exact heap_alloc2_old _ _ _
  have Aa : Wa.heap[w.heap.size + 1]? = some (.cells #[.int .i64 a.node, .int .i64 a.op.kind, .int .i64 a.op.book, .int .i64 a.op.units, .int .i64 a.op.cust, .int .i64 a.op.amount] 30 (0, 0)) := by
    have := heap_alloc_new (w.alloc (.cells #[.int .i64 s.w.book, .int .i64 s.w.cust, .int .i64 s.w.dead, .int .i64 s.w.u0, .int .i64 s.w.u1, .int .i64 s.w.u2, .int .i64 s.w.price, .int .i64 s.ph, .int .i64 s.st, .int .i64 s.rs, .int .i64 s.si] 26)) (.cells #[.int .i64 a.node, .int .i64 a.op.kind, .int .i64 a.op.book, .int .i64 a.op.units, .int .i64 a.op.cust, .int .i64 a.op.amount] 30)
    rw [show (w.alloc (.cells #[.int .i64 s.w.book, .int .i64 s.w.cust, .int .i64 s.w.dead, .int .i64 s.w.u0, .int .i64 s.w.u1, .int .i64 s.w.u2, .int .i64 s.w.price, .int .i64 s.ph, .int .i64 s.st, .int .i64 s.rs, .int .i64 s.si] 26)).heap.size = w.heap.size + 1 by simp] at this
    rw [hWa]
    exact this
  have ba : Below w.heap.size w Wa := by rw [hWa]; exact ((Below.refl _ w).alloc (Nat.le_refl _) _).alloc (by simp) _
  have e0 : W0 = Wa.alloc (.cells #[.int .i64 0, .int .i64 0, .int .i64 0, .int .i64 0, .int .i64 0, .int .i64 0, .int .i64 0, .int .i64 0, .int .i64 0, .int .i64 0, .int .i64 0] 26) := by rw [hW0, hWa]
  have bz : Below Wa.heap.size Wa W0 := by rw [e0]; exact (Below.refl _ Wa).alloc (Nat.le_refl _) _
  have B0 : BoxS W0 w.heap.size s := Ba.below bz Ba.lt
  have A0 : W0.heap[w.heap.size + 1]? = _ := (bz.block _ (lt_some Aa)).trans Aa
  have Z0 : W0.heap[w.heap.size + 2]? = some (.cells #[.int .i64 0, .int .i64 0, .int .i64 0, .int .i64 0, .int .i64 0, .int .i64 0, .int .i64 0, .int .i64 0, .int .i64 0, .int .i64 0, .int .i64 0] 26 (0, 0)) := by rw [← sa, e0]; exact heap_alloc_new _ _
  have be0 : Below w.heap.size w W0 := ba.trans (bz.mono ba.size)
  have t0 := t.below be0
  have M := qnext_any W0 t0 s
  have LN : ¬ ((snext s).2 = true ∧ (snext s).1 = a ∧ (n = 1 ∨ n = 2)) → sans s a n = (s, false) := fun h => by unfold sans; rw [if_neg h]
  have OK : (snext s).2 = true → smay s = true ∧ (s.ph = 1 ∨ s.ph = 2 ∨ s.ph = 3) ∧ 0 ≤ s.st ∧ s.st ≤ 10 ∧ (s.ph = 2 → s.st = 0) := fun h => by
    cases hm : smay s with
    | false => rw [snext_no hm] at h; cases h
    | true =>
      obtain ⟨-, -, hc⟩ := smay_true hm
      have l1 := Pl.fwd_len s.w
      have l2 := Pl.bck_len s.w
      unfold nF nB at hc
      rcases hc with ⟨hp, h0, h1, -⟩ | ⟨hp, h0, -⟩ | ⟨hp, h0, h1, -⟩ | ⟨hp, -, -⟩ | ⟨hp, -, -⟩
      · exact ⟨rfl, .inl hp, h0, by omega, by omega⟩
      · exact ⟨rfl, .inr (.inl hp), by omega, by omega, fun _ => h0⟩
      · exact ⟨rfl, .inr (.inr hp), h0, by omega, by omega⟩
      · rw [snext_4 hm (.inl hp)] at h; cases h
      · rw [snext_4 hm (.inr hp)] at h; cases h
  have L1 : (snext s).2 = true → (snext s).1 = a → n = 1 → sans s a n = (sdone s, true) := fun h1 h2 h3 => by unfold sans; rw [if_pos ⟨h1, h2, .inl h3⟩, if_neg (by omega)]
  have L2 : (snext s).2 = true → (snext s).1 = a → n = 2 → sans s a n = stn s (sref a) := fun h1 h2 h3 => by
    unfold sans stn sref
    rw [if_pos ⟨h1, h2, .inr h3⟩, if_pos h3]
    by_cases hp : s.ph = 1
    · have hm : smay s = true ∧ s.ph = 1 := ⟨(OK h1).1, hp⟩
      by_cases hk : a.op.kind = 4
      · simp only [if_pos hp, if_pos hk, if_pos hm]
      · simp only [if_pos hp, if_neg hk, if_pos hm]
    · rw [if_neg hp, if_neg (fun h => hp h.2)]
  have RS : (snext s).2 = true → Hid (∀ w', Below W0.heap.size W0 w' → Calls Tryd.prog 43 #[sgv s] w' fun e w'' => e = .returned (sgv (sdone s)) ∧ Below w'.heap.size w' w'') := fun h w' hb => stp_any w' (t0.below hb) s (OK h).2.1 (OK h).2.2.1 (OK h).2.2.2.1 (OK h).2.2.2.2
  have RT : Hid (∀ w', Below (w.heap.size + 2) W0 w' → Calls Tryd.prog 44 #[sgv s, .int .i64 (sref a)] w' fun e w'' => e = .returned (.tuple #[sgv (stn s (sref a)).1, .bool (stn s (sref a)).2]) ∧ Below w'.heap.size w' w'') := fun w' hb => stn_any w' (t0.sub hb (by omega)) s (sref a)
  have RR : Hid (∀ w', Calls Tryd.prog 45 #[spv a] w' fun e w'' => e = .returned (.int .i64 (sref a)) ∧ Below w'.heap.size w' w'') := fun w' => sref_any w' a
  clear OK t t0
  generalize stn s (sref a) = yt at *
  generalize sref a = rf at *
  generalize sans s a n = y at *
  generalize sdone s = yd at *
  generalize (snext s).1 = nx at *
  generalize (snext s).2 = ok at *
  have CB0 : Hid (∀ w', Below (w.heap.size + 2) W0 w' → BoxS w' w.heap.size s ∧ w'.heap[w.heap.size + 1]? = some (.cells #[.int .i64 a.node, .int .i64 a.op.kind, .int .i64 a.op.book, .int .i64 a.op.units, .int .i64 a.op.cust, .int .i64 a.op.amount] 30 (0, 0))) := fun w' h => ⟨(h.block _ (by omega)).trans B0, (h.block _ (by omega)).trans A0⟩
  have z0 : w.heap.size + 2 < W0.heap.size := lt_some Z0
  clear sa Ba Aa ba e0 bz hWa B0 A0
  unfold sgv sgc at *
  unfold spv at *
  replace hW0 := Lib.hid hW0
  replace M := Lib.hid M
  replace LN := Lib.hid LN
  replace L1 := Lib.hid L1
  replace L2 := Lib.hid L2
  replace RS := Lib.hid RS
  go_enter Tryd.func18, Tryd.ntmps18
  go_wp2_with fail
  rw [← hW0.out]
  refine M.out.mono ?_
  rintro e w1 ⟨rfl, h1⟩
  go_upto_region 2 with fail
  obtain ⟨W1, hW1⟩ : ∃ W1, W1 = w1.alloc (.cells #[.int .i64 nx.node, .int .i64 nx.op.kind, .int .i64 nx.op.book, .int .i64 nx.op.units, .int .i64 nx.op.cust, .int .i64 nx.op.amount] 30) := ⟨_, rfl⟩
  rw [← hW1]
  have bW1 : Below w1.heap.size w1 W1 := by rw [hW1]; exact (Below.refl _ _).alloc (Nat.le_refl _) _
  have h2 : Below W0.heap.size W0 W1 := h1.trans (bW1.mono h1.size)
  have N1 : W1.heap[w1.heap.size]? = some (.cells #[.int .i64 nx.node, .int .i64 nx.op.kind, .int .i64 nx.op.book, .int .i64 nx.op.units, .int .i64 nx.op.cust, .int .i64 nx.op.amount] 30 (0, 0)) := by rw [hW1]; exact heap_alloc_new _ _
  have b1 : Hid (Below w.heap.size w W1) := be0.trans (h2.mono be0.size)
  obtain ⟨B1, A1⟩ := CB0.out _ (h2.mono (Nat.le_of_lt z0))
  have Z1 := Lib.hid ((h2.block _ z0).trans Z0)
  have n0 : W1.cell? ⟨w1.heap.size, 0, none⟩ = _ := one_at N1
  have n1 : W1.cell? ⟨w1.heap.size, 1, none⟩ = _ := one_at N1
  have n2 : W1.cell? ⟨w1.heap.size, 2, none⟩ = _ := one_at N1
  have n3 : W1.cell? ⟨w1.heap.size, 3, none⟩ = _ := one_at N1
  have n4 : W1.cell? ⟨w1.heap.size, 4, none⟩ = _ := one_at N1
  have n5 : W1.cell? ⟨w1.heap.size, 5, none⟩ = _ := one_at N1
  have a0 : W1.cell? ⟨w.heap.size + 1, 0, none⟩ = _ := one_at A1
  have a1 : W1.cell? ⟨w.heap.size + 1, 1, none⟩ = _ := one_at A1
  have a2 : W1.cell? ⟨w.heap.size + 1, 2, none⟩ = _ := one_at A1
  have a3 : W1.cell? ⟨w.heap.size + 1, 3, none⟩ = _ := one_at A1
  have a4 : W1.cell? ⟨w.heap.size + 1, 4, none⟩ = _ := one_at A1
  have a5 : W1.cell? ⟨w.heap.size + 1, 5, none⟩ = _ := one_at A1
  obtain ⟨c0, c1, c2, c3, c4, c5, c6, c7, c8, c9, ca⟩ := BoxS.cells B1
  have hw1 : w.heap.size < W1.heap.size := lt_some B1
  have hw2 : w.heap.size + 1 < W1.heap.size := lt_some A1
  have hw3 : w.heap.size + 2 < W1.heap.size := lt_some Z1.out
  have hw4 : w1.heap.size < W1.heap.size := lt_some N1
  have H2 : Hid (Below W0.heap.size W0 W1) := h2
  have z0h : Hid (w.heap.size + 2 < W0.heap.size) := z0
  clear hW1 bW1 h2 N1 A1 h1 be0 hW0 M Z0 z0 B1
  cases ok with
  | false =>
    have EE := Lib.hid (LN.out (by simp))
    clear LN L1 L2 RS RT RR CB0
    go_wp2_with (refine wpList_store_row rfl 26 (.tmp 6) (.tmp 22) rfl (w.heap.size + 2) #[.int .i64 s.w.book, .int .i64 s.w.cust, .int .i64 s.w.dead, .int .i64 s.w.u0, .int .i64 s.w.u1, .int .i64 s.w.u2, .int .i64 s.w.price, .int .i64 s.ph, .int .i64 s.st, .int .i64 s.rs, .int .i64 s.si] rfl rfl 26 _ Z1.out sag_size rfl (by simp [Value.oneCell']) ?_)
    refine bodyPost_ret (res_row qans_results _ _ (w.heap.size + 2) 26 _ (0, 0) _ rfl (setRow_heap _ _ _ _ _ _ Z1.out) Tryd.underlying26 rfl sag_size) rfl ?_
    exact ⟨by rw [EE.out]; rfl, b1.out.trans (setRow_below _ (Nat.le_add_right _ 2))⟩
  | true =>
    have EQ := fun w => eq_pask w a nx
    unfold spv at EQ
    by_cases hna : nx = a
    case neg =>
      have EE := Lib.hid (LN.out (by simp [hna]))
      rw [decide_eq_false (fun h => hna h.symm)] at EQ
      clear LN L1 L2 RS RT RR CB0 hna
      go_wp2_with (refine wpList_store_row rfl 26 (.tmp 6) (.tmp 22) rfl (w.heap.size + 2) #[.int .i64 s.w.book, .int .i64 s.w.cust, .int .i64 s.w.dead, .int .i64 s.w.u0, .int .i64 s.w.u1, .int .i64 s.w.u2, .int .i64 s.w.price, .int .i64 s.ph, .int .i64 s.st, .int .i64 s.rs, .int .i64 s.si] rfl rfl 26 _ Z1.out sag_size rfl (by simp [Value.oneCell']) ?_)
      refine bodyPost_ret (res_row qans_results _ _ (w.heap.size + 2) 26 _ (0, 0) _ rfl (setRow_heap _ _ _ _ _ _ Z1.out) Tryd.underlying26 rfl sag_size) rfl ?_
      exact ⟨by rw [EE.out]; rfl, b1.out.trans (setRow_below _ (Nat.le_add_right _ 2))⟩
    subst hna
    rw [decide_eq_true rfl] at EQ
    by_cases hn1 : n = 1
    case pos =>
      subst hn1
      have EE := Lib.hid (L1.out rfl rfl rfl)
      have K := Lib.hid ((RS.out rfl).out W1 H2.out)
      clear LN L1 L2 RS RT RR CB0
      go_wp2_with fail
      refine K.out.mono ?_
      rintro e w3 ⟨rfl, h3⟩
      have Z3 := Lib.hid ((h3.block _ hw3).trans Z1.out)
      have b3 : Hid (Below w.heap.size w w3) := b1.out.trans (h3.mono b1.out.size)
      clear K h3 c0 c1 c2 c3 c4 c5 c6 c7 c8 c9 ca a0 a1 a2 a3 a4 a5 n0 n1 n2 n3 n4 n5 EQ
      go_wp2_with (refine wpList_store_row rfl 26 (.tmp 6) (.tmp 27) rfl (w.heap.size + 2) #[.int .i64 yd.w.book, .int .i64 yd.w.cust, .int .i64 yd.w.dead, .int .i64 yd.w.u0, .int .i64 yd.w.u1, .int .i64 yd.w.u2, .int .i64 yd.w.price, .int .i64 yd.ph, .int .i64 yd.st, .int .i64 yd.rs, .int .i64 yd.si] rfl rfl 26 _ Z3.out sag_size rfl (by simp [Value.oneCell']) ?_)
      refine bodyPost_ret (res_row qans_results _ _ (w.heap.size + 2) 26 _ (0, 0) _ rfl (setRow_heap _ _ _ _ _ _ Z3.out) Tryd.underlying26 rfl sag_size) rfl ?_
      exact ⟨by rw [EE.out]; rfl, b3.out.trans (setRow_below _ (Nat.le_add_right _ 2))⟩
    have q1 : (n == 1) = false := beq_eq_false_iff_ne.2 hn1
    by_cases hn2 : n = 2
    case neg =>
      have q2 : (n == 2) = false := beq_eq_false_iff_ne.2 hn2
      have EE := Lib.hid (LN.out (by intro h; rcases h.2.2 with h | h; exact hn1 h; exact hn2 h))
      clear LN L1 L2 RS RT RR CB0 hn1 hn2
      go_wp2_with (refine wpList_store_row rfl 26 (.tmp 6) (.tmp 36) rfl (w.heap.size + 2) #[.int .i64 s.w.book, .int .i64 s.w.cust, .int .i64 s.w.dead, .int .i64 s.w.u0, .int .i64 s.w.u1, .int .i64 s.w.u2, .int .i64 s.w.price, .int .i64 s.ph, .int .i64 s.st, .int .i64 s.rs, .int .i64 s.si] rfl rfl 26 _ Z1.out sag_size rfl (by simp [Value.oneCell']) ?_)
      refine bodyPost_ret (res_row qans_results _ _ (w.heap.size + 2) 26 _ (0, 0) _ rfl (setRow_heap _ _ _ _ _ _ Z1.out) Tryd.underlying26 rfl sag_size) rfl ?_
      exact ⟨by rw [EE.out]; rfl, b1.out.trans (setRow_below _ (Nat.le_add_right _ 2))⟩
    subst hn2
    have EE := Lib.hid (L2.out rfl rfl rfl)
    have HH : Below (w.heap.size + 2) W0 W1 := H2.out.mono (Nat.le_of_lt z0h.out)
    have CB : Hid (∀ w', Below (w.heap.size + 2) W1 w' → CellS w' w.heap.size s) := fun w' h => (CB0.out _ (HH.trans h)).1.cells
    have CA : Hid (∀ w', Below (w.heap.size + 2) W1 w' → w'.cell? ⟨w.heap.size + 1, 0, none⟩ = some (.int .i64 nx.node) ∧ w'.cell? ⟨w.heap.size + 1, 1, none⟩ = some (.int .i64 nx.op.kind) ∧ w'.cell? ⟨w.heap.size + 1, 2, none⟩ = some (.int .i64 nx.op.book) ∧ w'.cell? ⟨w.heap.size + 1, 3, none⟩ = some (.int .i64 nx.op.units) ∧ w'.cell? ⟨w.heap.size + 1, 4, none⟩ = some (.int .i64 nx.op.cust) ∧ w'.cell? ⟨w.heap.size + 1, 5, none⟩ = some (.int .i64 nx.op.amount)) := fun w' h => by
      have := (CB0.out _ (HH.trans h)).2
      exact ⟨one_at this, one_at this, one_at this, one_at this, one_at this, one_at this⟩
    have F1 : Hid (∀ w', Below (w.heap.size + 2) W1 w' → Calls Tryd.prog 45 #[.agg #[.int .i64 nx.node, .int .i64 nx.op.kind, .int .i64 nx.op.book, .int .i64 nx.op.units, .int .i64 nx.op.cust, .int .i64 nx.op.amount]] w' fun e w'' => e = .returned (.int .i64 rf) ∧ Below (w.heap.size + 2) W1 w'' ∧ Below w'.heap.size w' w'') := fun w' h => (RR.out w').mono fun _ _ ⟨e1, e2⟩ => ⟨e1, h.trans (e2.mono (by have := h.size; omega)), e2⟩
    have F2 : Hid (∀ w', Below (w.heap.size + 2) W1 w' → Calls Tryd.prog 44 #[.agg #[.int .i64 s.w.book, .int .i64 s.w.cust, .int .i64 s.w.dead, .int .i64 s.w.u0, .int .i64 s.w.u1, .int .i64 s.w.u2, .int .i64 s.w.price, .int .i64 s.ph, .int .i64 s.st, .int .i64 s.rs, .int .i64 s.si], .int .i64 rf] w' fun e w'' => e = .returned (.tuple #[.agg #[.int .i64 yt.1.w.book, .int .i64 yt.1.w.cust, .int .i64 yt.1.w.dead, .int .i64 yt.1.w.u0, .int .i64 yt.1.w.u1, .int .i64 yt.1.w.u2, .int .i64 yt.1.w.price, .int .i64 yt.1.ph, .int .i64 yt.1.st, .int .i64 yt.1.rs, .int .i64 yt.1.si], .bool yt.2]) ∧ Below (w.heap.size + 2) W1 w'' ∧ Below w'.heap.size w' w'') := fun w' h => (RT.out w' (HH.trans h)).mono fun _ _ ⟨e1, e2⟩ => ⟨e1, h.trans (e2.mono (by have := h.size; omega)), e2⟩
    clear LN L1 L2 RS RT RR CB0 hn1 HH H2 z0h
    go_upto_region 8 with fail
    refine qa8 _ _ _ _ _ _ _ _ _ _ _ _ _ _ _ _ _ _ _ _ _ _ _ _ _ _ _ _ _ _ _ _ _ _ W1 w.heap.size (w.heap.size + 1) (w.heap.size + 2) s nx rf yt.1 yt.2 CB CA F1 F2 Z1.out _ (fun _ _ d _ _ h => by cases d <;> exact h) (fun _ _ _ _ _ _ w3 hz hb => ?_)
    have E : Hid (Below w.heap.size w w3) := b1.out.trans (hb.mono (Nat.le_add_right _ 2))
    replace hz := Lib.hid hz
    clear hb F1 F2 CB CA c0 c1 c2 c3 c4 c5 c6 c7 c8 c9 ca a0 a1 a2 a3 a4 a5 n0 n1 n2 n3 n4 n5 EQ Z1 b1 hw1 hw2 hw3 hw4 q1
    go_wp2_with fail
    refine bodyPost_ret (res_row qans_results _ _ (w.heap.size + 2) 26 #[.int .i64 yt.1.w.book, .int .i64 yt.1.w.cust, .int .i64 yt.1.w.dead, .int .i64 yt.1.w.u0, .int .i64 yt.1.w.u1, .int .i64 yt.1.w.u2, .int .i64 yt.1.w.price, .int .i64 yt.1.ph, .int .i64 yt.1.st, .int .i64 yt.1.rs, .int .i64 yt.1.si] (0, 0) _ rfl hz.out Tryd.underlying26 rfl sag_size) rfl ?_
    exact ⟨by rw [EE.out]; rfl, E.out⟩
end Sg
end Go.Proofs.YtakicogelkdofaaDoor
