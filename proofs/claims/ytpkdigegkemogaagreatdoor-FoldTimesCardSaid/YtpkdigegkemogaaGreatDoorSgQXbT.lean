/- Parts of the claim: SgQ4, SgQ5, SgQ6, SgP, SgQ, SbA -/
import Derived.Test.YtpkdigegkemogaaGreatDoorTkT
import Derived.Test.YtpkdigegkemogaaGreatDoorSgQXaT
import Derived.Test.YtpkdigegkemogaaGreatDoorSgXbT
import Derived.Test.YtpkdigegkemogaaGreatDoorSgQ0T
import Derived.Test.YtpkdigegkemogaaGreatDoorWtXbT
import Derived.Test.YtpkdigegkemogaaGreatDoorInAT
namespace Go.Proofs.YtpkdigegkemogaaGreatDoor
set_option maxRecDepth 100000
open Go.RowKit
open Go.Proofs.YtpkdigegkemogaaGreatDoor.Pk (one_at one_free one_set lt_some grown_set grown_trans grown_refl)
namespace Sg
open Wt (Wan may Opn mayOp may_any inR)
open Pl (Stp fwd bck cap z0 wanv spv RowT rt_form rt_mono rt_cell At regionAt one6 BoxW wpList_store_row setRow_below below_of_grown)

noncomputable def qs_2 : Code := (Tryz.f128.body.bind (regionAt 2)).getD .skip
set_option maxHeartbeats 12800000 in
theorem qs2 (z0 z2 z3 z4 z5 z6 z7 z8 z9 z10 z11 z12 z13 z14 z15 z16 z17 z18 z19 z20 : Value) (W : World) (q n : Nat) (s : Sag)
    (CB : Hid (∀ w', Below W.heap.size W w' → CellS w' q s))
    (F : Hid (∀ w', Below W.heap.size W w' → Calls Tryz.prog 110 #[.agg #[.int .i64 s.w.book, .int .i64 s.w.cust, .int .i64 s.w.dead, .int .i64 s.w.u0, .int .i64 s.w.u1, .int .i64 s.w.u2, .int .i64 s.w.price, .int .i64 s.ph, .int .i64 s.st, .int .i64 s.rs, .int .i64 s.si]] w' fun e w'' => (∃ A c, e = .returned (.slice A n c)) ∧ Below W.heap.size W w''))
    (Q : Exit → Act → World → Prop)
    (hP : ∀ c a d v w, Q (.panic c) (Act.put a d v) w → Q (.panic c) a w)
    (hQ : ∀ (y7 y8 y9 y10 y11 : Value)  (W3 : World), Below W.heap.size W W3 → Q .normal ⟨#[z0, .pointer (some ⟨q, 0, none⟩), z2, z3, z4, z5, z6, y7, y8, y9, y10, y11, .bool (s.st == (n : Int)), z13, z14, z15, z16, z17, z18, z19, z20], []⟩ W3) :
    Code.wp Tryz.prog qs_2 Q ⟨#[z0, .pointer (some ⟨q, 0, none⟩), z2, z3, z4, z5, z6, z7, z8, z9, z10, z11, z12, z13, z14, z15, z16, z17, z18, z19, z20], []⟩ W := by
  conv => arg 2; whnf
  have b0 : Below W.heap.size W W.drew := ⟨rfl, rfl, rfl, Nat.le_refl _, fun _ _ => rfl⟩
  refine wp_region_held_drew (S := fun w => Below W.heap.size W w) (by kernel_rfl) b0 (fun hHeld => ?_)
  replace hQ := Lib.hid hQ
  clear b0
  obtain ⟨v0, hv⟩ : ∃ v, v = W.drew := ⟨_, rfl⟩
  rw [← hv] at hHeld ⊢
  clear hv
  refine' tkY 0 hP ?c hHeld ?_
  case c => intro w _; go_simp; try with_reducible rfl
  simp only [Act.put, sQa, sQb, sQc]
  refine' tkY 1 hP ?c hHeld ?_
  case c => intro w hSw; obtain ⟨c0, c1, c2, c3, c4, c5, c6, c7, c8, c9, ca⟩ := CB.out _ hSw; go_simp; try with_reducible rfl
  simp only [Act.put, sQa, sQb, sQc]
  refine' tkY 2 hP ?c hHeld ?_
  case c => intro w hSw; obtain ⟨c0, c1, c2, c3, c4, c5, c6, c7, c8, c9, ca⟩ := CB.out _ hSw; go_simp; try with_reducible rfl
  simp only [Act.put, sQa, sQb, sQc]
  refine wpAnyH_ready (rs := [3]) (by kernel_rfl) (by simp) ?_
  refine' tkC 3 (fun K hK => ?st4) ?mo4
  case st4 =>
    go_simp
    refine (F.out _ hHeld).mono ?_
    rintro e v1 ⟨⟨A, c, rfl⟩, h6⟩
    clear hHeld
    go_simp
    refine hK.out _ _ h6 (fun hHeld => ?_)
    clear hK K h6
    try simp only [Act.put, sQa, sQb, sQc]
    refine' tkY 4 hP ?c hHeld ?_
    case c => intro w _; go_simp; try with_reducible rfl
    simp only [Act.put, sQa, sQb, sQc]
    refine' tkY 5 hP ?c hHeld ?_
    case c => intro w _; go_simp; try with_reducible rfl
    simp only [Act.put, sQa, sQb, sQc]
    refine wpAnyH_done (by kernel_rfl) ?_ _
    exact hQ.out _ _ _ _ _ _  hHeld
  case mo4 => exact AllReadyH.nil
noncomputable def qn_3 : Code := (Tryz.f99.body.bind (regionAt 3)).getD .skip
set_option maxHeartbeats 12800000 in
theorem qn3 (z0 z3 z4 z5 z6 z7 z8 z9 z10 z11 z12 z13 z14 z15 z16 z17 : Value) (W : World) (q q2 n k : Nat) (s : Sag) (a : Stp) (l : List Stp)
    (CB : Hid (∀ w', Below q2 W w' → CellS w' q s))
    (F : Hid (∀ w', Below q2 W w' → Calls Tryz.prog 110 #[.agg #[.int .i64 s.w.book, .int .i64 s.w.cust, .int .i64 s.w.dead, .int .i64 s.w.u0, .int .i64 s.w.u1, .int .i64 s.w.u2, .int .i64 s.w.price, .int .i64 s.ph, .int .i64 (k : Int), .int .i64 s.rs, .int .i64 s.si]] w' fun e w'' => ∃ A c, e = .returned (.slice A n c) ∧ RowT 181 w'' q2 (.slice A n c) n l ∧ Below q2 W w'' ∧ Below w'.heap.size w' w''))
    (Z : W.heap[q2]? = some (.cells #[.int .i64 0, .int .i64 0, .int .i64 0, .int .i64 0, .int .i64 0, .int .i64 0] 181 (0, 0)))
    (hk : s.st = (k : Int))
    (hl : l[k]? = some a)
    (i1 : (k : Int) < (n : Int))
    (Q : Exit → Act → World → Prop)
    (hP : ∀ c a d v w, Q (.panic c) (Act.put a d v) w → Q (.panic c) a w)
    (hQ : ∀ (y12 y13 y14 y15 y16 y17 : Value)  (W3 : World), W3.heap[q2]? = some (.cells #[Value.int .i64 a.node, .int .i64 a.op.kind, .int .i64 a.op.book, .int .i64 a.op.units, .int .i64 a.op.cust, .int .i64 a.op.amount] 181 (0, 0)) → Below q2 W W3 → Q .normal ⟨#[z0, .pointer (some ⟨q, 0, none⟩), .pointer (some ⟨q2, 0, none⟩), .bool true, z4, z5, z6, z7, z8, z9, z10, z11, y12, y13, y14, y15, y16, y17], []⟩ W3) :
    Code.wp Tryz.prog qn_3 Q ⟨#[z0, .pointer (some ⟨q, 0, none⟩), .pointer (some ⟨q2, 0, none⟩), z3, z4, z5, z6, z7, z8, z9, z10, z11, z12, z13, z14, z15, z16, z17], []⟩ W := by
  conv => arg 2; whnf
  have b0 : Below q2 W W.drew := ⟨rfl, rfl, rfl, Nat.le_refl _, fun _ _ => rfl⟩
  refine wp_region_held_drew (S := fun w => Below q2 W w) (by kernel_rfl) b0 (fun hHeld => ?_)
  replace hQ := Lib.hid hQ
  clear b0
  obtain ⟨v0, hv⟩ : ∃ v, v = W.drew := ⟨_, rfl⟩
  have Z0 : v0.heap[q2]? = some (.cells #[.int .i64 0, .int .i64 0, .int .i64 0, .int .i64 0, .int .i64 0, .int .i64 0] 181 (0, 0)) := by rw [hv]; exact Z
  have i2 : (0 : Int) ≤ (k : Int) := by omega
  rw [← hv] at hHeld ⊢
  clear hv
  refine' tkY 0 hP ?c hHeld ?_
  case c => intro w hSw; obtain ⟨c0, c1, c2, c3, c4, c5, c6, c7, c8, c9, ca⟩ := CB.out _ hSw; rw [hk] at c8; go_simp; try with_reducible rfl
  simp only [Act.put, sQa, sQb, sQc]
  refine' tkY 2 hP ?c hHeld ?_
  case c => intro w _; go_simp; try with_reducible rfl
  simp only [Act.put, sQa, sQb, sQc]
  refine' tkY 3 hP ?c hHeld ?_
  case c => intro w hSw; obtain ⟨c0, c1, c2, c3, c4, c5, c6, c7, c8, c9, ca⟩ := CB.out _ hSw; rw [hk] at c8; go_simp; try with_reducible rfl
  simp only [Act.put, sQa, sQb, sQc]
  refine wpAnyH_ready (rs := [1]) (by kernel_rfl) (by simp) ?_
  refine' tkC 1 (fun K hK => ?st4) ?mo4
  case st4 =>
    go_simp
    refine (F.out _ hHeld).mono ?_
    rintro e v1 ⟨A, c, rfl, hR, h6, h7⟩
    replace Z0 := (h7.block _ (lt_some Z0)).trans Z0
    obtain ⟨g, rfl, a0, a1, a2, a3, a4, a5⟩ := rt_cell hR hl
    clear hR h7 hHeld
    go_simp
    refine hK.out _ _ h6 (fun hHeld => ?_)
    clear hK K h6
    try simp only [Act.put, sQa, sQb, sQc]
    refine' tkY 4 hP ?c hHeld ?_
    case c => intro w _; go_simp; try with_reducible rfl
    simp only [Act.put, sQa, sQb, sQc]
    refine wpAnyH_ready (rs := [5]) (by kernel_rfl) (by simp) ?_
    refine' tkC 5 (fun K hK => ?st6) ?mo6
    case st6 =>
      go_simp
      refine hK.out _ _ hHeld (fun hHeld2 => ?_)
      clear hK K hHeld2
      try simp only [Act.put, sQa, sQb, sQc]
      refine wpAnyH_ready (rs := [6]) (by kernel_rfl) (by simp) ?_
      refine' tkC 6 (fun K hK => ?st7) ?mo7
      case st7 =>
        refine step_store_row rfl 181 (.tmp 2) (.tmp 17) rfl q2 #[Value.int .i64 a.node, .int .i64 a.op.kind, .int .i64 a.op.book, .int .i64 a.op.units, .int .i64 a.op.cust, .int .i64 a.op.amount] rfl rfl 181 _ Z0 Pl.ask_size rfl (one6 _ _ _ _ _ _) ?_
        refine hK.out _ _ (hHeld.trans (setRow_below _ (Nat.le_refl _))) (fun hHeld2 => ?_)
        clear hK K
        try simp only [Act.put]
        replace Z0 : (v1.setRow q2 #[Value.int .i64 a.node, .int .i64 a.op.kind, .int .i64 a.op.book, .int .i64 a.op.units, .int .i64 a.op.cust, .int .i64 a.op.amount]).heap[q2]? = some (.cells #[Value.int .i64 a.node, .int .i64 a.op.kind, .int .i64 a.op.book, .int .i64 a.op.units, .int .i64 a.op.cust, .int .i64 a.op.amount] 181 (0, 0)) := setRow_heap _ _ _ _ _ _ Z0
        obtain ⟨v2, hv⟩ : ∃ v, v = v1.setRow q2 #[Value.int .i64 a.node, .int .i64 a.op.kind, .int .i64 a.op.book, .int .i64 a.op.units, .int .i64 a.op.cust, .int .i64 a.op.amount] := ⟨_, rfl⟩
        rw [← hv] at Z0 hHeld2 ⊢
        clear hv hHeld
        have hHeld := hHeld2
        clear hHeld2
        refine' tkY 7 hP ?c hHeld ?_
        case c => intro w _; go_simp; try with_reducible rfl
        simp only [Act.put, sQa, sQb, sQc]
        refine wpAnyH_done (by kernel_rfl) ?_ _
        exact hQ.out _ _ _ _ _ _ _ Z0 hHeld
      case mo7 => exact AllReadyH.nil
    case mo6 => exact AllReadyH.nil
  case mo4 => exact AllReadyH.nil
theorem stp_results : Tryz.f128.results = #[.cell 2 57] := by kernel_rfl
set_option maxHeartbeats 12800000 in
theorem stp_any (w : World) (t : Tab w) (s : Sag) (hp : s.ph = 1 ∨ s.ph = 2 ∨ s.ph = 3) (h0 : 0 ≤ s.st) (h1 : s.st ≤ 10) (h2 : s.ph = 2 → s.st = 0) : Calls Tryz.prog 128 #[sgv s] w fun e w' => e = .returned (sgv (sdone s)) ∧ Below w.heap.size w w' := by
  obtain ⟨W0, hW0⟩ : ∃ W0, W0 = (w.alloc (.cells #[.int .i64 s.w.book, .int .i64 s.w.cust, .int .i64 s.w.dead, .int .i64 s.w.u0, .int .i64 s.w.u1, .int .i64 s.w.u2, .int .i64 s.w.price, .int .i64 s.ph, .int .i64 s.st, .int .i64 s.rs, .int .i64 s.si] 57)).alloc (.cells #[.int .i64 0, .int .i64 0, .int .i64 0, .int .i64 0, .int .i64 0, .int .i64 0, .int .i64 0, .int .i64 0, .int .i64 0, .int .i64 0, .int .i64 0] 57) := ⟨_, rfl⟩
  have B0 : BoxS W0 w.heap.size s := by rw [hW0]; exact heap_alloc2_old _ _ _
  have Z0 : W0.heap[w.heap.size + 1]? = some (.cells #[.int .i64 0, .int .i64 0, .int .i64 0, .int .i64 0, .int .i64 0, .int .i64 0, .int .i64 0, .int .i64 0, .int .i64 0, .int .i64 0, .int .i64 0] 57 (0, 0)) := by
    have := heap_alloc_new (w.alloc (.cells #[.int .i64 s.w.book, .int .i64 s.w.cust, .int .i64 s.w.dead, .int .i64 s.w.u0, .int .i64 s.w.u1, .int .i64 s.w.u2, .int .i64 s.w.price, .int .i64 s.ph, .int .i64 s.st, .int .i64 s.rs, .int .i64 s.si] 57)) (.cells #[.int .i64 0, .int .i64 0, .int .i64 0, .int .i64 0, .int .i64 0, .int .i64 0, .int .i64 0, .int .i64 0, .int .i64 0, .int .i64 0, .int .i64 0] 57)
    rw [show (w.alloc (.cells #[.int .i64 s.w.book, .int .i64 s.w.cust, .int .i64 s.w.dead, .int .i64 s.w.u0, .int .i64 s.w.u1, .int .i64 s.w.u2, .int .i64 s.w.price, .int .i64 s.ph, .int .i64 s.st, .int .i64 s.rs, .int .i64 s.si] 57)).heap.size = w.heap.size + 1 by simp] at this
    rw [hW0]
    exact this
  have be0 : Below w.heap.size w W0 := by rw [hW0]; exact ((Below.refl _ w).alloc (Nat.le_refl _) _).alloc (by simp) _
  have s0 : w.heap.size + 1 < W0.heap.size := lt_some Z0
  have D : ∀ n : Nat, n = (pst s).length → s.st + 1 = (n : Int) → sdone s = { s with ph := behind s.ph, st := 0 } := fun n hn h => by
    unfold sdone behind
    rcases hp with hp | hp | hp
    · rw [if_pos hp, if_pos hp, if_pos (by unfold nF; rw [hn] at h; unfold pst at h; rw [if_pos hp] at h; exact h)]
    · rw [if_neg (by omega), if_pos hp, if_neg (by omega), if_pos hp]
    · rw [if_neg (by omega), if_neg (by omega), if_pos (by unfold nB; rw [hn] at h; unfold pst at h; rw [if_neg (by omega), if_neg (by omega), if_pos hp] at h; exact h), if_neg (by omega), if_neg (by omega), if_pos hp]
  have D' : ∀ n : Nat, n = (pst s).length → ¬ s.st + 1 = (n : Int) → sdone s = { s with st := s.st + 1 } := fun n hn h => by
    unfold sdone
    rcases hp with hp | hp | hp
    · rw [if_pos hp, if_neg (by unfold nF; rw [hn] at h; unfold pst at h; rw [if_pos hp] at h; exact h)]
    · exact absurd (by rw [hn, h2 hp]; unfold pst; rw [if_neg (by omega), if_pos hp]; rfl) h
    · rw [if_neg (by omega), if_neg (by omega), if_neg (by unfold nB; rw [hn] at h; unfold pst at h; rw [if_neg (by omega), if_neg (by omega), if_pos hp] at h; exact h)]
  obtain ⟨W2, hW2⟩ : ∃ W2, W2 = W0.setCell ⟨w.heap.size, 8, none⟩ (.int .i64 (s.st + 1)) := ⟨_, rfl⟩
  have B2 : BoxS W2 w.heap.size { s with st := s.st + 1 } := by rw [hW2]; exact one_set B0 _
  have gs := grown_set W0 w.heap.size 8 (.int .i64 (s.st + 1))
  rw [← hW2] at gs
  have Z2 : Hid (W2.heap[w.heap.size + 1]? = some (.cells #[.int .i64 0, .int .i64 0, .int .i64 0, .int .i64 0, .int .i64 0, .int .i64 0, .int .i64 0, .int .i64 0, .int .i64 0, .int .i64 0, .int .i64 0] 57 (0, 0))) := (gs.block _ s0 (by simp)).trans Z0
  have b2 : Hid (Below w.heap.size w W2) := be0.trans (below_of_grown gs be0.size fun j hj => by injection hj with hj; omega)
  have T2 : Tab W2 := t.sub b2.out t.lt
  have CB : Hid (∀ w', Below W2.heap.size W2 w' → CellS w' w.heap.size { s with st := s.st + 1 }) := fun w' h => (B2.below h B2.lt).cells
  have F : Hid (∀ w', Below W2.heap.size W2 w' → Calls Tryz.prog 110 #[sgv { s with st := s.st + 1 }] w' fun e w'' => (∃ A c, e = .returned (.slice A (pst s).length c)) ∧ Below W2.heap.size W2 w'') := fun w' h => (steps_any w' { s with st := s.st + 1 }).mono fun _ _ ⟨A, c, a, _, b⟩ => ⟨⟨A, c, a⟩, h.trans (b.mono h.size)⟩
  have f8 : W0.frozen? ⟨w.heap.size, 8, none⟩ = false := one_free B0
  obtain ⟨c0, c1, c2, c3, c4, c5, c6, c7, c8, c9, ca⟩ := B0.cells
  have hwl : w.heap.size < W0.heap.size := B0.lt
  replace D := D _ rfl
  replace D' := D' _ rfl
  generalize sdone s = y at *
  generalize (pst s).length = n at *
  clear t gs Z0 be0 B0 h2
  obtain ⟨⟨bk, cu, de, u0, u1, u2, pr⟩, ph, st, rs, si⟩ := s
  unfold BoxS at B2
  unfold sgv sgc at *
  simp only at *
  replace hW0 := Lib.hid hW0
  replace hW2 := Lib.hid hW2
  replace B2 := Lib.hid B2
  replace T2 := Lib.hid T2
  replace D := Lib.hid D
  replace D' := Lib.hid D'
  go_enter Tryz.func128, Tryz.ntmps128
  go_upto_region 1 with fail
  rw [← hW0.out]
  go_upto_region 2 with fail
  rw [← hW2.out]
  clear c0 c1 c2 c3 c4 c5 c6 c7 c8 c9 ca f8 hW0 hW2 s0 hwl
  refine qs2 _ _ _ _ _ _ _ _ _ _ _ _ _ _ _ _ _ _ _ _ W2 w.heap.size n ⟨⟨bk, cu, de, u0, u1, u2, pr⟩, ph, st + 1, rs, si⟩ CB F _ (fun _ _ d _ _ h => by cases d <;> exact h) (fun _ _ _ _ _ w3 hb3 => ?_)
  have CB3 := CB.out _ hb3
  have B3 := (hb3.block _ (lt_some B2.out)).trans B2.out
  have Z3 : Hid (w3.heap[w.heap.size + 1]? = some (.cells #[.int .i64 0, .int .i64 0, .int .i64 0, .int .i64 0, .int .i64 0, .int .i64 0, .int .i64 0, .int .i64 0, .int .i64 0, .int .i64 0, .int .i64 0] 57 (0, 0))) := (hb3.block _ (lt_some Z2.out)).trans Z2.out
  have b3 : Hid (Below w.heap.size w w3) := b2.out.trans (hb3.mono b2.out.size)
  have T3 := T2.out.below hb3
  have hw3 : w.heap.size < w3.heap.size := lt_some B3
  have hz3 : w.heap.size + 1 < w3.heap.size := lt_some Z3.out
  clear CB F Z2 b2 B2 T2 hb3
  obtain ⟨c0, c1, c2, c3, c4, c5, c6, c7, c8, c9, ca⟩ := CB3
  simp only at c0 c1 c2 c3 c4 c5 c6 c7 c8 c9 ca
  by_cases hf : st + 1 = (n : Int)
  case neg =>
    have EE : Hid (y = ⟨⟨bk, cu, de, u0, u1, u2, pr⟩, ph, st + 1, rs, si⟩) := D'.out hf
    have g1 : (st + 1 == (n : Int)) = false := beq_eq_false_iff_ne.2 hf
    clear D D' hf T3 B3
    go_wp2_with (refine wpList_store_row rfl 57 (.tmp 2) (.tmp 20) rfl (w.heap.size + 1) #[.int .i64 bk, .int .i64 cu, .int .i64 de, .int .i64 u0, .int .i64 u1, .int .i64 u2, .int .i64 pr, .int .i64 ph, .int .i64 (st + 1), .int .i64 rs, .int .i64 si] rfl rfl 57 _ Z3.out sag_size rfl (by simp [Value.oneCell']) ?_)
    refine bodyPost_ret (results_cell_row stp_results _ _ (w.heap.size + 1) 57 _ (0, 0) _ rfl (setRow_heap _ _ _ _ _ _ Z3.out) Tryz.underlying57 rfl sag_size) rfl ?_
    exact ⟨by rw [EE.out], b3.out.trans (setRow_below _ (Nat.le_succ _))⟩
  have EE : Hid (y = ⟨⟨bk, cu, de, u0, u1, u2, pr⟩, behind ph, 0, rs, si⟩) := D.out hf
  have g1 : (st + 1 == (n : Int)) = true := by rw [hf]; simp
  have f7 : w3.frozen? ⟨w.heap.size, 7, none⟩ = false := one_free B3
  have f8 : w3.frozen? ⟨w.heap.size, 8, none⟩ = false := one_free B3
  clear D D' hf
  rcases hp with rfl | rfl | rfl
  · have gs := grown_set w3 w.heap.size 7 (.int .i64 2)
    have gt := grown_set (w3.setCell ⟨w.heap.size, 7, none⟩ (.int .i64 2)) w.heap.size 8 (.int .i64 0)
    have ZZ : Hid (((w3.setCell ⟨w.heap.size, 7, none⟩ (.int .i64 2)).setCell ⟨w.heap.size, 8, none⟩ (.int .i64 0)).heap[w.heap.size + 1]? = some (.cells #[.int .i64 0, .int .i64 0, .int .i64 0, .int .i64 0, .int .i64 0, .int .i64 0, .int .i64 0, .int .i64 0, .int .i64 0, .int .i64 0, .int .i64 0] 57 (0, 0))) := ((grown_trans gs gt).block _ hz3 (by simp)).trans Z3.out
    have bb : Hid (Below w.heap.size w ((w3.setCell ⟨w.heap.size, 7, none⟩ (.int .i64 2)).setCell ⟨w.heap.size, 8, none⟩ (.int .i64 0))) := b3.out.trans (below_of_grown (grown_trans gs gt) b3.out.size fun j hj => by injection hj with hj; omega)
    obtain ⟨d0, -, -, e0, -, -, f0, -, -, g0, -, -, i0, -, -⟩ := T3
    clear gs gt B3
    go_wp2_with (refine wpList_store_row rfl 57 (.tmp 2) (.tmp 20) rfl (w.heap.size + 1) #[.int .i64 bk, .int .i64 cu, .int .i64 de, .int .i64 u0, .int .i64 u1, .int .i64 u2, .int .i64 pr, .int .i64 2, .int .i64 0, .int .i64 rs, .int .i64 si] rfl rfl 57 _ ZZ.out sag_size rfl (by simp [Value.oneCell']) ?_)
    refine bodyPost_ret (results_cell_row stp_results _ _ (w.heap.size + 1) 57 _ (0, 0) _ rfl (setRow_heap _ _ _ _ _ _ ZZ.out) Tryz.underlying57 rfl sag_size) rfl ?_
    exact ⟨by rw [EE.out]; rfl, bb.out.trans (setRow_below _ (Nat.le_succ _))⟩
  · have gs := grown_set w3 w.heap.size 7 (.int .i64 4)
    have gt := grown_set (w3.setCell ⟨w.heap.size, 7, none⟩ (.int .i64 4)) w.heap.size 8 (.int .i64 0)
    have ZZ : Hid (((w3.setCell ⟨w.heap.size, 7, none⟩ (.int .i64 4)).setCell ⟨w.heap.size, 8, none⟩ (.int .i64 0)).heap[w.heap.size + 1]? = some (.cells #[.int .i64 0, .int .i64 0, .int .i64 0, .int .i64 0, .int .i64 0, .int .i64 0, .int .i64 0, .int .i64 0, .int .i64 0, .int .i64 0, .int .i64 0] 57 (0, 0))) := ((grown_trans gs gt).block _ hz3 (by simp)).trans Z3.out
    have bb : Hid (Below w.heap.size w ((w3.setCell ⟨w.heap.size, 7, none⟩ (.int .i64 4)).setCell ⟨w.heap.size, 8, none⟩ (.int .i64 0))) := b3.out.trans (below_of_grown (grown_trans gs gt) b3.out.size fun j hj => by injection hj with hj; omega)
    obtain ⟨d0, -, -, e0, -, -, f0, -, -, g0, -, -, i0, -, -⟩ := T3
    clear gs gt B3
    go_wp2_with (refine wpList_store_row rfl 57 (.tmp 2) (.tmp 20) rfl (w.heap.size + 1) #[.int .i64 bk, .int .i64 cu, .int .i64 de, .int .i64 u0, .int .i64 u1, .int .i64 u2, .int .i64 pr, .int .i64 4, .int .i64 0, .int .i64 rs, .int .i64 si] rfl rfl 57 _ ZZ.out sag_size rfl (by simp [Value.oneCell']) ?_)
    refine bodyPost_ret (results_cell_row stp_results _ _ (w.heap.size + 1) 57 _ (0, 0) _ rfl (setRow_heap _ _ _ _ _ _ ZZ.out) Tryz.underlying57 rfl sag_size) rfl ?_
    exact ⟨by rw [EE.out]; rfl, bb.out.trans (setRow_below _ (Nat.le_succ _))⟩
  · have gs := grown_set w3 w.heap.size 7 (.int .i64 5)
    have gt := grown_set (w3.setCell ⟨w.heap.size, 7, none⟩ (.int .i64 5)) w.heap.size 8 (.int .i64 0)
    have ZZ : Hid (((w3.setCell ⟨w.heap.size, 7, none⟩ (.int .i64 5)).setCell ⟨w.heap.size, 8, none⟩ (.int .i64 0)).heap[w.heap.size + 1]? = some (.cells #[.int .i64 0, .int .i64 0, .int .i64 0, .int .i64 0, .int .i64 0, .int .i64 0, .int .i64 0, .int .i64 0, .int .i64 0, .int .i64 0, .int .i64 0] 57 (0, 0))) := ((grown_trans gs gt).block _ hz3 (by simp)).trans Z3.out
    have bb : Hid (Below w.heap.size w ((w3.setCell ⟨w.heap.size, 7, none⟩ (.int .i64 5)).setCell ⟨w.heap.size, 8, none⟩ (.int .i64 0))) := b3.out.trans (below_of_grown (grown_trans gs gt) b3.out.size fun j hj => by injection hj with hj; omega)
    obtain ⟨d0, -, -, e0, -, -, f0, -, -, g0, -, -, i0, -, -⟩ := T3
    clear gs gt B3
    go_wp2_with (refine wpList_store_row rfl 57 (.tmp 2) (.tmp 20) rfl (w.heap.size + 1) #[.int .i64 bk, .int .i64 cu, .int .i64 de, .int .i64 u0, .int .i64 u1, .int .i64 u2, .int .i64 pr, .int .i64 5, .int .i64 0, .int .i64 rs, .int .i64 si] rfl rfl 57 _ ZZ.out sag_size rfl (by simp [Value.oneCell']) ?_)
    refine bodyPost_ret (results_cell_row stp_results _ _ (w.heap.size + 1) 57 _ (0, 0) _ rfl (setRow_heap _ _ _ _ _ _ ZZ.out) Tryz.underlying57 rfl sag_size) rfl ?_
    exact ⟨by rw [EE.out]; rfl, bb.out.trans (setRow_below _ (Nat.le_succ _))⟩
theorem qnext_results : Tryz.f99.results = #[.cell 2 181, .tmp 3] := by kernel_rfl
theorem pst_at {s : Sag} (h : smay s = true) (hv : sover s = false) : ∃ k : Nat, s.st = (k : Int) ∧ (pst s)[k]? = some (snext s).1 ∧ (snext s).2 = true := by
  obtain ⟨-, -, hc⟩ := smay_true h
  unfold sover at hv
  rw [h, Bool.true_and, Bool.or_eq_false_iff, beq_eq_false_iff_ne, beq_eq_false_iff_ne] at hv
  rcases hc with ⟨hp, h0, h1, -⟩ | ⟨hp, h0, -⟩ | ⟨hp, h0, h1, -⟩ | ⟨hp, -, -⟩ | ⟨hp, -, -⟩
  · refine ⟨s.st.toNat, by omega, ?_, by rw [snext_1 h hp]⟩
    rw [snext_1 h hp]; unfold pst; rw [if_pos hp]; exact at_F h0 h1
  · refine ⟨0, by omega, ?_, by rw [snext_2 h hp]⟩
    rw [snext_2 h hp]; unfold pst; rw [if_neg (by omega), if_pos hp]; rfl
  · refine ⟨s.st.toNat, by omega, ?_, by rw [snext_3 h hp]⟩
    rw [snext_3 h hp]; unfold pst; rw [if_neg (by omega), if_neg (by omega), if_pos hp]; exact at_B h0 h1
  · exact absurd hp hv.1
  · exact absurd hp hv.2
theorem snext_ov {s : Sag} (h : smay s = false ∨ sover s = true) : snext s = (z0, false) := by
  rcases h with h | h
  · exact snext_no h
  · unfold sover at h
    rw [Bool.and_eq_true, Bool.or_eq_true, beq_iff_eq, beq_iff_eq] at h
    exact snext_4 h.1 h.2
set_option maxHeartbeats 6400000 in
theorem qnext_any (w : World) (t : Tab w) (s : Sag) : Calls Tryz.prog 99 #[sgv s] w fun e w' => e = .returned (.tuple #[spv (snext s).1, .bool (snext s).2]) ∧ Below w.heap.size w w' := by
  obtain ⟨W0, hW0⟩ : ∃ W0, W0 = (w.alloc (.cells #[.int .i64 s.w.book, .int .i64 s.w.cust, .int .i64 s.w.dead, .int .i64 s.w.u0, .int .i64 s.w.u1, .int .i64 s.w.u2, .int .i64 s.w.price, .int .i64 s.ph, .int .i64 s.st, .int .i64 s.rs, .int .i64 s.si] 57)).alloc (.cells #[.int .i64 0, .int .i64 0, .int .i64 0, .int .i64 0, .int .i64 0, .int .i64 0] 181) := ⟨_, rfl⟩
  have B0 : BoxS W0 w.heap.size s := by rw [hW0]; exact heap_alloc2_old _ _ _
  have Z0 : W0.heap[w.heap.size + 1]? = some (.cells #[.int .i64 0, .int .i64 0, .int .i64 0, .int .i64 0, .int .i64 0, .int .i64 0] 181 (0, 0)) := by
    have := heap_alloc_new (w.alloc (.cells #[.int .i64 s.w.book, .int .i64 s.w.cust, .int .i64 s.w.dead, .int .i64 s.w.u0, .int .i64 s.w.u1, .int .i64 s.w.u2, .int .i64 s.w.price, .int .i64 s.ph, .int .i64 s.st, .int .i64 s.rs, .int .i64 s.si] 57)) (.cells #[.int .i64 0, .int .i64 0, .int .i64 0, .int .i64 0, .int .i64 0, .int .i64 0] 181)
    rw [show (w.alloc (.cells #[.int .i64 s.w.book, .int .i64 s.w.cust, .int .i64 s.w.dead, .int .i64 s.w.u0, .int .i64 s.w.u1, .int .i64 s.w.u2, .int .i64 s.w.price, .int .i64 s.ph, .int .i64 s.st, .int .i64 s.rs, .int .i64 s.si] 57)).heap.size = w.heap.size + 1 by simp] at this
    rw [hW0]
    exact this
  have be0 : Below w.heap.size w W0 := by rw [hW0]; exact ((Below.refl _ w).alloc (Nat.le_refl _) _).alloc (by simp) _
  have t0 := t.below be0
  have M := Lib.hid (smay_any W0 t0 s)
  have s0 : w.heap.size + 1 < W0.heap.size := lt_some Z0
  have V : Hid (∀ w', Below W0.heap.size W0 w' → Calls Tryz.prog 127 #[sgv s] w' fun e w'' => e = .returned (.bool (sover s)) ∧ Below w'.heap.size w' w'') := fun w' h => qover_any w' (t0.below h) s
  clear t t0
  unfold sgv at *
  unfold sgc at *
  replace hW0 := Lib.hid hW0
  go_enter Tryz.func99, Tryz.ntmps99
  go_wp2_with fail
  rw [← hW0.out]
  refine M.out.mono ?_
  rintro e w1 ⟨rfl, h1⟩
  have B1 := B0.below h1 B0.lt
  have Z1 := Lib.hid ((h1.block _ s0).trans Z0)
  have b1 : Hid (Below w.heap.size w w1) := be0.trans (h1.mono be0.size)
  have hwl : w.heap.size < w1.heap.size := B1.lt
  obtain ⟨c0, c1, c2, c3, c4, c5, c6, c7, c8, c9, ca⟩ := B1.cells
  cases hm : smay s with
  | false =>
    have EE := snext_ov (.inl hm)
    unfold z0 at EE
    replace EE := Lib.hid EE
    clear hm V M h1 B0 Z0 be0 hW0 s0 B1
    go_wp2_with (refine wpList_store_row rfl 181 (.tmp 2) (.tmp 11) rfl (w.heap.size + 1) #[.int .i64 0, .int .i64 0, .int .i64 0, .int .i64 0, .int .i64 0, .int .i64 0] rfl rfl 181 _ Z1.out Pl.ask_size rfl (one6 _ _ _ _ _ _) ?_)
    refine bodyPost_ret (res_row qnext_results _ _ (w.heap.size + 1) 181 #[.int .i64 0, .int .i64 0, .int .i64 0, .int .i64 0, .int .i64 0, .int .i64 0] (0, 0) _ rfl (setRow_heap _ _ _ _ _ _ Z1.out) Tryz.underlying181 rfl Pl.ask_size) rfl ?_
    exact ⟨by rw [EE.out]; rfl, b1.out.trans (setRow_below _ (Nat.le_succ _))⟩
  | true =>
    have K := V.out w1 h1
    clear M V B0 Z0 be0 hW0 s0 h1
    replace K := Lib.hid K
    go_wp2_with fail
    refine K.out.mono ?_
    rintro e w2 ⟨rfl, h2⟩
    have B2 := B1.below h2 B1.lt
    have Z2 := Lib.hid ((h2.block _ (lt_some Z1.out)).trans Z1.out)
    have b2 : Hid (Below w.heap.size w w2) := b1.out.trans (h2.mono b1.out.size)
    clear K c0 c1 c2 c3 c4 c5 c6 c7 c8 c9 ca Z1 b1 B1 h2 hwl
    have hwl : w.heap.size < w2.heap.size := B2.lt
    cases hv : sover s with
    | true =>
      have EE := snext_ov (.inr hv)
      unfold z0 at EE
      replace EE := Lib.hid EE
      clear hm hv B2
      go_wp2_with (refine wpList_store_row rfl 181 (.tmp 2) (.tmp 11) rfl (w.heap.size + 1) #[.int .i64 0, .int .i64 0, .int .i64 0, .int .i64 0, .int .i64 0, .int .i64 0] rfl rfl 181 _ Z2.out Pl.ask_size rfl (one6 _ _ _ _ _ _) ?_)
      refine bodyPost_ret (res_row qnext_results _ _ (w.heap.size + 1) 181 #[.int .i64 0, .int .i64 0, .int .i64 0, .int .i64 0, .int .i64 0, .int .i64 0] (0, 0) _ rfl (setRow_heap _ _ _ _ _ _ Z2.out) Tryz.underlying181 rfl Pl.ask_size) rfl ?_
      exact ⟨by rw [EE.out]; rfl, b2.out.trans (setRow_below _ (Nat.le_succ _))⟩
    | false =>
      obtain ⟨k, hk, hl, hn⟩ := pst_at hm hv
      have EE : snext s = ((snext s).1, true) := by rw [← hn]
      generalize (snext s).1 = a at *
      have CB : Hid (∀ w', Below (w.heap.size + 1) w2 w' → CellS w' w.heap.size s) := fun w' h => (B2.below h (Nat.lt_succ_self _)).cells
      have F : Hid (∀ w', Below (w.heap.size + 1) w2 w' → Calls Tryz.prog 110 #[.agg #[.int .i64 s.w.book, .int .i64 s.w.cust, .int .i64 s.w.dead, .int .i64 s.w.u0, .int .i64 s.w.u1, .int .i64 s.w.u2, .int .i64 s.w.price, .int .i64 s.ph, .int .i64 (k : Int), .int .i64 s.rs, .int .i64 s.si]] w' fun e w'' => ∃ A c, e = .returned (.slice A (pst s).length c) ∧ RowT 181 w'' (w.heap.size + 1) (.slice A (pst s).length c) (pst s).length (pst s) ∧ Below (w.heap.size + 1) w2 w'' ∧ Below w'.heap.size w' w'') := fun w' h => by
        have hz : w.heap.size + 1 ≤ w'.heap.size := by have := h.size; have := lt_some Z2.out; omega
        have := steps_any w' s
        unfold sgv sgc at this
        rw [hk] at this
        exact this.mono fun _ _ ⟨A, c, e1, e2, e3⟩ => ⟨A, c, e1, rt_mono e2 hz, h.trans (e3.mono hz), e3⟩
      have hi : (k : Int) < ((pst s).length : Int) := by have := (List.getElem?_eq_some_iff.1 hl).1; omega
      replace EE := Lib.hid EE
      clear hm hv hn B2
      go_upto_region 3 with fail
      refine qn3 _ _ _ _ _ _ _ _ _ _ _ _ _ _ _ _ w2 w.heap.size (w.heap.size + 1) _ k s a _ CB F Z2.out hk hl hi _ (fun _ _ d _ _ h => by cases d <;> exact h) (fun _ _ _ _ _ _ w3 hz hb => ?_)
      have E : Hid (Below w.heap.size w w3) := b2.out.trans (hb.mono (Nat.le_succ _))
      replace hz := Lib.hid hz
      clear hb F hl hk hi CB
      go_wp2_with fail
      refine bodyPost_ret (res_row qnext_results _ _ (w.heap.size + 1) 181 #[Value.int .i64 a.node, .int .i64 a.op.kind, .int .i64 a.op.book, .int .i64 a.op.units, .int .i64 a.op.cust, .int .i64 a.op.amount] (0, 0) _ rfl hz.out Tryz.underlying181 rfl Pl.ask_size) rfl ?_
      exact ⟨by rw [EE.out]; rfl, E.out⟩
end Sg
end Go.Proofs.YtpkdigegkemogaaGreatDoor
namespace Go.Proofs.YtpkdigegkemogaaGreatDoor
set_option maxRecDepth 100000
open Go.RowKit
open Go.Proofs.YtpkdigegkemogaaGreatDoor.Pk (one_at one_free one_set lt_some grown_set grown_trans grown_refl)
namespace Sg
open Wt (Wan may Opn mayOp may_any inR)
open Pl (Stp fwd bck cap z0 wanv spv regionAt one6 wpList_store_row setRow_below below_of_grown)

noncomputable def qa_8 : Code := (Tryz.f100.body.bind (regionAt 8)).getD .skip
set_option maxHeartbeats 12800000 in
theorem qa8 (z0 z1 z2 z5 z7 z8 z9 z10 z11 z12 z13 z14 z15 z16 z17 z18 z19 z20 z21 z22 z23 z24 z25 z26 z27 z28 z29 z30 z31 z32 z33 z34 z35 z36 : Value) (W : World) (q qa qz : Nat) (s : Sag) (a : Stp) (r : Int) (y : Sag) (b : Bool)
    (CB : Hid (∀ w', Below qz W w' → CellS w' q s))
    (CA : Hid (∀ w', Below qz W w' → w'.cell? ⟨qa, 0, none⟩ = some (.int .i64 a.node) ∧ w'.cell? ⟨qa, 1, none⟩ = some (.int .i64 a.op.kind) ∧ w'.cell? ⟨qa, 2, none⟩ = some (.int .i64 a.op.book) ∧ w'.cell? ⟨qa, 3, none⟩ = some (.int .i64 a.op.units) ∧ w'.cell? ⟨qa, 4, none⟩ = some (.int .i64 a.op.cust) ∧ w'.cell? ⟨qa, 5, none⟩ = some (.int .i64 a.op.amount)))
    (F1 : Hid (∀ w', Below qz W w' → Calls Tryz.prog 130 #[.agg #[.int .i64 a.node, .int .i64 a.op.kind, .int .i64 a.op.book, .int .i64 a.op.units, .int .i64 a.op.cust, .int .i64 a.op.amount]] w' fun e w'' => e = .returned (.int .i64 r) ∧ Below qz W w'' ∧ Below w'.heap.size w' w''))
    (F2 : Hid (∀ w', Below qz W w' → Calls Tryz.prog 129 #[.agg #[.int .i64 s.w.book, .int .i64 s.w.cust, .int .i64 s.w.dead, .int .i64 s.w.u0, .int .i64 s.w.u1, .int .i64 s.w.u2, .int .i64 s.w.price, .int .i64 s.ph, .int .i64 s.st, .int .i64 s.rs, .int .i64 s.si], .int .i64 r] w' fun e w'' => e = .returned (.tuple #[.agg #[.int .i64 y.w.book, .int .i64 y.w.cust, .int .i64 y.w.dead, .int .i64 y.w.u0, .int .i64 y.w.u1, .int .i64 y.w.u2, .int .i64 y.w.price, .int .i64 y.ph, .int .i64 y.st, .int .i64 y.rs, .int .i64 y.si], .bool b]) ∧ Below qz W w'' ∧ Below w'.heap.size w' w''))
    (Z : W.heap[qz]? = some (.cells #[.int .i64 0, .int .i64 0, .int .i64 0, .int .i64 0, .int .i64 0, .int .i64 0, .int .i64 0, .int .i64 0, .int .i64 0, .int .i64 0, .int .i64 0] 57 (0, 0)))
    (Q : Exit → Act → World → Prop)
    (hP : ∀ c a d v w, Q (.panic c) (Act.put a d v) w → Q (.panic c) a w)
    (hQ : ∀ (y30 y31 y32 y33 y34 y35 : Value)  (W3 : World), W3.heap[qz]? = some (.cells #[.int .i64 y.w.book, .int .i64 y.w.cust, .int .i64 y.w.dead, .int .i64 y.w.u0, .int .i64 y.w.u1, .int .i64 y.w.u2, .int .i64 y.w.price, .int .i64 y.ph, .int .i64 y.st, .int .i64 y.rs, .int .i64 y.si] 57 (0, 0)) → Below qz W W3 → Q .normal ⟨#[z0, z1, z2, .pointer (some ⟨q, 0, none⟩), .pointer (some ⟨qa, 0, none⟩), z5, .pointer (some ⟨qz, 0, none⟩), .bool b, z8, z9, z10, z11, z12, z13, z14, z15, z16, z17, z18, z19, z20, z21, z22, z23, z24, z25, z26, z27, z28, z29, y30, y31, y32, y33, y34, y35, z36], []⟩ W3) :
    Code.wp Tryz.prog qa_8 Q ⟨#[z0, z1, z2, .pointer (some ⟨q, 0, none⟩), .pointer (some ⟨qa, 0, none⟩), z5, .pointer (some ⟨qz, 0, none⟩), z7, z8, z9, z10, z11, z12, z13, z14, z15, z16, z17, z18, z19, z20, z21, z22, z23, z24, z25, z26, z27, z28, z29, z30, z31, z32, z33, z34, z35, z36], []⟩ W := by
  conv => arg 2; whnf
  have b0 : Below qz W W.drew := ⟨rfl, rfl, rfl, Nat.le_refl _, fun _ _ => rfl⟩
  refine wp_region_held_drew (S := fun w => Below qz W w) (by kernel_rfl) b0 (fun hHeld => ?_)
  replace hQ := Lib.hid hQ
  clear b0
  obtain ⟨v0, hv⟩ : ∃ v, v = W.drew := ⟨_, rfl⟩
  have Z0 : v0.heap[qz]? = some (.cells #[.int .i64 0, .int .i64 0, .int .i64 0, .int .i64 0, .int .i64 0, .int .i64 0, .int .i64 0, .int .i64 0, .int .i64 0, .int .i64 0, .int .i64 0] 57 (0, 0)) := by rw [hv]; exact Z
  rw [← hv] at hHeld ⊢
  clear hv
  refine' tkY 0 hP ?c hHeld ?_
  case c => intro w hSw; obtain ⟨c0, c1, c2, c3, c4, c5, c6, c7, c8, c9, ca⟩ := CB.out _ hSw; go_simp; try with_reducible rfl
  simp only [Act.put, sQa, sQb, sQc]
  refine' tkY 1 hP ?c hHeld ?_
  case c => intro w hSw; obtain ⟨a0, a1, a2, a3, a4, a5⟩ := CA.out _ hSw; go_simp; try with_reducible rfl
  simp only [Act.put, sQa, sQb, sQc]
  refine wpAnyH_ready (rs := [2]) (by kernel_rfl) (by simp) ?_
  refine' tkC 2 (fun K hK => ?st3) ?mo3
  case st3 =>
    go_simp
    refine (F1.out _ hHeld).mono ?_
    rintro e v1 ⟨rfl, h6, h7⟩
    replace Z0 := (h7.block _ (lt_some Z0)).trans Z0
    clear h7 hHeld
    go_simp
    refine hK.out _ _ h6 (fun hHeld => ?_)
    clear hK K h6
    try simp only [Act.put, sQa, sQb, sQc]
    refine wpAnyH_ready (rs := [3]) (by kernel_rfl) (by simp) ?_
    refine' tkC 3 (fun K hK => ?st4) ?mo4
    case st4 =>
      go_simp
      refine (F2.out _ hHeld).mono ?_
      rintro e v2 ⟨rfl, h6, h7⟩
      replace Z0 := (h7.block _ (lt_some Z0)).trans Z0
      clear h7 hHeld
      go_simp
      refine hK.out _ _ h6 (fun hHeld => ?_)
      clear hK K h6
      try simp only [Act.put, sQa, sQb, sQc]
      refine' tkY 4 hP ?c hHeld ?_
      case c => intro w _; go_simp; try with_reducible rfl
      simp only [Act.put, sQa, sQb, sQc]
      refine' tkY 5 hP ?c hHeld ?_
      case c => intro w _; go_simp; try with_reducible rfl
      simp only [Act.put, sQa, sQb, sQc]
      refine wpAnyH_ready (rs := [6]) (by kernel_rfl) (by simp) ?_
      refine' tkC 6 (fun K hK => ?st7) ?mo7
      case st7 =>
        refine step_store_row rfl 57 (.tmp 6) (.tmp 34) rfl qz #[.int .i64 y.w.book, .int .i64 y.w.cust, .int .i64 y.w.dead, .int .i64 y.w.u0, .int .i64 y.w.u1, .int .i64 y.w.u2, .int .i64 y.w.price, .int .i64 y.ph, .int .i64 y.st, .int .i64 y.rs, .int .i64 y.si] rfl rfl 57 _ Z0 sag_size rfl (by simp [Value.oneCell']) ?_
        refine hK.out _ _ (hHeld.trans (setRow_below _ (Nat.le_refl _))) (fun hHeld2 => ?_)
        clear hK K
        try simp only [Act.put]
        replace Z0 : (v2.setRow qz #[.int .i64 y.w.book, .int .i64 y.w.cust, .int .i64 y.w.dead, .int .i64 y.w.u0, .int .i64 y.w.u1, .int .i64 y.w.u2, .int .i64 y.w.price, .int .i64 y.ph, .int .i64 y.st, .int .i64 y.rs, .int .i64 y.si]).heap[qz]? = some (.cells #[.int .i64 y.w.book, .int .i64 y.w.cust, .int .i64 y.w.dead, .int .i64 y.w.u0, .int .i64 y.w.u1, .int .i64 y.w.u2, .int .i64 y.w.price, .int .i64 y.ph, .int .i64 y.st, .int .i64 y.rs, .int .i64 y.si] 57 (0, 0)) := setRow_heap _ _ _ _ _ _ Z0
        obtain ⟨v3, hv⟩ : ∃ v, v = v2.setRow qz #[.int .i64 y.w.book, .int .i64 y.w.cust, .int .i64 y.w.dead, .int .i64 y.w.u0, .int .i64 y.w.u1, .int .i64 y.w.u2, .int .i64 y.w.price, .int .i64 y.ph, .int .i64 y.st, .int .i64 y.rs, .int .i64 y.si] := ⟨_, rfl⟩
        rw [← hv] at Z0 hHeld2 ⊢
        clear hv hHeld
        have hHeld := hHeld2
        clear hHeld2
        refine' tkY 7 hP ?c hHeld ?_
        case c => intro w _; go_simp; try with_reducible rfl
        simp only [Act.put, sQa, sQb, sQc]
        refine wpAnyH_done (by kernel_rfl) ?_ _
        exact hQ.out _ _ _ _ _ _ _ Z0 hHeld
      case mo7 => exact AllReadyH.nil
    case mo4 => exact AllReadyH.nil
  case mo3 => exact AllReadyH.nil
theorem qans_results : Tryz.f100.results = #[.cell 6 57, .tmp 7] := by kernel_rfl
set_option maxHeartbeats 6400000 in
theorem qans_any (w : World) (t : Tab w) (s : Sag) (a : Stp) (n : Int) : Calls Tryz.prog 100 #[sgv s, spv a, .int .i64 n] w fun e w' => e = .returned (.tuple #[sgv (sans s a n).1, .bool (sans s a n).2]) ∧ Below w.heap.size w w' := by
  obtain ⟨W0, hW0⟩ : ∃ W0, W0 = ((w.alloc (.cells #[.int .i64 s.w.book, .int .i64 s.w.cust, .int .i64 s.w.dead, .int .i64 s.w.u0, .int .i64 s.w.u1, .int .i64 s.w.u2, .int .i64 s.w.price, .int .i64 s.ph, .int .i64 s.st, .int .i64 s.rs, .int .i64 s.si] 57)).alloc (.cells #[.int .i64 a.node, .int .i64 a.op.kind, .int .i64 a.op.book, .int .i64 a.op.units, .int .i64 a.op.cust, .int .i64 a.op.amount] 181)).alloc (.cells #[.int .i64 0, .int .i64 0, .int .i64 0, .int .i64 0, .int .i64 0, .int .i64 0, .int .i64 0, .int .i64 0, .int .i64 0, .int .i64 0, .int .i64 0] 57) := ⟨_, rfl⟩
  obtain ⟨Wa, hWa⟩ : ∃ Wa, Wa = (w.alloc (.cells #[.int .i64 s.w.book, .int .i64 s.w.cust, .int .i64 s.w.dead, .int .i64 s.w.u0, .int .i64 s.w.u1, .int .i64 s.w.u2, .int .i64 s.w.price, .int .i64 s.ph, .int .i64 s.st, .int .i64 s.rs, .int .i64 s.si] 57)).alloc (.cells #[.int .i64 a.node, .int .i64 a.op.kind, .int .i64 a.op.book, .int .i64 a.op.units, .int .i64 a.op.cust, .int .i64 a.op.amount] 181) := ⟨_, rfl⟩
  have sa : Wa.heap.size = w.heap.size + 2 := by rw [hWa]; simp
  have Ba : BoxS Wa w.heap.size s := by rw [hWa]; exact heap_alloc2_old _ _ _
  have Aa : Wa.heap[w.heap.size + 1]? = some (.cells #[.int .i64 a.node, .int .i64 a.op.kind, .int .i64 a.op.book, .int .i64 a.op.units, .int .i64 a.op.cust, .int .i64 a.op.amount] 181 (0, 0)) := by
    have := heap_alloc_new (w.alloc (.cells #[.int .i64 s.w.book, .int .i64 s.w.cust, .int .i64 s.w.dead, .int .i64 s.w.u0, .int .i64 s.w.u1, .int .i64 s.w.u2, .int .i64 s.w.price, .int .i64 s.ph, .int .i64 s.st, .int .i64 s.rs, .int .i64 s.si] 57)) (.cells #[.int .i64 a.node, .int .i64 a.op.kind, .int .i64 a.op.book, .int .i64 a.op.units, .int .i64 a.op.cust, .int .i64 a.op.amount] 181)
    rw [show (w.alloc (.cells #[.int .i64 s.w.book, .int .i64 s.w.cust, .int .i64 s.w.dead, .int .i64 s.w.u0, .int .i64 s.w.u1, .int .i64 s.w.u2, .int .i64 s.w.price, .int .i64 s.ph, .int .i64 s.st, .int .i64 s.rs, .int .i64 s.si] 57)).heap.size = w.heap.size + 1 by simp] at this
    rw [hWa]
    exact this
  have ba : Below w.heap.size w Wa := by rw [hWa]; exact ((Below.refl _ w).alloc (Nat.le_refl _) _).alloc (by simp) _
  have e0 : W0 = Wa.alloc (.cells #[.int .i64 0, .int .i64 0, .int .i64 0, .int .i64 0, .int .i64 0, .int .i64 0, .int .i64 0, .int .i64 0, .int .i64 0, .int .i64 0, .int .i64 0] 57) := by rw [hW0, hWa]
  have bz : Below Wa.heap.size Wa W0 := by rw [e0]; exact (Below.refl _ Wa).alloc (Nat.le_refl _) _
  have B0 : BoxS W0 w.heap.size s := Ba.below bz Ba.lt
  have A0 : W0.heap[w.heap.size + 1]? = _ := (bz.block _ (lt_some Aa)).trans Aa
  have Z0 : W0.heap[w.heap.size + 2]? = some (.cells #[.int .i64 0, .int .i64 0, .int .i64 0, .int .i64 0, .int .i64 0, .int .i64 0, .int .i64 0, .int .i64 0, .int .i64 0, .int .i64 0, .int .i64 0] 57 (0, 0)) := by rw [← sa, e0]; exact heap_alloc_new _ _
  have be0 : Below w.heap.size w W0 := ba.trans (bz.mono ba.size)
  have t0 := t.below be0
  have M := qnext_any W0 t0 s
  have LN : ¬ ((snext s).2 = true ∧ (snext s).1 = a ∧ (n = 1 ∨ n = 2)) → sans s a n = (s, false) := fun h => by unfold sans; rw [if_neg h]
  have OK : (snext s).2 = true → smay s = true ∧ (s.ph = 1 ∨ s.ph = 2 ∨ s.ph = 3) ∧ 0 ≤ s.st ∧ s.st ≤ 10 ∧ (s.ph = 2 → s.st = 0) := fun h => by
    cases hm : smay s with
    | false => rw [snext_no hm] at h; cases h
    | true =>
      obtain ⟨-, -, hc⟩ := smay_true hm
      have l1 := Pl.fwd_len s.w
      have l2 := Pl.bck_len s.w
      unfold nF nB at hc
      rcases hc with ⟨hp, h0, h1, -⟩ | ⟨hp, h0, -⟩ | ⟨hp, h0, h1, -⟩ | ⟨hp, -, -⟩ | ⟨hp, -, -⟩
      · exact ⟨rfl, .inl hp, h0, by omega, by omega⟩
      · exact ⟨rfl, .inr (.inl hp), by omega, by omega, fun _ => h0⟩
      · exact ⟨rfl, .inr (.inr hp), h0, by omega, by omega⟩
      · rw [snext_4 hm (.inl hp)] at h; cases h
      · rw [snext_4 hm (.inr hp)] at h; cases h
  have L1 : (snext s).2 = true → (snext s).1 = a → n = 1 → sans s a n = (sdone s, true) := fun h1 h2 h3 => by unfold sans; rw [if_pos ⟨h1, h2, .inl h3⟩, if_neg (by omega)]
  have L2 : (snext s).2 = true → (snext s).1 = a → n = 2 → sans s a n = stn s (sref a) := fun h1 h2 h3 => by
    unfold sans stn sref
    rw [if_pos ⟨h1, h2, .inr h3⟩, if_pos h3]
    by_cases hp : s.ph = 1
    · have hm : smay s = true ∧ s.ph = 1 := ⟨(OK h1).1, hp⟩
      by_cases hk : a.op.kind = 4
      · simp only [if_pos hp, if_pos hk, if_pos hm]
      · simp only [if_pos hp, if_neg hk, if_pos hm]
    · rw [if_neg hp, if_neg (fun h => hp h.2)]
  have RS : (snext s).2 = true → Hid (∀ w', Below W0.heap.size W0 w' → Calls Tryz.prog 128 #[sgv s] w' fun e w'' => e = .returned (sgv (sdone s)) ∧ Below w'.heap.size w' w'') := fun h w' hb => stp_any w' (t0.below hb) s (OK h).2.1 (OK h).2.2.1 (OK h).2.2.2.1 (OK h).2.2.2.2
  have RT : Hid (∀ w', Below (w.heap.size + 2) W0 w' → Calls Tryz.prog 129 #[sgv s, .int .i64 (sref a)] w' fun e w'' => e = .returned (.tuple #[sgv (stn s (sref a)).1, .bool (stn s (sref a)).2]) ∧ Below w'.heap.size w' w'') := fun w' hb => stn_any w' (t0.sub hb (by omega)) s (sref a)
  have RR : Hid (∀ w', Calls Tryz.prog 130 #[spv a] w' fun e w'' => e = .returned (.int .i64 (sref a)) ∧ Below w'.heap.size w' w'') := fun w' => sref_any w' a
  clear OK t t0
  generalize stn s (sref a) = yt at *
  generalize sref a = rf at *
  generalize sans s a n = y at *
  generalize sdone s = yd at *
  generalize (snext s).1 = nx at *
  generalize (snext s).2 = ok at *
  have CB0 : Hid (∀ w', Below (w.heap.size + 2) W0 w' → BoxS w' w.heap.size s ∧ w'.heap[w.heap.size + 1]? = some (.cells #[.int .i64 a.node, .int .i64 a.op.kind, .int .i64 a.op.book, .int .i64 a.op.units, .int .i64 a.op.cust, .int .i64 a.op.amount] 181 (0, 0))) := fun w' h => ⟨(h.block _ (by omega)).trans B0, (h.block _ (by omega)).trans A0⟩
  have z0 : w.heap.size + 2 < W0.heap.size := lt_some Z0
  clear sa Ba Aa ba e0 bz hWa B0 A0
  unfold sgv sgc at *
  unfold spv at *
  replace hW0 := Lib.hid hW0
  replace M := Lib.hid M
  replace LN := Lib.hid LN
  replace L1 := Lib.hid L1
  replace L2 := Lib.hid L2
  replace RS := Lib.hid RS
  go_enter Tryz.func100, Tryz.ntmps100
  go_wp2_with fail
  rw [← hW0.out]
  refine M.out.mono ?_
  rintro e w1 ⟨rfl, h1⟩
  go_upto_region 2 with fail
  obtain ⟨W1, hW1⟩ : ∃ W1, W1 = w1.alloc (.cells #[.int .i64 nx.node, .int .i64 nx.op.kind, .int .i64 nx.op.book, .int .i64 nx.op.units, .int .i64 nx.op.cust, .int .i64 nx.op.amount] 181) := ⟨_, rfl⟩
  rw [← hW1]
  have bW1 : Below w1.heap.size w1 W1 := by rw [hW1]; exact (Below.refl _ _).alloc (Nat.le_refl _) _
  have h2 : Below W0.heap.size W0 W1 := h1.trans (bW1.mono h1.size)
  have N1 : W1.heap[w1.heap.size]? = some (.cells #[.int .i64 nx.node, .int .i64 nx.op.kind, .int .i64 nx.op.book, .int .i64 nx.op.units, .int .i64 nx.op.cust, .int .i64 nx.op.amount] 181 (0, 0)) := by rw [hW1]; exact heap_alloc_new _ _
  have b1 : Hid (Below w.heap.size w W1) := be0.trans (h2.mono be0.size)
  obtain ⟨B1, A1⟩ := CB0.out _ (h2.mono (Nat.le_of_lt z0))
  have Z1 := Lib.hid ((h2.block _ z0).trans Z0)
  have n0 : W1.cell? ⟨w1.heap.size, 0, none⟩ = _ := one_at N1
  have n1 : W1.cell? ⟨w1.heap.size, 1, none⟩ = _ := one_at N1
  have n2 : W1.cell? ⟨w1.heap.size, 2, none⟩ = _ := one_at N1
  have n3 : W1.cell? ⟨w1.heap.size, 3, none⟩ = _ := one_at N1
  have n4 : W1.cell? ⟨w1.heap.size, 4, none⟩ = _ := one_at N1
  have n5 : W1.cell? ⟨w1.heap.size, 5, none⟩ = _ := one_at N1
  have a0 : W1.cell? ⟨w.heap.size + 1, 0, none⟩ = _ := one_at A1
  have a1 : W1.cell? ⟨w.heap.size + 1, 1, none⟩ = _ := one_at A1
  have a2 : W1.cell? ⟨w.heap.size + 1, 2, none⟩ = _ := one_at A1
  have a3 : W1.cell? ⟨w.heap.size + 1, 3, none⟩ = _ := one_at A1
  have a4 : W1.cell? ⟨w.heap.size + 1, 4, none⟩ = _ := one_at A1
  have a5 : W1.cell? ⟨w.heap.size + 1, 5, none⟩ = _ := one_at A1
  obtain ⟨c0, c1, c2, c3, c4, c5, c6, c7, c8, c9, ca⟩ := BoxS.cells B1
  have hw1 : w.heap.size < W1.heap.size := lt_some B1
  have hw2 : w.heap.size + 1 < W1.heap.size := lt_some A1
  have hw3 : w.heap.size + 2 < W1.heap.size := lt_some Z1.out
  have hw4 : w1.heap.size < W1.heap.size := lt_some N1
  have H2 : Hid (Below W0.heap.size W0 W1) := h2
  have z0h : Hid (w.heap.size + 2 < W0.heap.size) := z0
  clear hW1 bW1 h2 N1 A1 h1 be0 hW0 M Z0 z0 B1
  cases ok with
  | false =>
    have EE := Lib.hid (LN.out (by simp))
    clear LN L1 L2 RS RT RR CB0
    go_wp2_with (refine wpList_store_row rfl 57 (.tmp 6) (.tmp 22) rfl (w.heap.size + 2) #[.int .i64 s.w.book, .int .i64 s.w.cust, .int .i64 s.w.dead, .int .i64 s.w.u0, .int .i64 s.w.u1, .int .i64 s.w.u2, .int .i64 s.w.price, .int .i64 s.ph, .int .i64 s.st, .int .i64 s.rs, .int .i64 s.si] rfl rfl 57 _ Z1.out sag_size rfl (by simp [Value.oneCell']) ?_)
    refine bodyPost_ret (res_row qans_results _ _ (w.heap.size + 2) 57 _ (0, 0) _ rfl (setRow_heap _ _ _ _ _ _ Z1.out) Tryz.underlying57 rfl sag_size) rfl ?_
    exact ⟨by rw [EE.out]; rfl, b1.out.trans (setRow_below _ (Nat.le_add_right _ 2))⟩
  | true =>
    have EQ := fun w => eq_pask w a nx
    unfold spv at EQ
    by_cases hna : nx = a
    case neg =>
      have EE := Lib.hid (LN.out (by simp [hna]))
      rw [decide_eq_false (fun h => hna h.symm)] at EQ
      clear LN L1 L2 RS RT RR CB0 hna
      go_wp2_with (refine wpList_store_row rfl 57 (.tmp 6) (.tmp 22) rfl (w.heap.size + 2) #[.int .i64 s.w.book, .int .i64 s.w.cust, .int .i64 s.w.dead, .int .i64 s.w.u0, .int .i64 s.w.u1, .int .i64 s.w.u2, .int .i64 s.w.price, .int .i64 s.ph, .int .i64 s.st, .int .i64 s.rs, .int .i64 s.si] rfl rfl 57 _ Z1.out sag_size rfl (by simp [Value.oneCell']) ?_)
      refine bodyPost_ret (res_row qans_results _ _ (w.heap.size + 2) 57 _ (0, 0) _ rfl (setRow_heap _ _ _ _ _ _ Z1.out) Tryz.underlying57 rfl sag_size) rfl ?_
      exact ⟨by rw [EE.out]; rfl, b1.out.trans (setRow_below _ (Nat.le_add_right _ 2))⟩
    subst hna
    rw [decide_eq_true rfl] at EQ
    by_cases hn1 : n = 1
    case pos =>
      subst hn1
      have EE := Lib.hid (L1.out rfl rfl rfl)
      have K := Lib.hid ((RS.out rfl).out W1 H2.out)
      clear LN L1 L2 RS RT RR CB0
      go_wp2_with fail
      refine K.out.mono ?_
      rintro e w3 ⟨rfl, h3⟩
      have Z3 := Lib.hid ((h3.block _ hw3).trans Z1.out)
      have b3 : Hid (Below w.heap.size w w3) := b1.out.trans (h3.mono b1.out.size)
      clear K h3 c0 c1 c2 c3 c4 c5 c6 c7 c8 c9 ca a0 a1 a2 a3 a4 a5 n0 n1 n2 n3 n4 n5 EQ
      go_wp2_with (refine wpList_store_row rfl 57 (.tmp 6) (.tmp 27) rfl (w.heap.size + 2) #[.int .i64 yd.w.book, .int .i64 yd.w.cust, .int .i64 yd.w.dead, .int .i64 yd.w.u0, .int .i64 yd.w.u1, .int .i64 yd.w.u2, .int .i64 yd.w.price, .int .i64 yd.ph, .int .i64 yd.st, .int .i64 yd.rs, .int .i64 yd.si] rfl rfl 57 _ Z3.out sag_size rfl (by simp [Value.oneCell']) ?_)
      refine bodyPost_ret (res_row qans_results _ _ (w.heap.size + 2) 57 _ (0, 0) _ rfl (setRow_heap _ _ _ _ _ _ Z3.out) Tryz.underlying57 rfl sag_size) rfl ?_
      exact ⟨by rw [EE.out]; rfl, b3.out.trans (setRow_below _ (Nat.le_add_right _ 2))⟩
    have q1 : (n == 1) = false := beq_eq_false_iff_ne.2 hn1
    by_cases hn2 : n = 2
    case neg =>
      have q2 : (n == 2) = false := beq_eq_false_iff_ne.2 hn2
      have EE := Lib.hid (LN.out (by intro h; rcases h.2.2 with h | h; exact hn1 h; exact hn2 h))
      clear LN L1 L2 RS RT RR CB0 hn1 hn2
      go_wp2_with (refine wpList_store_row rfl 57 (.tmp 6) (.tmp 36) rfl (w.heap.size + 2) #[.int .i64 s.w.book, .int .i64 s.w.cust, .int .i64 s.w.dead, .int .i64 s.w.u0, .int .i64 s.w.u1, .int .i64 s.w.u2, .int .i64 s.w.price, .int .i64 s.ph, .int .i64 s.st, .int .i64 s.rs, .int .i64 s.si] rfl rfl 57 _ Z1.out sag_size rfl (by simp [Value.oneCell']) ?_)
      refine bodyPost_ret (res_row qans_results _ _ (w.heap.size + 2) 57 _ (0, 0) _ rfl (setRow_heap _ _ _ _ _ _ Z1.out) Tryz.underlying57 rfl sag_size) rfl ?_
      exact ⟨by rw [EE.out]; rfl, b1.out.trans (setRow_below _ (Nat.le_add_right _ 2))⟩
    subst hn2
    have EE := Lib.hid (L2.out rfl rfl rfl)
    have HH : Below (w.heap.size + 2) W0 W1 := H2.out.mono (Nat.le_of_lt z0h.out)
    have CB : Hid (∀ w', Below (w.heap.size + 2) W1 w' → CellS w' w.heap.size s) := fun w' h => (CB0.out _ (HH.trans h)).1.cells
    have CA : Hid (∀ w', Below (w.heap.size + 2) W1 w' → w'.cell? ⟨w.heap.size + 1, 0, none⟩ = some (.int .i64 nx.node) ∧ w'.cell? ⟨w.heap.size + 1, 1, none⟩ = some (.int .i64 nx.op.kind) ∧ w'.cell? ⟨w.heap.size + 1, 2, none⟩ = some (.int .i64 nx.op.book) ∧ w'.cell? ⟨w.heap.size + 1, 3, none⟩ = some (.int .i64 nx.op.units) ∧ w'.cell? ⟨w.heap.size + 1, 4, none⟩ = some (.int .i64 nx.op.cust) ∧ w'.cell? ⟨w.heap.size + 1, 5, none⟩ = some (.int .i64 nx.op.amount)) := fun w' h => by
      have := (CB0.out _ (HH.trans h)).2
      exact ⟨one_at this, one_at this, one_at this, one_at this, one_at this, one_at this⟩
    have F1 : Hid (∀ w', Below (w.heap.size + 2) W1 w' → Calls Tryz.prog 130 #[.agg #[.int .i64 nx.node, .int .i64 nx.op.kind, .int .i64 nx.op.book, .int .i64 nx.op.units, .int .i64 nx.op.cust, .int .i64 nx.op.amount]] w' fun e w'' => e = .returned (.int .i64 rf) ∧ Below (w.heap.size + 2) W1 w'' ∧ Below w'.heap.size w' w'') := fun w' h => (RR.out w').mono fun _ _ ⟨e1, e2⟩ => ⟨e1, h.trans (e2.mono (by have := h.size; omega)), e2⟩
    have F2 : Hid (∀ w', Below (w.heap.size + 2) W1 w' → Calls Tryz.prog 129 #[.agg #[.int .i64 s.w.book, .int .i64 s.w.cust, .int .i64 s.w.dead, .int .i64 s.w.u0, .int .i64 s.w.u1, .int .i64 s.w.u2, .int .i64 s.w.price, .int .i64 s.ph, .int .i64 s.st, .int .i64 s.rs, .int .i64 s.si], .int .i64 rf] w' fun e w'' => e = .returned (.tuple #[.agg #[.int .i64 yt.1.w.book, .int .i64 yt.1.w.cust, .int .i64 yt.1.w.dead, .int .i64 yt.1.w.u0, .int .i64 yt.1.w.u1, .int .i64 yt.1.w.u2, .int .i64 yt.1.w.price, .int .i64 yt.1.ph, .int .i64 yt.1.st, .int .i64 yt.1.rs, .int .i64 yt.1.si], .bool yt.2]) ∧ Below (w.heap.size + 2) W1 w'' ∧ Below w'.heap.size w' w'') := fun w' h => (RT.out w' (HH.trans h)).mono fun _ _ ⟨e1, e2⟩ => ⟨e1, h.trans (e2.mono (by have := h.size; omega)), e2⟩
    clear LN L1 L2 RS RT RR CB0 hn1 HH H2 z0h
    go_upto_region 8 with fail
    refine qa8 _ _ _ _ _ _ _ _ _ _ _ _ _ _ _ _ _ _ _ _ _ _ _ _ _ _ _ _ _ _ _ _ _ _ W1 w.heap.size (w.heap.size + 1) (w.heap.size + 2) s nx rf yt.1 yt.2 CB CA F1 F2 Z1.out _ (fun _ _ d _ _ h => by cases d <;> exact h) (fun _ _ _ _ _ _ w3 hz hb => ?_)
    have E : Hid (Below w.heap.size w w3) := b1.out.trans (hb.mono (Nat.le_add_right _ 2))
    replace hz := Lib.hid hz
    clear hb F1 F2 CB CA c0 c1 c2 c3 c4 c5 c6 c7 c8 c9 ca a0 a1 a2 a3 a4 a5 n0 n1 n2 n3 n4 n5 EQ Z1 b1 hw1 hw2 hw3 hw4 q1
    go_wp2_with fail
    refine bodyPost_ret (res_row qans_results _ _ (w.heap.size + 2) 57 #[.int .i64 yt.1.w.book, .int .i64 yt.1.w.cust, .int .i64 yt.1.w.dead, .int .i64 yt.1.w.u0, .int .i64 yt.1.w.u1, .int .i64 yt.1.w.u2, .int .i64 yt.1.w.price, .int .i64 yt.1.ph, .int .i64 yt.1.st, .int .i64 yt.1.rs, .int .i64 yt.1.si] (0, 0) _ rfl hz.out Tryz.underlying57 rfl sag_size) rfl ?_
    exact ⟨by rw [EE.out]; rfl, E.out⟩
end Sg
end Go.Proofs.YtpkdigegkemogaaGreatDoor
namespace Go.Proofs.YtpkdigegkemogaaGreatDoor
set_option maxRecDepth 100000
open Go.RowKit
open Go.Proofs.YtpkdigegkemogaaGreatDoor.Pk (one_at one_free one_set lt_some grown_set grown_trans grown_refl)
namespace Sg
open Wt (Wan may Opn mayOp may_any inR)
open Pl (Stp fwd bck cap z0 wanv spv BoxW wpList_store_row setRow_below below_of_grown)

theorem qlate_results : Tryz.f102.results = #[.cell 4 57, .tmp 5] := by kernel_rfl
set_option maxHeartbeats 6400000 in
theorem qlate_any (w : World) (t : Tab w) (s : Sag) (now : Int) : Calls Tryz.prog 102 #[sgv s, .int .i64 now] w fun e w' => e = .returned (.tuple #[sgv (slate s now).1, .bool (slate s now).2]) ∧ Below w.heap.size w w' := by
  have IN : smay s = true → 0 ≤ s.si ∧ s.si ≤ 1099511627776 ∧ 0 ≤ s.w.dead ∧ s.w.dead ≤ 1099511627776 := fun h => by
    obtain ⟨h1, h2, -⟩ := smay_true h
    have h3 := h1
    simp only [may, Bool.and_eq_true] at h3
    have h4 := of_decide_eq_true h3.1.1.2
    exact ⟨h2.1, h2.2, h4.1, h4.2⟩
  obtain ⟨sm, em⟩ : ∃ sm, sm = wrap64 (s.si + s.w.dead) := ⟨_, rfl⟩
  have SM : smay s = true → sm = s.si + s.w.dead := fun h => by have := IN h; rw [em]; unfold wrap64; omega
  have LN : (s.w.dead ≤ 0 ∨ now < sm ∨ inR now 0 1099511627776 = false) → slate s now = (s, false) := fun h => by
    unfold slate
    rw [if_neg]
    rintro ⟨h1, h2, h3, h4, h5⟩
    have h6 := IN h1
    have h7 := SM h1
    rcases h with h | h | h
    · omega
    · omega
    · rw [show inR now 0 1099511627776 = true by unfold inR; rw [decide_eq_true_iff]; omega] at h
      cases h
  have LY : ¬ s.w.dead ≤ 0 → ¬ now < sm → inR now 0 1099511627776 = true → stn s 3 = slate s now := fun h1 h2 h3 => by
    unfold stn slate
    have h4 := of_decide_eq_true h3
    by_cases h : smay s = true ∧ s.ph = 1
    · have := SM h.1
      rw [if_pos h, if_pos ⟨h.1, h.2, by omega, h4.2, by omega⟩]
    · rw [if_neg h, if_neg (fun g => h ⟨g.1, g.2.1⟩)]
  obtain ⟨W0, hW0⟩ : ∃ W0, W0 = (w.alloc (.cells #[.int .i64 s.w.book, .int .i64 s.w.cust, .int .i64 s.w.dead, .int .i64 s.w.u0, .int .i64 s.w.u1, .int .i64 s.w.u2, .int .i64 s.w.price, .int .i64 s.ph, .int .i64 s.st, .int .i64 s.rs, .int .i64 s.si] 57)).alloc (.cells #[.int .i64 0, .int .i64 0, .int .i64 0, .int .i64 0, .int .i64 0, .int .i64 0, .int .i64 0, .int .i64 0, .int .i64 0, .int .i64 0, .int .i64 0] 57) := ⟨_, rfl⟩
  have B0 : BoxS W0 w.heap.size s := by rw [hW0]; exact heap_alloc2_old _ _ _
  have Z0 : W0.heap[w.heap.size + 1]? = some (.cells #[.int .i64 0, .int .i64 0, .int .i64 0, .int .i64 0, .int .i64 0, .int .i64 0, .int .i64 0, .int .i64 0, .int .i64 0, .int .i64 0, .int .i64 0] 57 (0, 0)) := by
    have := heap_alloc_new (w.alloc (.cells #[.int .i64 s.w.book, .int .i64 s.w.cust, .int .i64 s.w.dead, .int .i64 s.w.u0, .int .i64 s.w.u1, .int .i64 s.w.u2, .int .i64 s.w.price, .int .i64 s.ph, .int .i64 s.st, .int .i64 s.rs, .int .i64 s.si] 57)) (.cells #[.int .i64 0, .int .i64 0, .int .i64 0, .int .i64 0, .int .i64 0, .int .i64 0, .int .i64 0, .int .i64 0, .int .i64 0, .int .i64 0, .int .i64 0] 57)
    rw [show (w.alloc (.cells #[.int .i64 s.w.book, .int .i64 s.w.cust, .int .i64 s.w.dead, .int .i64 s.w.u0, .int .i64 s.w.u1, .int .i64 s.w.u2, .int .i64 s.w.price, .int .i64 s.ph, .int .i64 s.st, .int .i64 s.rs, .int .i64 s.si] 57)).heap.size = w.heap.size + 1 by simp] at this
    rw [hW0]
    exact this
  have be0 : Below w.heap.size w W0 := by rw [hW0]; exact ((Below.refl _ w).alloc (Nat.le_refl _) _).alloc (by simp) _
  have s0 : w.heap.size + 1 < W0.heap.size := lt_some Z0
  have K : Hid (∀ w', Below W0.heap.size W0 w' → Calls Tryz.prog 129 #[sgv s, .int .i64 3] w' fun e w'' => e = .returned (.tuple #[sgv (stn s 3).1, .bool (stn s 3).2]) ∧ Below w'.heap.size w' w'') := fun w' h => stn_any w' ((t.below be0).below h) s 3
  have TK := fun w => stick_any w now
  have cells := B0.cells
  generalize inR now 0 1099511627776 = tk at *
  generalize slate s now = y at *
  generalize stn s 3 = ys at *
  have e2 : IntKind.i64.wrap (s.si + s.w.dead) = sm := by rw [em, IntKind.wrap_i64]; simp only [wrap64]
  replace em := em.symm
  unfold sgv sgc at *
  clear t IN SM
  replace hW0 := Lib.hid hW0
  replace TK := Lib.hid TK
  replace LY := Lib.hid LY
  replace LN := Lib.hid LN
  obtain ⟨c0, c1, c2, c3, c4, c5, c6, c7, c8, c9, ca⟩ := cells
  replace Z0 := Lib.hid Z0
  replace be0 := Lib.hid be0
  clear B0
  have hwl : w.heap.size < W0.heap.size := by omega
  by_cases hd : s.w.dead ≤ 0
  case pos =>
    have EE := Lib.hid (LN.out (.inl hd))
    clear LY LN K TK em e2
    go_enter Tryz.func102, Tryz.ntmps102
    go_upto_region 1 with fail
    rw [← hW0.out]
    go_wp2_with (refine wpList_store_row rfl 57 (.tmp 4) (.tmp 25) rfl (w.heap.size + 1) #[.int .i64 s.w.book, .int .i64 s.w.cust, .int .i64 s.w.dead, .int .i64 s.w.u0, .int .i64 s.w.u1, .int .i64 s.w.u2, .int .i64 s.w.price, .int .i64 s.ph, .int .i64 s.st, .int .i64 s.rs, .int .i64 s.si] rfl rfl 57 _ Z0.out sag_size rfl (by simp [Value.oneCell']) ?_)
    refine bodyPost_ret (res_row qlate_results _ _ (w.heap.size + 1) 57 _ (0, 0) _ rfl (setRow_heap _ _ _ _ _ _ Z0.out) Tryz.underlying57 rfl sag_size) rfl ?_
    exact ⟨by rw [EE.out]; rfl, be0.out.trans (setRow_below _ (Nat.le_succ _))⟩
  have hd2 : 0 < s.w.dead := by omega
  by_cases hn : now < sm
  case pos =>
    have EE := Lib.hid (LN.out (.inr (.inl hn)))
    clear LY LN K TK
    go_enter Tryz.func102, Tryz.ntmps102
    go_upto_region 1 with fail
    rw [← hW0.out]
    go_wp2_with (refine wpList_store_row rfl 57 (.tmp 4) (.tmp 25) rfl (w.heap.size + 1) #[.int .i64 s.w.book, .int .i64 s.w.cust, .int .i64 s.w.dead, .int .i64 s.w.u0, .int .i64 s.w.u1, .int .i64 s.w.u2, .int .i64 s.w.price, .int .i64 s.ph, .int .i64 s.st, .int .i64 s.rs, .int .i64 s.si] rfl rfl 57 _ Z0.out sag_size rfl (by simp [Value.oneCell']) ?_)
    refine bodyPost_ret (res_row qlate_results _ _ (w.heap.size + 1) 57 _ (0, 0) _ rfl (setRow_heap _ _ _ _ _ _ Z0.out) Tryz.underlying57 rfl sag_size) rfl ?_
    exact ⟨by rw [EE.out]; rfl, be0.out.trans (setRow_below _ (Nat.le_succ _))⟩
  go_enter Tryz.func102, Tryz.ntmps102
  go_upto_region 1 with fail
  rw [← hW0.out]
  go_wp2_with fail
  refine (TK.out _).mono ?_
  rintro e w1 ⟨rfl, rfl⟩
  cases tk with
  | false =>
    have EE := Lib.hid (LN.out (.inr (.inr rfl)))
    clear LY LN K TK
    go_wp2_with (refine wpList_store_row rfl 57 (.tmp 4) (.tmp 25) rfl (w.heap.size + 1) #[.int .i64 s.w.book, .int .i64 s.w.cust, .int .i64 s.w.dead, .int .i64 s.w.u0, .int .i64 s.w.u1, .int .i64 s.w.u2, .int .i64 s.w.price, .int .i64 s.ph, .int .i64 s.st, .int .i64 s.rs, .int .i64 s.si] rfl rfl 57 _ Z0.out sag_size rfl (by simp [Value.oneCell']) ?_)
    refine bodyPost_ret (res_row qlate_results _ _ (w.heap.size + 1) 57 _ (0, 0) _ rfl (setRow_heap _ _ _ _ _ _ Z0.out) Tryz.underlying57 rfl sag_size) rfl ?_
    exact ⟨by rw [EE.out]; rfl, be0.out.trans (setRow_below _ (Nat.le_succ _))⟩
  | true =>
    have EE := Lib.hid (LY.out hd hn rfl)
    clear LY LN TK
    go_wp2_with fail
    refine (K.out _ (Below.refl _ _)).mono ?_
    rintro e w3 ⟨rfl, h3⟩
    have Z3 := Lib.hid ((h3.block _ s0).trans Z0.out)
    have b3 : Hid (Below w.heap.size w w3) := be0.out.trans (h3.mono be0.out.size)
    clear K h3 c0 c1 c2 c3 c4 c5 c6 c7 c8 c9 ca em e2
    go_wp2_with (refine wpList_store_row rfl 57 (.tmp 4) (.tmp 28) rfl (w.heap.size + 1) _ rfl rfl 57 _ Z3.out sag_size rfl (by simp [Value.oneCell']) ?_)
    refine bodyPost_ret (res_row qlate_results _ _ (w.heap.size + 1) 57 _ (0, 0) _ rfl (setRow_heap _ _ _ _ _ _ Z3.out) Tryz.underlying57 rfl sag_size) rfl ?_
    exact ⟨by rw [EE.out]; rfl, b3.out.trans (setRow_below _ (Nat.le_succ _))⟩
end Sg
end Go.Proofs.YtpkdigegkemogaaGreatDoor
namespace Go.Proofs.YtpkdigegkemogaaGreatDoor
set_option maxRecDepth 100000
open Go.RowKit
open Go.Proofs.YtpkdigegkemogaaGreatDoor.Pk (one_at lt_some)
namespace Sg
open Wt (Wan may Opn mayOp)
open Pl (Stp fwd bck cap z0 wanv spv)

theorem con {w : World} (ht : Tab w) {Q : World → Prop} (h : ∀ w', Tab w' → Q w') : ∀ w', Hid (Below w.heap.size w w') → Q w' := fun w' b => h w' (ht.below b.out)

def tw : Wan := ⟨1, 0, 5, 1, 0, 0, 0⟩
def t0 : Sag := ⟨tw, 1, 0, 0, 7⟩
end Sg
end Go.Proofs.YtpkdigegkemogaaGreatDoor
namespace Go.Proofs.YtpkdigegkemogaaGreatDoor
set_option maxRecDepth 100000
open Go.RowKit
open Go.Proofs.YtpkdigegkemogaaGreatDoor.Pk (one_at one_free one_set lt_some grown_set grown_trans grown_refl)
namespace Sg
open Wt (Wan may Opn mayOp may_any inR put_any PutTo)
open Pl (Stp fwd bck cap z0 wanv spv)

set_option maxHeartbeats 6400000 in
theorem qputE_any (w : World) (t : Tab w) (s : Sag) (hs : smay s = false) : Calls Tryz.prog 207 #[sgv s] w fun e w' => e = .returned (.tuple #[.slice none 0 0, .int .i64 1]) ∧ Below w.heap.size w w' := by
  obtain ⟨W0, hW0⟩ : ∃ W0, W0 = w.alloc (.cells (sgc s) 57) := ⟨_, rfl⟩
  have B0 : BoxS W0 w.heap.size s := by rw [hW0]; exact heap_alloc_new _ _
  have be0 : Hid (Below w.heap.size w W0) := by rw [hW0]; exact (Below.refl _ w).alloc (Nat.le_refl _) _
  have M := put_any W0 s.w
  have T0 := t.below be0.out
  have V : Hid (∀ w', Below W0.heap.size W0 w' → Calls Tryz.prog 71 #[sgv s] w' fun e w'' => e = .returned (.bool false) ∧ Below w'.heap.size w' w'') := fun w' h => by
    have := smay_any w' (T0.below h) s
    rw [hs] at this
    exact this
  have C0 := B0.cells
  unfold sgv sgc at *
  clear t hs T0
  have hwl : w.heap.size < W0.heap.size := B0.lt
  replace hW0 := Lib.hid hW0
  replace M := Lib.hid M
  obtain ⟨c0, c1, c2, c3, c4, c5, c6, c7, c8, c9, ca⟩ := C0
  go_enter Tryz.func207, Tryz.ntmps207
  go_upto_region 1 with fail
  rw [← hW0.out]
  go_wp2_with fail
  refine M.out.mono ?_
  intro e w1 h1
  clear M hW0 c0 c1 c2 c3 c4 c5 c6 c7 c8 c9 ca
  cases hm : may s.w with
  | false =>
    obtain rfl := h1.no hm
    have b1 : Hid (Below w.heap.size w w1) := be0.out.trans (h1.be.mono be0.out.size)
    clear h1 V B0 be0 hm
    go_wp2_with fail
    go_ret2
    exact ⟨rfl, b1.out⟩
  | true =>
    obtain ⟨v, rfl, -⟩ := h1.yes hm
    have B1 := B0.below h1.be B0.lt
    obtain ⟨c0, c1, c2, c3, c4, c5, c6, c7, c8, c9, ca⟩ := B1.cells
    have hwl1 : w.heap.size < w1.heap.size := B1.lt
    have K := Lib.hid (V.out w1 h1.be)
    have b1 : Hid (Below w.heap.size w w1) := be0.out.trans (h1.be.mono be0.out.size)
    clear h1 V B0 be0 hm B1
    go_wp2_with fail
    refine K.out.mono ?_
    rintro e w2 ⟨rfl, h2⟩
    have b2 : Hid (Below w.heap.size w w2) := b1.out.trans (h2.mono b1.out.size)
    clear h2 K c0 c1 c2 c3 c4 c5 c6 c7 c8 c9 ca
    go_wp2_with fail
    go_ret2
    exact ⟨rfl, b2.out⟩
end Sg
end Go.Proofs.YtpkdigegkemogaaGreatDoor
namespace Go.Proofs.YtpkdigegkemogaaGreatDoor
set_option maxRecDepth 100000
open Go.RowKit
open Go.Proofs.YtpkdigegkemogaaGreatDoor.Pk (one_at one_free one_set lt_some grown_set grown_trans grown_refl own_form u8s)
namespace Sb
open Go.Proofs.YtpkdigegkemogaaGreatDoor.Sg
open Wt (Wan may Opn mayOp may_any inR put_any PutTo raw own_mono raw_len)
open Pl (wanv)

theorem ns4 {w : World} (s : Sag) (base : Nat) {cs : Array Value} (hc : cs = #[.int .i64 s.ph, .int .i64 s.st, .int .i64 s.rs, .int .i64 s.si]) : In.Ns base (w.alloc (.cells cs 3)) ⟨w.heap.size, 0, none⟩ [s.ph, s.st, s.rs, s.si] := by
  refine In.Ns.one (heap_alloc_new _ _) (by decide) fun j z hj => ?_
  rw [hc]
  rcases j with _ | _ | _ | _ | j
  · simp at hj ⊢; exact hj
  · simp at hj ⊢; exact hj
  · simp at hj ⊢; exact hj
  · simp at hj ⊢; exact hj
  · simp at hj
set_option maxHeartbeats 6400000 in
theorem sput_any (w : World) (t : Tab w) (s : Sag) : Calls Tryz.prog 207 #[sgv s] w (PutTo w (smay s) (sput s)) := by
  cases hs : smay s with
  | false =>
    refine (qputE_any w t s hs).mono fun e w' ⟨h1, h2⟩ => ⟨h2, (by intro h; cases h), fun _ => h1⟩
  | true =>
    obtain ⟨W0, hW0⟩ : ∃ W0, W0 = w.alloc (.cells (sgc s) 57) := ⟨_, rfl⟩
    have B0 : BoxS W0 w.heap.size s := by rw [hW0]; exact heap_alloc_new _ _
    have be0 : Hid (Below w.heap.size w W0) := by rw [hW0]; exact (Below.refl _ w).alloc (Nat.le_refl _) _
    have M := put_any W0 s.w
    have T0 := t.below be0.out
    have V : Hid (∀ w', Below W0.heap.size W0 w' → Calls Tryz.prog 71 #[sgv s] w' fun e w'' => e = .returned (.bool true) ∧ Below w'.heap.size w' w'') := fun w' h => by
      have := smay_any w' (T0.below h) s
      rw [hs] at this
      exact this
    have C0 := B0.cells
    have hm := (smay_true hs).1
    have hl := raw_len hm
    have ht := tail_in hs
    have hz : ∀ z ∈ [s.ph, s.st, s.rs, s.si], 0 ≤ z ∧ z ≤ 4000000000000000000 := by
      intro z hz
      simp only [List.mem_cons, List.not_mem_nil, or_false] at hz
      rcases hz with rfl | rfl | rfl | rfl <;> omega
    have hsp := sput_eq s
    generalize raw s.w = rw_ at *
    generalize sput s = sp at *
    unfold sgv sgc at *
    clear t T0 hs ht
    have hwl : w.heap.size < W0.heap.size := B0.lt
    replace hW0 := Lib.hid hW0
    replace M := Lib.hid M
    replace hz := Lib.hid hz
    replace hl := Lib.hid hl
    replace hsp := Lib.hid hsp
    obtain ⟨c0, c1, c2, c3, c4, c5, c6, c7, c8, c9, ca⟩ := C0
    go_enter Tryz.func207, Tryz.ntmps207
    go_upto_region 1 with fail
    rw [← hW0.out]
    go_wp2_with fail
    refine M.out.mono ?_
    intro e w1 h1
    clear M hW0 c0 c1 c2 c3 c4 c5 c6 c7 c8 c9 ca hwl
    obtain ⟨v, rfl, ho⟩ := h1.yes hm
    have B1 := B0.below h1.be B0.lt
    obtain ⟨c0, c1, c2, c3, c4, c5, c6, c7, c8, c9, ca⟩ := B1.cells
    have hwl1 : w.heap.size < w1.heap.size := B1.lt
    have K := Lib.hid (V.out w1 h1.be)
    have b1 : Hid (Below W0.heap.size W0 w1) := h1.be
    replace ho := Lib.hid ho
    replace B1 := Lib.hid B1
    clear h1 V hm
    go_wp2_with fail
    refine K.out.mono ?_
    rintro e w2 ⟨rfl, h2⟩
    have b2 : Hid (Below W0.heap.size W0 w2) := b1.out.trans (h2.mono b1.out.size)
    have B2 := B1.out.below h2 hwl1
    replace ho : Hid (w2.ownsRow W0.heap.size 5 1 v rw_.length (u8s rw_)) := Pk.own_below ho.out h2
    clear h2 K c0 c1 c2 c3 c4 c5 c6 c7 c8 c9 ca hwl1 B1 b1
    obtain ⟨c0, c1, c2, c3, c4, c5, c6, c7, c8, c9, ca⟩ := B2.cells
    have hwl2 : w.heap.size < w2.heap.size := B2.lt
    have A2 : Hid (Calls Tryz.prog 208 #[v, .slice (some ⟨w2.heap.size, 0, none⟩) 4 4] (w2.alloc (.cells #[.int .i64 s.ph, .int .i64 s.st, .int .i64 s.rs, .int .i64 s.si] 3)) (In.ApTo W0.heap.size (w2.alloc (.cells #[.int .i64 s.ph, .int .i64 s.st, .int .i64 s.rs, .int .i64 s.si] 3)) (rw_ ++ In.cat [s.ph, s.st, s.rs, s.si]))) :=
      In.append_any W0.heap.size _ v rw_ (ho.out.alloc _) (by have := b2.out.size; simp; omega) ⟨w2.heap.size, 0, none⟩ 4 [s.ph, s.st, s.rs, s.si] rfl (ns4 s _ rfl) hz.out (by have := hl.out; omega) (by omega)
    clear ho hz hl
    go_wp2_with fail
    refine A2.out.mono ?_
    rintro e w3 ⟨v3, rfl, hr, hg, hsz⟩
    have R3 : Hid (w3.ownsRow W0.heap.size 5 1 v3 sp.length (u8s sp)) := by
      have e : rw_ ++ In.cat [s.ph, s.st, s.rs, s.si] = sp := hsp.out.symm
      rw [← e]
      exact hr
    have b3 : Hid (Below w.heap.size w w3) := by
      have h1 : Below W0.heap.size W0 (w2.alloc (.cells #[.int .i64 s.ph, .int .i64 s.st, .int .i64 s.rs, .int .i64 s.si] 3)) := b2.out.alloc b2.out.size _
      have h2 := hg.below h1.size
      exact be0.out.trans ((h1.trans h2).mono be0.out.size)
    clear A2 hr hg hsz B2 b2 hsp c0 c1 c2 c3 c4 c5 c6 c7 c8 c9 ca hwl2
    go_wp2_with fail
    go_ret2
    exact ⟨b3.out, fun _ => ⟨v3, rfl, own_mono R3.out be0.out.size⟩, (by intro h; cases h)⟩
end Sb
end Go.Proofs.YtpkdigegkemogaaGreatDoor
