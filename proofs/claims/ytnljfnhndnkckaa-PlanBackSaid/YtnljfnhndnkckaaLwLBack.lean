/- What is taken back is what was asked first, in reverse (PlanBack): any booking that may be. -/
import Derived.Test.YtnljfnhndnkckaaPlO
import Derived.Test.YtnljfnhndnkckaaPlN
import Derived.Deep.CutBlock
import Derived.Deep.CutRange
import Derived.BigQuiet
import Derived.Lib.QuietBelow
import Derived.JoinedRecord
import Derived.HandedShaped
namespace Go.Proofs.Ytnljfnhndnkckaa.planBack
set_option maxRecDepth 100000
open Go.ChangeShapes Go.WideShapes Go.ChangeAt Go.WideMaps Go.WideElems Go.RowKit
open Go.Proofs.Ytnljfnhndnkckaa.Pk (one_at one_free one_set lt_some grown_set grown_trans below_grown grown_refl)
open Go.Proofs.Ytnljfnhndnkckaa.Pl
open Go.Proofs.Ytnljfnhndnkckaa.Wt (Wan may Opn mayOp may_any refmay_any refmayop_any below_drewN)


def FlAt (l : List Stp) (W : World) (N : Nat) (v i : Value) (wr : World) : Prop := ∃ (k n : Nat) (A : Option Addr) (c : Nat), i = .int .i64 (k : Int) ∧ k ≤ N ∧ v = .slice A n c ∧ n ≤ 7 ∧ RowI wr W.heap.size v n (ivs (frst (l.take k))) ∧ Below W.heap.size W wr
def BlAt (W : World) (N : Nat) (i : Value) (wr : World) : Prop := ∃ k : Nat, i = .int .i64 (k : Int) ∧ k ≤ N ∧ Below W.heap.size W wr
set_option maxHeartbeats 12800000 in
theorem walkd (x : Wan) (W' : World) {w : World} (_hW : W' = w) : Calls Try.prog 4 #[.agg #[.int .i64 x.book, .int .i64 x.cust, .int .i64 x.dead, .int .i64 x.u0, .int .i64 x.u1, .int .i64 x.u2, .int .i64 x.price]] w fun e w' => e = .returned (.bool true) ∧ Below w.heap.size w w' := by
  obtain ⟨W0, hW0⟩ : ∃ W0, W0 = w.alloc (.cells #[.int .i64 x.book, .int .i64 x.cust, .int .i64 x.dead, .int .i64 x.u0, .int .i64 x.u1, .int .i64 x.u2, .int .i64 x.price] 24) := ⟨_, rfl⟩
  have B0 : BoxW W0 w.heap.size x := by rw [hW0]; exact heap_alloc_new _ _
  have be0 : Hid (Below w.heap.size w W0) := by rw [hW0]; exact (Below.refl _ w).alloc (Nat.le_refl _) _
  have CB : Hid (∀ w', Below W0.heap.size W0 w' → BoxW w' w.heap.size x) := fun w' h => B0.below h B0.lt
  have M := Lib.hid (refmay_any W0 x)
  have TD : Hid (∀ w', Calls Try.prog 15 #[] w' fun e w'' => e = .returned (.bool true) ∧ Below w'.heap.size w' w'') := told_any
  replace hW0 := Lib.hid hW0
  clear B0
  go_enter Try.func4, Try.ntmps4
  go_wp2_with fail
  rw [← hW0.out]
  refine M.out.mono ?_
  rintro e w3 ⟨rfl, h3⟩
  have b3 : Hid (Below w.heap.size w w3) := be0.out.trans (h3.mono be0.out.size)
  have B3 := CB.out _ h3
  have CB3 : Hid (∀ w', Below w3.heap.size w3 w' → BoxW w' w.heap.size x) := fun w' h => B3.below h B3.lt
  obtain ⟨c0, c1, c2, c3, c4, c5, c6⟩ := B3.cells
  have hwl : w.heap.size < w3.heap.size := B3.lt
  clear M CB be0 hW0 h3 B3
  cases hm : may x with
  | false =>
    clear CB3 hm c0 c1 c2 c3 c4 c5 c6 hwl
    have T3 := Lib.hid (TD.out w3)
    go_wp2_with fail
    refine T3.out.mono ?_
    rintro e w4 ⟨rfl, h4⟩
    have E : Hid (Below w.heap.size w w4) := b3.out.trans (h4.mono b3.out.size)
    clear T3 h4
    go_wp2_with fail
    go_ret
    exact ⟨rfl, E.out⟩
  | true =>
    have hmy := Lib.hid hm
    clear hm
    have F1 : Hid (∀ w', Below w3.heap.size w3 w' → Calls Try.prog 9 #[.agg #[.int .i64 x.book, .int .i64 x.cust, .int .i64 x.dead, .int .i64 x.u0, .int .i64 x.u1, .int .i64 x.u2, .int .i64 x.price]] w' fun e w'' => ∃ A k, e = .returned (.slice A (fwd x).length k) ∧ RowT 28 w'' w3.heap.size (.slice A (fwd x).length k) (fwd x).length (fwd x) ∧ Below w3.heap.size w3 w'' ∧ Below w'.heap.size w' w'') := fun w' h => (fwd_any w' x).mono fun e w'' ⟨v, h1, h2, h3⟩ => by
      obtain ⟨A, k, rfl, -⟩ := rt_form h2
      exact ⟨A, k, h1, rt_mono h2 h.size, h.trans (h3.mono h.size), h3⟩
    have F2 : Hid (∀ w', Below w3.heap.size w3 w' → Calls Try.prog 11 #[.agg #[.int .i64 x.book, .int .i64 x.cust, .int .i64 x.dead, .int .i64 x.u0, .int .i64 x.u1, .int .i64 x.u2, .int .i64 x.price]] w' fun e w'' => ∃ A k, e = .returned (.slice A (bck x).length k) ∧ RowT 28 w'' w3.heap.size (.slice A (bck x).length k) (bck x).length (bck x) ∧ Below w3.heap.size w3 w'' ∧ Below w'.heap.size w' w'') := fun w' h => (bck_any w' x).mono fun e w'' ⟨v, h1, h2, h3⟩ => by
      obtain ⟨A, k, rfl, -⟩ := rt_form h2
      exact ⟨A, k, h1, rt_mono h2 h.size, h.trans (h3.mono h.size), h3⟩
    go_upto_region 3 with fail
    have b0 : Below w3.heap.size w3 w3.drew := ⟨rfl, rfl, rfl, Nat.le_refl _, fun _ _ => rfl⟩
    clear c0 c1 c2 c3 c4 c5 c6 hwl
    obtain ⟨c0, c1, c2, c3, c4, c5, c6⟩ := (CB3.out _ b0).cells
    have hwl : w.heap.size < w3.drew.heap.size := block_lt_of_cell c0
    go_cut [3, 4] from 13 to 16 (fun s3 s4 wx => ∃ A B c d, s3 = .slice A (fwd x).length c ∧ s4 = .slice B (bck x).length d ∧ RowT 28 wx w3.heap.size s3 (fwd x).length (fwd x) ∧ RowT 28 wx w3.heap.size s4 (bck x).length (bck x) ∧ Below w3.heap.size w3 wx)
    case first =>
      go_region_with ((first
        | (go_at_call 9; refine (F1.out _ (by assumption)).mono ?_; rintro e w6 ⟨A, c, rfl, hF, h6, -⟩; clear c0 c1 c2 c3 c4 c5 c6; obtain ⟨c0, c1, c2, c3, c4, c5, c6⟩ := (CB3.out _ h6).cells; have hwl6 : w.heap.size < w6.heap.size := block_lt_of_cell c0)
        | (go_at_call 11; refine (F2.out _ (by assumption)).mono ?_; rintro e w7 ⟨B, d, rfl, hB, h7, h8⟩; have TT : Hid (∃ A' B' c' d', Value.slice A (fwd x).length c = .slice A' (fwd x).length c' ∧ Value.slice B (bck x).length d = .slice B' (bck x).length d' ∧ RowT 28 w7 w3.heap.size (.slice A (fwd x).length c) (fwd x).length (fwd x) ∧ RowT 28 w7 w3.heap.size (.slice B (bck x).length d) (bck x).length (bck x) ∧ Below w3.heap.size w3 w7) := ⟨_, _, _, _, rfl, rfl, rt_below hF h8, hB, h7⟩)))
      all_goals
        go_wp2
        go_meet
        case rel => exact TT.out
    case rest =>
      obtain ⟨A, B, c, d, rfl, rfl, hF, hB, hb⟩ := hcut
      clear b0 F1 F2 c0 c1 c2 c3 c4 c5 c6 hwl
      have GF : Hid (∀ (k : Nat) s, (fwd x)[k]? = some s → FineS x s) := fun k s h => fwd_good hmy.out (List.mem_of_getElem? h)
      have GB : Hid (∀ (k : Nat) s, (bck x)[k]? = some s → mayOp s.op = true ∧ s.op.book = x.book ∧ (s.op.kind = 6 ∨ s.op.kind = 3)) := fun k s h => bck_good hmy.out (List.mem_of_getElem? h)
      have GA : Hid (∀ (k : Nat) s, (bck x)[k]? = some s → (frst (fwd x))[(bck x).length - 1 - k]? = some s.node) := fun k s h => back_at hmy.out h
      have GL := Lib.hid (back_len hmy.out)
      have GT := Lib.hid (fwd_two hmy.out)
      have GC := Lib.hid (cap_good hmy.out)
      have few1 := fwd_len x
      have few2 := bck_len x
      generalize fwd x = lf at *
      generalize bck x = lb at *
      generalize hNf : lf.length = N at *
      generalize hNb : lb.length = L at *
      replace hNf := Lib.hid hNf
      replace hNb := Lib.hid hNb
      have RF : Hid (∀ w', Below wc.heap.size wc w' → RowT 28 w' w3.heap.size (.slice A N c) N lf) := fun w' h => rt_below hF h
      have RB : Hid (∀ w', Below wc.heap.size wc w' → RowT 28 w' w3.heap.size (.slice B L d) L lb) := fun w' h => rt_below hB h
      have bc : Hid (Below w3.heap.size w3 wc) := hb
      have st : Hid (FlAt lf wc N (.slice none 0 0) (.int .i64 0) wc) := ⟨0, 0, none, 0, rfl, Nat.zero_le _, rfl, by omega, World.ownsRow_nil _ _ _ _, Below.refl _ _⟩
      clear hF hB hb
      go_wp2_with fail
      go_loopw [5, 6] (fun v i wr => FlAt lf wc N v i wr) (fun _ i _ => N - (intOf i).toNat)
      case atStart => exact st.out
      case round =>
        clear st
        obtain ⟨k, n, Ar, cr, rfl, hk, rfl, hn, hrow, hbr⟩ := hrel
        have i2 : (0 : Int) ≤ (k : Int) := by omega
        have bs := hbr.size
        by_cases hlt : k < N
        · have i1 : (k : Int) < (N : Int) := by omega
          obtain ⟨s, hs⟩ : ∃ s, lf[k]? = some s := ⟨_, List.getElem?_eq_getElem (by rw [hNf.out]; exact hlt)⟩
          have G := GF.out k s hs
          obtain ⟨g, rfl, hat⟩ := rt_cell (RF.out wr hbr) hs
          have HB : Hid (Below w3.heap.size w3 wr) := bc.out.trans (hbr.mono bc.out.size)
          have hbx := CB3.out wr HB.out
          have z0 := cell_regrown hat.1
          have z1 := cell_regrown hat.2.1
          have z2 := cell_regrown hat.2.2.1
          have z3 := cell_regrown hat.2.2.2.1
          have z4 := cell_regrown hat.2.2.2.2.1
          have z5 := cell_regrown hat.2.2.2.2.2
          have zb := cell_regrown hbx.cells.1
          have Q := fun d os => Calls.regrown_of (refmayop_any (Sort.grow (redrawn wr d) os) s.op)
          have q1 : (s.op.book != x.book) = false := by rw [G.book]; simp
          simp only [G.op] at Q
          have who := G.who
          replace hs := Lib.hid hs
          replace hrow := Lib.hid hrow
          replace hbr := Lib.hid hbr
          replace hat := Lib.hid hat
          clear hbx G
          have w1 : ((s.node == 3) == decide (4 ≤ s.op.kind)) = true := by
            rcases who with ⟨h1, h2⟩ | ⟨h1, h2⟩
            · simp [h1, h2]
            · have : ¬ 4 ≤ s.op.kind := by omega
              simp [h1, this]
          clear who
          go_upto_region 8 with fail
          refine wp_region_quiet_below (by kernel_rfl) (by kernel_rfl) ?_
          repeat (go_big_quiet_step (with_reducible exact Q _ _))
          refine wpQuiet_nil ?_
          intro w7 hw'
          obtain ⟨⟨dq, osq⟩, hw7⟩ := hw'
          have Br : Below wr.heap.size wr w7 := by rw [hw7]; exact below_regrown wr dq osq
          have B7 : Below wc.heap.size wc w7 := hbr.out.trans (Br.mono hbr.out.size)
          have row7 := ri_below hrow.out Br
          obtain ⟨a0, a1, -, -, -, -⟩ := hat.out.below Br
          have gl := block_lt_of_cell a0
          clear z0 z1 z2 z3 z4 z5 zb Q hw7 hat hrow hbr q1
          have lk : (lf.take (k + 1)).length ≤ k + 1 := by rw [List.length_take]; omega
          cases h2 : (s.op.kind != 2) with
          | true =>
            have ba : Below w7.heap.size w7 (w7.alloc (.cells #[.int .i64 s.node] 3)) := (Below.refl _ _).alloc (Nat.le_refl _) _
            have nl : n ≤ 7 := hn
            have nk : n ≤ k := by
              have h1 := ri_len row7
              have h2 := frst_len (lf.take k)
              rw [List.length_take] at h2
              omega
            obtain ⟨A2, c2, w8, r2, R2, g2, -⟩ := ri_app1 (w7.alloc (.cells #[.int .i64 s.node] 3)) wc.heap.size _ n (frst (lf.take k)) (ri_below row7 ba) s.node w7.heap.size (heap_alloc_new _ _) (by omega) (Nat.le_trans B7.size ba.size)
            have nx : Hid (FlAt lf wc N (.slice A2 (n + 1) c2) (.int .i64 ((k : Int) + 1)) w8) := by
              refine ⟨k + 1, n + 1, A2, c2, by simp, hlt, rfl, by omega, by rw [frst_yes hs.out h2]; exact R2, ?_⟩
              exact (B7.trans (ba.mono B7.size)).trans (below_of_grown g2 (Nat.le_trans B7.size ba.size) fun j hj => (ri_block row7 hj).1)
            clear row7 B7 Br ba R2 g2 hs
            go_wp2_with (first | (at_builtin; refine wpList_run_app rfl (.tmp 64) (.tmp 70) rfl rfl _ _ rfl rfl r2 ?_) | go_in)
            exact ⟨nx.out, by simp [intOf]; omega⟩
          | false =>
            have nx : Hid (FlAt lf wc N (.slice Ar n cr) (.int .i64 ((k : Int) + 1)) w7) := ⟨k + 1, n, Ar, cr, by simp, hlt, rfl, hn, by rw [frst_no hs.out h2]; exact row7, B7⟩
            clear row7 B7 Br hs
            go_wp2_with fail
            exact ⟨nx.out, by simp [intOf]; omega⟩
        · have i1 : ¬ (k : Int) < (N : Int) := by omega
          have hk2 : lf.take k = lf := List.take_of_length_le (by rw [hNf.out]; omega)
          rw [hk2] at hrow
          have hln := ri_len hrow
          rw [← GL.out] at hln
          subst hln
          obtain ⟨wd, ewd⟩ : ∃ x, x = wr := ⟨_, rfl⟩
          subst ewd
          have q1 : ((L : Int) != (L : Int)) = false := by simp
          have q2 : ((N : Int) != 2 * (L : Int) - 1) = false := by
            have : (N : Int) = 2 * (L : Int) - 1 := by have h1 := GT.out; have h2 := GL.out; omega
            rw [this]
            simp
          have n1 : 1 ≤ L := by have h1 := GT.out; have h2 := GL.out; omega
          have HB : Below w3.heap.size w3 wd := bc.out.trans (hbr.mono bc.out.size)
          have CBr : Hid (∀ w', Below wd.heap.size wd w' → BoxW w' w.heap.size x) := fun w' h => CB3.out w' (HB.trans (h.mono HB.size))
          have RBr : Hid (∀ w', Below wd.heap.size wd w' → RowT 28 w' w3.heap.size (.slice B L d) L lb) := fun w' h => RB.out w' (hbr.trans (h.mono hbr.size))
          have RIr : Hid (∀ w' (k : Nat) (z : Int), Below wd.heap.size wd w' → (frst lf)[k]? = some z → ∃ g, Ar = some ⟨g, 0, none⟩ ∧ w'.cell? ⟨g, k, none⟩ = some (.int .i64 z)) := fun w' k z h hz => ri_cell (ri_below hrow h) hz
          have st2 : Hid (BlAt wd L (.int .i64 0) wd) := ⟨0, rfl, Nat.zero_le _, Below.refl _ _⟩
          replace HB := Lib.hid HB
          clear hrow hbr RF RB CB3 bc hk2 i2 bs
          go_wp2_with fail
          clear q1 q2
          go_loopw [7] (fun i wr => BlAt wd L i wr) (fun i _ => L - (intOf i).toNat)
          case atStart => exact st2.out
          case round =>
            clear st2
            obtain ⟨j, rfl, hj, hbq⟩ := hrel
            have j2 : (0 : Int) ≤ (j : Int) := by omega
            by_cases hlt2 : j < L
            · have j1 : (j : Int) < (L : Int) := by omega
              obtain ⟨s, hs⟩ : ∃ s, lb[j]? = some s := ⟨_, List.getElem?_eq_getElem (by rw [hNb.out]; exact hlt2)⟩
              obtain ⟨g1, g2, g3⟩ := GB.out j s hs
              have hz := GA.out j s hs
              obtain ⟨g, rfl, hat⟩ := rt_cell (RBr.out wr hbq) hs
              obtain ⟨gr, rfl, hcr⟩ := RIr.out wr _ _ hbq hz
              have hbx := CBr.out wr hbq
              obtain ⟨t, ht⟩ : ∃ t, t = L - 1 - j := ⟨_, rfl⟩
              rw [← ht] at hcr
              have t1 : (L : Int) - 1 - (j : Int) = (t : Int) := by omega
              have t2 : (t : Int) < (L : Int) := by omega
              have t3 : (0 : Int) ≤ (t : Int) := by omega
              have z0 := cell_regrown hat.1
              have z1 := cell_regrown hat.2.1
              have z2 := cell_regrown hat.2.2.1
              have z3 := cell_regrown hat.2.2.2.1
              have z4 := cell_regrown hat.2.2.2.2.1
              have z5 := cell_regrown hat.2.2.2.2.2
              have zb := cell_regrown hbx.cells.1
              have zr := cell_regrown hcr
              have Q := fun d os => Calls.regrown_of (refmayop_any (Sort.grow (redrawn wr d) os) s.op)
              have q1 : (s.op.book != x.book) = false := by rw [g2]; simp
              have q2 : (s.node != s.node) = false := by simp
              simp only [g1] at Q
              replace hbq := Lib.hid hbq
              have nx : Hid (∀ w7, Below wr.heap.size wr w7 → BlAt wd L (.int .i64 ((j : Int) + 1)) w7) := fun w7 h => ⟨j + 1, by simp, hlt2, hbq.out.trans (h.mono hbq.out.size)⟩
              replace ht := Lib.hid ht
              clear hbx hat hcr hz hs g1 g2
              rcases g3 with g3 | g3
              all_goals
                have q3 : (s.op.kind == 6) = (s.op.kind == 6) := rfl
                rw [g3] at z1 Q
                clear g3 q3
                go_upto_region 17 with fail
                refine wp_region_quiet_below (by kernel_rfl) (by kernel_rfl) ?_
                repeat (go_big_quiet_step (with_reducible exact Q _ _))
                refine wpQuiet_nil ?_
                intro w7 hw'
                obtain ⟨⟨dq, osq⟩, hw7⟩ := hw'
                have Br : Below wr.heap.size wr w7 := by rw [hw7]; exact below_regrown wr dq osq
                have nx7 := Lib.hid (nx.out w7 Br)
                clear z0 z1 z2 z3 z4 z5 zb zr Q hw7 Br nx
                go_wp2_with fail
                exact ⟨nx7.out, by simp [intOf]; omega⟩
            · have j1 : ¬ (j : Int) < (L : Int) := by omega
              have HB7 := Lib.hid (HB.out.trans (hbq.mono HB.out.size))
              have hbx := CBr.out wr hbq
              obtain ⟨c0, c1, c2, c3, c4, c5, c6⟩ := hbx.cells
              have hwl : w.heap.size < wr.heap.size := hbx.lt
              have K := cap_any wr x
              unfold wanv at K
              replace K := Lib.hid K
              clear hbx hbq RIr RBr CBr
              go_wp2_with fail
              refine K.out.mono ?_
              rintro e w7 ⟨rfl, h7⟩
              have B7 : Hid (Below w3.heap.size w3 w7) := HB7.out.trans (h7.mono HB7.out.size)
              clear K h7 HB7 c0 c1 c2 c3 c4 c5 c6 hwl
              obtain ⟨gc1, gc2⟩ := GC.out
              generalize cap x = s at *
              obtain ⟨W8, hW8⟩ : ∃ W8, W8 = w7.alloc (.cells #[.int .i64 s.node, .int .i64 s.op.kind, .int .i64 s.op.book, .int .i64 s.op.units, .int .i64 s.op.cust, .int .i64 s.op.amount] 28) := ⟨_, rfl⟩
              have N8 : W8.heap[w7.heap.size]? = some (.cells #[.int .i64 s.node, .int .i64 s.op.kind, .int .i64 s.op.book, .int .i64 s.op.units, .int .i64 s.op.cust, .int .i64 s.op.amount] 28 (0, 0)) := by rw [hW8]; exact heap_alloc_new _ _
              have B8 : Hid (Below w3.heap.size w3 W8) := by rw [hW8]; exact B7.out.alloc B7.out.size _
              have T8 := Lib.hid (TD.out W8)
              replace hW8 := Lib.hid hW8
              replace N8 := Lib.hid N8
              replace gc1 := Lib.hid gc1
              replace gc2 := Lib.hid gc2
              clear B7
              unfold spv
              go_wp2_with fail
              rw [← hW8.out]
              refine T8.out.mono ?_
              rintro e w9 ⟨rfl, h9⟩
              have N9 := (h9.block _ (lt_some N8.out)).trans N8.out
              have B9 : Hid (Below w3.heap.size w3 w9) := B8.out.trans (h9.mono B8.out.size)
              have c0 : w9.cell? ⟨w7.heap.size, 0, none⟩ = some (.int .i64 s.node) := one_at N9
              have c1 : w9.cell? ⟨w7.heap.size, 1, none⟩ = some (.int .i64 s.op.kind) := one_at N9
              have c2 : w9.cell? ⟨w7.heap.size, 2, none⟩ = some (.int .i64 s.op.book) := one_at N9
              have c3 : w9.cell? ⟨w7.heap.size, 3, none⟩ = some (.int .i64 s.op.units) := one_at N9
              have c4 : w9.cell? ⟨w7.heap.size, 4, none⟩ = some (.int .i64 s.op.cust) := one_at N9
              have c5 : w9.cell? ⟨w7.heap.size, 5, none⟩ = some (.int .i64 s.op.amount) := one_at N9
              have M9 := refmayop_any w9 s.op
              rw [gc1.out] at M9
              replace M9 := Lib.hid M9
              have gl : w7.heap.size < w9.heap.size := block_lt_of_cell c0
              replace N9 := Lib.hid N9
              clear T8 h9 hW8 N8 B8
              go_wp2_with fail
              refine M9.out.mono ?_
              rintro e wa ⟨rfl, ha⟩
              have Na := (ha.block _ gl).trans N9.out
              have E : Hid (Below w.heap.size w wa) := b3.out.trans ((B9.out.trans (ha.mono B9.out.size)).mono b3.out.size)
              have d1 : wa.cell? ⟨w7.heap.size, 1, none⟩ = some (.int .i64 s.op.kind) := one_at Na
              rw [gc2.out] at d1
              clear M9 ha c0 c1 c2 c3 c4 c5 N9 Na B9
              go_wp2_with fail
              go_ret
              exact ⟨rfl, E.out⟩


/-! The row: every input. -/
set_option linter.unusedVariables false
set_option maxRecDepth 100000 in
theorem lifted (os : Os) (started : os.Started) (H : Type) (enc : TypeId × Value → H) :
    ReturnsInHanded {} Try.checked os 4 .any (Rows.planBackSpec.pre6 enc Try.prog Try.f4 Rows.planBackRow.domain false) (Rows.planBackSpec.post enc Try.prog Try.f4 false true false false) := by
  refine returnsInHanded_of_change (C := Try.checked) own started (by kernel_rfl) Try.func4
    (ChangeSpec.witness6 (enc := enc) (C := Try.checked) false ⟨#[], #[.agg #[.int .i64 0, .int .i64 0, .int .i64 0, .int .i64 0, .int .i64 0, .int .i64 0, .int .i64 0]], []⟩ 8 (by kernel_rfl) (by kernel_rfl) (by kernel_rfl) (by kernel_rfl)) ?_
  intro W base args ds gs before hval0 hW _ _
  have hval : ∀ (j : Nat) t v, Try.f4.params[j]? = some t → args[j]? = some v → Value.okWide Try.prog W .any base t v := hval0
  have hW' := hW
  obtain ⟨p, q, hA0, hV, rfl, hfz, hnd⟩ := hW
  have hA : DataW.TrodAll enc Try.prog W 0 (fun _ => true) true Try.f4.params.toList args.toList ds p := hA0
  rw [Try.params4] at hA hval
  obtain ⟨v0, vs0, d0, ds0, p0, q0, hargs, rfl, rfl, h0, r0⟩ := trodAll_cons hA
  obtain ⟨rfl, rfl, rfl⟩ := trodAll_nil r0
  obtain rfl : args = #[v0] := by cases args; simp_all
  obtain ⟨rfl, rfl⟩ := trodVars_none hV
  obtain ⟨x0, rfl⟩ := view_want (hval 0 24 v0 rfl rfl) h0
  clear hA0 hval0
  simp only [List.append_nil] at hW'
  refine (walkd x0 W rfl).mono fun e W' ⟨he, hb⟩ => ?_
  subst he
  exact ⟨_, rfl, post_below (pa := p0 ++ []) (pv := []) hW' (fun _ _ _ => (trodAll_cons_mk (shut_bool Try.underlying4 _) trodAll_mk0)) (fun sp hsp => (trodAll_cons_mk (Trod_stays laidOut (by kernel_rfl) (of_decide_eq_true (by kernel_rfl)) h0 (fun x hx => hb.same (hW'.lt x (by simp [hx]))) (fun x hx => hsp x (by simp [hx]))) trodAll_mk0)) (fun _ _ => rfl) (by simp)
    hb (ok_one (by kernel_rfl) rfl (okWide_bool_mk Try.underlying4 _))⟩

theorem proved : Rows.PlanBackSaid :=
  OpenClaim.holds_of_wide 4 Try.f4 rfl rfl rfl rfl rfl rfl rfl ⟨rfl, rfl, rfl, rfl, rfl⟩ rfl rfl rfl rfl rfl (by kernel_rfl) Try.func4 (by kernel_rfl)
    (of_decide_eq_true (by kernel_rfl)) (by unfold Func.isWrapper; first | (rw [if_pos (by decide +kernel)]; kernel_rfl) | (rw [if_neg (by decide +kernel)]; exact ⟨rfl, rfl⟩))
    (fun os started H enc _ => lifted os started H enc)
#print axioms proved

end Go.Proofs.Ytnljfnhndnkckaa.planBack
