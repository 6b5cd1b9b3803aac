/- Parts; who is asked; the steps of a table that are so. -/
import Derived.Test.YtidfpbnepdjagaaDoorPlC
namespace Go.Proofs.YtidfpbnepdjagaaDoor
set_option maxRecDepth 100000
open Go.RowKit
open Go.Proofs.YtidfpbnepdjagaaDoor.Pk (one_at one_free one_set lt_some grown_set grown_trans below_grown grown_refl)
namespace Pl
open Wt (Wan may Opn mayOp may_any below_drewN)

theorem ri_lt {w : World} {base n g : Nat} {v : Value} {xs : List Value} (h : RowI w base v n xs) (hg : v.ownBlock = some g) : g < w.heap.size := by
  obtain ⟨_, cur, hc⟩ := ri_block h hg
  exact lt_some hc
set_option maxHeartbeats 1600000 in
theorem parts_any (w : World) (x : Wan) : Calls Tryd.prog 86 #[wanv x] w (NumsTo w (parts x)) := by
  obtain ⟨W0, hW0⟩ : ∃ W0, W0 = w.alloc (.cells #[.int .i64 x.book, .int .i64 x.cust, .int .i64 x.dead, .int .i64 x.u0, .int .i64 x.u1, .int .i64 x.u2, .int .i64 x.price] 26) := ⟨_, rfl⟩
  have B0 : BoxW W0 w.heap.size x := by rw [hW0]; exact heap_alloc_new _ _
  have be0 : Hid (Below w.heap.size w W0) := by rw [hW0]; exact (Below.refl _ w).alloc (Nat.le_refl _) _
  have M := Lib.hid (may_any W0 x)
  obtain ⟨c0, c1, c2, c3, c4, c5, c6⟩ := B0.cells
  unfold wanv
  replace hW0 := Lib.hid hW0
  replace B0 := Lib.hid B0
  go_enter Tryd.func86, Tryd.ntmps86
  go_wp2_with fail
  rw [← hW0.out]
  go_wp2_with fail
  refine M.out.mono ?_
  rintro e w1 ⟨rfl, h1⟩
  have G1 := B0.out.below h1 B0.out.lt
  have hx : ∀ (b : Bool), Calls Tryd.prog 89 #[.slice (some ⟨w1.heap.size + 1, 0, none⟩) 3 3, .func (.func 90) #[] #[.pointer (some ⟨w1.heap.size, 0, none⟩), .pointer (some ⟨w.heap.size, 0, none⟩)]] ((w1.alloc (.cells #[.bool b] 4)).alloc (.cells #[.int .i64 0, .int .i64 1, .int .i64 2] 3)) (NumsTo w (three.filter fun i => b && decide (0 < un x i))) := fun b => by
    have N0 : ((w1.alloc (.cells #[.bool b] 4)).alloc (.cells #[.int .i64 0, .int .i64 1, .int .i64 2] 3)).heap[w1.heap.size]? = some (.cells #[.bool b] 4 (0, 0)) := heap_alloc2_old _ _ _
    have N1 : ((w1.alloc (.cells #[.bool b] 4)).alloc (.cells #[.int .i64 0, .int .i64 1, .int .i64 2] 3)).heap[w1.heap.size + 1]? = some (.cells #[.int .i64 0, .int .i64 1, .int .i64 2] 3 (0, 0)) := by
      have := heap_alloc_new (w1.alloc (.cells #[.bool b] 4)) (.cells #[.int .i64 0, .int .i64 1, .int .i64 2] 3)
      rwa [show (w1.alloc (.cells #[.bool b] 4)).heap.size = w1.heap.size + 1 by simp] at this
    have bb : Below w1.heap.size w1 ((w1.alloc (.cells #[.bool b] 4)).alloc (.cells #[.int .i64 0, .int .i64 1, .int .i64 2] 3)) := ((Below.refl _ w1).alloc (Nat.le_refl _) _).alloc (by simp) _
    have Bw := be0.out.trans ((h1.trans (bb.mono h1.size)).mono be0.out.size)
    refine (nums_any _ (w1.heap.size + 1) w1.heap.size w.heap.size x b N1 (one_at N0) (G1.below bb G1.lt)).mono ?_
    rintro e w2 ⟨v, rfl, hr, hb⟩
    exact ⟨v, rfl, ri_mono hr Bw.size, Bw.trans (hb.mono Bw.size)⟩
  have H := Lib.hid (hx (may x))
  rw [show (three.filter fun i => may x && decide (0 < un x i)) = parts x from rfl] at H
  clear M G1 hx h1 c0 c1 c2 c3 c4 c5 c6 B0 hW0 be0
  generalize may x = b at *
  go_wp2_with fail
  refine H.out.mono ?_
  rintro e w2 ⟨v, rfl, hr, hb⟩
  have E : Hid (NumsTo w (parts x) (.returned v) w2) := ⟨v, rfl, hr, hb⟩
  clear H hr hb
  go_wp2_with fail
  go_ret
  exact E.out
/-- The closure that tells who is asked: its box is at b. -/
structure Asker (w : World) (base b : Nat) (l : List Int) : Prop where
  ex : ∃ v, w.cell? ⟨b, 0, none⟩ = some v ∧ RowI w base v l.length (ivs l)
  few : l.length ≤ 4
theorem Asker.below {w w' : World} {base b : Nat} {l : List Int} (h : Asker w base b l) (hb : Below w.heap.size w w') : Asker w' base b l := by
  obtain ⟨v, h1, h2⟩ := h.ex
  exact ⟨⟨v, (World.cell?_of_block (hb.block b (block_lt_of_cell h1))).trans h1, ri_below h2 hb⟩, h.few⟩
theorem Asker.mono {w : World} {base base' b : Nat} {l : List Int} (h : Asker w base b l) (hb : base' ≤ base) : Asker w base' b l := by
  obtain ⟨v, h1, h2⟩ := h.ex
  exact ⟨⟨v, h1, ri_mono h2 hb⟩, h.few⟩
set_option maxHeartbeats 800000 in
theorem askClo_any (w : World) (base b : Nat) (l : List Int) (h : Asker w base b l) (s : Stp) : Calls Tryd.prog 87 #[spv s, .pointer (some ⟨b, 0, none⟩)] w fun e w' => e = .returned (.bool (l.contains s.node)) ∧ Below w.heap.size w w' := by
  obtain ⟨W0, hW0⟩ : ∃ W0, W0 = w.alloc (.cells #[.int .i64 s.node, .int .i64 s.op.kind, .int .i64 s.op.book, .int .i64 s.op.units, .int .i64 s.op.cust, .int .i64 s.op.amount] 118) := ⟨_, rfl⟩
  have be0 : Below w.heap.size w W0 := by rw [hW0]; exact (Below.refl _ w).alloc (Nat.le_refl _) _
  have few := h.few
  obtain ⟨v, h1, h2⟩ := (h.below be0).ex
  obtain ⟨A, c, rfl, -⟩ := ri_form h2
  have C := contains_any W0 A l.length c l s.node base h2 (by omega)
  generalize l.contains s.node = q at *
  replace C := Lib.hid C
  rw [hW0] at h1
  replace hW0 := Lib.hid hW0
  replace be0 := Lib.hid be0
  clear h h2 few
  unfold spv
  go_enter Tryd.func87, Tryd.ntmps87
  go_wp2_with fail
  rw [← hW0.out]
  refine C.out.mono ?_
  rintro e w1 ⟨rfl, rfl⟩
  clear C hW0
  go_wp2_with fail
  go_ret
  exact ⟨rfl, be0.out⟩
/-- What isAsked leaves. -/
def AskTo (w : World) (l : List Int) (e : Ending) (w' : World) : Prop := ∃ b, e = .returned (.func (.func 87) #[] #[.pointer (some ⟨b, 0, none⟩)]) ∧ Asker w' w.heap.size b l ∧ Below w.heap.size w w'
set_option maxHeartbeats 1600000 in
theorem isAsked_any (w : World) (x : Wan) : Calls Tryd.prog 84 #[wanv x] w (AskTo w (nodes x)) := by
  obtain ⟨W0, hW0⟩ : ∃ W0, W0 = w.alloc (.cells #[.int .i64 x.book, .int .i64 x.cust, .int .i64 x.dead, .int .i64 x.u0, .int .i64 x.u1, .int .i64 x.u2, .int .i64 x.price] 26) := ⟨_, rfl⟩
  have B0 : BoxW W0 w.heap.size x := by rw [hW0]; exact heap_alloc_new _ _
  have be0 : Below w.heap.size w W0 := by rw [hW0]; exact (Below.refl _ w).alloc (Nat.le_refl _) _
  have M := parts_any W0 x
  unfold wanv at *
  obtain ⟨c0, c1, c2, c3, c4, c5, c6⟩ := B0.cells
  replace hW0 := Lib.hid hW0
  have few := parts_len x
  have hn : Hid (nodes x = if parts x = [] then [] else parts x ++ [3]) := rfl
  replace M := Lib.hid M
  clear B0
  go_enter Tryd.func84, Tryd.ntmps84
  go_wp2_with fail
  rw [← hW0.out]
  go_wp2_with fail
  refine M.out.mono ?_
  rintro e w1 ⟨v, rfl, hr, hb⟩
  clear M hW0 c0 c1 c2 c3 c4 c5 c6
  generalize parts x = l at *
  generalize nodes x = nl at *
  have hr0 := ri_mono hr be0.size
  have b1 : Below w.heap.size w w1 := be0.trans (hb.mono be0.size)
  obtain ⟨A, c, rfl, -⟩ := ri_form hr0
  generalize hnl : l.length = n at *
  obtain ⟨W1, hW1⟩ : ∃ W1, W1 = w1.alloc (.cells #[.slice A n c] 111) := ⟨_, rfl⟩
  have q1 : W1.cell? ⟨w1.heap.size, 0, none⟩ = some (.slice A n c) := by rw [hW1]; exact one_at (heap_alloc_new _ _)
  have f1 : W1.frozen? ⟨w1.heap.size, 0, none⟩ = false := by rw [hW1]; exact one_free (heap_alloc_new _ _)
  have s1 : W1.heap.size = w1.heap.size + 1 := by rw [hW1]; simp
  have bb : Below w1.heap.size w1 W1 := by rw [hW1]; exact (Below.refl _ w1).alloc (Nat.le_refl _) _
  have R1 := ri_below hr0 bb
  have b2 : Below w.heap.size w W1 := b1.trans (bb.mono b1.size)
  have hlr : ∀ j, (Value.slice A n c).ownBlock = some j → w.heap.size ≤ j ∧ j < w1.heap.size := fun j hj => ⟨(ri_block hr0 hj).1, ri_lt hr0 hj⟩
  replace hW1 := Lib.hid hW1
  replace b1 := Lib.hid b1
  clear hr hb be0 hr0
  by_cases hl : l = []
  · have i1 : ¬ 0 < (n : Int) := by rw [← hnl, hl]; simp
    have E : Hid (AskTo w nl (.returned (.func (.func 87) #[] #[.pointer (some ⟨w1.heap.size, 0, none⟩)])) W1) := by
      replace hn := hn.out
      rw [if_pos hl] at hn
      have e0 : n = 0 := by rw [← hnl, hl]; rfl
      rw [e0] at q1 R1
      rw [hl] at R1
      rw [hn]
      exact ⟨_, rfl, ⟨⟨_, q1, R1⟩, by simp⟩, b2⟩
    clear R1 b2 hlr hn hl few b1 hnl
    go_wp2_with fail
    rw [← hW1.out]
    go_wp2_with fail
    go_ret
    exact E.out
  · have i1 : 0 < (n : Int) := by
      have : n ≠ 0 := fun h => hl (List.eq_nil_of_length_eq_zero (hnl.trans h))
      omega
    obtain ⟨W2, hW2⟩ : ∃ W2, W2 = W1.alloc (.cells #[.int .i64 3] 3) := ⟨_, rfl⟩
    have b3 : Below W1.heap.size W1 W2 := by rw [hW2]; exact (Below.refl _ _).alloc (Nat.le_refl _) _
    obtain ⟨A2, c2, w2, r2, R2, g2, h2⟩ := ri_app1 W2 w.heap.size _ n l (ri_below R1 b3) 3 W1.heap.size (by rw [hW2]; exact heap_alloc_new _ _) (by omega) (Nat.le_trans b2.size b3.size)
    have s3 : W1.heap.size < W2.heap.size := by rw [hW2]; simp
    have hne : some w1.heap.size ≠ (Value.slice A n c).ownBlock := fun e => by
      have := (hlr _ e.symm).2
      omega
    have q2 : w2.heap[w1.heap.size]? = W1.heap[w1.heap.size]? := (g2.block _ (by omega) hne).trans (b3.block _ (by omega))
    have q3 : w2.cell? ⟨w1.heap.size, 0, none⟩ = some (.slice A n c) := (World.cell?_of_block q2).trans q1
    have f3 : w2.frozen? ⟨w1.heap.size, 0, none⟩ = false := by
      rw [← f1]
      unfold World.frozen?
      rw [q2]
    have l2 : w1.heap.size < w2.heap.size := by have := g2.size; omega
    obtain ⟨W3, hW3⟩ : ∃ W3, W3 = w2.setCell ⟨w1.heap.size, 0, none⟩ (.slice A2 (n + 1) c2) := ⟨_, rfl⟩
    have E : Hid (AskTo w nl (.returned (.func (.func 87) #[] #[.pointer (some ⟨w1.heap.size, 0, none⟩)])) W3) := by
      replace hn := hn.out
      rw [if_neg hl] at hn
      have gs := grown_set w2 w1.heap.size 0 (.slice A2 (n + 1) c2)
      rw [← hW3] at gs
      have z : W3.cell? ⟨w1.heap.size, 0, none⟩ = some (.slice A2 (n + 1) c2) := by
        have hb2 : w2.heap[w1.heap.size]? = some (.cells #[.slice A n c] 111 (0, 0)) := by rw [q2, Hid.out hW1]; exact heap_alloc_new _ _
        rw [hW3, one_at (one_set hb2 _)]
        rfl
      have rk : RowI W3 w.heap.size (.slice A2 (n + 1) c2) (n + 1) (ivs (l ++ [3])) := ri_same R2 fun j hj => gs.block j (ri_lt R2 hj) fun e => by
        injection e with e
        subst e
        rcases h2 with h | h
        · exact hne (by rw [← h, hj])
        · rw [hj] at h
          injection h with h
          omega
      rw [hn]
      refine ⟨_, rfl, ⟨⟨_, z, by rw [List.length_append, hnl]; exact rk⟩, by rw [List.length_append, hnl]; simp; omega⟩, ?_⟩
      have bA : Below w.heap.size W1 w2 := (b3.mono b2.size).trans (below_of_grown g2 (Nat.le_trans b2.size b3.size) fun j hj => (hlr j hj).1)
      exact (b2.trans bA).trans (below_of_grown gs (by have := (b2.trans bA).size; exact this) fun j hj => by injection hj with hj; have := b1.out.size; omega)
    rw [hW2, s1, hW1.out] at r2
    replace hW3 := Lib.hid hW3
    clear R1 b2 hlr hn hl hnl few b1 hW2 b3 R2 g2 h2 hne q2 s3
    go_wp2_with (first
      | (at_builtin; refine wpList_run_app rfl (.tmp 9) (.tmp 10) rfl rfl _ _ rfl rfl r2 ?_)
      | go_in)
    rw [← hW3.out]
    go_wp2_with fail
    go_ret
    exact E.out
end Pl
end Go.Proofs.YtidfpbnepdjagaaDoor
