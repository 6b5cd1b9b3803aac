/- Parts of the claim: PlD, PlE, PlF, PlG -/
import Derived.Laws.ResultCell
import Derived.Test.YtpkdigegkemogaaGreatDoorPlXaT
namespace Go.Proofs.YtpkdigegkemogaaGreatDoor
set_option maxRecDepth 100000
open Go.RowKit
open Go.Proofs.YtpkdigegkemogaaGreatDoor.Pk (one_at one_free one_set lt_some grown_set grown_trans grown_refl)
namespace Pl
open Wt (Wan may Opn mayOp may_any below_drewN)

theorem ri_lt {w : World} {base n g : Nat} {v : Value} {xs : List Value} (h : RowI w base v n xs) (hg : v.ownBlock = some g) : g < w.heap.size := by
  obtain ⟨_, cur, hc⟩ := ri_block h hg
  exact lt_some hc
set_option maxHeartbeats 1600000 in
theorem parts_any (w : World) (x : Wan) : Calls Tryz.prog 171 #[wanv x] w (NumsTo w (parts x)) := by
  obtain ⟨W0, hW0⟩ : ∃ W0, W0 = w.alloc (.cells #[.int .i64 x.book, .int .i64 x.cust, .int .i64 x.dead, .int .i64 x.u0, .int .i64 x.u1, .int .i64 x.u2, .int .i64 x.price] 55) := ⟨_, rfl⟩
  have B0 : BoxW W0 w.heap.size x := by rw [hW0]; exact heap_alloc_new _ _
  have be0 : Hid (Below w.heap.size w W0) := by rw [hW0]; exact (Below.refl _ w).alloc (Nat.le_refl _) _
  have M := Lib.hid (may_any W0 x)
  obtain ⟨c0, c1, c2, c3, c4, c5, c6⟩ := B0.cells
  unfold wanv
  replace hW0 := Lib.hid hW0
  replace B0 := Lib.hid B0
  go_enter Tryz.func171, Tryz.ntmps171
  go_wp2_with fail
  rw [← hW0.out]
  go_wp2_with fail
  refine M.out.mono ?_
  rintro e w1 ⟨rfl, h1⟩
  have G1 := B0.out.below h1 B0.out.lt
  have hx : ∀ (b : Bool), Calls Tryz.prog 181 #[.slice (some ⟨w1.heap.size + 1, 0, none⟩) 3 3, .func (.func 182) #[] #[.pointer (some ⟨w1.heap.size, 0, none⟩), .pointer (some ⟨w.heap.size, 0, none⟩)]] ((w1.alloc (.cells #[.bool b] 4)).alloc (.cells #[.int .i64 0, .int .i64 1, .int .i64 2] 3)) (NumsTo w (three.filter fun i => b && decide (0 < un x i))) := fun b => by
    have N0 : ((w1.alloc (.cells #[.bool b] 4)).alloc (.cells #[.int .i64 0, .int .i64 1, .int .i64 2] 3)).heap[w1.heap.size]? = some (.cells #[.bool b] 4 (0, 0)) := heap_alloc2_old _ _ _
    have N1 : ((w1.alloc (.cells #[.bool b] 4)).alloc (.cells #[.int .i64 0, .int .i64 1, .int .i64 2] 3)).heap[w1.heap.size + 1]? = some (.cells #[.int .i64 0, .int .i64 1, .int .i64 2] 3 (0, 0)) := by
      have := heap_alloc_new (w1.alloc (.cells #[.bool b] 4)) (.cells #[.int .i64 0, .int .i64 1, .int .i64 2] 3)
      rwa [show (w1.alloc (.cells #[.bool b] 4)).heap.size = w1.heap.size + 1 by simp] at this
    have bb : Below w1.heap.size w1 ((w1.alloc (.cells #[.bool b] 4)).alloc (.cells #[.int .i64 0, .int .i64 1, .int .i64 2] 3)) := ((Below.refl _ w1).alloc (Nat.le_refl _) _).alloc (by simp) _
    have Bw := be0.out.trans ((h1.trans (bb.mono h1.size)).mono be0.out.size)
    refine (nums_any _ (w1.heap.size + 1) w1.heap.size w.heap.size x b N1 (one_at N0) (G1.below bb G1.lt)).mono ?_
    rintro e w2 ⟨v, rfl, hr, hb⟩
    exact ⟨v, rfl, ri_mono hr Bw.size, Bw.trans (hb.mono Bw.size)⟩
  have H := Lib.hid (hx (may x))
  rw [show (three.filter fun i => may x && decide (0 < un x i)) = parts x from rfl] at H
  clear M G1 hx h1 c0 c1 c2 c3 c4 c5 c6 B0 hW0 be0
  generalize may x = b at *
  go_wp2_with fail
  refine H.out.mono ?_
  rintro e w2 ⟨v, rfl, hr, hb⟩
  have E : Hid (NumsTo w (parts x) (.returned v) w2) := ⟨v, rfl, hr, hb⟩
  clear H hr hb
  go_wp2_with fail
  go_ret
  exact E.out
structure Asker (w : World) (base b : Nat) (l : List Int) : Prop where
  ex : ∃ v, w.cell? ⟨b, 0, none⟩ = some v ∧ RowI w base v l.length (ivs l)
  few : l.length ≤ 4
theorem Asker.below {w w' : World} {base b : Nat} {l : List Int} (h : Asker w base b l) (hb : Below w.heap.size w w') : Asker w' base b l := by
  obtain ⟨v, h1, h2⟩ := h.ex
  exact ⟨⟨v, (World.cell?_of_block (hb.block b (block_lt_of_cell h1))).trans h1, ri_below h2 hb⟩, h.few⟩
theorem Asker.mono {w : World} {base base' b : Nat} {l : List Int} (h : Asker w base b l) (hb : base' ≤ base) : Asker w base' b l := by
  obtain ⟨v, h1, h2⟩ := h.ex
  exact ⟨⟨v, h1, ri_mono h2 hb⟩, h.few⟩
set_option maxHeartbeats 800000 in
theorem askClo_any (w : World) (base b : Nat) (l : List Int) (h : Asker w base b l) (s : Stp) : Calls Tryz.prog 172 #[spv s, .pointer (some ⟨b, 0, none⟩)] w fun e w' => e = .returned (.bool (l.contains s.node)) ∧ Below w.heap.size w w' := by
  obtain ⟨W0, hW0⟩ : ∃ W0, W0 = w.alloc (.cells #[.int .i64 s.node, .int .i64 s.op.kind, .int .i64 s.op.book, .int .i64 s.op.units, .int .i64 s.op.cust, .int .i64 s.op.amount] 181) := ⟨_, rfl⟩
  have be0 : Below w.heap.size w W0 := by rw [hW0]; exact (Below.refl _ w).alloc (Nat.le_refl _) _
  have few := h.few
  obtain ⟨v, h1, h2⟩ := (h.below be0).ex
  obtain ⟨A, c, rfl, -⟩ := ri_form h2
  have C := contains_any W0 A l.length c l s.node base h2 (by omega)
  generalize l.contains s.node = q at *
  replace C := Lib.hid C
  rw [hW0] at h1
  replace hW0 := Lib.hid hW0
  replace be0 := Lib.hid be0
  clear h h2 few
  unfold spv
  go_enter Tryz.func172, Tryz.ntmps172
  go_wp2_with fail
  rw [← hW0.out]
  refine C.out.mono ?_
  rintro e w1 ⟨rfl, rfl⟩
  clear C hW0
  go_wp2_with fail
  go_ret
  exact ⟨rfl, be0.out⟩
def AskTo (w : World) (l : List Int) (e : Ending) (w' : World) : Prop := ∃ b, e = .returned (.func (.func 172) #[] #[.pointer (some ⟨b, 0, none⟩)]) ∧ Asker w' w.heap.size b l ∧ Below w.heap.size w w'
set_option maxHeartbeats 1600000 in
theorem isAsked_any (w : World) (x : Wan) : Calls Tryz.prog 153 #[wanv x] w (AskTo w (nodes x)) := by
  obtain ⟨W0, hW0⟩ : ∃ W0, W0 = w.alloc (.cells #[.int .i64 x.book, .int .i64 x.cust, .int .i64 x.dead, .int .i64 x.u0, .int .i64 x.u1, .int .i64 x.u2, .int .i64 x.price] 55) := ⟨_, rfl⟩
  have B0 : BoxW W0 w.heap.size x := by rw [hW0]; exact heap_alloc_new _ _
  have be0 : Below w.heap.size w W0 := by rw [hW0]; exact (Below.refl _ w).alloc (Nat.le_refl _) _
  have M := parts_any W0 x
  unfold wanv at *
  obtain ⟨c0, c1, c2, c3, c4, c5, c6⟩ := B0.cells
  replace hW0 := Lib.hid hW0
  have few := parts_len x
  have hn : Hid (nodes x = if parts x = [] then [] else parts x ++ [3]) := rfl
  replace M := Lib.hid M
  clear B0
  go_enter Tryz.func153, Tryz.ntmps153
  go_wp2_with fail
  rw [← hW0.out]
  go_wp2_with fail
  refine M.out.mono ?_
  rintro e w1 ⟨v, rfl, hr, hb⟩
  clear M hW0 c0 c1 c2 c3 c4 c5 c6
  generalize parts x = l at *
  generalize nodes x = nl at *
  have hr0 := ri_mono hr be0.size
  have b1 : Below w.heap.size w w1 := be0.trans (hb.mono be0.size)
  obtain ⟨A, c, rfl, -⟩ := ri_form hr0
  generalize hnl : l.length = n at *
  obtain ⟨W1, hW1⟩ : ∃ W1, W1 = w1.alloc (.cells #[.slice A n c] 22) := ⟨_, rfl⟩
  have q1 : W1.cell? ⟨w1.heap.size, 0, none⟩ = some (.slice A n c) := by rw [hW1]; exact one_at (heap_alloc_new _ _)
  have f1 : W1.frozen? ⟨w1.heap.size, 0, none⟩ = false := by rw [hW1]; exact one_free (heap_alloc_new _ _)
  have s1 : W1.heap.size = w1.heap.size + 1 := by rw [hW1]; simp
  have bb : Below w1.heap.size w1 W1 := by rw [hW1]; exact (Below.refl _ w1).alloc (Nat.le_refl _) _
  have R1 := ri_below hr0 bb
  have b2 : Below w.heap.size w W1 := b1.trans (bb.mono b1.size)
  have hlr : ∀ j, (Value.slice A n c).ownBlock = some j → w.heap.size ≤ j ∧ j < w1.heap.size := fun j hj => ⟨(ri_block hr0 hj).1, ri_lt hr0 hj⟩
  replace hW1 := Lib.hid hW1
  replace b1 := Lib.hid b1
  clear hr hb be0 hr0
  by_cases hl : l = []
  · have i1 : ¬ 0 < (n : Int) := by rw [← hnl, hl]; simp
    have E : Hid (AskTo w nl (.returned (.func (.func 172) #[] #[.pointer (some ⟨w1.heap.size, 0, none⟩)])) W1) := by
      replace hn := hn.out
      rw [if_pos hl] at hn
      have e0 : n = 0 := by rw [← hnl, hl]; rfl
      rw [e0] at q1 R1
      rw [hl] at R1
      rw [hn]
      exact ⟨_, rfl, ⟨⟨_, q1, R1⟩, by simp⟩, b2⟩
    clear R1 b2 hlr hn hl few b1 hnl
    go_wp2_with fail
    rw [← hW1.out]
    go_wp2_with fail
    go_ret
    exact E.out
  · have i1 : 0 < (n : Int) := by
      have : n ≠ 0 := fun h => hl (List.eq_nil_of_length_eq_zero (hnl.trans h))
      omega
    obtain ⟨W2, hW2⟩ : ∃ W2, W2 = W1.alloc (.cells #[.int .i64 3] 3) := ⟨_, rfl⟩
    have b3 : Below W1.heap.size W1 W2 := by rw [hW2]; exact (Below.refl _ _).alloc (Nat.le_refl _) _
    obtain ⟨A2, c2, w2, r2, R2, g2, h2⟩ := ri_app1 W2 w.heap.size _ n l (ri_below R1 b3) 3 W1.heap.size (by rw [hW2]; exact heap_alloc_new _ _) (by omega) (Nat.le_trans b2.size b3.size)
    have s3 : W1.heap.size < W2.heap.size := by rw [hW2]; simp
    have hne : some w1.heap.size ≠ (Value.slice A n c).ownBlock := fun e => by
      have := (hlr _ e.symm).2
      omega
    have q2 : w2.heap[w1.heap.size]? = W1.heap[w1.heap.size]? := (g2.block _ (by omega) hne).trans (b3.block _ (by omega))
    have q3 : w2.cell? ⟨w1.heap.size, 0, none⟩ = some (.slice A n c) := (World.cell?_of_block q2).trans q1
    have f3 : w2.frozen? ⟨w1.heap.size, 0, none⟩ = false := by
      rw [← f1]
      unfold World.frozen?
      rw [q2]
    have l2 : w1.heap.size < w2.heap.size := by have := g2.size; omega
    obtain ⟨W3, hW3⟩ : ∃ W3, W3 = w2.setCell ⟨w1.heap.size, 0, none⟩ (.slice A2 (n + 1) c2) := ⟨_, rfl⟩
    have E : Hid (AskTo w nl (.returned (.func (.func 172) #[] #[.pointer (some ⟨w1.heap.size, 0, none⟩)])) W3) := by
      replace hn := hn.out
      rw [if_neg hl] at hn
      have gs := grown_set w2 w1.heap.size 0 (.slice A2 (n + 1) c2)
      rw [← hW3] at gs
      have z : W3.cell? ⟨w1.heap.size, 0, none⟩ = some (.slice A2 (n + 1) c2) := by
        have hb2 : w2.heap[w1.heap.size]? = some (.cells #[.slice A n c] 22 (0, 0)) := by rw [q2, Hid.out hW1]; exact heap_alloc_new _ _
        rw [hW3, one_at (one_set hb2 _)]
        rfl
      have rk : RowI W3 w.heap.size (.slice A2 (n + 1) c2) (n + 1) (ivs (l ++ [3])) := ri_same R2 fun j hj => gs.block j (ri_lt R2 hj) fun e => by
        injection e with e
        subst e
        rcases h2 with h | h
        · exact hne (by rw [← h, hj])
        · rw [hj] at h
          injection h with h
          omega
      rw [hn]
      refine ⟨_, rfl, ⟨⟨_, z, by rw [List.length_append, hnl]; exact rk⟩, by rw [List.length_append, hnl]; simp; omega⟩, ?_⟩
      have bA : Below w.heap.size W1 w2 := (b3.mono b2.size).trans (below_of_grown g2 (Nat.le_trans b2.size b3.size) fun j hj => (hlr j hj).1)
      exact (b2.trans bA).trans (below_of_grown gs (by have := (b2.trans bA).size; exact this) fun j hj => by injection hj with hj; have := b1.out.size; omega)
    rw [hW2, s1, hW1.out] at r2
    replace hW3 := Lib.hid hW3
    clear R1 b2 hlr hn hl hnl few b1 hW2 b3 R2 g2 h2 hne q2 s3
    go_wp2_with (first
      | (at_builtin; refine wpList_run_app rfl (.tmp 9) (.tmp 10) rfl rfl _ _ rfl rfl r2 ?_)
      | go_in)
    rw [← hW3.out]
    go_wp2_with fail
    go_ret
    exact E.out
end Pl
end Go.Proofs.YtpkdigegkemogaaGreatDoor
namespace Go.Proofs.YtpkdigegkemogaaGreatDoor
set_option maxRecDepth 100000
open Go.RowKit
open Go.Proofs.YtpkdigegkemogaaGreatDoor.Pk (one_at one_free one_set lt_some grown_set grown_trans grown_refl)
namespace Pl
open Wt (Wan may Opn mayOp may_any below_drewN)

def StpsTo (t : TypeId) (w : World) (l : List Stp) (e : Ending) (w' : World) : Prop := ∃ v, e = .returned v ∧ RowT t w' w.heap.size v l.length l ∧ Below w.heap.size w w'
def SpAt (w : World) (ss : List Stp) (p : Stp → Bool) (v i : Value) (wr : World) : Prop := ∃ (k : Nat) (l : List Stp), i = .int .i64 k ∧ k ≤ ss.length ∧ RowT 181 wr w.heap.size v l.length l ∧ l = (ss.take k).filter p ∧ Below w.heap.size w wr
set_option maxHeartbeats 3200000 in
theorem those_any (w : World) (t n base b : Nat) (ss : List Stp) (hn : ss.length = n) (few : n ≤ 7) (ht : w.heap[t]? = some (.cells (fls ss).toArray 181 (0, 0))) (l0 : List Int) (h : Asker w base b l0) :
    Calls Tryz.prog 152 #[.slice (some ⟨t, 0, none⟩) n n, .func (.func 172) #[] #[.pointer (some ⟨b, 0, none⟩)]] w (StpsTo 181 w (ss.filter fun s => l0.contains s.node)) := by
  have st : Hid (SpAt w ss (fun s => l0.contains s.node) (.slice none 0 0) (.int .i64 0) w) := ⟨0, [], rfl, Nat.zero_le _, World.ownsRow_nil _ _ _ _, rfl, Below.refl _ _⟩
  have htl := lt_some ht
  have CL : Hid (∀ w' s, Below w.heap.size w w' → Calls Tryz.prog 172 #[spv s, .pointer (some ⟨b, 0, none⟩)] w' fun e w'' => e = .returned (.bool (l0.contains s.node)) ∧ Below w'.heap.size w' w'') := fun w' s hb => askClo_any w' base b l0 (h.below hb) s
  have TC : Hid (∀ w' k s, Below w.heap.size w w' → ss[k]? = some s → At w' t k s) := fun w' k s hb hk => by
    have hh : w'.heap[t]? = some (.cells (fls ss).toArray 181 (0, 0)) := (hb.block t htl).trans ht
    refine at_row (l := ss) (m := n) hh ?_ hk (by rw [← hn]; exact (List.getElem?_eq_some_iff.1 hk).1)
    rw [← hn]
    exact List.take_of_length_le (by simp [fls_len])
  generalize hq : (fun s : Stp => l0.contains s.node) = q at *
  have Q : ∀ s : Stp, l0.contains s.node = q s := fun s => by rw [← hq]
  simp only [Q] at CL
  replace hn := Lib.hid hn
  clear ht h Q hq
  go_enter Tryz.func152, Tryz.ntmps152
  go_wp2_with fail
  go_loopw [5, 10] (fun v i wr => SpAt w ss q v i wr) (fun _ i _ => n - (intOf i).toNat)
  case atStart => exact st.out
  case round =>
    clear st
    obtain ⟨k, l, rfl, hk, hrow, hl, hb⟩ := hrel
    replace hk : k ≤ n := by have := hn.out; omega
    obtain ⟨A, c, rfl, hc1, hc2, hc3⟩ := rt_form hrow
    by_cases hlt : k < n
    · obtain ⟨s, hi⟩ : ∃ s, ss[k]? = some s := ⟨_, List.getElem?_eq_getElem (by have := hn.out; omega)⟩
      obtain ⟨e0, e1, e2, e3, e4, e5⟩ := TC.out wr k s hb hi
      have i1 : (k : Int) < (n : Int) := by omega
      have i2 : (0 : Int) ≤ (k : Int) := by omega
      have hkl : k + 1 ≤ ss.length := by have := hn.out; omega
      have fw : l.length ≤ 7 := by rw [hl]; exact Nat.le_trans (List.length_filter_le ..) (by rw [List.length_take]; omega)
      obtain ⟨W1, hW1⟩ : ∃ W1, W1 = wr.alloc (.cells #[.int .i64 s.node, .int .i64 s.op.kind, .int .i64 s.op.book, .int .i64 s.op.units, .int .i64 s.op.cust, .int .i64 s.op.amount] 181) := ⟨_, rfl⟩
      have H1 : W1.heap[wr.heap.size]? = some (.cells #[.int .i64 s.node, .int .i64 s.op.kind, .int .i64 s.op.book, .int .i64 s.op.units, .int .i64 s.op.cust, .int .i64 s.op.amount] 181 (0, 0)) := by rw [hW1]; exact heap_alloc_new _ _
      have bW : Below wr.heap.size wr W1 := by rw [hW1]; exact (Below.refl _ _).alloc (Nat.le_refl _) _
      have b1 : Below w.heap.size w W1 := hb.trans (bW.mono hb.size)
      have r1 : RowT 181 W1 w.heap.size (.slice A l.length c) l.length l := rt_below hrow bW
      have C := CL.out W1 s b1
      unfold spv at C
      replace C := Lib.hid C
      replace hW1 := Lib.hid hW1
      replace b1 := Lib.hid b1
      replace r1 := Lib.hid r1
      replace hi := Lib.hid hi
      replace hl := Lib.hid hl
      have nl : Hid (wr.heap.size < W1.heap.size) := lt_some H1
      clear hrow hb bW
      go_wp2_with fail
      rw [← hW1.out]
      refine C.out.mono ?_
      rintro e w2 ⟨rfl, h2⟩
      clear C e0 e1 e2 e3 e4 e5
      have H2 : w2.heap[wr.heap.size]? = _ := (h2.block _ nl.out).trans H1
      have e0 : w2.cell? ⟨wr.heap.size, 0, none⟩ = some (.int .i64 s.node) := one_at (i := 0) H2
      have e1 : w2.cell? ⟨wr.heap.size, 1, none⟩ = some (.int .i64 s.op.kind) := one_at (i := 1) H2
      have e2 : w2.cell? ⟨wr.heap.size, 2, none⟩ = some (.int .i64 s.op.book) := one_at (i := 2) H2
      have e3 : w2.cell? ⟨wr.heap.size, 3, none⟩ = some (.int .i64 s.op.units) := one_at (i := 3) H2
      have e4 : w2.cell? ⟨wr.heap.size, 4, none⟩ = some (.int .i64 s.op.cust) := one_at (i := 4) H2
      have e5 : w2.cell? ⟨wr.heap.size, 5, none⟩ = some (.int .i64 s.op.amount) := one_at (i := 5) H2
      have rl : wr.heap.size < w2.heap.size := Nat.lt_of_lt_of_le nl.out h2.size
      have b2 : Below w.heap.size w w2 := b1.out.trans (h2.mono b1.out.size)
      have r2 := rt_below r1.out h2
      clear H1 H2 h2 b1 r1 nl hW1
      have bs := b2.size
      cases hp : q s with
      | true =>
        have ba : Below w2.heap.size w2 (w2.alloc (.cells #[.int .i64 s.node, .int .i64 s.op.kind, .int .i64 s.op.book, .int .i64 s.op.units, .int .i64 s.op.cust, .int .i64 s.op.amount] 181)) := (Below.refl _ _).alloc (Nat.le_refl _) _
        obtain ⟨A3, c3, w3, r3, R3, g3, h3⟩ := row_app1 asks_append ask_info (w2.alloc (.cells #[.int .i64 s.node, .int .i64 s.op.kind, .int .i64 s.op.book, .int .i64 s.op.units, .int .i64 s.op.cust, .int .i64 s.op.amount] 181)) w.heap.size _ l.length l (rt_below r2 ba) s w2.heap.size (heap_alloc_new _ _) (by omega) (Nat.le_trans bs ba.size)
        have nx : Hid (SpAt w ss q (.slice A3 (l.length + 1) c3) (.int .i64 ((k : Int) + 1)) w3) := by
          refine ⟨k + 1, l ++ [s], by simp, hkl, by rw [List.length_append]; exact R3, by rw [fil_next hi.out hp, ← hl.out], ?_⟩
          exact (b2.trans (ba.mono bs)).trans (below_of_grown g3 (Nat.le_trans bs ba.size) fun j hj => (rt_block r2 hj).1)
        clear r2 b2 bs R3 g3 h3 ba hp hi hl
        go_wp2_with (first
          | (at_builtin; refine wpList_run_app rfl (.tmp 17) (.tmp 19) rfl rfl _ _ rfl rfl r3 ?_)
          | go_in)
        exact ⟨nx.out, by simp [intOf]; omega⟩
      | false =>
        have nx : Hid (SpAt w ss q (.slice A l.length c) (.int .i64 ((k : Int) + 1)) w2) := ⟨k + 1, l, by simp, hkl, r2, by rw [fil_same hi.out hp, ← hl.out], b2⟩
        clear r2 b2 bs hp hi hl
        go_wp2_with fail
        exact ⟨nx.out, by simp [intOf]; omega⟩
    · have i1 : ¬ (k : Int) < (n : Int) := by omega
      have E : Hid (StpsTo 181 w (ss.filter q) (.returned (.slice A l.length c)) wr) := by
        have : ss.take k = ss := List.take_of_length_le (by have := hn.out; omega)
        rw [this] at hl
        rw [← hl]
        exact ⟨_, rfl, hrow, hb⟩
      clear hrow hl hb
      go_wp2_with fail
      go_ret
      exact E.out
def StepTo (w : World) (x : Wan) (e : Ending) (w' : World) : Prop := ∃ g, e = .returned (.func (.func 170) #[] #[.pointer (some ⟨g, 0, none⟩)]) ∧ BoxW w' g x ∧ Below w.heap.size w w'
set_option maxHeartbeats 400000 in
theorem stepsOf_any (w : World) (x : Wan) : Calls Tryz.prog 151 #[wanv x] w (StepTo w x) := by
  have E : Hid (StepTo w x (.returned (.func (.func 170) #[] #[.pointer (some ⟨w.heap.size, 0, none⟩)])) (w.alloc (.cells #[.int .i64 x.book, .int .i64 x.cust, .int .i64 x.dead, .int .i64 x.u0, .int .i64 x.u1, .int .i64 x.u2, .int .i64 x.price] 55))) :=
    ⟨_, rfl, heap_alloc_new _ _, (Below.refl _ w).alloc (Nat.le_refl _) _⟩
  unfold wanv
  go_enter Tryz.func151, Tryz.ntmps151
  go_wp2
  go_ret
  exact E.out
theorem ask_size : (Tryz.prog.info? 181).map (·.size) = some 6 := by kernel_rfl
theorem step_results : Tryz.f170.results = #[.cell 5 181] := by kernel_rfl
end Pl
end Go.Proofs.YtpkdigegkemogaaGreatDoor
namespace Go.Proofs.YtpkdigegkemogaaGreatDoor
set_option maxRecDepth 100000
open Go.RowKit
open Go.Proofs.YtpkdigegkemogaaGreatDoor.Pk (one_at one_free one_set lt_some grown_set grown_trans grown_refl)
namespace Pl
open Wt (Wan may Opn mayOp may_any below_drewN)

theorem wpList_store_row {P : Program} {ops : Array Oper} {rest : List Oper} {o : Oper} {a : Act} {w : World} {Q : Exit → Act → World → Prop} (hgd : o.guard = none) (ty : TypeId) (x y : Operand) (ho : o.op = .store ty x y)
    (g : Nat) (cells : Array Value) (hx : a.eval x = .pointer (some ⟨g, 0, none⟩)) (hy : a.eval y = .agg cells)
    (t : TypeId) (old : Array Value) (hg : w.heap[g]? = some (.cells old t (0, 0))) (hi : (P.info? ty).map (·.size) = some cells.size)
    (hold : old.size = cells.size) (h1 : cells.all (·.oneCell') = true)
    (h : wpList P ops Q rest (a.put o.dst undef) (w.setRow g cells)) : wpList P ops Q (o :: rest) a w :=
  wpList_plain hgd fun _ hK => wp_store_row ty x y ho g cells hx hy t old hg hi hold h1 (hK _ _ h)
theorem setRow_below {w : World} {g B : Nat} (cs : Array Value) (hg : B ≤ g) : Below B w (w.setRow g cs) := ⟨rfl, rfl, rfl, by simp [World.setRow], fun k hk => setRow_other w g k cs (by omega)⟩
theorem one6 (a b c d e f : Int) : (#[Value.int .i64 a, .int .i64 b, .int .i64 c, .int .i64 d, .int .i64 e, .int .i64 f] : Array Value).all (·.oneCell') = true := by simp [Value.oneCell']
set_option maxHeartbeats 800000 in
theorem stepO_any (w : World) (g : Nat) (x : Wan) (hg : BoxW w g x) (n k : Int) (h1 : ¬ k = 1) (h4 : ¬ k = 4) :
    Calls Tryz.prog 170 #[.int .i64 n, .int .i64 k, .pointer (some ⟨g, 0, none⟩)] w fun e w' => e = .returned (spv (step x n k)) ∧ Below w.heap.size w w' := by
  obtain ⟨c0, -⟩ := hg.cells
  have hgl := hg.lt
  clear hg
  have F : Hid (step x n k = ⟨n, ⟨k, x.book, 0, 0, 0⟩⟩) := by unfold Hid step; rw [if_neg h1, if_neg h4, if_neg h4]
  have H0 : Hid (((w.alloc (.cells #[.int .i64 0, .int .i64 0, .int .i64 0, .int .i64 0, .int .i64 0, .int .i64 0] 181)).alloc (.cells #[.int .i64 k, .int .i64 x.book, .int .i64 0, .int .i64 0, .int .i64 0] 34)).heap[w.heap.size]? = some (.cells #[.int .i64 0, .int .i64 0, .int .i64 0, .int .i64 0, .int .i64 0, .int .i64 0] 181 (0, 0))) := heap_alloc2_old _ _ _
  have BW : Hid (Below w.heap.size w ((w.alloc (.cells #[.int .i64 0, .int .i64 0, .int .i64 0, .int .i64 0, .int .i64 0, .int .i64 0] 181)).alloc (.cells #[.int .i64 k, .int .i64 x.book, .int .i64 0, .int .i64 0, .int .i64 0] 34))) := (((Below.refl _ w).alloc (Nat.le_refl _) _).alloc (by simp) _)
  go_enter Tryz.func170, Tryz.ntmps170
  go_wp2_with (refine wpList_store_row rfl 181 (.tmp 5) (.tmp 29) rfl w.heap.size #[.int .i64 n, .int .i64 k, .int .i64 x.book, .int .i64 0, .int .i64 0, .int .i64 0] rfl rfl 181 #[.int .i64 0, .int .i64 0, .int .i64 0, .int .i64 0, .int .i64 0, .int .i64 0] H0.out ask_size rfl (one6 _ _ _ _ _ _) ?_)
  refine bodyPost_ret (results_cell_row step_results _ _ w.heap.size 181 #[.int .i64 n, .int .i64 k, .int .i64 x.book, .int .i64 0, .int .i64 0, .int .i64 0] (0, 0) _ rfl (setRow_heap _ _ _ _ _ _ H0.out) Tryz.underlying181 rfl ask_size) rfl ?_
  exact ⟨by rw [F.out], BW.out.trans (setRow_below _ (Nat.le_refl _))⟩
set_option maxHeartbeats 800000 in
theorem step10_any (w : World) (g : Nat) (x : Wan) (hg : BoxW w g x) :
    Calls Tryz.prog 170 #[.int .i64 0, .int .i64 1, .pointer (some ⟨g, 0, none⟩)] w fun e w' => e = .returned (spv (step x 0 1)) ∧ Below w.heap.size w w' := by
  obtain ⟨c0, -, -, c3, c4, c5, -⟩ := hg.cells
  have hgl := hg.lt
  clear hg
  have F : Hid (step x 0 1 = ⟨0, ⟨1, x.book, x.u0, 0, 0⟩⟩) := rfl
  have H0 : Hid (((w.alloc (.cells #[.int .i64 0, .int .i64 0, .int .i64 0, .int .i64 0, .int .i64 0, .int .i64 0] 181)).alloc (.cells #[.int .i64 1, .int .i64 x.book, .int .i64 x.u0, .int .i64 0, .int .i64 0] 34)).heap[w.heap.size]? = some (.cells #[.int .i64 0, .int .i64 0, .int .i64 0, .int .i64 0, .int .i64 0, .int .i64 0] 181 (0, 0))) := heap_alloc2_old _ _ _
  have BW : Hid (Below w.heap.size w ((w.alloc (.cells #[.int .i64 0, .int .i64 0, .int .i64 0, .int .i64 0, .int .i64 0, .int .i64 0] 181)).alloc (.cells #[.int .i64 1, .int .i64 x.book, .int .i64 x.u0, .int .i64 0, .int .i64 0] 34))) := (((Below.refl _ w).alloc (Nat.le_refl _) _).alloc (by simp) _)
  go_enter Tryz.func170, Tryz.ntmps170
  go_wp2_with (refine wpList_store_row rfl 181 (.tmp 5) (.tmp 29) rfl w.heap.size #[.int .i64 0, .int .i64 1, .int .i64 x.book, .int .i64 x.u0, .int .i64 0, .int .i64 0] rfl rfl 181 #[.int .i64 0, .int .i64 0, .int .i64 0, .int .i64 0, .int .i64 0, .int .i64 0] H0.out ask_size rfl (one6 _ _ _ _ _ _) ?_)
  refine bodyPost_ret (results_cell_row step_results _ _ w.heap.size 181 #[.int .i64 0, .int .i64 1, .int .i64 x.book, .int .i64 x.u0, .int .i64 0, .int .i64 0] (0, 0) _ rfl (setRow_heap _ _ _ _ _ _ H0.out) Tryz.underlying181 rfl ask_size) rfl ?_
  exact ⟨by rw [F.out], BW.out.trans (setRow_below _ (Nat.le_refl _))⟩
set_option maxHeartbeats 800000 in
theorem step11_any (w : World) (g : Nat) (x : Wan) (hg : BoxW w g x) :
    Calls Tryz.prog 170 #[.int .i64 1, .int .i64 1, .pointer (some ⟨g, 0, none⟩)] w fun e w' => e = .returned (spv (step x 1 1)) ∧ Below w.heap.size w w' := by
  obtain ⟨c0, -, -, c3, c4, c5, -⟩ := hg.cells
  have hgl := hg.lt
  clear hg
  have F : Hid (step x 1 1 = ⟨1, ⟨1, x.book, x.u1, 0, 0⟩⟩) := rfl
  have H0 : Hid (((w.alloc (.cells #[.int .i64 0, .int .i64 0, .int .i64 0, .int .i64 0, .int .i64 0, .int .i64 0] 181)).alloc (.cells #[.int .i64 1, .int .i64 x.book, .int .i64 x.u1, .int .i64 0, .int .i64 0] 34)).heap[w.heap.size]? = some (.cells #[.int .i64 0, .int .i64 0, .int .i64 0, .int .i64 0, .int .i64 0, .int .i64 0] 181 (0, 0))) := heap_alloc2_old _ _ _
  have BW : Hid (Below w.heap.size w ((w.alloc (.cells #[.int .i64 0, .int .i64 0, .int .i64 0, .int .i64 0, .int .i64 0, .int .i64 0] 181)).alloc (.cells #[.int .i64 1, .int .i64 x.book, .int .i64 x.u1, .int .i64 0, .int .i64 0] 34))) := (((Below.refl _ w).alloc (Nat.le_refl _) _).alloc (by simp) _)
  go_enter Tryz.func170, Tryz.ntmps170
  go_wp2_with (refine wpList_store_row rfl 181 (.tmp 5) (.tmp 29) rfl w.heap.size #[.int .i64 1, .int .i64 1, .int .i64 x.book, .int .i64 x.u1, .int .i64 0, .int .i64 0] rfl rfl 181 #[.int .i64 0, .int .i64 0, .int .i64 0, .int .i64 0, .int .i64 0, .int .i64 0] H0.out ask_size rfl (one6 _ _ _ _ _ _) ?_)
  refine bodyPost_ret (results_cell_row step_results _ _ w.heap.size 181 #[.int .i64 1, .int .i64 1, .int .i64 x.book, .int .i64 x.u1, .int .i64 0, .int .i64 0] (0, 0) _ rfl (setRow_heap _ _ _ _ _ _ H0.out) Tryz.underlying181 rfl ask_size) rfl ?_
  exact ⟨by rw [F.out], BW.out.trans (setRow_below _ (Nat.le_refl _))⟩
set_option maxHeartbeats 800000 in
theorem step12_any (w : World) (g : Nat) (x : Wan) (hg : BoxW w g x) :
    Calls Tryz.prog 170 #[.int .i64 2, .int .i64 1, .pointer (some ⟨g, 0, none⟩)] w fun e w' => e = .returned (spv (step x 2 1)) ∧ Below w.heap.size w w' := by
  obtain ⟨c0, -, -, c3, c4, c5, -⟩ := hg.cells
  have hgl := hg.lt
  clear hg
  have F : Hid (step x 2 1 = ⟨2, ⟨1, x.book, x.u2, 0, 0⟩⟩) := rfl
  have H0 : Hid (((w.alloc (.cells #[.int .i64 0, .int .i64 0, .int .i64 0, .int .i64 0, .int .i64 0, .int .i64 0] 181)).alloc (.cells #[.int .i64 1, .int .i64 x.book, .int .i64 x.u2, .int .i64 0, .int .i64 0] 34)).heap[w.heap.size]? = some (.cells #[.int .i64 0, .int .i64 0, .int .i64 0, .int .i64 0, .int .i64 0, .int .i64 0] 181 (0, 0))) := heap_alloc2_old _ _ _
  have BW : Hid (Below w.heap.size w ((w.alloc (.cells #[.int .i64 0, .int .i64 0, .int .i64 0, .int .i64 0, .int .i64 0, .int .i64 0] 181)).alloc (.cells #[.int .i64 1, .int .i64 x.book, .int .i64 x.u2, .int .i64 0, .int .i64 0] 34))) := (((Below.refl _ w).alloc (Nat.le_refl _) _).alloc (by simp) _)
  go_enter Tryz.func170, Tryz.ntmps170
  go_wp2_with (refine wpList_store_row rfl 181 (.tmp 5) (.tmp 29) rfl w.heap.size #[.int .i64 2, .int .i64 1, .int .i64 x.book, .int .i64 x.u2, .int .i64 0, .int .i64 0] rfl rfl 181 #[.int .i64 0, .int .i64 0, .int .i64 0, .int .i64 0, .int .i64 0, .int .i64 0] H0.out ask_size rfl (one6 _ _ _ _ _ _) ?_)
  refine bodyPost_ret (results_cell_row step_results _ _ w.heap.size 181 #[.int .i64 2, .int .i64 1, .int .i64 x.book, .int .i64 x.u2, .int .i64 0, .int .i64 0] (0, 0) _ rfl (setRow_heap _ _ _ _ _ _ H0.out) Tryz.underlying181 rfl ask_size) rfl ?_
  exact ⟨by rw [F.out], BW.out.trans (setRow_below _ (Nat.le_refl _))⟩
set_option maxHeartbeats 1600000 in
theorem step4_any (w : World) (g : Nat) (x : Wan) (hg : BoxW w g x) (n : Int) :
    Calls Tryz.prog 170 #[.int .i64 n, .int .i64 4, .pointer (some ⟨g, 0, none⟩)] w fun e w' => e = .returned (spv (step x n 4)) ∧ Below w.heap.size w w' := by
  obtain ⟨c0, c1, -, -, -, -, c6⟩ := hg.cells
  have hgl := hg.lt
  clear hg
  have F : Hid (step x n 4 = ⟨n, ⟨4, x.book, 0, x.cust, x.price⟩⟩) := rfl
  have H0 : Hid (((w.alloc (.cells #[.int .i64 0, .int .i64 0, .int .i64 0, .int .i64 0, .int .i64 0, .int .i64 0] 181)).alloc (.cells #[.int .i64 4, .int .i64 x.book, .int .i64 0, .int .i64 x.cust, .int .i64 x.price] 34)).drew.heap[w.heap.size]? = some (.cells #[.int .i64 0, .int .i64 0, .int .i64 0, .int .i64 0, .int .i64 0, .int .i64 0] 181 (0, 0))) := heap_alloc2_old _ _ _
  have BW : Hid (Below w.heap.size w ((w.alloc (.cells #[.int .i64 0, .int .i64 0, .int .i64 0, .int .i64 0, .int .i64 0, .int .i64 0] 181)).alloc (.cells #[.int .i64 4, .int .i64 x.book, .int .i64 0, .int .i64 x.cust, .int .i64 x.price] 34)).drew) := (((Below.refl _ w).alloc (Nat.le_refl _) _).alloc (by simp) _).drew
  go_enter Tryz.func170, Tryz.ntmps170
  go_upto_region 6 with fail
  go_region
  go_wp2_with (refine wpList_store_row rfl 181 (.tmp 5) (.tmp 29) rfl w.heap.size #[.int .i64 n, .int .i64 4, .int .i64 x.book, .int .i64 0, .int .i64 x.cust, .int .i64 x.price] rfl rfl 181 #[.int .i64 0, .int .i64 0, .int .i64 0, .int .i64 0, .int .i64 0, .int .i64 0] H0.out ask_size rfl (one6 _ _ _ _ _ _) ?_)
  refine bodyPost_ret (results_cell_row step_results _ _ w.heap.size 181 #[.int .i64 n, .int .i64 4, .int .i64 x.book, .int .i64 0, .int .i64 x.cust, .int .i64 x.price] (0, 0) _ rfl (setRow_heap _ _ _ _ _ _ H0.out) Tryz.underlying181 rfl ask_size) rfl ?_
  exact ⟨by rw [F.out], BW.out.trans (setRow_below _ (Nat.le_refl _))⟩
end Pl
end Go.Proofs.YtpkdigegkemogaaGreatDoor
namespace Go.Proofs.YtpkdigegkemogaaGreatDoor
set_option maxRecDepth 100000
open Go.RowKit
open Go.Proofs.YtpkdigegkemogaaGreatDoor.Pk (one_at one_free one_set lt_some grown_set grown_trans grown_refl)
namespace Pl
open Wt (Wan may Opn mayOp may_any below_drewN)

theorem cap_results : Tryz.f133.results = #[.cell 2 181] := by kernel_rfl
set_option maxHeartbeats 1600000 in
theorem cap_any (w : World) (x : Wan) : Calls Tryz.prog 133 #[wanv x] w fun e w' => e = .returned (spv (cap x)) ∧ Below w.heap.size w w' := by
  obtain ⟨W, hW⟩ : ∃ W, W = (w.alloc (.cells #[.int .i64 x.book, .int .i64 x.cust, .int .i64 x.dead, .int .i64 x.u0, .int .i64 x.u1, .int .i64 x.u2, .int .i64 x.price] 55)).alloc (.cells #[.int .i64 0, .int .i64 0, .int .i64 0, .int .i64 0, .int .i64 0, .int .i64 0] 181) := ⟨_, rfl⟩
  have B0 : BoxW W w.heap.size x := by rw [hW]; exact heap_alloc2_old _ _ _
  have Z0 : W.heap[w.heap.size + 1]? = some (.cells #[.int .i64 0, .int .i64 0, .int .i64 0, .int .i64 0, .int .i64 0, .int .i64 0] 181 (0, 0)) := by
    have := heap_alloc_new (w.alloc (.cells #[.int .i64 x.book, .int .i64 x.cust, .int .i64 x.dead, .int .i64 x.u0, .int .i64 x.u1, .int .i64 x.u2, .int .i64 x.price] 55)) (.cells #[.int .i64 0, .int .i64 0, .int .i64 0, .int .i64 0, .int .i64 0, .int .i64 0] 181)
    rw [show (w.alloc (.cells #[.int .i64 x.book, .int .i64 x.cust, .int .i64 x.dead, .int .i64 x.u0, .int .i64 x.u1, .int .i64 x.u2, .int .i64 x.price] 55)).heap.size = w.heap.size + 1 by simp] at this
    rw [hW]
    exact this
  have be0 : Below w.heap.size w W := by rw [hW]; exact ((Below.refl _ w).alloc (Nat.le_refl _) _).alloc (by simp) _
  have M := Lib.hid (may_any W x)
  replace hW := Lib.hid hW
  replace B0 := Lib.hid B0
  replace Z0 := Lib.hid Z0
  replace be0 := Lib.hid be0
  unfold wanv
  go_enter Tryz.func133, Tryz.ntmps133
  go_wp2_with fail
  rw [← hW.out]
  refine M.out.mono ?_
  rintro e w1 ⟨rfl, h1⟩
  have B1 := B0.out.below h1 B0.out.lt
  have Z1 : Hid (w1.heap[w.heap.size + 1]? = some (.cells #[.int .i64 0, .int .i64 0, .int .i64 0, .int .i64 0, .int .i64 0, .int .i64 0] 181 (0, 0))) := (h1.block _ (lt_some Z0.out)).trans Z0.out
  have b1 : Hid (Below w.heap.size w w1) := be0.out.trans (h1.mono be0.out.size)
  have zl : Hid (w.heap.size + 1 < w1.heap.size) := lt_some Z1.out
  have wl : w.heap.size < w1.heap.size := by have := zl.out; omega
  have hc : Hid (cap x = if may x = true then step x 3 5 else z0) := rfl
  clear M h1 B0 Z0 be0 hW
  obtain ⟨c0, c1, c2, c3, c4, c5, c6⟩ := B1.cells
  cases hm : may x with
  | false =>
    have E : Hid (cap x = z0) := by rw [Hid, hc.out, hm]; rfl
    clear hc
    go_wp2_with (refine wpList_store_row rfl 181 (.tmp 2) (.tmp 6) rfl (w.heap.size + 1) #[.int .i64 0, .int .i64 0, .int .i64 0, .int .i64 0, .int .i64 0, .int .i64 0] rfl rfl 181 #[.int .i64 0, .int .i64 0, .int .i64 0, .int .i64 0, .int .i64 0, .int .i64 0] Z1.out ask_size rfl (one6 _ _ _ _ _ _) ?_)
    refine bodyPost_ret (results_cell_row cap_results _ _ (w.heap.size + 1) 181 #[.int .i64 0, .int .i64 0, .int .i64 0, .int .i64 0, .int .i64 0, .int .i64 0] (0, 0) _ rfl (setRow_heap _ _ _ _ _ _ Z1.out) Tryz.underlying181 rfl ask_size) rfl ?_
    exact ⟨by rw [E.out]; rfl, b1.out.trans (setRow_below _ (Nat.le_succ _))⟩
  | true =>
    have E : Hid (cap x = step x 3 5) := by rw [Hid, hc.out, hm]; rfl
    have S := stepsOf_any w1 x
    unfold wanv at S
    replace S := Lib.hid S
    clear hc B1
    go_wp2_with fail
    refine S.out.mono ?_
    rintro e w2 ⟨g, rfl, hg, h2⟩
    have T := Lib.hid (stepO_any w2 g x hg 3 5 (by decide) (by decide))
    have Z2 : Hid (w2.heap[w.heap.size + 1]? = some (.cells #[.int .i64 0, .int .i64 0, .int .i64 0, .int .i64 0, .int .i64 0, .int .i64 0] 181 (0, 0))) := (h2.block _ zl.out).trans Z1.out
    have b2 : Hid (Below w.heap.size w w2) := b1.out.trans (h2.mono b1.out.size)
    clear S hg h2 Z1 b1 zl
    go_wp2_with fail
    refine T.out.mono ?_
    rintro e w3 ⟨rfl, h3⟩
    have Z3 : Hid (w3.heap[w.heap.size + 1]? = some (.cells #[.int .i64 0, .int .i64 0, .int .i64 0, .int .i64 0, .int .i64 0, .int .i64 0] 181 (0, 0))) := (h3.block _ (lt_some Z2.out)).trans Z2.out
    have b3 : Hid (Below w.heap.size w w3) := b2.out.trans (h3.mono b2.out.size)
    clear T h3 Z2 b2
    generalize step x 3 5 = s at *
    unfold spv
    go_wp2_with (refine wpList_store_row rfl 181 (.tmp 2) (.tmp 9) rfl (w.heap.size + 1) #[.int .i64 s.node, .int .i64 s.op.kind, .int .i64 s.op.book, .int .i64 s.op.units, .int .i64 s.op.cust, .int .i64 s.op.amount] rfl rfl 181 #[.int .i64 0, .int .i64 0, .int .i64 0, .int .i64 0, .int .i64 0, .int .i64 0] Z3.out ask_size rfl (one6 _ _ _ _ _ _) ?_)
    refine bodyPost_ret (results_cell_row cap_results _ _ (w.heap.size + 1) 181 #[.int .i64 s.node, .int .i64 s.op.kind, .int .i64 s.op.book, .int .i64 s.op.units, .int .i64 s.op.cust, .int .i64 s.op.amount] (0, 0) _ rfl (setRow_heap _ _ _ _ _ _ Z3.out) Tryz.underlying181 rfl ask_size) rfl ?_
    exact ⟨by rw [E.out], b3.out.trans (setRow_below _ (Nat.le_succ _))⟩
end Pl
end Go.Proofs.YtpkdigegkemogaaGreatDoor
