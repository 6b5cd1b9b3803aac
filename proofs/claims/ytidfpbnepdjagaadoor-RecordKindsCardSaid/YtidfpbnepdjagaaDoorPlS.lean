/- The document's Forward and Back. -/
import Derived.Test.YtidfpbnepdjagaaDoorPlR
import Derived.Deep.RegionLaw
namespace Go.Proofs.YtidfpbnepdjagaaDoor
set_option maxRecDepth 100000
open Go.RowKit
open Go.Proofs.YtidfpbnepdjagaaDoor.Pk (one_at one_free one_set lt_some grown_set grown_trans below_grown grown_refl)
namespace Pl
open Wt (Wan may Opn mayOp may_any refmay_any below_drewN)

def has (x : Wan) (s : Stp) : Bool := decide (0 < un x s.node)
def l1 (x : Wan) : List Stp := [step x 0 1, step x 1 1, step x 2 1]
def l2 (x : Wan) : List Stp := [step x 0 2, step x 1 2, step x 2 2]
def l3 (x : Wan) : List Stp := [step x 2 3, step x 1 3, step x 0 3]
theorem fwd_parts {x : Wan} (h : may x = true) : fwd x = (l1 x).filter (has x) ++ [step x 3 4] ++ (l2 x).filter (has x) := by
  rw [fwd_yes h, l1, l2]
  simp only [filter_one, List.filter_nil, List.append_nil, List.append_assoc, List.singleton_append]
  rfl
theorem bck_parts {x : Wan} (h : may x = true) : bck x = [step x 3 6] ++ (l3 x).filter (has x) := by
  rw [bck_yes h, l3]
  simp only [filter_one, List.filter_nil, List.append_nil, List.singleton_append]
  rfl
/-- A row while a list is gone over; pre: what stands ahead of it. -/
structure RsAt (x : Wan) (w0 w1 : World) (pre ss : List Stp) (j : Nat) (v : Value) (k : Nat) (wr : World) : Prop where
  kk : k ≤ 3
  row : ∃ l, RowT 110 wr w1.heap.size v l.length l ∧ l = pre ++ (ss.take k).filter (has x)
  be : Below w1.heap.size w1 wr
  box : BoxW wr j x
theorem RsAt.few {x : Wan} {w0 w1 wr : World} {pre ss : List Stp} {j k : Nat} {v : Value} (h : RsAt x w0 w1 pre ss j v k wr) (hp : pre.length ≤ 4) : ∃ n A c, v = .slice A n c ∧ n ≤ 7 ∧ RowT 110 wr w1.heap.size v n (pre ++ (ss.take k).filter (has x)) := by
  obtain ⟨l, hr, hl⟩ := h.row
  obtain ⟨A, c, rfl, -⟩ := rt_form hr
  refine ⟨l.length, A, c, rfl, ?_, by rw [← hl]; exact hr⟩
  have h1 : ((ss.take k).filter (has x)).length ≤ 3 := Nat.le_trans (List.length_filter_le ..) (by rw [List.length_take]; have := h.kk; omega)
  rw [hl, List.length_append]
  omega
/-- One more is put behind it. -/
theorem RsAt.more {x : Wan} {w0 w1 wr W w3 : World} {pre ss : List Stp} {j k n c3 : Nat} {A A3 : Option Addr} {c : Nat} {s : Stp} (h : RsAt x w0 w1 pre ss j (.slice A n c) k wr) (hj : j < w1.heap.size) (hs : ss[k]? = some s) (hp : has x s = true) (hk : k < 3)
    (hW : Below wr.heap.size wr W) (hr : RowT 110 wr w1.heap.size (.slice A n c) n (pre ++ (ss.take k).filter (has x))) (h3 : RowT 110 w3 w1.heap.size (.slice A3 (n + 1) c3) (n + 1) (pre ++ (ss.take k).filter (has x) ++ [s])) (hg : W.grownBy w3 (Value.slice A n c).ownBlock) : RsAt x w0 w1 pre ss j (.slice A3 (n + 1) c3) (k + 1) w3 := by
  have b1 : Below w1.heap.size w1 w3 := (h.be.trans (hW.mono h.be.size)).trans (below_of_grown hg (Nat.le_trans h.be.size hW.size) fun i hi => (rt_block hr hi).1)
  refine ⟨hk, ⟨pre ++ (ss.take k).filter (has x) ++ [s], ?_, ?_⟩, b1, ?_⟩
  · have := rt_len h3
    rw [this]
    exact h3
  · rw [fil_next hs hp, List.append_assoc]
  · exact (hg.block j (by have := h.box.lt; have := hW.size; omega) fun e => by
      have := (rt_block hr e.symm).1
      omega).trans ((hW.block j h.box.lt).trans h.box)
theorem RsAt.same {x : Wan} {w0 w1 wr : World} {pre ss : List Stp} {j k : Nat} {v : Value} {s : Stp} (h : RsAt x w0 w1 pre ss j v k wr) (hs : ss[k]? = some s) (hp : has x s = false) (hk : k < 3) : RsAt x w0 w1 pre ss j v (k + 1) wr := by
  obtain ⟨l, hr, hl⟩ := h.row
  exact ⟨hk, ⟨l, hr, by rw [fil_same hs hp, hl]⟩, h.be, h.box⟩
theorem RsAt.start {x : Wan} {w0 w1 wr : World} {pre ss : List Stp} {j n : Nat} {v : Value} (hr : RowT 110 wr w1.heap.size v n pre) (be : Below w1.heap.size w1 wr) (hb : BoxW wr j x) : RsAt x w0 w1 pre ss j v 0 wr :=
  ⟨by omega, ⟨pre, by have := rt_len hr; rw [this]; exact hr, by simp⟩, be, hb⟩
theorem RsAt.done {x : Wan} {w0 w1 wr : World} {pre ss : List Stp} {j k : Nat} {v : Value} (h : RsAt x w0 w1 pre ss j v k wr) (hk : k = 3) (hl : ss.length = 3) : ∃ l, RowT 110 wr w1.heap.size v l.length l ∧ l = pre ++ ss.filter (has x) := by
  obtain ⟨l, hr, hh⟩ := h.row
  exact ⟨l, hr, by rw [hh, List.take_of_length_le (by omega)]⟩
set_option maxHeartbeats 6400000 in
theorem rfwd_any (w : World) (x : Wan) : Calls Tryd.prog 42 #[wanv x] w (StpsTo 110 w (fwd x)) := by
  obtain ⟨W0, hW0⟩ : ∃ W0, W0 = w.alloc (.cells #[.int .i64 x.book, .int .i64 x.cust, .int .i64 x.dead, .int .i64 x.u0, .int .i64 x.u1, .int .i64 x.u2, .int .i64 x.price] 26) := ⟨_, rfl⟩
  have B0 : BoxW W0 w.heap.size x := by rw [hW0]; exact heap_alloc_new _ _
  have be0 : Below w.heap.size w W0 := by rw [hW0]; exact (Below.refl _ w).alloc (Nat.le_refl _) _
  have M := Lib.hid (refmay_any W0 x)
  replace hW0 := Lib.hid hW0
  replace B0 := Lib.hid B0
  replace be0 := Lib.hid be0
  unfold wanv
  go_enter Tryd.func42, Tryd.ntmps42
  go_wp2_with fail
  rw [← hW0.out]
  refine M.out.mono ?_
  rintro e w1 ⟨rfl, h1⟩
  have B1 := B0.out.below h1 B0.out.lt
  have b1 : Hid (Below w.heap.size w w1) := be0.out.trans (h1.mono be0.out.size)
  have wl : w.heap.size < w1.heap.size := B1.lt
  clear M h1 B0 be0 hW0
  cases hm : may x with
  | false =>
    have E : Hid (StpsTo 110 w (fwd x) (.returned (.slice none 0 0)) w1) := ⟨_, rfl, by rw [fwd_no hm]; exact World.ownsRow_nil _ _ _ _, b1.out⟩
    clear B1 b1
    go_wp2_with fail
    go_ret
    exact E.out
  | true =>
    have hf := Lib.hid (fwd_parts hm)
    clear hm
    have st : Hid (RsAt x w w1 [] (l1 x) w.heap.size (.slice none 0 0) 0 w1) := RsAt.start (World.ownsRow_nil _ _ _ _) (Below.refl _ _) B1
    clear B1
    go_wp2_with fail
    go_loopw [3, 4] (fun v i wr => ∃ (k : Nat) (z : Int), i = .int .i64 z ∧ z = (k : Int) ∧ RsAt x w w1 [] (l1 x) w.heap.size v k wr) (fun _ i _ => (3 - intOf i).toNat)
    case atStart => exact ⟨0, 0, rfl, rfl, st.out⟩
    case round =>
      clear st
      obtain ⟨k, z, rfl, hz, hR⟩ := hrel
      have hk3 := hR.kk
      have hbx := hR.box
      have hwl : w.heap.size < wr.heap.size := hbx.lt
      obtain ⟨c0, c1, -, c3, c4, c5, c6⟩ := hbx.cells
      clear hbx
      obtain ⟨n, A, c, rfl, hn7, hrow⟩ := hR.few (by simp)
      rcases (by omega : k = 0 ∨ k = 1 ∨ k = 2 ∨ k = 3) with rfl | rfl | rfl | rfl
      · obtain rfl : z = 0 := by omega
        clear hz hk3
        have hs : (l1 x)[0]? = some (step x 0 1) := rfl
        by_cases hu : 0 < x.u0
        · have hp : has x (step x 0 1) = true := decide_eq_true hu
          have bW : Below wr.heap.size wr (wr.alloc (.cells #[.int .i64 0, .int .i64 1, .int .i64 x.book, .int .i64 x.u0, .int .i64 0, .int .i64 0] 110)).drew := ((Below.refl _ _).alloc (Nat.le_refl _) _).drew
          obtain ⟨A3, k3, w3, r3, R3, g3, -⟩ := row_app1 rasks_append rask_info (wr.alloc (.cells #[.int .i64 0, .int .i64 1, .int .i64 x.book, .int .i64 x.u0, .int .i64 0, .int .i64 0] 110)).drew w1.heap.size _ n _ (rt_below hrow bW) (step x 0 1) wr.heap.size (heap_alloc_new _ _) (by omega) (by have := hR.be.size; have := bW.size; omega)
          have nx := Lib.hid (hR.more wl hs hp (by omega) bW hrow R3 g3)
          clear hs hp bW R3 g3 hrow hR
          go_upto_region 8 with fail
          go_region_law (refine step_run_app rfl (.tmp 19) (.tmp 29) rfl rfl _ _ rfl rfl r3 ?_)
          all_goals
            go_wp2_with fail
            exact ⟨⟨1, _, rfl, by omega, nx.out⟩, by simp [intOf]⟩
        · have hp : has x (step x 0 1) = false := decide_eq_false hu
          have nx := Lib.hid (hR.same hs hp (by omega))
          clear hs hp hrow hR
          go_wp2_with fail
          exact ⟨⟨1, _, rfl, by omega, nx.out⟩, by simp [intOf]⟩
      · obtain rfl : z = 1 := by omega
        clear hz hk3
        have hs : (l1 x)[1]? = some (step x 1 1) := rfl
        by_cases hu : 0 < x.u1
        · have hp : has x (step x 1 1) = true := decide_eq_true hu
          have bW : Below wr.heap.size wr (wr.alloc (.cells #[.int .i64 1, .int .i64 1, .int .i64 x.book, .int .i64 x.u1, .int .i64 0, .int .i64 0] 110)).drew := ((Below.refl _ _).alloc (Nat.le_refl _) _).drew
          obtain ⟨A3, k3, w3, r3, R3, g3, -⟩ := row_app1 rasks_append rask_info (wr.alloc (.cells #[.int .i64 1, .int .i64 1, .int .i64 x.book, .int .i64 x.u1, .int .i64 0, .int .i64 0] 110)).drew w1.heap.size _ n _ (rt_below hrow bW) (step x 1 1) wr.heap.size (heap_alloc_new _ _) (by omega) (by have := hR.be.size; have := bW.size; omega)
          have nx := Lib.hid (hR.more wl hs hp (by omega) bW hrow R3 g3)
          clear hs hp bW R3 g3 hrow hR
          go_upto_region 8 with fail
          go_region_law (refine step_run_app rfl (.tmp 19) (.tmp 29) rfl rfl _ _ rfl rfl r3 ?_)
          all_goals
            go_wp2_with fail
            exact ⟨⟨2, _, rfl, by omega, nx.out⟩, by simp [intOf]⟩
        · have hp : has x (step x 1 1) = false := decide_eq_false hu
          have nx := Lib.hid (hR.same hs hp (by omega))
          clear hs hp hrow hR
          go_wp2_with fail
          exact ⟨⟨2, _, rfl, by omega, nx.out⟩, by simp [intOf]⟩
      · obtain rfl : z = 2 := by omega
        clear hz hk3
        have hs : (l1 x)[2]? = some (step x 2 1) := rfl
        by_cases hu : 0 < x.u2
        · have hp : has x (step x 2 1) = true := decide_eq_true hu
          have bW : Below wr.heap.size wr (wr.alloc (.cells #[.int .i64 2, .int .i64 1, .int .i64 x.book, .int .i64 x.u2, .int .i64 0, .int .i64 0] 110)).drew := ((Below.refl _ _).alloc (Nat.le_refl _) _).drew
          obtain ⟨A3, k3, w3, r3, R3, g3, -⟩ := row_app1 rasks_append rask_info (wr.alloc (.cells #[.int .i64 2, .int .i64 1, .int .i64 x.book, .int .i64 x.u2, .int .i64 0, .int .i64 0] 110)).drew w1.heap.size _ n _ (rt_below hrow bW) (step x 2 1) wr.heap.size (heap_alloc_new _ _) (by omega) (by have := hR.be.size; have := bW.size; omega)
          have nx := Lib.hid (hR.more wl hs hp (by omega) bW hrow R3 g3)
          clear hs hp bW R3 g3 hrow hR
          go_upto_region 8 with fail
          go_region_law (refine step_run_app rfl (.tmp 19) (.tmp 29) rfl rfl _ _ rfl rfl r3 ?_)
          all_goals
            go_wp2_with fail
            exact ⟨⟨3, _, rfl, by omega, nx.out⟩, by simp [intOf]⟩
        · have hp : has x (step x 2 1) = false := decide_eq_false hu
          have nx := Lib.hid (hR.same hs hp (by omega))
          clear hs hp hrow hR
          go_wp2_with fail
          exact ⟨⟨3, _, rfl, by omega, nx.out⟩, by simp [intOf]⟩
      · obtain rfl : z = 3 := by omega
        obtain ⟨l, hrl, hll⟩ := hR.done rfl rfl
        have hln : l.length = n := by rw [hll]; exact rt_len hrow
        rw [hln] at hrl
        have bW : Below wr.heap.size wr (wr.alloc (.cells #[.int .i64 3, .int .i64 4, .int .i64 x.book, .int .i64 0, .int .i64 x.cust, .int .i64 x.price] 110)) := (Below.refl _ _).alloc (Nat.le_refl _) _
        obtain ⟨A3, k3, w3, r3, R3, g3, -⟩ := row_app1 rasks_append rask_info (wr.alloc (.cells #[.int .i64 3, .int .i64 4, .int .i64 x.book, .int .i64 0, .int .i64 x.cust, .int .i64 x.price] 110)) w1.heap.size _ n l (rt_below hrl bW) (step x 3 4) wr.heap.size (heap_alloc_new _ _) (by omega) (by have := hR.be.size; have := bW.size; omega)
        have b3 : Below w1.heap.size wr w3 := (bW.mono hR.be.size).trans (below_of_grown g3 (Nat.le_trans hR.be.size bW.size) fun i hi => (rt_block hrl hi).1)
        have st : Hid (RsAt x w w1 (l ++ [step x 3 4]) (l2 x) w.heap.size (.slice A3 (n + 1) k3) 0 w3) := RsAt.start R3 (hR.be.trans b3) (hR.box.below b3 wl)
        have hl4 : Hid ((l ++ [step x 3 4]).length ≤ 4) := by
          have h3 : ((l1 x).filter (has x)).length ≤ 3 := List.length_filter_le ..
          rw [Hid, List.length_append, hll]
          simp
          exact h3
        replace hll := Lib.hid hll
        clear hz hk3 hR hrow hrl bW R3 g3 b3 hln
        go_wp2_with (first | (at_builtin; refine wpList_run_app rfl (.tmp 31) (.tmp 40) rfl rfl _ _ rfl rfl r3 ?_) | go_in)
        clear r3 c0 c1 c3 c4 c5 c6 hwl
        go_loopw [3, 5] (fun v i wr => ∃ (k : Nat) (z : Int), i = .int .i64 z ∧ z = (k : Int) ∧ RsAt x w w1 (l ++ [step x 3 4]) (l2 x) w.heap.size v k wr) (fun _ i _ => (3 - intOf i).toNat)
        case atStart => exact ⟨0, 0, rfl, rfl, st.out⟩
        case round =>
          clear st
          obtain ⟨k, z, rfl, hz, hR⟩ := hrel
          have hk3 := hR.kk
          have hbx := hR.box
          have hwl : w.heap.size < wr.heap.size := hbx.lt
          obtain ⟨c0, c1, -, c3, c4, c5, c6⟩ := hbx.cells
          clear hbx
          obtain ⟨n, A, c, rfl, hn7, hrow⟩ := hR.few hl4.out
          rcases (by omega : k = 0 ∨ k = 1 ∨ k = 2 ∨ k = 3) with rfl | rfl | rfl | rfl
          · obtain rfl : z = 0 := by omega
            clear hz hk3
            have hs : (l2 x)[0]? = some (step x 0 2) := rfl
            by_cases hu : 0 < x.u0
            · have hp : has x (step x 0 2) = true := decide_eq_true hu
              have bW : Below wr.heap.size wr (wr.alloc (.cells #[.int .i64 0, .int .i64 2, .int .i64 x.book, .int .i64 0, .int .i64 0, .int .i64 0] 110)) := ((Below.refl _ _).alloc (Nat.le_refl _) _)
              obtain ⟨A3, k3, w3, r3, R3, g3, -⟩ := row_app1 rasks_append rask_info (wr.alloc (.cells #[.int .i64 0, .int .i64 2, .int .i64 x.book, .int .i64 0, .int .i64 0, .int .i64 0] 110)) w1.heap.size _ n _ (rt_below hrow bW) (step x 0 2) wr.heap.size (heap_alloc_new _ _) (by omega) (by have := hR.be.size; have := bW.size; omega)
              have nx := Lib.hid (hR.more wl hs hp (by omega) bW hrow R3 g3)
              clear hs hp bW R3 g3 hrow hR
              go_wp2_with (first | (at_builtin; refine wpList_run_app rfl (.tmp 51) (.tmp 57) rfl rfl _ _ rfl rfl r3 ?_) | go_in)
              exact ⟨⟨1, _, rfl, by omega, nx.out⟩, by simp [intOf]⟩
            · have hp : has x (step x 0 2) = false := decide_eq_false hu
              have nx := Lib.hid (hR.same hs hp (by omega))
              clear hs hp hrow hR
              go_wp2_with fail
              exact ⟨⟨1, _, rfl, by omega, nx.out⟩, by simp [intOf]⟩
          · obtain rfl : z = 1 := by omega
            clear hz hk3
            have hs : (l2 x)[1]? = some (step x 1 2) := rfl
            by_cases hu : 0 < x.u1
            · have hp : has x (step x 1 2) = true := decide_eq_true hu
              have bW : Below wr.heap.size wr (wr.alloc (.cells #[.int .i64 1, .int .i64 2, .int .i64 x.book, .int .i64 0, .int .i64 0, .int .i64 0] 110)) := ((Below.refl _ _).alloc (Nat.le_refl _) _)
              obtain ⟨A3, k3, w3, r3, R3, g3, -⟩ := row_app1 rasks_append rask_info (wr.alloc (.cells #[.int .i64 1, .int .i64 2, .int .i64 x.book, .int .i64 0, .int .i64 0, .int .i64 0] 110)) w1.heap.size _ n _ (rt_below hrow bW) (step x 1 2) wr.heap.size (heap_alloc_new _ _) (by omega) (by have := hR.be.size; have := bW.size; omega)
              have nx := Lib.hid (hR.more wl hs hp (by omega) bW hrow R3 g3)
              clear hs hp bW R3 g3 hrow hR
              go_wp2_with (first | (at_builtin; refine wpList_run_app rfl (.tmp 51) (.tmp 57) rfl rfl _ _ rfl rfl r3 ?_) | go_in)
              exact ⟨⟨2, _, rfl, by omega, nx.out⟩, by simp [intOf]⟩
            · have hp : has x (step x 1 2) = false := decide_eq_false hu
              have nx := Lib.hid (hR.same hs hp (by omega))
              clear hs hp hrow hR
              go_wp2_with fail
              exact ⟨⟨2, _, rfl, by omega, nx.out⟩, by simp [intOf]⟩
          · obtain rfl : z = 2 := by omega
            clear hz hk3
            have hs : (l2 x)[2]? = some (step x 2 2) := rfl
            by_cases hu : 0 < x.u2
            · have hp : has x (step x 2 2) = true := decide_eq_true hu
              have bW : Below wr.heap.size wr (wr.alloc (.cells #[.int .i64 2, .int .i64 2, .int .i64 x.book, .int .i64 0, .int .i64 0, .int .i64 0] 110)) := ((Below.refl _ _).alloc (Nat.le_refl _) _)
              obtain ⟨A3, k3, w3, r3, R3, g3, -⟩ := row_app1 rasks_append rask_info (wr.alloc (.cells #[.int .i64 2, .int .i64 2, .int .i64 x.book, .int .i64 0, .int .i64 0, .int .i64 0] 110)) w1.heap.size _ n _ (rt_below hrow bW) (step x 2 2) wr.heap.size (heap_alloc_new _ _) (by omega) (by have := hR.be.size; have := bW.size; omega)
              have nx := Lib.hid (hR.more wl hs hp (by omega) bW hrow R3 g3)
              clear hs hp bW R3 g3 hrow hR
              go_wp2_with (first | (at_builtin; refine wpList_run_app rfl (.tmp 51) (.tmp 57) rfl rfl _ _ rfl rfl r3 ?_) | go_in)
              exact ⟨⟨3, _, rfl, by omega, nx.out⟩, by simp [intOf]⟩
            · have hp : has x (step x 2 2) = false := decide_eq_false hu
              have nx := Lib.hid (hR.same hs hp (by omega))
              clear hs hp hrow hR
              go_wp2_with fail
              exact ⟨⟨3, _, rfl, by omega, nx.out⟩, by simp [intOf]⟩
          · obtain rfl : z = 3 := by omega
            obtain ⟨l', hrl, hll'⟩ := hR.done rfl rfl
            have hln : l'.length = n := by rw [hll']; exact rt_len hrow
            have E : Hid (StpsTo 110 w (fwd x) (.returned (.slice A n c)) wr) := ⟨_, rfl, by
              have hfw : fwd x = l' := by rw [hf.out, hll', hll.out, List.nil_append]
              rw [hfw, hln]
              rw [hln] at hrl
              exact rt_mono hrl b1.out.size, b1.out.trans (hR.be.mono b1.out.size)⟩
            clear hR hrow hrl hll' hln hz hk3 hn7
            go_wp2_with fail
            go_ret
            exact E.out
set_option maxHeartbeats 6400000 in
theorem rbck_any (w : World) (x : Wan) : Calls Tryd.prog 43 #[wanv x] w (StpsTo 110 w (bck x)) := by
  obtain ⟨W0, hW0⟩ : ∃ W0, W0 = w.alloc (.cells #[.int .i64 x.book, .int .i64 x.cust, .int .i64 x.dead, .int .i64 x.u0, .int .i64 x.u1, .int .i64 x.u2, .int .i64 x.price] 26) := ⟨_, rfl⟩
  have B0 : BoxW W0 w.heap.size x := by rw [hW0]; exact heap_alloc_new _ _
  have be0 : Below w.heap.size w W0 := by rw [hW0]; exact (Below.refl _ w).alloc (Nat.le_refl _) _
  have M := Lib.hid (refmay_any W0 x)
  replace hW0 := Lib.hid hW0
  replace B0 := Lib.hid B0
  replace be0 := Lib.hid be0
  unfold wanv
  go_enter Tryd.func43, Tryd.ntmps43
  go_wp2_with fail
  rw [← hW0.out]
  refine M.out.mono ?_
  rintro e w1 ⟨rfl, h1⟩
  have B1 := B0.out.below h1 B0.out.lt
  have b1 : Hid (Below w.heap.size w w1) := be0.out.trans (h1.mono be0.out.size)
  have wl : w.heap.size < w1.heap.size := B1.lt
  clear M h1 B0 be0 hW0
  cases hm : may x with
  | false =>
    have E : Hid (StpsTo 110 w (bck x) (.returned (.slice none 0 0)) w1) := ⟨_, rfl, by rw [bck_no hm]; exact World.ownsRow_nil _ _ _ _, b1.out⟩
    clear B1 b1
    go_wp2_with fail
    go_ret
    exact E.out
  | true =>
    have hf := Lib.hid (bck_parts hm)
    clear hm
    have bW : Below w1.heap.size w1 (w1.alloc (.cells #[.int .i64 3, .int .i64 6, .int .i64 x.book, .int .i64 0, .int .i64 0, .int .i64 0] 110)) := (Below.refl _ _).alloc (Nat.le_refl _) _
    obtain ⟨A3, k3, w3, r3, R3, g3, -⟩ := row_app1 rasks_append rask_info (w1.alloc (.cells #[.int .i64 3, .int .i64 6, .int .i64 x.book, .int .i64 0, .int .i64 0, .int .i64 0] 110)) w1.heap.size (.slice none 0 0) 0 [] (World.ownsRow_nil _ _ _ _) (step x 3 6) w1.heap.size (heap_alloc_new _ _) (by omega) bW.size
    have b3 : Below w1.heap.size w1 w3 := bW.trans (below_of_grown g3 bW.size fun i hi => by simp [Value.ownBlock] at hi)
    have st : Hid (RsAt x w w1 [step x 3 6] (l3 x) w.heap.size (.slice A3 1 k3) 0 w3) := RsAt.start R3 b3 (B1.below b3 wl)
    obtain ⟨c0, -⟩ := B1.cells
    clear B1 bW R3 g3 b3
    go_wp2_with (first | (at_builtin; refine wpList_run_app rfl (.tmp 9) (.tmp 14) rfl rfl _ _ rfl rfl r3 ?_) | go_in)
    clear r3 c0
    go_loopw [3, 4] (fun v i wr => ∃ (k : Nat) (z : Int), i = .int .i64 z ∧ z = 2 - (k : Int) ∧ RsAt x w w1 [step x 3 6] (l3 x) w.heap.size v k wr) (fun _ i _ => (3 + intOf i).toNat)
    case atStart => exact ⟨0, 2, rfl, rfl, st.out⟩
    case round =>
      clear st
      obtain ⟨k, z, rfl, hz, hR⟩ := hrel
      have hk3 := hR.kk
      have hbx := hR.box
      have hwl : w.heap.size < wr.heap.size := hbx.lt
      obtain ⟨c0, c1, -, c3, c4, c5, c6⟩ := hbx.cells
      clear hbx
      obtain ⟨n, A, c, rfl, hn7, hrow⟩ := hR.few (by simp)
      rcases (by omega : k = 0 ∨ k = 1 ∨ k = 2 ∨ k = 3) with rfl | rfl | rfl | rfl
      · obtain rfl : z = 2 := by omega
        clear hz hk3
        have hs : (l3 x)[0]? = some (step x 2 3) := rfl
        by_cases hu : 0 < x.u2
        · have hp : has x (step x 2 3) = true := decide_eq_true hu
          have bW : Below wr.heap.size wr (wr.alloc (.cells #[.int .i64 2, .int .i64 3, .int .i64 x.book, .int .i64 0, .int .i64 0, .int .i64 0] 110)) := ((Below.refl _ _).alloc (Nat.le_refl _) _)
          obtain ⟨A3, k3, w3, r3, R3, g3, -⟩ := row_app1 rasks_append rask_info (wr.alloc (.cells #[.int .i64 2, .int .i64 3, .int .i64 x.book, .int .i64 0, .int .i64 0, .int .i64 0] 110)) w1.heap.size _ n _ (rt_below hrow bW) (step x 2 3) wr.heap.size (heap_alloc_new _ _) (by omega) (by have := hR.be.size; have := bW.size; omega)
          have nx := Lib.hid (hR.more wl hs hp (by omega) bW hrow R3 g3)
          clear hs hp bW R3 g3 hrow hR
          go_wp2_with (first | (at_builtin; refine wpList_run_app rfl (.tmp 25) (.tmp 31) rfl rfl _ _ rfl rfl r3 ?_) | go_in)
          exact ⟨⟨1, _, rfl, by omega, nx.out⟩, by simp [intOf]⟩
        · have hp : has x (step x 2 3) = false := decide_eq_false hu
          have nx := Lib.hid (hR.same hs hp (by omega))
          clear hs hp hrow hR
          go_wp2_with fail
          exact ⟨⟨1, _, rfl, by omega, nx.out⟩, by simp [intOf]⟩
      · obtain rfl : z = 1 := by omega
        clear hz hk3
        have hs : (l3 x)[1]? = some (step x 1 3) := rfl
        by_cases hu : 0 < x.u1
        · have hp : has x (step x 1 3) = true := decide_eq_true hu
          have bW : Below wr.heap.size wr (wr.alloc (.cells #[.int .i64 1, .int .i64 3, .int .i64 x.book, .int .i64 0, .int .i64 0, .int .i64 0] 110)) := ((Below.refl _ _).alloc (Nat.le_refl _) _)
          obtain ⟨A3, k3, w3, r3, R3, g3, -⟩ := row_app1 rasks_append rask_info (wr.alloc (.cells #[.int .i64 1, .int .i64 3, .int .i64 x.book, .int .i64 0, .int .i64 0, .int .i64 0] 110)) w1.heap.size _ n _ (rt_below hrow bW) (step x 1 3) wr.heap.size (heap_alloc_new _ _) (by omega) (by have := hR.be.size; have := bW.size; omega)
          have nx := Lib.hid (hR.more wl hs hp (by omega) bW hrow R3 g3)
          clear hs hp bW R3 g3 hrow hR
          go_wp2_with (first | (at_builtin; refine wpList_run_app rfl (.tmp 25) (.tmp 31) rfl rfl _ _ rfl rfl r3 ?_) | go_in)
          exact ⟨⟨2, _, rfl, by omega, nx.out⟩, by simp [intOf]⟩
        · have hp : has x (step x 1 3) = false := decide_eq_false hu
          have nx := Lib.hid (hR.same hs hp (by omega))
          clear hs hp hrow hR
          go_wp2_with fail
          exact ⟨⟨2, _, rfl, by omega, nx.out⟩, by simp [intOf]⟩
      · obtain rfl : z = 0 := by omega
        clear hz hk3
        have hs : (l3 x)[2]? = some (step x 0 3) := rfl
        by_cases hu : 0 < x.u0
        · have hp : has x (step x 0 3) = true := decide_eq_true hu
          have bW : Below wr.heap.size wr (wr.alloc (.cells #[.int .i64 0, .int .i64 3, .int .i64 x.book, .int .i64 0, .int .i64 0, .int .i64 0] 110)) := ((Below.refl _ _).alloc (Nat.le_refl _) _)
          obtain ⟨A3, k3, w3, r3, R3, g3, -⟩ := row_app1 rasks_append rask_info (wr.alloc (.cells #[.int .i64 0, .int .i64 3, .int .i64 x.book, .int .i64 0, .int .i64 0, .int .i64 0] 110)) w1.heap.size _ n _ (rt_below hrow bW) (step x 0 3) wr.heap.size (heap_alloc_new _ _) (by omega) (by have := hR.be.size; have := bW.size; omega)
          have nx := Lib.hid (hR.more wl hs hp (by omega) bW hrow R3 g3)
          clear hs hp bW R3 g3 hrow hR
          go_wp2_with (first | (at_builtin; refine wpList_run_app rfl (.tmp 25) (.tmp 31) rfl rfl _ _ rfl rfl r3 ?_) | go_in)
          exact ⟨⟨3, _, rfl, by omega, nx.out⟩, by simp [intOf]⟩
        · have hp : has x (step x 0 3) = false := decide_eq_false hu
          have nx := Lib.hid (hR.same hs hp (by omega))
          clear hs hp hrow hR
          go_wp2_with fail
          exact ⟨⟨3, _, rfl, by omega, nx.out⟩, by simp [intOf]⟩
      · obtain rfl : z = -1 := by omega
        obtain ⟨l', hrl, hll'⟩ := hR.done rfl rfl
        have hln : l'.length = n := by rw [hll']; exact rt_len hrow
        have E : Hid (StpsTo 110 w (bck x) (.returned (.slice A n c)) wr) := ⟨_, rfl, by
          have hfw : bck x = l' := by rw [hf.out, hll']
          rw [hfw, hln]
          rw [hln] at hrl
          exact rt_mono hrl b1.out.size, b1.out.trans (hR.be.mono b1.out.size)⟩
        clear hR hrow hrl hll' hln hz hk3 hn7
        go_wp2_with fail
        go_ret
        exact E.out
end Pl
end Go.Proofs.YtidfpbnepdjagaaDoor
