/- Parts of the claim: PlS, PlH, PlI -/
import Derived.Test.YtpkdigegkemogaaGreatDoorTkT
import Derived.Deep.RegionLaw
import Derived.Deep.RegionHeld3
import Derived.Test.YtpkdigegkemogaaGreatDoorPlXbT
namespace Go.Proofs.YtpkdigegkemogaaGreatDoor
set_option maxRecDepth 100000
open Go.RowKit
open Go.Proofs.YtpkdigegkemogaaGreatDoor.Pk (one_at one_free one_set lt_some grown_set grown_trans grown_refl)
namespace Pl
open Wt (Wan may Opn mayOp may_any refmay_any below_drewN)

def has (x : Wan) (s : Stp) : Bool := decide (0 < un x s.node)
def l1 (x : Wan) : List Stp := [step x 0 1, step x 1 1, step x 2 1]
def l2 (x : Wan) : List Stp := [step x 0 2, step x 1 2, step x 2 2]
def l3 (x : Wan) : List Stp := [step x 2 3, step x 1 3, step x 0 3]
theorem fwd_parts {x : Wan} (h : may x = true) : fwd x = (l1 x).filter (has x) ++ [step x 3 4] ++ (l2 x).filter (has x) := by
  rw [fwd_yes h, l1, l2]
  simp only [filter_one, List.filter_nil, List.append_nil, List.append_assoc, List.singleton_append]
  rfl
theorem bck_parts {x : Wan} (h : may x = true) : bck x = [step x 3 6] ++ (l3 x).filter (has x) := by
  rw [bck_yes h, l3]
  simp only [filter_one, List.filter_nil, List.append_nil, List.singleton_append]
  rfl
structure RsAt (x : Wan) (w0 w1 : World) (pre ss : List Stp) (j : Nat) (v : Value) (k : Nat) (wr : World) : Prop where
  kk : k ≤ 3
  row : ∃ l, RowT 125 wr w1.heap.size v l.length l ∧ l = pre ++ (ss.take k).filter (has x)
  be : Below w1.heap.size w1 wr
  box : BoxW wr j x
theorem RsAt.few {x : Wan} {w0 w1 wr : World} {pre ss : List Stp} {j k : Nat} {v : Value} (h : RsAt x w0 w1 pre ss j v k wr) (hp : pre.length ≤ 4) : ∃ n A c, v = .slice A n c ∧ n ≤ 7 ∧ RowT 125 wr w1.heap.size v n (pre ++ (ss.take k).filter (has x)) := by
  obtain ⟨l, hr, hl⟩ := h.row
  obtain ⟨A, c, rfl, -⟩ := rt_form hr
  refine ⟨l.length, A, c, rfl, ?_, by rw [← hl]; exact hr⟩
  have h1 : ((ss.take k).filter (has x)).length ≤ 3 := Nat.le_trans (List.length_filter_le ..) (by rw [List.length_take]; have := h.kk; omega)
  rw [hl, List.length_append]
  omega
theorem RsAt.more {x : Wan} {w0 w1 wr W w3 : World} {pre ss : List Stp} {j k n c3 : Nat} {A A3 : Option Addr} {c : Nat} {s : Stp} (h : RsAt x w0 w1 pre ss j (.slice A n c) k wr) (hj : j < w1.heap.size) (hs : ss[k]? = some s) (hp : has x s = true) (hk : k < 3)
    (hW : Below wr.heap.size wr W) (hr : RowT 125 wr w1.heap.size (.slice A n c) n (pre ++ (ss.take k).filter (has x))) (h3 : RowT 125 w3 w1.heap.size (.slice A3 (n + 1) c3) (n + 1) (pre ++ (ss.take k).filter (has x) ++ [s])) (hg : W.grownBy w3 (Value.slice A n c).ownBlock) : RsAt x w0 w1 pre ss j (.slice A3 (n + 1) c3) (k + 1) w3 := by
  have b1 : Below w1.heap.size w1 w3 := (h.be.trans (hW.mono h.be.size)).trans (below_of_grown hg (Nat.le_trans h.be.size hW.size) fun i hi => (rt_block hr hi).1)
  refine ⟨hk, ⟨pre ++ (ss.take k).filter (has x) ++ [s], ?_, ?_⟩, b1, ?_⟩
  · have := rt_len h3
    rw [this]
    exact h3
  · rw [fil_next hs hp, List.append_assoc]
  · exact (hg.block j (by have := h.box.lt; have := hW.size; omega) fun e => by
      have := (rt_block hr e.symm).1
      omega).trans ((hW.block j h.box.lt).trans h.box)
theorem RsAt.same {x : Wan} {w0 w1 wr : World} {pre ss : List Stp} {j k : Nat} {v : Value} {s : Stp} (h : RsAt x w0 w1 pre ss j v k wr) (hs : ss[k]? = some s) (hp : has x s = false) (hk : k < 3) : RsAt x w0 w1 pre ss j v (k + 1) wr := by
  obtain ⟨l, hr, hl⟩ := h.row
  exact ⟨hk, ⟨l, hr, by rw [fil_same hs hp, hl]⟩, h.be, h.box⟩
theorem RsAt.start {x : Wan} {w0 w1 wr : World} {pre ss : List Stp} {j n : Nat} {v : Value} (hr : RowT 125 wr w1.heap.size v n pre) (be : Below w1.heap.size w1 wr) (hb : BoxW wr j x) : RsAt x w0 w1 pre ss j v 0 wr :=
  ⟨by omega, ⟨pre, by have := rt_len hr; rw [this]; exact hr, by simp⟩, be, hb⟩
theorem RsAt.done {x : Wan} {w0 w1 wr : World} {pre ss : List Stp} {j k : Nat} {v : Value} (h : RsAt x w0 w1 pre ss j v k wr) (hk : k = 3) (hl : ss.length = 3) : ∃ l, RowT 125 wr w1.heap.size v l.length l ∧ l = pre ++ ss.filter (has x) := by
  obtain ⟨l, hr, hh⟩ := h.row
  exact ⟨l, hr, by rw [hh, List.take_of_length_le (by omega)]⟩
set_option maxHeartbeats 6400000 in
theorem rfwd_any (w : World) (x : Wan) : Calls Tryz.prog 76 #[wanv x] w (StpsTo 125 w (fwd x)) := by
  obtain ⟨W0, hW0⟩ : ∃ W0, W0 = w.alloc (.cells #[.int .i64 x.book, .int .i64 x.cust, .int .i64 x.dead, .int .i64 x.u0, .int .i64 x.u1, .int .i64 x.u2, .int .i64 x.price] 55) := ⟨_, rfl⟩
  have B0 : BoxW W0 w.heap.size x := by rw [hW0]; exact heap_alloc_new _ _
  have be0 : Below w.heap.size w W0 := by rw [hW0]; exact (Below.refl _ w).alloc (Nat.le_refl _) _
  have M := Lib.hid (refmay_any W0 x)
  replace hW0 := Lib.hid hW0
  replace B0 := Lib.hid B0
  replace be0 := Lib.hid be0
  unfold wanv
  go_enter Tryz.func76, Tryz.ntmps76
  go_wp2_with fail
  rw [← hW0.out]
  refine M.out.mono ?_
  rintro e w1 ⟨rfl, h1⟩
  have B1 := B0.out.below h1 B0.out.lt
  have b1 : Hid (Below w.heap.size w w1) := be0.out.trans (h1.mono be0.out.size)
  have wl : w.heap.size < w1.heap.size := B1.lt
  clear M h1 B0 be0 hW0
  cases hm : may x with
  | false =>
    have E : Hid (StpsTo 125 w (fwd x) (.returned (.slice none 0 0)) w1) := ⟨_, rfl, by rw [fwd_no hm]; exact World.ownsRow_nil _ _ _ _, b1.out⟩
    clear B1 b1
    go_wp2_with fail
    go_ret
    exact E.out
  | true =>
    have hf := Lib.hid (fwd_parts hm)
    clear hm
    have st : Hid (RsAt x w w1 [] (l1 x) w.heap.size (.slice none 0 0) 0 w1) := RsAt.start (World.ownsRow_nil _ _ _ _) (Below.refl _ _) B1
    clear B1
    go_wp2_with fail
    go_loopw [3, 4] (fun v i wr => ∃ (k : Nat) (z : Int), i = .int .i64 z ∧ z = (k : Int) ∧ RsAt x w w1 [] (l1 x) w.heap.size v k wr) (fun _ i _ => (3 - intOf i).toNat)
    case atStart => exact ⟨0, 0, rfl, rfl, st.out⟩
    case round =>
      clear st
      obtain ⟨k, z, rfl, hz, hR⟩ := hrel
      have hk3 := hR.kk
      have hbx := hR.box
      have hwl : w.heap.size < wr.heap.size := hbx.lt
      obtain ⟨c0, c1, -, c3, c4, c5, c6⟩ := hbx.cells
      clear hbx
      obtain ⟨n, A, c, rfl, hn7, hrow⟩ := hR.few (by simp)
      rcases (by omega : k = 0 ∨ k = 1 ∨ k = 2 ∨ k = 3) with rfl | rfl | rfl | rfl
      · obtain rfl : z = 0 := by omega
        clear hz hk3
        have hs : (l1 x)[0]? = some (step x 0 1) := rfl
        by_cases hu : 0 < x.u0
        · have hp : has x (step x 0 1) = true := decide_eq_true hu
          have bW : Below wr.heap.size wr (wr.alloc (.cells #[.int .i64 0, .int .i64 1, .int .i64 x.book, .int .i64 x.u0, .int .i64 0, .int .i64 0] 125)).drew := ((Below.refl _ _).alloc (Nat.le_refl _) _).drew
          obtain ⟨A3, k3, w3, r3, R3, g3, -⟩ := row_app1 rasks_append rask_info (wr.alloc (.cells #[.int .i64 0, .int .i64 1, .int .i64 x.book, .int .i64 x.u0, .int .i64 0, .int .i64 0] 125)).drew w1.heap.size _ n _ (rt_below hrow bW) (step x 0 1) wr.heap.size (heap_alloc_new _ _) (by omega) (by have := hR.be.size; have := bW.size; omega)
          have nx := Lib.hid (hR.more wl hs hp (by omega) bW hrow R3 g3)
          clear hs hp bW R3 g3 hrow hR
          go_upto_region 8 with fail
          go_region_law (refine step_run_app rfl (.tmp 19) (.tmp 29) rfl rfl _ _ rfl rfl r3 ?_)
          all_goals
            go_wp2_with fail
            exact ⟨⟨1, _, rfl, by omega, nx.out⟩, by simp [intOf]⟩
        · have hp : has x (step x 0 1) = false := decide_eq_false hu
          have nx := Lib.hid (hR.same hs hp (by omega))
          clear hs hp hrow hR
          go_wp2_with fail
          exact ⟨⟨1, _, rfl, by omega, nx.out⟩, by simp [intOf]⟩
      · obtain rfl : z = 1 := by omega
        clear hz hk3
        have hs : (l1 x)[1]? = some (step x 1 1) := rfl
        by_cases hu : 0 < x.u1
        · have hp : has x (step x 1 1) = true := decide_eq_true hu
          have bW : Below wr.heap.size wr (wr.alloc (.cells #[.int .i64 1, .int .i64 1, .int .i64 x.book, .int .i64 x.u1, .int .i64 0, .int .i64 0] 125)).drew := ((Below.refl _ _).alloc (Nat.le_refl _) _).drew
          obtain ⟨A3, k3, w3, r3, R3, g3, -⟩ := row_app1 rasks_append rask_info (wr.alloc (.cells #[.int .i64 1, .int .i64 1, .int .i64 x.book, .int .i64 x.u1, .int .i64 0, .int .i64 0] 125)).drew w1.heap.size _ n _ (rt_below hrow bW) (step x 1 1) wr.heap.size (heap_alloc_new _ _) (by omega) (by have := hR.be.size; have := bW.size; omega)
          have nx := Lib.hid (hR.more wl hs hp (by omega) bW hrow R3 g3)
          clear hs hp bW R3 g3 hrow hR
          go_upto_region 8 with fail
          go_region_law (refine step_run_app rfl (.tmp 19) (.tmp 29) rfl rfl _ _ rfl rfl r3 ?_)
          all_goals
            go_wp2_with fail
            exact ⟨⟨2, _, rfl, by omega, nx.out⟩, by simp [intOf]⟩
        · have hp : has x (step x 1 1) = false := decide_eq_false hu
          have nx := Lib.hid (hR.same hs hp (by omega))
          clear hs hp hrow hR
          go_wp2_with fail
          exact ⟨⟨2, _, rfl, by omega, nx.out⟩, by simp [intOf]⟩
      · obtain rfl : z = 2 := by omega
        clear hz hk3
        have hs : (l1 x)[2]? = some (step x 2 1) := rfl
        by_cases hu : 0 < x.u2
        · have hp : has x (step x 2 1) = true := decide_eq_true hu
          have bW : Below wr.heap.size wr (wr.alloc (.cells #[.int .i64 2, .int .i64 1, .int .i64 x.book, .int .i64 x.u2, .int .i64 0, .int .i64 0] 125)).drew := ((Below.refl _ _).alloc (Nat.le_refl _) _).drew
          obtain ⟨A3, k3, w3, r3, R3, g3, -⟩ := row_app1 rasks_append rask_info (wr.alloc (.cells #[.int .i64 2, .int .i64 1, .int .i64 x.book, .int .i64 x.u2, .int .i64 0, .int .i64 0] 125)).drew w1.heap.size _ n _ (rt_below hrow bW) (step x 2 1) wr.heap.size (heap_alloc_new _ _) (by omega) (by have := hR.be.size; have := bW.size; omega)
          have nx := Lib.hid (hR.more wl hs hp (by omega) bW hrow R3 g3)
          clear hs hp bW R3 g3 hrow hR
          go_upto_region 8 with fail
          go_region_law (refine step_run_app rfl (.tmp 19) (.tmp 29) rfl rfl _ _ rfl rfl r3 ?_)
          all_goals
            go_wp2_with fail
            exact ⟨⟨3, _, rfl, by omega, nx.out⟩, by simp [intOf]⟩
        · have hp : has x (step x 2 1) = false := decide_eq_false hu
          have nx := Lib.hid (hR.same hs hp (by omega))
          clear hs hp hrow hR
          go_wp2_with fail
          exact ⟨⟨3, _, rfl, by omega, nx.out⟩, by simp [intOf]⟩
      · obtain rfl : z = 3 := by omega
        obtain ⟨l, hrl, hll⟩ := hR.done rfl rfl
        have hln : l.length = n := by rw [hll]; exact rt_len hrow
        rw [hln] at hrl
        have bW : Below wr.heap.size wr (wr.alloc (.cells #[.int .i64 3, .int .i64 4, .int .i64 x.book, .int .i64 0, .int .i64 x.cust, .int .i64 x.price] 125)) := (Below.refl _ _).alloc (Nat.le_refl _) _
        obtain ⟨A3, k3, w3, r3, R3, g3, -⟩ := row_app1 rasks_append rask_info (wr.alloc (.cells #[.int .i64 3, .int .i64 4, .int .i64 x.book, .int .i64 0, .int .i64 x.cust, .int .i64 x.price] 125)) w1.heap.size _ n l (rt_below hrl bW) (step x 3 4) wr.heap.size (heap_alloc_new _ _) (by omega) (by have := hR.be.size; have := bW.size; omega)
        have b3 : Below w1.heap.size wr w3 := (bW.mono hR.be.size).trans (below_of_grown g3 (Nat.le_trans hR.be.size bW.size) fun i hi => (rt_block hrl hi).1)
        have st : Hid (RsAt x w w1 (l ++ [step x 3 4]) (l2 x) w.heap.size (.slice A3 (n + 1) k3) 0 w3) := RsAt.start R3 (hR.be.trans b3) (hR.box.below b3 wl)
        have hl4 : Hid ((l ++ [step x 3 4]).length ≤ 4) := by
          have h3 : ((l1 x).filter (has x)).length ≤ 3 := List.length_filter_le ..
          rw [Hid, List.length_append, hll]
          simp
          exact h3
        replace hll := Lib.hid hll
        clear hz hk3 hR hrow hrl bW R3 g3 b3 hln
        go_wp2_with (first | (at_builtin; refine wpList_run_app rfl (.tmp 31) (.tmp 40) rfl rfl _ _ rfl rfl r3 ?_) | go_in)
        clear r3 c0 c1 c3 c4 c5 c6 hwl
        go_loopw [3, 5] (fun v i wr => ∃ (k : Nat) (z : Int), i = .int .i64 z ∧ z = (k : Int) ∧ RsAt x w w1 (l ++ [step x 3 4]) (l2 x) w.heap.size v k wr) (fun _ i _ => (3 - intOf i).toNat)
        case atStart => exact ⟨0, 0, rfl, rfl, st.out⟩
        case round =>
          clear st
          obtain ⟨k, z, rfl, hz, hR⟩ := hrel
          have hk3 := hR.kk
          have hbx := hR.box
          have hwl : w.heap.size < wr.heap.size := hbx.lt
          obtain ⟨c0, c1, -, c3, c4, c5, c6⟩ := hbx.cells
          clear hbx
          obtain ⟨n, A, c, rfl, hn7, hrow⟩ := hR.few hl4.out
          rcases (by omega : k = 0 ∨ k = 1 ∨ k = 2 ∨ k = 3) with rfl | rfl | rfl | rfl
          · obtain rfl : z = 0 := by omega
            clear hz hk3
            have hs : (l2 x)[0]? = some (step x 0 2) := rfl
            by_cases hu : 0 < x.u0
            · have hp : has x (step x 0 2) = true := decide_eq_true hu
              have bW : Below wr.heap.size wr (wr.alloc (.cells #[.int .i64 0, .int .i64 2, .int .i64 x.book, .int .i64 0, .int .i64 0, .int .i64 0] 125)) := ((Below.refl _ _).alloc (Nat.le_refl _) _)
              obtain ⟨A3, k3, w3, r3, R3, g3, -⟩ := row_app1 rasks_append rask_info (wr.alloc (.cells #[.int .i64 0, .int .i64 2, .int .i64 x.book, .int .i64 0, .int .i64 0, .int .i64 0] 125)) w1.heap.size _ n _ (rt_below hrow bW) (step x 0 2) wr.heap.size (heap_alloc_new _ _) (by omega) (by have := hR.be.size; have := bW.size; omega)
              have nx := Lib.hid (hR.more wl hs hp (by omega) bW hrow R3 g3)
              clear hs hp bW R3 g3 hrow hR
              go_wp2_with (first | (at_builtin; refine wpList_run_app rfl (.tmp 51) (.tmp 57) rfl rfl _ _ rfl rfl r3 ?_) | go_in)
              exact ⟨⟨1, _, rfl, by omega, nx.out⟩, by simp [intOf]⟩
            · have hp : has x (step x 0 2) = false := decide_eq_false hu
              have nx := Lib.hid (hR.same hs hp (by omega))
              clear hs hp hrow hR
              go_wp2_with fail
              exact ⟨⟨1, _, rfl, by omega, nx.out⟩, by simp [intOf]⟩
          · obtain rfl : z = 1 := by omega
            clear hz hk3
            have hs : (l2 x)[1]? = some (step x 1 2) := rfl
            by_cases hu : 0 < x.u1
            · have hp : has x (step x 1 2) = true := decide_eq_true hu
              have bW : Below wr.heap.size wr (wr.alloc (.cells #[.int .i64 1, .int .i64 2, .int .i64 x.book, .int .i64 0, .int .i64 0, .int .i64 0] 125)) := ((Below.refl _ _).alloc (Nat.le_refl _) _)
              obtain ⟨A3, k3, w3, r3, R3, g3, -⟩ := row_app1 rasks_append rask_info (wr.alloc (.cells #[.int .i64 1, .int .i64 2, .int .i64 x.book, .int .i64 0, .int .i64 0, .int .i64 0] 125)) w1.heap.size _ n _ (rt_below hrow bW) (step x 1 2) wr.heap.size (heap_alloc_new _ _) (by omega) (by have := hR.be.size; have := bW.size; omega)
              have nx := Lib.hid (hR.more wl hs hp (by omega) bW hrow R3 g3)
              clear hs hp bW R3 g3 hrow hR
              go_wp2_with (first | (at_builtin; refine wpList_run_app rfl (.tmp 51) (.tmp 57) rfl rfl _ _ rfl rfl r3 ?_) | go_in)
              exact ⟨⟨2, _, rfl, by omega, nx.out⟩, by simp [intOf]⟩
            · have hp : has x (step x 1 2) = false := decide_eq_false hu
              have nx := Lib.hid (hR.same hs hp (by omega))
              clear hs hp hrow hR
              go_wp2_with fail
              exact ⟨⟨2, _, rfl, by omega, nx.out⟩, by simp [intOf]⟩
          · obtain rfl : z = 2 := by omega
            clear hz hk3
            have hs : (l2 x)[2]? = some (step x 2 2) := rfl
            by_cases hu : 0 < x.u2
            · have hp : has x (step x 2 2) = true := decide_eq_true hu
              have bW : Below wr.heap.size wr (wr.alloc (.cells #[.int .i64 2, .int .i64 2, .int .i64 x.book, .int .i64 0, .int .i64 0, .int .i64 0] 125)) := ((Below.refl _ _).alloc (Nat.le_refl _) _)
              obtain ⟨A3, k3, w3, r3, R3, g3, -⟩ := row_app1 rasks_append rask_info (wr.alloc (.cells #[.int .i64 2, .int .i64 2, .int .i64 x.book, .int .i64 0, .int .i64 0, .int .i64 0] 125)) w1.heap.size _ n _ (rt_below hrow bW) (step x 2 2) wr.heap.size (heap_alloc_new _ _) (by omega) (by have := hR.be.size; have := bW.size; omega)
              have nx := Lib.hid (hR.more wl hs hp (by omega) bW hrow R3 g3)
              clear hs hp bW R3 g3 hrow hR
              go_wp2_with (first | (at_builtin; refine wpList_run_app rfl (.tmp 51) (.tmp 57) rfl rfl _ _ rfl rfl r3 ?_) | go_in)
              exact ⟨⟨3, _, rfl, by omega, nx.out⟩, by simp [intOf]⟩
            · have hp : has x (step x 2 2) = false := decide_eq_false hu
              have nx := Lib.hid (hR.same hs hp (by omega))
              clear hs hp hrow hR
              go_wp2_with fail
              exact ⟨⟨3, _, rfl, by omega, nx.out⟩, by simp [intOf]⟩
          · obtain rfl : z = 3 := by omega
            obtain ⟨l', hrl, hll'⟩ := hR.done rfl rfl
            have hln : l'.length = n := by rw [hll']; exact rt_len hrow
            have E : Hid (StpsTo 125 w (fwd x) (.returned (.slice A n c)) wr) := ⟨_, rfl, by
              have hfw : fwd x = l' := by rw [hf.out, hll', hll.out, List.nil_append]
              rw [hfw, hln]
              rw [hln] at hrl
              exact rt_mono hrl b1.out.size, b1.out.trans (hR.be.mono b1.out.size)⟩
            clear hR hrow hrl hll' hln hz hk3 hn7
            go_wp2_with fail
            go_ret
            exact E.out
set_option maxHeartbeats 6400000 in
theorem rbck_any (w : World) (x : Wan) : Calls Tryz.prog 77 #[wanv x] w (StpsTo 125 w (bck x)) := by
  obtain ⟨W0, hW0⟩ : ∃ W0, W0 = w.alloc (.cells #[.int .i64 x.book, .int .i64 x.cust, .int .i64 x.dead, .int .i64 x.u0, .int .i64 x.u1, .int .i64 x.u2, .int .i64 x.price] 55) := ⟨_, rfl⟩
  have B0 : BoxW W0 w.heap.size x := by rw [hW0]; exact heap_alloc_new _ _
  have be0 : Below w.heap.size w W0 := by rw [hW0]; exact (Below.refl _ w).alloc (Nat.le_refl _) _
  have M := Lib.hid (refmay_any W0 x)
  replace hW0 := Lib.hid hW0
  replace B0 := Lib.hid B0
  replace be0 := Lib.hid be0
  unfold wanv
  go_enter Tryz.func77, Tryz.ntmps77
  go_wp2_with fail
  rw [← hW0.out]
  refine M.out.mono ?_
  rintro e w1 ⟨rfl, h1⟩
  have B1 := B0.out.below h1 B0.out.lt
  have b1 : Hid (Below w.heap.size w w1) := be0.out.trans (h1.mono be0.out.size)
  have wl : w.heap.size < w1.heap.size := B1.lt
  clear M h1 B0 be0 hW0
  cases hm : may x with
  | false =>
    have E : Hid (StpsTo 125 w (bck x) (.returned (.slice none 0 0)) w1) := ⟨_, rfl, by rw [bck_no hm]; exact World.ownsRow_nil _ _ _ _, b1.out⟩
    clear B1 b1
    go_wp2_with fail
    go_ret
    exact E.out
  | true =>
    have hf := Lib.hid (bck_parts hm)
    clear hm
    have bW : Below w1.heap.size w1 (w1.alloc (.cells #[.int .i64 3, .int .i64 6, .int .i64 x.book, .int .i64 0, .int .i64 0, .int .i64 0] 125)) := (Below.refl _ _).alloc (Nat.le_refl _) _
    obtain ⟨A3, k3, w3, r3, R3, g3, -⟩ := row_app1 rasks_append rask_info (w1.alloc (.cells #[.int .i64 3, .int .i64 6, .int .i64 x.book, .int .i64 0, .int .i64 0, .int .i64 0] 125)) w1.heap.size (.slice none 0 0) 0 [] (World.ownsRow_nil _ _ _ _) (step x 3 6) w1.heap.size (heap_alloc_new _ _) (by omega) bW.size
    have b3 : Below w1.heap.size w1 w3 := bW.trans (below_of_grown g3 bW.size fun i hi => by simp [Value.ownBlock] at hi)
    have st : Hid (RsAt x w w1 [step x 3 6] (l3 x) w.heap.size (.slice A3 1 k3) 0 w3) := RsAt.start R3 b3 (B1.below b3 wl)
    obtain ⟨c0, -⟩ := B1.cells
    clear B1 bW R3 g3 b3
    go_wp2_with (first | (at_builtin; refine wpList_run_app rfl (.tmp 9) (.tmp 14) rfl rfl _ _ rfl rfl r3 ?_) | go_in)
    clear r3 c0
    go_loopw [3, 4] (fun v i wr => ∃ (k : Nat) (z : Int), i = .int .i64 z ∧ z = 2 - (k : Int) ∧ RsAt x w w1 [step x 3 6] (l3 x) w.heap.size v k wr) (fun _ i _ => (3 + intOf i).toNat)
    case atStart => exact ⟨0, 2, rfl, rfl, st.out⟩
    case round =>
      clear st
      obtain ⟨k, z, rfl, hz, hR⟩ := hrel
      have hk3 := hR.kk
      have hbx := hR.box
      have hwl : w.heap.size < wr.heap.size := hbx.lt
      obtain ⟨c0, c1, -, c3, c4, c5, c6⟩ := hbx.cells
      clear hbx
      obtain ⟨n, A, c, rfl, hn7, hrow⟩ := hR.few (by simp)
      rcases (by omega : k = 0 ∨ k = 1 ∨ k = 2 ∨ k = 3) with rfl | rfl | rfl | rfl
      · obtain rfl : z = 2 := by omega
        clear hz hk3
        have hs : (l3 x)[0]? = some (step x 2 3) := rfl
        by_cases hu : 0 < x.u2
        · have hp : has x (step x 2 3) = true := decide_eq_true hu
          have bW : Below wr.heap.size wr (wr.alloc (.cells #[.int .i64 2, .int .i64 3, .int .i64 x.book, .int .i64 0, .int .i64 0, .int .i64 0] 125)) := ((Below.refl _ _).alloc (Nat.le_refl _) _)
          obtain ⟨A3, k3, w3, r3, R3, g3, -⟩ := row_app1 rasks_append rask_info (wr.alloc (.cells #[.int .i64 2, .int .i64 3, .int .i64 x.book, .int .i64 0, .int .i64 0, .int .i64 0] 125)) w1.heap.size _ n _ (rt_below hrow bW) (step x 2 3) wr.heap.size (heap_alloc_new _ _) (by omega) (by have := hR.be.size; have := bW.size; omega)
          have nx := Lib.hid (hR.more wl hs hp (by omega) bW hrow R3 g3)
          clear hs hp bW R3 g3 hrow hR
          go_wp2_with (first | (at_builtin; refine wpList_run_app rfl (.tmp 25) (.tmp 31) rfl rfl _ _ rfl rfl r3 ?_) | go_in)
          exact ⟨⟨1, _, rfl, by omega, nx.out⟩, by simp [intOf]⟩
        · have hp : has x (step x 2 3) = false := decide_eq_false hu
          have nx := Lib.hid (hR.same hs hp (by omega))
          clear hs hp hrow hR
          go_wp2_with fail
          exact ⟨⟨1, _, rfl, by omega, nx.out⟩, by simp [intOf]⟩
      · obtain rfl : z = 1 := by omega
        clear hz hk3
        have hs : (l3 x)[1]? = some (step x 1 3) := rfl
        by_cases hu : 0 < x.u1
        · have hp : has x (step x 1 3) = true := decide_eq_true hu
          have bW : Below wr.heap.size wr (wr.alloc (.cells #[.int .i64 1, .int .i64 3, .int .i64 x.book, .int .i64 0, .int .i64 0, .int .i64 0] 125)) := ((Below.refl _ _).alloc (Nat.le_refl _) _)
          obtain ⟨A3, k3, w3, r3, R3, g3, -⟩ := row_app1 rasks_append rask_info (wr.alloc (.cells #[.int .i64 1, .int .i64 3, .int .i64 x.book, .int .i64 0, .int .i64 0, .int .i64 0] 125)) w1.heap.size _ n _ (rt_below hrow bW) (step x 1 3) wr.heap.size (heap_alloc_new _ _) (by omega) (by have := hR.be.size; have := bW.size; omega)
          have nx := Lib.hid (hR.more wl hs hp (by omega) bW hrow R3 g3)
          clear hs hp bW R3 g3 hrow hR
          go_wp2_with (first | (at_builtin; refine wpList_run_app rfl (.tmp 25) (.tmp 31) rfl rfl _ _ rfl rfl r3 ?_) | go_in)
          exact ⟨⟨2, _, rfl, by omega, nx.out⟩, by simp [intOf]⟩
        · have hp : has x (step x 1 3) = false := decide_eq_false hu
          have nx := Lib.hid (hR.same hs hp (by omega))
          clear hs hp hrow hR
          go_wp2_with fail
          exact ⟨⟨2, _, rfl, by omega, nx.out⟩, by simp [intOf]⟩
      · obtain rfl : z = 0 := by omega
        clear hz hk3
        have hs : (l3 x)[2]? = some (step x 0 3) := rfl
        by_cases hu : 0 < x.u0
        · have hp : has x (step x 0 3) = true := decide_eq_true hu
          have bW : Below wr.heap.size wr (wr.alloc (.cells #[.int .i64 0, .int .i64 3, .int .i64 x.book, .int .i64 0, .int .i64 0, .int .i64 0] 125)) := ((Below.refl _ _).alloc (Nat.le_refl _) _)
          obtain ⟨A3, k3, w3, r3, R3, g3, -⟩ := row_app1 rasks_append rask_info (wr.alloc (.cells #[.int .i64 0, .int .i64 3, .int .i64 x.book, .int .i64 0, .int .i64 0, .int .i64 0] 125)) w1.heap.size _ n _ (rt_below hrow bW) (step x 0 3) wr.heap.size (heap_alloc_new _ _) (by omega) (by have := hR.be.size; have := bW.size; omega)
          have nx := Lib.hid (hR.more wl hs hp (by omega) bW hrow R3 g3)
          clear hs hp bW R3 g3 hrow hR
          go_wp2_with (first | (at_builtin; refine wpList_run_app rfl (.tmp 25) (.tmp 31) rfl rfl _ _ rfl rfl r3 ?_) | go_in)
          exact ⟨⟨3, _, rfl, by omega, nx.out⟩, by simp [intOf]⟩
        · have hp : has x (step x 0 3) = false := decide_eq_false hu
          have nx := Lib.hid (hR.same hs hp (by omega))
          clear hs hp hrow hR
          go_wp2_with fail
          exact ⟨⟨3, _, rfl, by omega, nx.out⟩, by simp [intOf]⟩
      · obtain rfl : z = -1 := by omega
        obtain ⟨l', hrl, hll'⟩ := hR.done rfl rfl
        have hln : l'.length = n := by rw [hll']; exact rt_len hrow
        have E : Hid (StpsTo 125 w (bck x) (.returned (.slice A n c)) wr) := ⟨_, rfl, by
          have hfw : bck x = l' := by rw [hf.out, hll']
          rw [hfw, hln]
          rw [hln] at hrl
          exact rt_mono hrl b1.out.size, b1.out.trans (hR.be.mono b1.out.size)⟩
        clear hR hrow hrl hll' hln hz hk3 hn7
        go_wp2_with fail
        go_ret
        exact E.out
end Pl
end Go.Proofs.YtpkdigegkemogaaGreatDoor
namespace Go.Proofs.YtpkdigegkemogaaGreatDoor
set_option maxRecDepth 100000
open Go.RowKit
open Go.Proofs.YtpkdigegkemogaaGreatDoor.Pk (one_at one_free one_set lt_some grown_set grown_trans grown_refl)
namespace Pl
open Wt (Wan may Opn mayOp may_any below_drewN)

def regionAt (k : Nat) : Code → Option Code
  | .region id ops d => if id == k then some (.region id ops d) else none
  | .seq a b => (regionAt k a).orElse fun _ => regionAt k b
  | .cond _ a b => (regionAt k a).orElse fun _ => regionAt k b
  | .block _ c => regionAt k c
  | .loop c => regionAt k c
  | .scope c => regionAt k c
  | _ => none
noncomputable def bk_2 : Code := (Tryz.f134.body.bind (regionAt 2)).getD .skip
set_option maxHeartbeats 12800000 in
theorem bk2 (z0 z2 z4 z5 z6 z7 z8 z9 z10 z11 z12 z13 z14 z15 z16 z17 : Value) (W : World) (q g : Nat) (x : Wan) (s0 s1 s2 s3 : Stp) (nl : List Int) (l : List Stp)
    (CB : Hid (∀ w', Below W.heap.size W w' → BoxW w' q x))
    (F0 : Hid (∀ w', Below W.heap.size W w' → Calls Tryz.prog 170 #[.int .i64 3, .int .i64 6, .pointer (some ⟨g, 0, none⟩)] w' fun e w'' => e = .returned (.agg #[.int .i64 s0.node, .int .i64 s0.op.kind, .int .i64 s0.op.book, .int .i64 s0.op.units, .int .i64 s0.op.cust, .int .i64 s0.op.amount]) ∧ Below W.heap.size W w''))
    (F1 : Hid (∀ w', Below W.heap.size W w' → Calls Tryz.prog 170 #[.int .i64 2, .int .i64 3, .pointer (some ⟨g, 0, none⟩)] w' fun e w'' => e = .returned (.agg #[.int .i64 s1.node, .int .i64 s1.op.kind, .int .i64 s1.op.book, .int .i64 s1.op.units, .int .i64 s1.op.cust, .int .i64 s1.op.amount]) ∧ Below W.heap.size W w''))
    (F2 : Hid (∀ w', Below W.heap.size W w' → Calls Tryz.prog 170 #[.int .i64 1, .int .i64 3, .pointer (some ⟨g, 0, none⟩)] w' fun e w'' => e = .returned (.agg #[.int .i64 s2.node, .int .i64 s2.op.kind, .int .i64 s2.op.book, .int .i64 s2.op.units, .int .i64 s2.op.cust, .int .i64 s2.op.amount]) ∧ Below W.heap.size W w''))
    (F3 : Hid (∀ w', Below W.heap.size W w' → Calls Tryz.prog 170 #[.int .i64 0, .int .i64 3, .pointer (some ⟨g, 0, none⟩)] w' fun e w'' => e = .returned (.agg #[.int .i64 s3.node, .int .i64 s3.op.kind, .int .i64 s3.op.book, .int .i64 s3.op.units, .int .i64 s3.op.cust, .int .i64 s3.op.amount]) ∧ Below W.heap.size W w''))
    (AK : Hid (∀ w', Below W.heap.size W w' → Calls Tryz.prog 153 #[.agg #[.int .i64 x.book, .int .i64 x.cust, .int .i64 x.dead, .int .i64 x.u0, .int .i64 x.u1, .int .i64 x.u2, .int .i64 x.price]] w' fun e w'' => ∃ b, e = .returned (.func (.func 172) #[] #[.pointer (some ⟨b, 0, none⟩)]) ∧ Asker w'' W.heap.size b nl ∧ Below W.heap.size W w'' ∧ Below w'.heap.size w' w''))
    (TH : Hid (∀ w' t b, Below W.heap.size W w' → w'.heap[t]? = some (.cells #[Value.int .i64 s0.node, .int .i64 s0.op.kind, .int .i64 s0.op.book, .int .i64 s0.op.units, .int .i64 s0.op.cust, .int .i64 s0.op.amount, .int .i64 s1.node, .int .i64 s1.op.kind, .int .i64 s1.op.book, .int .i64 s1.op.units, .int .i64 s1.op.cust, .int .i64 s1.op.amount, .int .i64 s2.node, .int .i64 s2.op.kind, .int .i64 s2.op.book, .int .i64 s2.op.units, .int .i64 s2.op.cust, .int .i64 s2.op.amount, .int .i64 s3.node, .int .i64 s3.op.kind, .int .i64 s3.op.book, .int .i64 s3.op.units, .int .i64 s3.op.cust, .int .i64 s3.op.amount] 181 (0, 0)) → Asker w' W.heap.size b nl → Calls Tryz.prog 152 #[.slice (some ⟨t, 0, none⟩) 4 4, .func (.func 172) #[] #[.pointer (some ⟨b, 0, none⟩)]] w' fun e w'' => ∃ v, e = .returned v ∧ RowT 181 w'' W.heap.size v l.length l ∧ Below W.heap.size W w''))
    (Q : Exit → Act → World → Prop)
    (hP : ∀ c a d v w, Q (.panic c) (Act.put a d v) w → Q (.panic c) a w)
    (hQ : ∀ (y6 y7 y8 y9 y10 y11 y12 y13 y14 y15 y16 y17 v : Value) (W3 : World), RowT 181 W3 W.heap.size v l.length l → Below W.heap.size W W3 → Q .normal ⟨#[z0, .pointer (some ⟨q, 0, none⟩), v, .func (.func 170) #[] #[.pointer (some ⟨g, 0, none⟩)], z4, z5, y6, y7, y8, y9, y10, y11, y12, y13, y14, y15, y16, y17], []⟩ W3) :
    Code.wp Tryz.prog bk_2 Q ⟨#[z0, .pointer (some ⟨q, 0, none⟩), z2, .func (.func 170) #[] #[.pointer (some ⟨g, 0, none⟩)], z4, z5, z6, z7, z8, z9, z10, z11, z12, z13, z14, z15, z16, z17], []⟩ W := by
  conv => arg 2; whnf
  have b0 : Below W.heap.size W W.drew := ⟨rfl, rfl, rfl, Nat.le_refl _, fun _ _ => rfl⟩
  refine wp_region_held_drew (S := fun w => Below W.heap.size W w) (by kernel_rfl) b0 (fun hHeld => ?_)
  replace hQ := Lib.hid hQ
  clear b0
  obtain ⟨v0, hv⟩ : ∃ v, v = W.drew := ⟨_, rfl⟩
  rw [← hv] at hHeld ⊢
  clear hv
  refine' tkY 0 hP ?c hHeld ?_
  case c => intro w _; go_simp; try with_reducible rfl
  simp only [Act.put, sQa, sQb, sQc]
  refine' tkY 2 hP ?c hHeld ?_
  case c => intro w _; go_simp; try with_reducible rfl
  simp only [Act.put, sQa, sQb, sQc]
  refine' tkY 4 hP ?c hHeld ?_
  case c => intro w _; go_simp; try with_reducible rfl
  simp only [Act.put, sQa, sQb, sQc]
  refine' tkY 6 hP ?c hHeld ?_
  case c => intro w _; go_simp; try with_reducible rfl
  simp only [Act.put, sQa, sQb, sQc]
  refine' tkY 9 hP ?c hHeld ?_
  case c => intro w hSw; obtain ⟨c0, c1, c2, c3, c4, c5, c6⟩ := (CB.out _ hSw).cells; go_simp; try with_reducible rfl
  simp only [Act.put, sQa, sQb, sQc]
  refine wpAnyH_ready (rs := [1]) (by kernel_rfl) (by simp) ?_
  refine' tkC 1 (fun K hK => ?st6) ?mo6
  case st6 =>
    go_simp
    refine (F0.out _ hHeld).mono ?_
    rintro e v1 ⟨rfl, h6⟩
    clear hHeld
    go_simp
    refine hK.out _ _ h6 (fun hHeld => ?_)
    clear hK K h6
    try simp only [Act.put, sQa, sQb, sQc]
    refine wpAnyH_ready (rs := [3]) (by kernel_rfl) (by simp) ?_
    refine' tkC 3 (fun K hK => ?st7) ?mo7
    case st7 =>
      go_simp
      refine (F1.out _ hHeld).mono ?_
      rintro e v2 ⟨rfl, h6⟩
      clear hHeld
      go_simp
      refine hK.out _ _ h6 (fun hHeld => ?_)
      clear hK K h6
      try simp only [Act.put, sQa, sQb, sQc]
      refine wpAnyH_ready (rs := [5]) (by kernel_rfl) (by simp) ?_
      refine' tkC 5 (fun K hK => ?st8) ?mo8
      case st8 =>
        go_simp
        refine (F2.out _ hHeld).mono ?_
        rintro e v3 ⟨rfl, h6⟩
        clear hHeld
        go_simp
        refine hK.out _ _ h6 (fun hHeld => ?_)
        clear hK K h6
        try simp only [Act.put, sQa, sQb, sQc]
        refine wpAnyH_ready (rs := [7]) (by kernel_rfl) (by simp) ?_
        refine' tkC 7 (fun K hK => ?st9) ?mo9
        case st9 =>
          go_simp
          refine (F3.out _ hHeld).mono ?_
          rintro e v4 ⟨rfl, h6⟩
          clear hHeld
          go_simp
          refine hK.out _ _ h6 (fun hHeld => ?_)
          clear hK K h6
          try simp only [Act.put, sQa, sQb, sQc]
          refine wpAnyH_ready (rs := [8, 10]) (by kernel_rfl) (by simp) ?_
          refine' tkC 8 (fun K hK => ?st10) ?mo10
          case st10 =>
            go_simp
            refine hK.out _ _ (hHeld.alloc hHeld.size _) (fun hHeld2 => ?_)
            clear hK K
            try simp only [Act.put, sQa, sQb, sQc]
            have T8 : (v4.alloc (.cells #[Value.int .i64 s0.node, .int .i64 s0.op.kind, .int .i64 s0.op.book, .int .i64 s0.op.units, .int .i64 s0.op.cust, .int .i64 s0.op.amount, .int .i64 s1.node, .int .i64 s1.op.kind, .int .i64 s1.op.book, .int .i64 s1.op.units, .int .i64 s1.op.cust, .int .i64 s1.op.amount, .int .i64 s2.node, .int .i64 s2.op.kind, .int .i64 s2.op.book, .int .i64 s2.op.units, .int .i64 s2.op.cust, .int .i64 s2.op.amount, .int .i64 s3.node, .int .i64 s3.op.kind, .int .i64 s3.op.book, .int .i64 s3.op.units, .int .i64 s3.op.cust, .int .i64 s3.op.amount] 181)).heap[v4.heap.size]? = _ := heap_alloc_new _ _
            obtain ⟨v5, hv⟩ : ∃ v, v = v4.alloc (.cells #[Value.int .i64 s0.node, .int .i64 s0.op.kind, .int .i64 s0.op.book, .int .i64 s0.op.units, .int .i64 s0.op.cust, .int .i64 s0.op.amount, .int .i64 s1.node, .int .i64 s1.op.kind, .int .i64 s1.op.book, .int .i64 s1.op.units, .int .i64 s1.op.cust, .int .i64 s1.op.amount, .int .i64 s2.node, .int .i64 s2.op.kind, .int .i64 s2.op.book, .int .i64 s2.op.units, .int .i64 s2.op.cust, .int .i64 s2.op.amount, .int .i64 s3.node, .int .i64 s3.op.kind, .int .i64 s3.op.book, .int .i64 s3.op.units, .int .i64 s3.op.cust, .int .i64 s3.op.amount] 181) := ⟨_, rfl⟩
            rw [← hv] at T8 hHeld2 ⊢
            clear hv hHeld
            have hHeld := hHeld2
            clear hHeld2
            obtain ⟨g8, hg⟩ : ∃ g, g = v4.heap.size := ⟨_, rfl⟩
            rw [← hg] at T8 ⊢
            clear hg
            refine wpAnyH_ready (rs := [10]) (by kernel_rfl) (by simp) ?_
            refine' tkC 10 (fun K hK => ?st11) ?mo11
            case st11 =>
              go_simp
              refine (AK.out _ hHeld).mono ?_
              rintro e v6 ⟨b, rfl, hA, h6, h7⟩
              replace T8 := (h7.block _ (lt_some T8)).trans T8
              clear h7 hHeld
              go_simp
              refine hK.out _ _ h6 (fun hHeld => ?_)
              clear hK K h6
              try simp only [Act.put, sQa, sQb, sQc]
              refine wpAnyH_ready (rs := [11]) (by kernel_rfl) (by simp) ?_
              refine' tkC 11 (fun K hK => ?st12) ?mo12
              case st12 =>
                go_simp
                refine (TH.out _ g8 b hHeld T8 hA).mono ?_
                rintro e v7 ⟨v, rfl, hR, h6⟩
                clear hHeld T8 hA
                go_simp
                refine hK.out _ _ h6 (fun hHeld => ?_)
                clear hK K h6
                try simp only [Act.put, sQa, sQb, sQc]
                refine' tkY 12 hP ?c hHeld ?_
                case c => intro w _; go_simp; try with_reducible rfl
                simp only [Act.put, sQa, sQb, sQc]
                refine wpAnyH_done (by kernel_rfl) ?_ _
                exact hQ.out _ _ _ _ _ _ _ _ _ _ _ _ _ _ hR hHeld
              case mo12 => exact AllReadyH.nil
            case mo11 => exact AllReadyH.nil
          case mo10 =>
            refine' tkC 10 (fun K hK => ?st14) ?mo14
            case st14 =>
              go_simp
              refine (AK.out _ hHeld).mono ?_
              rintro e v5 ⟨b, rfl, hA, h6, h7⟩
              clear h7 hHeld
              go_simp
              refine hK.out _ _ h6 (fun hHeld => ?_)
              clear hK K h6
              try simp only [Act.put, sQa, sQb, sQc]
              refine wpAnyH_ready (rs := [8]) (by kernel_rfl) (by simp) ?_
              refine' tkC 8 (fun K hK => ?st15) ?mo15
              case st15 =>
                go_simp
                refine hK.out _ _ (hHeld.alloc hHeld.size _) (fun hHeld2 => ?_)
                clear hK K
                try simp only [Act.put, sQa, sQb, sQc]
                have T8 : (v5.alloc (.cells #[Value.int .i64 s0.node, .int .i64 s0.op.kind, .int .i64 s0.op.book, .int .i64 s0.op.units, .int .i64 s0.op.cust, .int .i64 s0.op.amount, .int .i64 s1.node, .int .i64 s1.op.kind, .int .i64 s1.op.book, .int .i64 s1.op.units, .int .i64 s1.op.cust, .int .i64 s1.op.amount, .int .i64 s2.node, .int .i64 s2.op.kind, .int .i64 s2.op.book, .int .i64 s2.op.units, .int .i64 s2.op.cust, .int .i64 s2.op.amount, .int .i64 s3.node, .int .i64 s3.op.kind, .int .i64 s3.op.book, .int .i64 s3.op.units, .int .i64 s3.op.cust, .int .i64 s3.op.amount] 181)).heap[v5.heap.size]? = _ := heap_alloc_new _ _
                replace hA := hA.below ((Below.refl _ _).alloc (Nat.le_refl _) (.cells #[Value.int .i64 s0.node, .int .i64 s0.op.kind, .int .i64 s0.op.book, .int .i64 s0.op.units, .int .i64 s0.op.cust, .int .i64 s0.op.amount, .int .i64 s1.node, .int .i64 s1.op.kind, .int .i64 s1.op.book, .int .i64 s1.op.units, .int .i64 s1.op.cust, .int .i64 s1.op.amount, .int .i64 s2.node, .int .i64 s2.op.kind, .int .i64 s2.op.book, .int .i64 s2.op.units, .int .i64 s2.op.cust, .int .i64 s2.op.amount, .int .i64 s3.node, .int .i64 s3.op.kind, .int .i64 s3.op.book, .int .i64 s3.op.units, .int .i64 s3.op.cust, .int .i64 s3.op.amount] 181))
                obtain ⟨v6, hv⟩ : ∃ v, v = v5.alloc (.cells #[Value.int .i64 s0.node, .int .i64 s0.op.kind, .int .i64 s0.op.book, .int .i64 s0.op.units, .int .i64 s0.op.cust, .int .i64 s0.op.amount, .int .i64 s1.node, .int .i64 s1.op.kind, .int .i64 s1.op.book, .int .i64 s1.op.units, .int .i64 s1.op.cust, .int .i64 s1.op.amount, .int .i64 s2.node, .int .i64 s2.op.kind, .int .i64 s2.op.book, .int .i64 s2.op.units, .int .i64 s2.op.cust, .int .i64 s2.op.amount, .int .i64 s3.node, .int .i64 s3.op.kind, .int .i64 s3.op.book, .int .i64 s3.op.units, .int .i64 s3.op.cust, .int .i64 s3.op.amount] 181) := ⟨_, rfl⟩
                rw [← hv] at T8 hA hHeld2 ⊢
                clear hv hHeld
                have hHeld := hHeld2
                clear hHeld2
                obtain ⟨g8, hg⟩ : ∃ g, g = v5.heap.size := ⟨_, rfl⟩
                rw [← hg] at T8 ⊢
                clear hg
                refine wpAnyH_ready (rs := [11]) (by kernel_rfl) (by simp) ?_
                refine' tkC 11 (fun K hK => ?st16) ?mo16
                case st16 =>
                  go_simp
                  refine (TH.out _ g8 b hHeld T8 hA).mono ?_
                  rintro e v7 ⟨v, rfl, hR, h6⟩
                  clear hHeld T8 hA
                  go_simp
                  refine hK.out _ _ h6 (fun hHeld => ?_)
                  clear hK K h6
                  try simp only [Act.put, sQa, sQb, sQc]
                  refine' tkY 12 hP ?c hHeld ?_
                  case c => intro w _; go_simp; try with_reducible rfl
                  simp only [Act.put, sQa, sQb, sQc]
                  refine wpAnyH_done (by kernel_rfl) ?_ _
                  exact hQ.out _ _ _ _ _ _ _ _ _ _ _ _ _ _ hR hHeld
                case mo16 => exact AllReadyH.nil
              case mo15 => exact AllReadyH.nil
            case mo14 => exact AllReadyH.nil
        case mo9 => exact AllReadyH.nil
      case mo8 => exact AllReadyH.nil
    case mo7 => exact AllReadyH.nil
  case mo6 => exact AllReadyH.nil
set_option maxHeartbeats 3200000 in
theorem bck_any (w : World) (x : Wan) : Calls Tryz.prog 134 #[wanv x] w (StpsTo 181 w (bck x)) := by
  obtain ⟨W0, hW0⟩ : ∃ W0, W0 = w.alloc (.cells #[.int .i64 x.book, .int .i64 x.cust, .int .i64 x.dead, .int .i64 x.u0, .int .i64 x.u1, .int .i64 x.u2, .int .i64 x.price] 55) := ⟨_, rfl⟩
  have B0 : BoxW W0 w.heap.size x := by rw [hW0]; exact heap_alloc_new _ _
  have be0 : Below w.heap.size w W0 := by rw [hW0]; exact (Below.refl _ w).alloc (Nat.le_refl _) _
  have S := stepsOf_any W0 x
  unfold wanv at S
  replace S := Lib.hid S
  replace hW0 := Lib.hid hW0
  replace B0 := Lib.hid B0
  replace be0 := Lib.hid be0
  unfold wanv
  go_enter Tryz.func134, Tryz.ntmps134
  go_wp2_with fail
  rw [← hW0.out]
  refine S.out.mono ?_
  rintro e w1 ⟨g, rfl, hg, h1⟩
  have B1 := B0.out.below h1 B0.out.lt
  have b1 : Hid (Below w.heap.size w w1) := be0.out.trans (h1.mono be0.out.size)
  have G : ∀ w', Below w1.heap.size w1 w' → BoxW w' g x := fun w' h => hg.below h hg.lt
  have CB : Hid (∀ w', Below w1.heap.size w1 w' → BoxW w' w.heap.size x) := fun w' h => B1.below h B1.lt
  have F0 : ∀ w', Below w1.heap.size w1 w' → Calls Tryz.prog 170 #[.int .i64 3, .int .i64 6, .pointer (some ⟨g, 0, none⟩)] w' fun e w'' => e = .returned (spv (step x 3 6)) ∧ Below w1.heap.size w1 w'' := fun w' h => (stepO_any w' g x (G w' h) 3 6 (by decide) (by decide)).mono fun _ _ ⟨h1, h2⟩ => ⟨h1, h.trans (h2.mono h.size)⟩
  have F1 : ∀ w', Below w1.heap.size w1 w' → Calls Tryz.prog 170 #[.int .i64 2, .int .i64 3, .pointer (some ⟨g, 0, none⟩)] w' fun e w'' => e = .returned (spv (step x 2 3)) ∧ Below w1.heap.size w1 w'' := fun w' h => (stepO_any w' g x (G w' h) 2 3 (by decide) (by decide)).mono fun _ _ ⟨h1, h2⟩ => ⟨h1, h.trans (h2.mono h.size)⟩
  have F2 : ∀ w', Below w1.heap.size w1 w' → Calls Tryz.prog 170 #[.int .i64 1, .int .i64 3, .pointer (some ⟨g, 0, none⟩)] w' fun e w'' => e = .returned (spv (step x 1 3)) ∧ Below w1.heap.size w1 w'' := fun w' h => (stepO_any w' g x (G w' h) 1 3 (by decide) (by decide)).mono fun _ _ ⟨h1, h2⟩ => ⟨h1, h.trans (h2.mono h.size)⟩
  have F3 : ∀ w', Below w1.heap.size w1 w' → Calls Tryz.prog 170 #[.int .i64 0, .int .i64 3, .pointer (some ⟨g, 0, none⟩)] w' fun e w'' => e = .returned (spv (step x 0 3)) ∧ Below w1.heap.size w1 w'' := fun w' h => (stepO_any w' g x (G w' h) 0 3 (by decide) (by decide)).mono fun _ _ ⟨h1, h2⟩ => ⟨h1, h.trans (h2.mono h.size)⟩
  have AK : Hid (∀ w', Below w1.heap.size w1 w' → Calls Tryz.prog 153 #[.agg #[.int .i64 x.book, .int .i64 x.cust, .int .i64 x.dead, .int .i64 x.u0, .int .i64 x.u1, .int .i64 x.u2, .int .i64 x.price]] w' fun e w'' => ∃ b, e = .returned (.func (.func 172) #[] #[.pointer (some ⟨b, 0, none⟩)]) ∧ Asker w'' w1.heap.size b (nodes x) ∧ Below w1.heap.size w1 w'' ∧ Below w'.heap.size w' w'') := fun w' h => (isAsked_any w' x).mono fun _ _ ⟨b, h1, h2, h3⟩ => ⟨b, h1, h2.mono h.size, h.trans (h3.mono h.size), h3⟩
  have TH : ∀ w' t b, Below w1.heap.size w1 w' → w'.heap[t]? = some (.cells (fls [step x 3 6, step x 2 3, step x 1 3, step x 0 3]).toArray 181 (0, 0)) → Asker w' w1.heap.size b (nodes x) → Calls Tryz.prog 152 #[.slice (some ⟨t, 0, none⟩) 4 4, .func (.func 172) #[] #[.pointer (some ⟨b, 0, none⟩)]] w' fun e w'' => ∃ v, e = .returned v ∧ RowT 181 w'' w1.heap.size v (bck x).length (bck x) ∧ Below w1.heap.size w1 w'' := fun w' t b h ht ha => (those_any w' t 4 _ b [step x 3 6, step x 2 3, step x 1 3, step x 0 3] rfl (by omega) ht (nodes x) ha).mono fun e w'' ⟨v, h1, h2, h3⟩ => ⟨v, h1, rt_mono h2 h.size, h.trans (h3.mono h.size)⟩
  clear S hW0 B0 be0 hg h1 G B1
  generalize hs0 : step x 3 6 = s0 at *
  unfold spv at F0
  generalize hs1 : step x 2 3 = s1 at *
  unfold spv at F1
  generalize hs2 : step x 1 3 = s2 at *
  unfold spv at F2
  generalize hs3 : step x 0 3 = s3 at *
  unfold spv at F3
  replace TH := Lib.hid TH
  replace F0 := Lib.hid F0
  replace F1 := Lib.hid F1
  replace F2 := Lib.hid F2
  replace F3 := Lib.hid F3
  clear hs0 hs1 hs2 hs3
  go_upto_region 2 with fail
  refine bk2 _ _ _ _ _ _ _ _ _ _ _ _ _ _ _ _ w1 w.heap.size g x s0 s1 s2 s3 (nodes x) (bck x) CB F0 F1 F2 F3 AK TH _ (fun _ _ d _ _ h => by cases d <;> exact h) (fun y6 y7 y8 y9 y10 y11 y12 y13 y14 y15 y16 y17 v w3 hR hb => ?_)
  have E : Hid (StpsTo 181 w (bck x) (.returned v) w3) := ⟨v, rfl, rt_mono hR b1.out.size, b1.out.trans (hb.mono b1.out.size)⟩
  clear hR hb CB AK TH F0 F1 F2 F3
  go_wp2_with fail
  go_ret
  exact E.out
end Pl
end Go.Proofs.YtpkdigegkemogaaGreatDoor
namespace Go.Proofs.YtpkdigegkemogaaGreatDoor
set_option maxRecDepth 100000
open Go.RowKit
open Go.Proofs.YtpkdigegkemogaaGreatDoor.Pk (one_at one_free one_set lt_some grown_set grown_trans grown_refl)
namespace Pl
open Wt (Wan may Opn mayOp may_any below_drewN)

noncomputable def fw_2 : Code := (Tryz.f132.body.bind (regionAt 2)).getD .skip
set_option maxHeartbeats 12800000 in
theorem fw2 (z0 z2 z4 z5 z6 z7 z8 z9 z10 z11 z12 z13 z14 z15 z16 z17 z18 z19 z20 z21 z22 z23 : Value) (W : World) (q g : Nat) (x : Wan) (s0 s1 s2 s3 s4 s5 s6 : Stp) (nl : List Int) (l : List Stp)
    (CB : Hid (∀ w', Below W.heap.size W w' → BoxW w' q x))
    (F0 : Hid (∀ w', Below W.heap.size W w' → Calls Tryz.prog 170 #[.int .i64 0, .int .i64 1, .pointer (some ⟨g, 0, none⟩)] w' fun e w'' => e = .returned (.agg #[.int .i64 s0.node, .int .i64 s0.op.kind, .int .i64 s0.op.book, .int .i64 s0.op.units, .int .i64 s0.op.cust, .int .i64 s0.op.amount]) ∧ Below W.heap.size W w''))
    (F1 : Hid (∀ w', Below W.heap.size W w' → Calls Tryz.prog 170 #[.int .i64 1, .int .i64 1, .pointer (some ⟨g, 0, none⟩)] w' fun e w'' => e = .returned (.agg #[.int .i64 s1.node, .int .i64 s1.op.kind, .int .i64 s1.op.book, .int .i64 s1.op.units, .int .i64 s1.op.cust, .int .i64 s1.op.amount]) ∧ Below W.heap.size W w''))
    (F2 : Hid (∀ w', Below W.heap.size W w' → Calls Tryz.prog 170 #[.int .i64 2, .int .i64 1, .pointer (some ⟨g, 0, none⟩)] w' fun e w'' => e = .returned (.agg #[.int .i64 s2.node, .int .i64 s2.op.kind, .int .i64 s2.op.book, .int .i64 s2.op.units, .int .i64 s2.op.cust, .int .i64 s2.op.amount]) ∧ Below W.heap.size W w''))
    (F3 : Hid (∀ w', Below W.heap.size W w' → Calls Tryz.prog 170 #[.int .i64 3, .int .i64 4, .pointer (some ⟨g, 0, none⟩)] w' fun e w'' => e = .returned (.agg #[.int .i64 s3.node, .int .i64 s3.op.kind, .int .i64 s3.op.book, .int .i64 s3.op.units, .int .i64 s3.op.cust, .int .i64 s3.op.amount]) ∧ Below W.heap.size W w''))
    (F4 : Hid (∀ w', Below W.heap.size W w' → Calls Tryz.prog 170 #[.int .i64 0, .int .i64 2, .pointer (some ⟨g, 0, none⟩)] w' fun e w'' => e = .returned (.agg #[.int .i64 s4.node, .int .i64 s4.op.kind, .int .i64 s4.op.book, .int .i64 s4.op.units, .int .i64 s4.op.cust, .int .i64 s4.op.amount]) ∧ Below W.heap.size W w''))
    (F5 : Hid (∀ w', Below W.heap.size W w' → Calls Tryz.prog 170 #[.int .i64 1, .int .i64 2, .pointer (some ⟨g, 0, none⟩)] w' fun e w'' => e = .returned (.agg #[.int .i64 s5.node, .int .i64 s5.op.kind, .int .i64 s5.op.book, .int .i64 s5.op.units, .int .i64 s5.op.cust, .int .i64 s5.op.amount]) ∧ Below W.heap.size W w''))
    (F6 : Hid (∀ w', Below W.heap.size W w' → Calls Tryz.prog 170 #[.int .i64 2, .int .i64 2, .pointer (some ⟨g, 0, none⟩)] w' fun e w'' => e = .returned (.agg #[.int .i64 s6.node, .int .i64 s6.op.kind, .int .i64 s6.op.book, .int .i64 s6.op.units, .int .i64 s6.op.cust, .int .i64 s6.op.amount]) ∧ Below W.heap.size W w''))
    (AK : Hid (∀ w', Below W.heap.size W w' → Calls Tryz.prog 153 #[.agg #[.int .i64 x.book, .int .i64 x.cust, .int .i64 x.dead, .int .i64 x.u0, .int .i64 x.u1, .int .i64 x.u2, .int .i64 x.price]] w' fun e w'' => ∃ b, e = .returned (.func (.func 172) #[] #[.pointer (some ⟨b, 0, none⟩)]) ∧ Asker w'' W.heap.size b nl ∧ Below W.heap.size W w'' ∧ Below w'.heap.size w' w''))
    (TH : Hid (∀ w' t b, Below W.heap.size W w' → w'.heap[t]? = some (.cells #[Value.int .i64 s0.node, .int .i64 s0.op.kind, .int .i64 s0.op.book, .int .i64 s0.op.units, .int .i64 s0.op.cust, .int .i64 s0.op.amount, .int .i64 s1.node, .int .i64 s1.op.kind, .int .i64 s1.op.book, .int .i64 s1.op.units, .int .i64 s1.op.cust, .int .i64 s1.op.amount, .int .i64 s2.node, .int .i64 s2.op.kind, .int .i64 s2.op.book, .int .i64 s2.op.units, .int .i64 s2.op.cust, .int .i64 s2.op.amount, .int .i64 s3.node, .int .i64 s3.op.kind, .int .i64 s3.op.book, .int .i64 s3.op.units, .int .i64 s3.op.cust, .int .i64 s3.op.amount, .int .i64 s4.node, .int .i64 s4.op.kind, .int .i64 s4.op.book, .int .i64 s4.op.units, .int .i64 s4.op.cust, .int .i64 s4.op.amount, .int .i64 s5.node, .int .i64 s5.op.kind, .int .i64 s5.op.book, .int .i64 s5.op.units, .int .i64 s5.op.cust, .int .i64 s5.op.amount, .int .i64 s6.node, .int .i64 s6.op.kind, .int .i64 s6.op.book, .int .i64 s6.op.units, .int .i64 s6.op.cust, .int .i64 s6.op.amount] 181 (0, 0)) → Asker w' W.heap.size b nl → Calls Tryz.prog 152 #[.slice (some ⟨t, 0, none⟩) 7 7, .func (.func 172) #[] #[.pointer (some ⟨b, 0, none⟩)]] w' fun e w'' => ∃ v, e = .returned v ∧ RowT 181 w'' W.heap.size v l.length l ∧ Below W.heap.size W w''))
    (Q : Exit → Act → World → Prop)
    (hP : ∀ c a d v w, Q (.panic c) (Act.put a d v) w → Q (.panic c) a w)
    (hQ : ∀ (y6 y7 y8 y9 y10 y11 y12 y13 y14 y15 y16 y17 y18 y19 y20 y21 y22 y23 v : Value) (W3 : World), RowT 181 W3 W.heap.size v l.length l → Below W.heap.size W W3 → Q .normal ⟨#[z0, .pointer (some ⟨q, 0, none⟩), v, .func (.func 170) #[] #[.pointer (some ⟨g, 0, none⟩)], z4, z5, y6, y7, y8, y9, y10, y11, y12, y13, y14, y15, y16, y17, y18, y19, y20, y21, y22, y23], []⟩ W3) :
    Code.wp Tryz.prog fw_2 Q ⟨#[z0, .pointer (some ⟨q, 0, none⟩), z2, .func (.func 170) #[] #[.pointer (some ⟨g, 0, none⟩)], z4, z5, z6, z7, z8, z9, z10, z11, z12, z13, z14, z15, z16, z17, z18, z19, z20, z21, z22, z23], []⟩ W := by
  conv => arg 2; whnf
  have b0 : Below W.heap.size W W.drew := ⟨rfl, rfl, rfl, Nat.le_refl _, fun _ _ => rfl⟩
  refine wp_region_held_drew (S := fun w => Below W.heap.size W w) (by kernel_rfl) b0 (fun hHeld => ?_)
  replace hQ := Lib.hid hQ
  clear b0
  obtain ⟨v0, hv⟩ : ∃ v, v = W.drew := ⟨_, rfl⟩
  rw [← hv] at hHeld ⊢
  clear hv
  refine' tkY 0 hP ?c hHeld ?_
  case c => intro w _; go_simp; try with_reducible rfl
  simp only [Act.put, sQa, sQb, sQc]
  refine' tkY 2 hP ?c hHeld ?_
  case c => intro w _; go_simp; try with_reducible rfl
  simp only [Act.put, sQa, sQb, sQc]
  refine' tkY 4 hP ?c hHeld ?_
  case c => intro w _; go_simp; try with_reducible rfl
  simp only [Act.put, sQa, sQb, sQc]
  refine' tkY 6 hP ?c hHeld ?_
  case c => intro w _; go_simp; try with_reducible rfl
  simp only [Act.put, sQa, sQb, sQc]
  refine' tkY 8 hP ?c hHeld ?_
  case c => intro w _; go_simp; try with_reducible rfl
  simp only [Act.put, sQa, sQb, sQc]
  refine' tkY 10 hP ?c hHeld ?_
  case c => intro w _; go_simp; try with_reducible rfl
  simp only [Act.put, sQa, sQb, sQc]
  refine' tkY 12 hP ?c hHeld ?_
  case c => intro w _; go_simp; try with_reducible rfl
  simp only [Act.put, sQa, sQb, sQc]
  refine' tkY 15 hP ?c hHeld ?_
  case c => intro w hSw; obtain ⟨c0, c1, c2, c3, c4, c5, c6⟩ := (CB.out _ hSw).cells; go_simp; try with_reducible rfl
  simp only [Act.put, sQa, sQb, sQc]
  refine wpAnyH_ready (rs := [1]) (by kernel_rfl) (by simp) ?_
  refine' tkC 1 (fun K hK => ?st9) ?mo9
  case st9 =>
    go_simp
    refine (F0.out _ hHeld).mono ?_
    rintro e v1 ⟨rfl, h6⟩
    clear hHeld
    go_simp
    refine hK.out _ _ h6 (fun hHeld => ?_)
    clear hK K h6
    try simp only [Act.put, sQa, sQb, sQc]
    refine wpAnyH_ready (rs := [3]) (by kernel_rfl) (by simp) ?_
    refine' tkC 3 (fun K hK => ?st10) ?mo10
    case st10 =>
      go_simp
      refine (F1.out _ hHeld).mono ?_
      rintro e v2 ⟨rfl, h6⟩
      clear hHeld
      go_simp
      refine hK.out _ _ h6 (fun hHeld => ?_)
      clear hK K h6
      try simp only [Act.put, sQa, sQb, sQc]
      refine wpAnyH_ready (rs := [5]) (by kernel_rfl) (by simp) ?_
      refine' tkC 5 (fun K hK => ?st11) ?mo11
      case st11 =>
        go_simp
        refine (F2.out _ hHeld).mono ?_
        rintro e v3 ⟨rfl, h6⟩
        clear hHeld
        go_simp
        refine hK.out _ _ h6 (fun hHeld => ?_)
        clear hK K h6
        try simp only [Act.put, sQa, sQb, sQc]
        refine wpAnyH_ready (rs := [7]) (by kernel_rfl) (by simp) ?_
        refine' tkC 7 (fun K hK => ?st12) ?mo12
        case st12 =>
          go_simp
          refine (F3.out _ hHeld).mono ?_
          rintro e v4 ⟨rfl, h6⟩
          clear hHeld
          go_simp
          refine hK.out _ _ h6 (fun hHeld => ?_)
          clear hK K h6
          try simp only [Act.put, sQa, sQb, sQc]
          refine wpAnyH_ready (rs := [9]) (by kernel_rfl) (by simp) ?_
          refine' tkC 9 (fun K hK => ?st13) ?mo13
          case st13 =>
            go_simp
            refine (F4.out _ hHeld).mono ?_
            rintro e v5 ⟨rfl, h6⟩
            clear hHeld
            go_simp
            refine hK.out _ _ h6 (fun hHeld => ?_)
            clear hK K h6
            try simp only [Act.put, sQa, sQb, sQc]
            refine wpAnyH_ready (rs := [11]) (by kernel_rfl) (by simp) ?_
            refine' tkC 11 (fun K hK => ?st14) ?mo14
            case st14 =>
              go_simp
              refine (F5.out _ hHeld).mono ?_
              rintro e v6 ⟨rfl, h6⟩
              clear hHeld
              go_simp
              refine hK.out _ _ h6 (fun hHeld => ?_)
              clear hK K h6
              try simp only [Act.put, sQa, sQb, sQc]
              refine wpAnyH_ready (rs := [13]) (by kernel_rfl) (by simp) ?_
              refine' tkC 13 (fun K hK => ?st15) ?mo15
              case st15 =>
                go_simp
                refine (F6.out _ hHeld).mono ?_
                rintro e v7 ⟨rfl, h6⟩
                clear hHeld
                go_simp
                refine hK.out _ _ h6 (fun hHeld => ?_)
                clear hK K h6
                try simp only [Act.put, sQa, sQb, sQc]
                refine wpAnyH_ready (rs := [14, 16]) (by kernel_rfl) (by simp) ?_
                refine' tkC 14 (fun K hK => ?st16) ?mo16
                case st16 =>
                  go_simp
                  refine hK.out _ _ (hHeld.alloc hHeld.size _) (fun hHeld2 => ?_)
                  clear hK K
                  try simp only [Act.put, sQa, sQb, sQc]
                  have T8 : (v7.alloc (.cells #[Value.int .i64 s0.node, .int .i64 s0.op.kind, .int .i64 s0.op.book, .int .i64 s0.op.units, .int .i64 s0.op.cust, .int .i64 s0.op.amount, .int .i64 s1.node, .int .i64 s1.op.kind, .int .i64 s1.op.book, .int .i64 s1.op.units, .int .i64 s1.op.cust, .int .i64 s1.op.amount, .int .i64 s2.node, .int .i64 s2.op.kind, .int .i64 s2.op.book, .int .i64 s2.op.units, .int .i64 s2.op.cust, .int .i64 s2.op.amount, .int .i64 s3.node, .int .i64 s3.op.kind, .int .i64 s3.op.book, .int .i64 s3.op.units, .int .i64 s3.op.cust, .int .i64 s3.op.amount, .int .i64 s4.node, .int .i64 s4.op.kind, .int .i64 s4.op.book, .int .i64 s4.op.units, .int .i64 s4.op.cust, .int .i64 s4.op.amount, .int .i64 s5.node, .int .i64 s5.op.kind, .int .i64 s5.op.book, .int .i64 s5.op.units, .int .i64 s5.op.cust, .int .i64 s5.op.amount, .int .i64 s6.node, .int .i64 s6.op.kind, .int .i64 s6.op.book, .int .i64 s6.op.units, .int .i64 s6.op.cust, .int .i64 s6.op.amount] 181)).heap[v7.heap.size]? = _ := heap_alloc_new _ _
                  obtain ⟨v8, hv⟩ : ∃ v, v = v7.alloc (.cells #[Value.int .i64 s0.node, .int .i64 s0.op.kind, .int .i64 s0.op.book, .int .i64 s0.op.units, .int .i64 s0.op.cust, .int .i64 s0.op.amount, .int .i64 s1.node, .int .i64 s1.op.kind, .int .i64 s1.op.book, .int .i64 s1.op.units, .int .i64 s1.op.cust, .int .i64 s1.op.amount, .int .i64 s2.node, .int .i64 s2.op.kind, .int .i64 s2.op.book, .int .i64 s2.op.units, .int .i64 s2.op.cust, .int .i64 s2.op.amount, .int .i64 s3.node, .int .i64 s3.op.kind, .int .i64 s3.op.book, .int .i64 s3.op.units, .int .i64 s3.op.cust, .int .i64 s3.op.amount, .int .i64 s4.node, .int .i64 s4.op.kind, .int .i64 s4.op.book, .int .i64 s4.op.units, .int .i64 s4.op.cust, .int .i64 s4.op.amount, .int .i64 s5.node, .int .i64 s5.op.kind, .int .i64 s5.op.book, .int .i64 s5.op.units, .int .i64 s5.op.cust, .int .i64 s5.op.amount, .int .i64 s6.node, .int .i64 s6.op.kind, .int .i64 s6.op.book, .int .i64 s6.op.units, .int .i64 s6.op.cust, .int .i64 s6.op.amount] 181) := ⟨_, rfl⟩
                  rw [← hv] at T8 hHeld2 ⊢
                  clear hv hHeld
                  have hHeld := hHeld2
                  clear hHeld2
                  obtain ⟨g8, hg⟩ : ∃ g, g = v7.heap.size := ⟨_, rfl⟩
                  rw [← hg] at T8 ⊢
                  clear hg
                  refine wpAnyH_ready (rs := [16]) (by kernel_rfl) (by simp) ?_
                  refine' tkC 16 (fun K hK => ?st17) ?mo17
                  case st17 =>
                    go_simp
                    refine (AK.out _ hHeld).mono ?_
                    rintro e v9 ⟨b, rfl, hA, h6, h7⟩
                    replace T8 := (h7.block _ (lt_some T8)).trans T8
                    clear h7 hHeld
                    go_simp
                    refine hK.out _ _ h6 (fun hHeld => ?_)
                    clear hK K h6
                    try simp only [Act.put, sQa, sQb, sQc]
                    refine wpAnyH_ready (rs := [17]) (by kernel_rfl) (by simp) ?_
                    refine' tkC 17 (fun K hK => ?st18) ?mo18
                    case st18 =>
                      go_simp
                      refine (TH.out _ g8 b hHeld T8 hA).mono ?_
                      rintro e v10 ⟨v, rfl, hR, h6⟩
                      clear hHeld T8 hA
                      go_simp
                      refine hK.out _ _ h6 (fun hHeld => ?_)
                      clear hK K h6
                      try simp only [Act.put, sQa, sQb, sQc]
                      refine' tkY 18 hP ?c hHeld ?_
                      case c => intro w _; go_simp; try with_reducible rfl
                      simp only [Act.put, sQa, sQb, sQc]
                      refine wpAnyH_done (by kernel_rfl) ?_ _
                      exact hQ.out _ _ _ _ _ _ _ _ _ _ _ _ _ _ _ _ _ _ _ _ hR hHeld
                    case mo18 => exact AllReadyH.nil
                  case mo17 => exact AllReadyH.nil
                case mo16 =>
                  refine' tkC 16 (fun K hK => ?st20) ?mo20
                  case st20 =>
                    go_simp
                    refine (AK.out _ hHeld).mono ?_
                    rintro e v8 ⟨b, rfl, hA, h6, h7⟩
                    clear h7 hHeld
                    go_simp
                    refine hK.out _ _ h6 (fun hHeld => ?_)
                    clear hK K h6
                    try simp only [Act.put, sQa, sQb, sQc]
                    refine wpAnyH_ready (rs := [14]) (by kernel_rfl) (by simp) ?_
                    refine' tkC 14 (fun K hK => ?st21) ?mo21
                    case st21 =>
                      go_simp
                      refine hK.out _ _ (hHeld.alloc hHeld.size _) (fun hHeld2 => ?_)
                      clear hK K
                      try simp only [Act.put, sQa, sQb, sQc]
                      have T8 : (v8.alloc (.cells #[Value.int .i64 s0.node, .int .i64 s0.op.kind, .int .i64 s0.op.book, .int .i64 s0.op.units, .int .i64 s0.op.cust, .int .i64 s0.op.amount, .int .i64 s1.node, .int .i64 s1.op.kind, .int .i64 s1.op.book, .int .i64 s1.op.units, .int .i64 s1.op.cust, .int .i64 s1.op.amount, .int .i64 s2.node, .int .i64 s2.op.kind, .int .i64 s2.op.book, .int .i64 s2.op.units, .int .i64 s2.op.cust, .int .i64 s2.op.amount, .int .i64 s3.node, .int .i64 s3.op.kind, .int .i64 s3.op.book, .int .i64 s3.op.units, .int .i64 s3.op.cust, .int .i64 s3.op.amount, .int .i64 s4.node, .int .i64 s4.op.kind, .int .i64 s4.op.book, .int .i64 s4.op.units, .int .i64 s4.op.cust, .int .i64 s4.op.amount, .int .i64 s5.node, .int .i64 s5.op.kind, .int .i64 s5.op.book, .int .i64 s5.op.units, .int .i64 s5.op.cust, .int .i64 s5.op.amount, .int .i64 s6.node, .int .i64 s6.op.kind, .int .i64 s6.op.book, .int .i64 s6.op.units, .int .i64 s6.op.cust, .int .i64 s6.op.amount] 181)).heap[v8.heap.size]? = _ := heap_alloc_new _ _
                      replace hA := hA.below ((Below.refl _ _).alloc (Nat.le_refl _) (.cells #[Value.int .i64 s0.node, .int .i64 s0.op.kind, .int .i64 s0.op.book, .int .i64 s0.op.units, .int .i64 s0.op.cust, .int .i64 s0.op.amount, .int .i64 s1.node, .int .i64 s1.op.kind, .int .i64 s1.op.book, .int .i64 s1.op.units, .int .i64 s1.op.cust, .int .i64 s1.op.amount, .int .i64 s2.node, .int .i64 s2.op.kind, .int .i64 s2.op.book, .int .i64 s2.op.units, .int .i64 s2.op.cust, .int .i64 s2.op.amount, .int .i64 s3.node, .int .i64 s3.op.kind, .int .i64 s3.op.book, .int .i64 s3.op.units, .int .i64 s3.op.cust, .int .i64 s3.op.amount, .int .i64 s4.node, .int .i64 s4.op.kind, .int .i64 s4.op.book, .int .i64 s4.op.units, .int .i64 s4.op.cust, .int .i64 s4.op.amount, .int .i64 s5.node, .int .i64 s5.op.kind, .int .i64 s5.op.book, .int .i64 s5.op.units, .int .i64 s5.op.cust, .int .i64 s5.op.amount, .int .i64 s6.node, .int .i64 s6.op.kind, .int .i64 s6.op.book, .int .i64 s6.op.units, .int .i64 s6.op.cust, .int .i64 s6.op.amount] 181))
                      obtain ⟨v9, hv⟩ : ∃ v, v = v8.alloc (.cells #[Value.int .i64 s0.node, .int .i64 s0.op.kind, .int .i64 s0.op.book, .int .i64 s0.op.units, .int .i64 s0.op.cust, .int .i64 s0.op.amount, .int .i64 s1.node, .int .i64 s1.op.kind, .int .i64 s1.op.book, .int .i64 s1.op.units, .int .i64 s1.op.cust, .int .i64 s1.op.amount, .int .i64 s2.node, .int .i64 s2.op.kind, .int .i64 s2.op.book, .int .i64 s2.op.units, .int .i64 s2.op.cust, .int .i64 s2.op.amount, .int .i64 s3.node, .int .i64 s3.op.kind, .int .i64 s3.op.book, .int .i64 s3.op.units, .int .i64 s3.op.cust, .int .i64 s3.op.amount, .int .i64 s4.node, .int .i64 s4.op.kind, .int .i64 s4.op.book, .int .i64 s4.op.units, .int .i64 s4.op.cust, .int .i64 s4.op.amount, .int .i64 s5.node, .int .i64 s5.op.kind, .int .i64 s5.op.book, .int .i64 s5.op.units, .int .i64 s5.op.cust, .int .i64 s5.op.amount, .int .i64 s6.node, .int .i64 s6.op.kind, .int .i64 s6.op.book, .int .i64 s6.op.units, .int .i64 s6.op.cust, .int .i64 s6.op.amount] 181) := ⟨_, rfl⟩
                      rw [← hv] at T8 hA hHeld2 ⊢
                      clear hv hHeld
                      have hHeld := hHeld2
                      clear hHeld2
                      obtain ⟨g8, hg⟩ : ∃ g, g = v8.heap.size := ⟨_, rfl⟩
                      rw [← hg] at T8 ⊢
                      clear hg
                      refine wpAnyH_ready (rs := [17]) (by kernel_rfl) (by simp) ?_
                      refine' tkC 17 (fun K hK => ?st22) ?mo22
                      case st22 =>
                        go_simp
                        refine (TH.out _ g8 b hHeld T8 hA).mono ?_
                        rintro e v10 ⟨v, rfl, hR, h6⟩
                        clear hHeld T8 hA
                        go_simp
                        refine hK.out _ _ h6 (fun hHeld => ?_)
                        clear hK K h6
                        try simp only [Act.put, sQa, sQb, sQc]
                        refine' tkY 18 hP ?c hHeld ?_
                        case c => intro w _; go_simp; try with_reducible rfl
                        simp only [Act.put, sQa, sQb, sQc]
                        refine wpAnyH_done (by kernel_rfl) ?_ _
                        exact hQ.out _ _ _ _ _ _ _ _ _ _ _ _ _ _ _ _ _ _ _ _ hR hHeld
                      case mo22 => exact AllReadyH.nil
                    case mo21 => exact AllReadyH.nil
                  case mo20 => exact AllReadyH.nil
              case mo15 => exact AllReadyH.nil
            case mo14 => exact AllReadyH.nil
          case mo13 => exact AllReadyH.nil
        case mo12 => exact AllReadyH.nil
      case mo11 => exact AllReadyH.nil
    case mo10 => exact AllReadyH.nil
  case mo9 => exact AllReadyH.nil
set_option maxHeartbeats 3200000 in
theorem fwd_any (w : World) (x : Wan) : Calls Tryz.prog 132 #[wanv x] w (StpsTo 181 w (fwd x)) := by
  obtain ⟨W0, hW0⟩ : ∃ W0, W0 = w.alloc (.cells #[.int .i64 x.book, .int .i64 x.cust, .int .i64 x.dead, .int .i64 x.u0, .int .i64 x.u1, .int .i64 x.u2, .int .i64 x.price] 55) := ⟨_, rfl⟩
  have B0 : BoxW W0 w.heap.size x := by rw [hW0]; exact heap_alloc_new _ _
  have be0 : Below w.heap.size w W0 := by rw [hW0]; exact (Below.refl _ w).alloc (Nat.le_refl _) _
  have S := stepsOf_any W0 x
  unfold wanv at S
  replace S := Lib.hid S
  replace hW0 := Lib.hid hW0
  replace B0 := Lib.hid B0
  replace be0 := Lib.hid be0
  unfold wanv
  go_enter Tryz.func132, Tryz.ntmps132
  go_wp2_with fail
  rw [← hW0.out]
  refine S.out.mono ?_
  rintro e w1 ⟨g, rfl, hg, h1⟩
  have B1 := B0.out.below h1 B0.out.lt
  have b1 : Hid (Below w.heap.size w w1) := be0.out.trans (h1.mono be0.out.size)
  have G : ∀ w', Below w1.heap.size w1 w' → BoxW w' g x := fun w' h => hg.below h hg.lt
  have CB : Hid (∀ w', Below w1.heap.size w1 w' → BoxW w' w.heap.size x) := fun w' h => B1.below h B1.lt
  have F0 : ∀ w', Below w1.heap.size w1 w' → Calls Tryz.prog 170 #[.int .i64 0, .int .i64 1, .pointer (some ⟨g, 0, none⟩)] w' fun e w'' => e = .returned (spv (step x 0 1)) ∧ Below w1.heap.size w1 w'' := fun w' h => (step10_any w' g x (G w' h)).mono fun _ _ ⟨h1, h2⟩ => ⟨h1, h.trans (h2.mono h.size)⟩
  have F1 : ∀ w', Below w1.heap.size w1 w' → Calls Tryz.prog 170 #[.int .i64 1, .int .i64 1, .pointer (some ⟨g, 0, none⟩)] w' fun e w'' => e = .returned (spv (step x 1 1)) ∧ Below w1.heap.size w1 w'' := fun w' h => (step11_any w' g x (G w' h)).mono fun _ _ ⟨h1, h2⟩ => ⟨h1, h.trans (h2.mono h.size)⟩
  have F2 : ∀ w', Below w1.heap.size w1 w' → Calls Tryz.prog 170 #[.int .i64 2, .int .i64 1, .pointer (some ⟨g, 0, none⟩)] w' fun e w'' => e = .returned (spv (step x 2 1)) ∧ Below w1.heap.size w1 w'' := fun w' h => (step12_any w' g x (G w' h)).mono fun _ _ ⟨h1, h2⟩ => ⟨h1, h.trans (h2.mono h.size)⟩
  have F3 : ∀ w', Below w1.heap.size w1 w' → Calls Tryz.prog 170 #[.int .i64 3, .int .i64 4, .pointer (some ⟨g, 0, none⟩)] w' fun e w'' => e = .returned (spv (step x 3 4)) ∧ Below w1.heap.size w1 w'' := fun w' h => (step4_any w' g x (G w' h) 3).mono fun _ _ ⟨h1, h2⟩ => ⟨h1, h.trans (h2.mono h.size)⟩
  have F4 : ∀ w', Below w1.heap.size w1 w' → Calls Tryz.prog 170 #[.int .i64 0, .int .i64 2, .pointer (some ⟨g, 0, none⟩)] w' fun e w'' => e = .returned (spv (step x 0 2)) ∧ Below w1.heap.size w1 w'' := fun w' h => (stepO_any w' g x (G w' h) 0 2 (by decide) (by decide)).mono fun _ _ ⟨h1, h2⟩ => ⟨h1, h.trans (h2.mono h.size)⟩
  have F5 : ∀ w', Below w1.heap.size w1 w' → Calls Tryz.prog 170 #[.int .i64 1, .int .i64 2, .pointer (some ⟨g, 0, none⟩)] w' fun e w'' => e = .returned (spv (step x 1 2)) ∧ Below w1.heap.size w1 w'' := fun w' h => (stepO_any w' g x (G w' h) 1 2 (by decide) (by decide)).mono fun _ _ ⟨h1, h2⟩ => ⟨h1, h.trans (h2.mono h.size)⟩
  have F6 : ∀ w', Below w1.heap.size w1 w' → Calls Tryz.prog 170 #[.int .i64 2, .int .i64 2, .pointer (some ⟨g, 0, none⟩)] w' fun e w'' => e = .returned (spv (step x 2 2)) ∧ Below w1.heap.size w1 w'' := fun w' h => (stepO_any w' g x (G w' h) 2 2 (by decide) (by decide)).mono fun _ _ ⟨h1, h2⟩ => ⟨h1, h.trans (h2.mono h.size)⟩
  have AK : Hid (∀ w', Below w1.heap.size w1 w' → Calls Tryz.prog 153 #[.agg #[.int .i64 x.book, .int .i64 x.cust, .int .i64 x.dead, .int .i64 x.u0, .int .i64 x.u1, .int .i64 x.u2, .int .i64 x.price]] w' fun e w'' => ∃ b, e = .returned (.func (.func 172) #[] #[.pointer (some ⟨b, 0, none⟩)]) ∧ Asker w'' w1.heap.size b (nodes x) ∧ Below w1.heap.size w1 w'' ∧ Below w'.heap.size w' w'') := fun w' h => (isAsked_any w' x).mono fun _ _ ⟨b, h1, h2, h3⟩ => ⟨b, h1, h2.mono h.size, h.trans (h3.mono h.size), h3⟩
  have TH : ∀ w' t b, Below w1.heap.size w1 w' → w'.heap[t]? = some (.cells (fls [step x 0 1, step x 1 1, step x 2 1, step x 3 4, step x 0 2, step x 1 2, step x 2 2]).toArray 181 (0, 0)) → Asker w' w1.heap.size b (nodes x) → Calls Tryz.prog 152 #[.slice (some ⟨t, 0, none⟩) 7 7, .func (.func 172) #[] #[.pointer (some ⟨b, 0, none⟩)]] w' fun e w'' => ∃ v, e = .returned v ∧ RowT 181 w'' w1.heap.size v (fwd x).length (fwd x) ∧ Below w1.heap.size w1 w'' := fun w' t b h ht ha => (those_any w' t 7 _ b [step x 0 1, step x 1 1, step x 2 1, step x 3 4, step x 0 2, step x 1 2, step x 2 2] rfl (by omega) ht (nodes x) ha).mono fun e w'' ⟨v, h1, h2, h3⟩ => ⟨v, h1, rt_mono h2 h.size, h.trans (h3.mono h.size)⟩
  clear S hW0 B0 be0 hg h1 G B1
  generalize hs0 : step x 0 1 = s0 at *
  unfold spv at F0
  generalize hs1 : step x 1 1 = s1 at *
  unfold spv at F1
  generalize hs2 : step x 2 1 = s2 at *
  unfold spv at F2
  generalize hs3 : step x 3 4 = s3 at *
  unfold spv at F3
  generalize hs4 : step x 0 2 = s4 at *
  unfold spv at F4
  generalize hs5 : step x 1 2 = s5 at *
  unfold spv at F5
  generalize hs6 : step x 2 2 = s6 at *
  unfold spv at F6
  replace TH := Lib.hid TH
  replace F0 := Lib.hid F0
  replace F1 := Lib.hid F1
  replace F2 := Lib.hid F2
  replace F3 := Lib.hid F3
  replace F4 := Lib.hid F4
  replace F5 := Lib.hid F5
  replace F6 := Lib.hid F6
  clear hs0 hs1 hs2 hs3 hs4 hs5 hs6
  go_upto_region 2 with fail
  refine fw2 _ _ _ _ _ _ _ _ _ _ _ _ _ _ _ _ _ _ _ _ _ _ w1 w.heap.size g x s0 s1 s2 s3 s4 s5 s6 (nodes x) (fwd x) CB F0 F1 F2 F3 F4 F5 F6 AK TH _ (fun _ _ d _ _ h => by cases d <;> exact h) (fun y6 y7 y8 y9 y10 y11 y12 y13 y14 y15 y16 y17 y18 y19 y20 y21 y22 y23 v w3 hR hb => ?_)
  have E : Hid (StpsTo 181 w (fwd x) (.returned v) w3) := ⟨v, rfl, rt_mono hR b1.out.size, b1.out.trans (hb.mono b1.out.size)⟩
  clear hR hb CB AK TH F0 F1 F2 F3 F4 F5 F6
  go_wp2_with fail
  go_ret
  exact E.out
end Pl
end Go.Proofs.YtpkdigegkemogaaGreatDoor
