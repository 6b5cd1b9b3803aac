/- A saga that nothing stops is booked (SagaWhole). -/
import Derived.Test.YtakicogelkdofaaDoorSgX
import Derived.Test.YtakicogelkdofaaDoorSgT
import Derived.Test.YtakicogelkdofaaDoorSgO
import Derived.LoopTactic
namespace Go.Proofs.YtakicogelkdofaaDoor.sagaWhole
set_option maxRecDepth 100000
open Go.RowKit
open Go.Proofs.YtakicogelkdofaaDoor.Pk (one_at one_free one_set lt_some)
open Go.Proofs.YtakicogelkdofaaDoor.Sg
open Go.Proofs.YtakicogelkdofaaDoor.Wt (Wan may Opn mayOp refmay_any inR)
open Go.Proofs.YtakicogelkdofaaDoor.Pl (Stp fwd bck cap z0 wanv spv RowT rt_form rt_mono rt_same rt_below rt_cell rt_block At fwd_any cap_any wpList_store_row setRow_below StpsTo)

/-- After k steps of N. -/
def fw (x : Wan) (t : Int) (N k : Nat) : Sag := if k < N then ⟨x, 1, (k : Int), 0, t⟩ else ⟨x, 2, 0, 0, t⟩
def WlAs (x : Wan) (t : Int) (l : List Stp) (W : World) (v i : Value) (wr : World) : Prop := ∃ k : Nat, i = .int .i64 (k : Int) ∧ k ≤ l.length ∧ BoxS wr W.heap.size (fw x t l.length k) ∧ RowT 30 wr (W.heap.size + 1) v l.length l ∧ Below W.heap.size W wr
theorem wl_next {x : Wan} {t : Int} {l : List Stp} {W wr : World} {A : Option Addr} {c k : Nat} {cs : Array Value} (hk : k + 1 ≤ l.length) (hB : ∃ y, wr.heap[W.heap.size]? = some (.cells y 26 (0, 0))) (hc : cs = sgc (fw x t l.length (k + 1))) (hR : RowT 30 wr (W.heap.size + 1) (.slice A l.length c) l.length l) (hb : Below W.heap.size W wr) : WlAs x t l W (.slice A l.length c) (.int .i64 ((k : Int) + 1)) (wr.setRow W.heap.size cs) := by
  obtain ⟨y, hB⟩ := hB
  refine ⟨k + 1, by simp, hk, ?_, rt_same hR fun g hg => ?_, hb.trans (setRow_below _ (Nat.le_refl _))⟩
  · unfold BoxS
    rw [← hc]
    exact setRow_heap _ _ _ _ _ _ hB
  · have := (rt_block hR hg).1
    exact setRow_other _ _ _ _ (by omega)
set_option maxHeartbeats 25600000 in
theorem walk (P : Prg) (w : World) (tb : Tab w) (x : Wan) (n t : Int) (et : wrap64 ((IntKind.u64.wrap n).tmod 1000000) = t) (h0 : 0 ≤ t ∧ t < 1000000) : Calls Tryd.prog 7 #[wanv x, .int .i64 n] w fun e w' => e = .returned (.bool true) ∧ Below w.heap.size w w' := by
  have TD := con tb fun w' t => told_any P w' t
  have M1 := fun w => refmay_any w x
  unfold wanv
  obtain ⟨W0, hW0⟩ : ∃ W0, W0 = w.alloc (.cells #[.int .i64 x.book, .int .i64 x.cust, .int .i64 x.dead, .int .i64 x.u0, .int .i64 x.u1, .int .i64 x.u2, .int .i64 x.price] 24) := ⟨_, rfl⟩
  have BW : Hid (W0.heap[w.heap.size]? = some (.cells #[.int .i64 x.book, .int .i64 x.cust, .int .i64 x.dead, .int .i64 x.u0, .int .i64 x.u1, .int .i64 x.u2, .int .i64 x.price] 24 (0, 0))) := by rw [hW0]; exact heap_alloc_new _ _
  have b0 : Hid (Below w.heap.size w W0) := by rw [hW0]; exact (Below.refl _ w).alloc (Nat.le_refl _) _
  replace hW0 := Lib.hid hW0
  cases hm : may x with
  | false =>
    rw [hm] at M1
    replace M1 := Lib.hid M1
    replace TD := Lib.hid TD
    clear hm et h0
    go_enter Tryd.func7, Tryd.ntmps7
    go_wp2_with fail
    rw [← hW0.out]
    refine (M1.out _).mono ?_
    rintro e w1 ⟨rfl, h⟩
    have b2 : Hid (Below w.heap.size w w1) := b0.out.trans (h.mono b0.out.size)
    clear h
    go_wp2_with fail
    refine (TD.out _ (by assumption)).mono ?_
    rintro e w3 ⟨rfl, h⟩
    have b4 : Hid (Below w.heap.size w w3) := b2.out.trans (h.mono b2.out.size)
    clear h
    go_wp2_with fail
    go_ret
    exact ⟨rfl, b4.out⟩
  | true =>
    have ht : inR t 0 1099511627776 = true := decide_eq_true ⟨h0.1, by omega⟩
    have N0 : Hid (∀ w' (_ : Hid (Below w.heap.size w w')), Calls Tryd.prog 24 #[.agg #[.int .i64 x.book, .int .i64 x.cust, .int .i64 x.dead, .int .i64 x.u0, .int .i64 x.u1, .int .i64 x.u2, .int .i64 x.price], .int .i64 t] w' fun e w'' => e = .returned (.tuple #[.agg #[.int .i64 x.book, .int .i64 x.cust, .int .i64 x.dead, .int .i64 x.u0, .int .i64 x.u1, .int .i64 x.u2, .int .i64 x.price, .int .i64 1, .int .i64 0, .int .i64 0, .int .i64 t], .int .i64 0]) ∧ Below w'.heap.size w' w'') := fun w' bb => by have := P.new w' (tb.below bb.out) x t; rw [new_yes hm ht] at this; exact this
    have N1 : Hid (∀ w' (_ : Hid (Below w.heap.size w w')) (k : Nat) (s : Stp), (fwd x)[k]? = some s → Calls Tryd.prog 10 #[.agg #[.int .i64 x.book, .int .i64 x.cust, .int .i64 x.dead, .int .i64 x.u0, .int .i64 x.u1, .int .i64 x.u2, .int .i64 x.price, .int .i64 1, .int .i64 (k : Int), .int .i64 0, .int .i64 t]] w' fun e w'' => e = .returned (.tuple #[spv s, .bool true]) ∧ Below w'.heap.size w' w'') := fun w' bb k s hs => by have := P.next w' (tb.below bb.out) ⟨x, 1, (k : Int), 0, t⟩; rw [next_1 hm ht hs] at this; exact this
    have N2 : Hid (∀ w' (_ : Hid (Below w.heap.size w w')) (k : Nat) (s : Stp), (fwd x)[k]? = some s → k + 1 < (fwd x).length → Calls Tryd.prog 18 #[.agg #[.int .i64 x.book, .int .i64 x.cust, .int .i64 x.dead, .int .i64 x.u0, .int .i64 x.u1, .int .i64 x.u2, .int .i64 x.price, .int .i64 1, .int .i64 (k : Int), .int .i64 0, .int .i64 t], spv s, .int .i64 1] w' fun e w'' => e = .returned (.tuple #[.agg #[.int .i64 x.book, .int .i64 x.cust, .int .i64 x.dead, .int .i64 x.u0, .int .i64 x.u1, .int .i64 x.u2, .int .i64 x.price, .int .i64 1, .int .i64 ((k + 1 : Nat) : Int), .int .i64 0, .int .i64 t], .bool true]) ∧ Below w'.heap.size w' w'') := fun w' bb k s hs hi => by have := P.ans w' (tb.below bb.out) ⟨x, 1, (k : Int), 0, t⟩ s 1; rw [done_1a hm ht hs hi] at this; exact this
    have N3 : Hid (∀ w' (_ : Hid (Below w.heap.size w w')) (k : Nat) (s : Stp), (fwd x)[k]? = some s → k + 1 = (fwd x).length → Calls Tryd.prog 18 #[.agg #[.int .i64 x.book, .int .i64 x.cust, .int .i64 x.dead, .int .i64 x.u0, .int .i64 x.u1, .int .i64 x.u2, .int .i64 x.price, .int .i64 1, .int .i64 (k : Int), .int .i64 0, .int .i64 t], spv s, .int .i64 1] w' fun e w'' => e = .returned (.tuple #[.agg #[.int .i64 x.book, .int .i64 x.cust, .int .i64 x.dead, .int .i64 x.u0, .int .i64 x.u1, .int .i64 x.u2, .int .i64 x.price, .int .i64 2, .int .i64 0, .int .i64 0, .int .i64 t], .bool true]) ∧ Below w'.heap.size w' w'') := fun w' bb k s hs hi => by have := P.ans w' (tb.below bb.out) ⟨x, 1, (k : Int), 0, t⟩ s 1; rw [done_1b hm ht hs hi] at this; exact this
    have N4 : Hid (∀ w' (_ : Hid (Below w.heap.size w w')), Calls Tryd.prog 10 #[.agg #[.int .i64 x.book, .int .i64 x.cust, .int .i64 x.dead, .int .i64 x.u0, .int .i64 x.u1, .int .i64 x.u2, .int .i64 x.price, .int .i64 2, .int .i64 0, .int .i64 0, .int .i64 t]] w' fun e w'' => e = .returned (.tuple #[spv (cap x), .bool true]) ∧ Below w'.heap.size w' w'') := fun w' bb => by have := P.next w' (tb.below bb.out) ⟨x, 2, 0, 0, t⟩; rw [next_2 hm ht] at this; exact this
    have N5 : Hid (∀ w', Calls Tryd.prog 34 #[.agg #[.int .i64 x.book, .int .i64 x.cust, .int .i64 x.dead, .int .i64 x.u0, .int .i64 x.u1, .int .i64 x.u2, .int .i64 x.price]] w' fun e w'' => e = .returned (spv (cap x)) ∧ Below w'.heap.size w' w'') := fun w' => cap_any w' x
    have N6 : Hid (∀ w' (_ : Hid (Below w.heap.size w w')), Calls Tryd.prog 17 #[.agg #[.int .i64 x.book, .int .i64 x.cust, .int .i64 x.dead, .int .i64 x.u0, .int .i64 x.u1, .int .i64 x.u2, .int .i64 x.price, .int .i64 2, .int .i64 0, .int .i64 0, .int .i64 t]] w' fun e w'' => e = .returned (.bool false) ∧ Below w'.heap.size w' w'') := fun w' bb => by have := P.over w' (tb.below bb.out) ⟨x, 2, 0, 0, t⟩; rw [show sover ⟨x, 2, 0, 0, t⟩ = false by simp [sover]] at this; exact this
    have N7 : Hid (∀ w' (_ : Hid (Below w.heap.size w w')), Calls Tryd.prog 15 #[.agg #[.int .i64 x.book, .int .i64 x.cust, .int .i64 x.dead, .int .i64 x.u0, .int .i64 x.u1, .int .i64 x.u2, .int .i64 x.price, .int .i64 2, .int .i64 0, .int .i64 0, .int .i64 t]] w' fun e w'' => e = .returned (.int .i64 2) ∧ Below w'.heap.size w' w'') := fun w' bb => by have := P.tells w' (tb.below bb.out) ⟨x, 2, 0, 0, t⟩; rw [show stells ⟨x, 2, 0, 0, t⟩ = 2 by simp [stells, may_2 hm ht]] at this; exact this
    have N8 : Hid (∀ w' (_ : Hid (Below w.heap.size w w')), Calls Tryd.prog 20 #[.agg #[.int .i64 x.book, .int .i64 x.cust, .int .i64 x.dead, .int .i64 x.u0, .int .i64 x.u1, .int .i64 x.u2, .int .i64 x.price, .int .i64 2, .int .i64 0, .int .i64 0, .int .i64 t]] w' fun e w'' => e = .returned (.tuple #[.agg #[.int .i64 x.book, .int .i64 x.cust, .int .i64 x.dead, .int .i64 x.u0, .int .i64 x.u1, .int .i64 x.u2, .int .i64 x.price, .int .i64 2, .int .i64 0, .int .i64 0, .int .i64 t], .bool false]) ∧ Below w'.heap.size w' w'') := fun w' bb => by have := P.can w' (tb.below bb.out) ⟨x, 2, 0, 0, t⟩; rw [can_no (by simp)] at this; exact this
    have N9 : Hid (∀ w' (_ : Hid (Below w.heap.size w w')), Calls Tryd.prog 22 #[.agg #[.int .i64 x.book, .int .i64 x.cust, .int .i64 x.dead, .int .i64 x.u0, .int .i64 x.u1, .int .i64 x.u2, .int .i64 x.price, .int .i64 2, .int .i64 0, .int .i64 0, .int .i64 t], .int .i64 1099511627776] w' fun e w'' => e = .returned (.tuple #[.agg #[.int .i64 x.book, .int .i64 x.cust, .int .i64 x.dead, .int .i64 x.u0, .int .i64 x.u1, .int .i64 x.u2, .int .i64 x.price, .int .i64 2, .int .i64 0, .int .i64 0, .int .i64 t], .bool false]) ∧ Below w'.heap.size w' w'') := fun w' bb => by have := P.late w' (tb.below bb.out) ⟨x, 2, 0, 0, t⟩ 1099511627776; rw [late_no (by simp)] at this; exact this
    have NA : Hid (∀ w' (_ : Hid (Below w.heap.size w w')), Calls Tryd.prog 18 #[.agg #[.int .i64 x.book, .int .i64 x.cust, .int .i64 x.dead, .int .i64 x.u0, .int .i64 x.u1, .int .i64 x.u2, .int .i64 x.price, .int .i64 2, .int .i64 0, .int .i64 0, .int .i64 t], spv (cap x), .int .i64 2] w' fun e w'' => e = .returned (.tuple #[.agg #[.int .i64 x.book, .int .i64 x.cust, .int .i64 x.dead, .int .i64 x.u0, .int .i64 x.u1, .int .i64 x.u2, .int .i64 x.price, .int .i64 2, .int .i64 0, .int .i64 0, .int .i64 t], .bool false]) ∧ Below w'.heap.size w' w'') := fun w' bb => by have := P.ans w' (tb.below bb.out) ⟨x, 2, 0, 0, t⟩ (cap x) 2; rw [no_2 hm ht] at this; exact this
    have NB : Hid (∀ w' (_ : Hid (Below w.heap.size w w')), Calls Tryd.prog 18 #[.agg #[.int .i64 x.book, .int .i64 x.cust, .int .i64 x.dead, .int .i64 x.u0, .int .i64 x.u1, .int .i64 x.u2, .int .i64 x.price, .int .i64 2, .int .i64 0, .int .i64 0, .int .i64 t], spv (cap x), .int .i64 1] w' fun e w'' => e = .returned (.tuple #[.agg #[.int .i64 x.book, .int .i64 x.cust, .int .i64 x.dead, .int .i64 x.u0, .int .i64 x.u1, .int .i64 x.u2, .int .i64 x.price, .int .i64 4, .int .i64 0, .int .i64 0, .int .i64 t], .bool true]) ∧ Below w'.heap.size w' w'') := fun w' bb => by have := P.ans w' (tb.below bb.out) ⟨x, 2, 0, 0, t⟩ (cap x) 1; rw [done_2 hm ht] at this; exact this
    have NC : Hid (∀ w' (_ : Hid (Below w.heap.size w w')), Calls Tryd.prog 10 #[.agg #[.int .i64 x.book, .int .i64 x.cust, .int .i64 x.dead, .int .i64 x.u0, .int .i64 x.u1, .int .i64 x.u2, .int .i64 x.price, .int .i64 4, .int .i64 0, .int .i64 0, .int .i64 t]] w' fun e w'' => e = .returned (.tuple #[.agg #[.int .i64 0, .int .i64 0, .int .i64 0, .int .i64 0, .int .i64 0, .int .i64 0], .bool false]) ∧ Below w'.heap.size w' w'') := fun w' bb => by have := P.next w' (tb.below bb.out) ⟨x, 4, 0, 0, t⟩; rw [next_4 hm ht] at this; exact this
    have ND : Hid (∀ w' (_ : Hid (Below w.heap.size w w')), Calls Tryd.prog 17 #[.agg #[.int .i64 x.book, .int .i64 x.cust, .int .i64 x.dead, .int .i64 x.u0, .int .i64 x.u1, .int .i64 x.u2, .int .i64 x.price, .int .i64 4, .int .i64 0, .int .i64 0, .int .i64 t]] w' fun e w'' => e = .returned (.bool true) ∧ Below w'.heap.size w' w'') := fun w' bb => by have := P.over w' (tb.below bb.out) ⟨x, 4, 0, 0, t⟩; rw [show sover ⟨x, 4, 0, 0, t⟩ = true by simp [sover, may_4 hm ht]] at this; exact this
    have NE : Hid (∀ w' (_ : Hid (Below w.heap.size w w')), Calls Tryd.prog 15 #[.agg #[.int .i64 x.book, .int .i64 x.cust, .int .i64 x.dead, .int .i64 x.u0, .int .i64 x.u1, .int .i64 x.u2, .int .i64 x.price, .int .i64 4, .int .i64 0, .int .i64 0, .int .i64 t]] w' fun e w'' => e = .returned (.int .i64 3) ∧ Below w'.heap.size w' w'') := fun w' bb => by have := P.tells w' (tb.below bb.out) ⟨x, 4, 0, 0, t⟩; rw [show stells ⟨x, 4, 0, 0, t⟩ = 3 by simp [stells, may_4 hm ht]] at this; exact this
    have FW : Hid (∀ w', Calls Tryd.prog 32 #[.agg #[.int .i64 x.book, .int .i64 x.cust, .int .i64 x.dead, .int .i64 x.u0, .int .i64 x.u1, .int .i64 x.u2, .int .i64 x.price]] w' (StpsTo 30 w' (fwd x))) := fun w' => fwd_any w' x
    have EQ : Hid (∀ (s : Stp) w', (Op.equalIn 10000 30 (spv s) (spv s)).run Tryd.prog w' = .ok true w') := fun s w' => by rw [eq_pask, decide_eq_true rfl]
    have ES : Hid (∀ w', (Op.equalIn 10000 26 (.agg #[.int .i64 x.book, .int .i64 x.cust, .int .i64 x.dead, .int .i64 x.u0, .int .i64 x.u1, .int .i64 x.u2, .int .i64 x.price, .int .i64 2, .int .i64 0, .int .i64 0, .int .i64 t]) (.agg #[.int .i64 x.book, .int .i64 x.cust, .int .i64 x.dead, .int .i64 x.u0, .int .i64 x.u1, .int .i64 x.u2, .int .i64 x.price, .int .i64 2, .int .i64 0, .int .i64 0, .int .i64 t])).run Tryd.prog w' = .ok true w') := fun w' => by have := eq_sag w' ⟨x, 2, 0, 0, t⟩ ⟨x, 2, 0, 0, t⟩; rw [decide_eq_true rfl] at this; exact this
    have few : Hid ((fwd x).length ≤ 7 ∧ 0 < (fwd x).length) := ⟨Pl.fwd_len x, fwd_pos hm⟩
    rw [hm] at M1
    replace M1 := Lib.hid M1
    replace TD := Lib.hid TD
    clear hm ht
    generalize fwd x = l at *
    generalize cap x = cp at *
    unfold spv at *
    go_enter Tryd.func7, Tryd.ntmps7
    go_wp2_with fail
    rw [← hW0.out]
    refine (M1.out _).mono ?_
    rintro e w1 ⟨rfl, h⟩
    replace BW := Lib.hid ((h.block _ (lt_some BW.out)).trans BW.out)
    have b2 : Hid (Below w.heap.size w w1) := b0.out.trans (h.mono b0.out.size)
    clear h
    have xBW0 : w1.cell? ⟨w.heap.size, 0, none⟩ = some (.int .i64 x.book) := one_at BW.out
    have xBW1 : w1.cell? ⟨w.heap.size, 1, none⟩ = some (.int .i64 x.cust) := one_at BW.out
    have xBW2 : w1.cell? ⟨w.heap.size, 2, none⟩ = some (.int .i64 x.dead) := one_at BW.out
    have xBW3 : w1.cell? ⟨w.heap.size, 3, none⟩ = some (.int .i64 x.u0) := one_at BW.out
    have xBW4 : w1.cell? ⟨w.heap.size, 4, none⟩ = some (.int .i64 x.u1) := one_at BW.out
    have xBW5 : w1.cell? ⟨w.heap.size, 5, none⟩ = some (.int .i64 x.u2) := one_at BW.out
    have xBW6 : w1.cell? ⟨w.heap.size, 6, none⟩ = some (.int .i64 x.price) := one_at BW.out
    have lBW : w.heap.size < w1.heap.size := lt_some BW.out
    go_wp2_with fail
    refine (N0.out _ (by assumption)).mono ?_
    rintro e w3 ⟨rfl, h⟩
    clear xBW0 xBW1 xBW2 xBW3 xBW4 xBW5 xBW6 lBW
    replace BW := Lib.hid ((h.block _ (lt_some BW.out)).trans BW.out)
    have b4 : Hid (Below w.heap.size w w3) := b2.out.trans (h.mono b2.out.size)
    clear h
    replace et := Lib.hid et
    clear M1 N0 hW0
    have kq : Hid (∀ wy, Below w3.heap.size w3 wy → wy.heap[w.heap.size]? = some (.cells #[.int .i64 x.book, .int .i64 x.cust, .int .i64 x.dead, .int .i64 x.u0, .int .i64 x.u1, .int .i64 x.u2, .int .i64 x.price] 24 (0, 0))) := fun wy h => (h.block _ (lt_some BW.out)).trans BW.out
    have kl : Hid (w.heap.size < w3.heap.size) := lt_some BW.out
    have kb : Hid (Below w.heap.size w w3) := b4.out
    go_upto_region 5 with fail
    obtain ⟨W5, hW⟩ : ∃ ww, ww = w3.alloc (.cells #[.int .i64 x.book, .int .i64 x.cust, .int .i64 x.dead, .int .i64 x.u0, .int .i64 x.u1, .int .i64 x.u2, .int .i64 x.price, .int .i64 1, .int .i64 0, .int .i64 0, .int .i64 t] 26) := ⟨_, rfl⟩
    rw [← hW]
    have h : Below w3.heap.size w3 W5 := by rw [hW]; exact (Below.refl _ _).alloc (Nat.le_refl _) _
    have BS : Hid (W5.heap[w3.heap.size]? = some (.cells #[.int .i64 x.book, .int .i64 x.cust, .int .i64 x.dead, .int .i64 x.u0, .int .i64 x.u1, .int .i64 x.u2, .int .i64 x.price, .int .i64 1, .int .i64 0, .int .i64 0, .int .i64 t] 26 (0, 0))) := by rw [hW]; exact heap_alloc_new _ _
    clear hW
    have qb : Hid (Below w3.heap.size w3 W5) := h
    replace BW := Lib.hid ((h.block _ (lt_some BW.out)).trans BW.out)
    have b6 : Hid (Below w.heap.size w W5) := b4.out.trans (h.mono b4.out.size)
    clear h
    have xBW0 : W5.cell? ⟨w.heap.size, 0, none⟩ = some (.int .i64 x.book) := one_at BW.out
    have xBW1 : W5.cell? ⟨w.heap.size, 1, none⟩ = some (.int .i64 x.cust) := one_at BW.out
    have xBW2 : W5.cell? ⟨w.heap.size, 2, none⟩ = some (.int .i64 x.dead) := one_at BW.out
    have xBW3 : W5.cell? ⟨w.heap.size, 3, none⟩ = some (.int .i64 x.u0) := one_at BW.out
    have xBW4 : W5.cell? ⟨w.heap.size, 4, none⟩ = some (.int .i64 x.u1) := one_at BW.out
    have xBW5 : W5.cell? ⟨w.heap.size, 5, none⟩ = some (.int .i64 x.u2) := one_at BW.out
    have xBW6 : W5.cell? ⟨w.heap.size, 6, none⟩ = some (.int .i64 x.price) := one_at BW.out
    have lBW : w.heap.size < W5.heap.size := lt_some BW.out
    have BS0 := BS
    go_wp2_with fail
    refine (FW.out _).mono ?_
    rintro e w7 ⟨v, rfl, hF, h⟩
    clear xBW0 xBW1 xBW2 xBW3 xBW4 xBW5 xBW6 lBW
    replace BW := Lib.hid ((h.block _ (lt_some BW.out)).trans BW.out)
    replace BS := Lib.hid ((h.block _ (lt_some BS.out)).trans BS.out)
    have b8 : Hid (Below w.heap.size w w7) := b6.out.trans (h.mono b6.out.size)
    clear BW
    replace qb : Hid (Below w3.heap.size w3 w7) := qb.out.trans (h.mono qb.out.size)
    obtain ⟨A, cf, rfl, -⟩ := rt_form hF
    have st : Hid (WlAs x t l w3 (.slice A l.length cf) (.int .i64 0) w7) := ⟨0, rfl, Nat.zero_le _, by unfold fw; rw [if_pos few.out.2]; exact BS.out, rt_mono hF (by have := lt_some BS0.out; omega), qb.out⟩
    clear h hF FW qb BS BS0 b8
    go_wp2_with fail
    go_loopw [9] (fun i wr => WlAs x t l w3 (.slice A l.length cf) i wr) (fun i _ => l.length - (intOf i).toNat)
    case atStart => exact st.out
    case round =>
      clear st
      obtain ⟨k, rfl, hk, HB, HR, hbe⟩ := hrel
      by_cases hlt : k < l.length
      · obtain ⟨s, hs⟩ : ∃ s, l[k]? = some s := ⟨_, List.getElem?_eq_getElem hlt⟩
        obtain ⟨g, rfl, hat⟩ := rt_cell HR hs
        have BS : Hid (wr.heap[w3.heap.size]? = some (.cells #[.int .i64 x.book, .int .i64 x.cust, .int .i64 x.dead, .int .i64 x.u0, .int .i64 x.u1, .int .i64 x.u2, .int .i64 x.price, .int .i64 1, .int .i64 (k : Int), .int .i64 0, .int .i64 t] 26 (0, 0))) := by have := HB; unfold fw at this; rw [if_pos hlt] at this; exact this
        have kf : (k : Int) < 7 := by have := few.out.1; omega
        have i1 : (k : Int) < (l.length : Int) := by omega
        have i2 : (0 : Int) ≤ (k : Int) := by omega
        have bb : Hid (Below wr.heap.size wr wr) := Below.refl _ _
        replace HR := Lib.hid HR
        replace hat := Lib.hid hat
        replace hs := Lib.hid hs
        replace hbe := Lib.hid hbe
        have kr : Hid (Below w.heap.size w wr) := kb.out.trans (hbe.out.mono kb.out.size)
        replace hk := Lib.hid hk
        replace hlt := Lib.hid hlt
        clear HB
        clear TD N4 N5 N6 N7 N8 N9 NA NB NC ND NE ES few kq
        have xBS0 : wr.cell? ⟨w3.heap.size, 0, none⟩ = some (.int .i64 x.book) := one_at BS.out
        have xBS1 : wr.cell? ⟨w3.heap.size, 1, none⟩ = some (.int .i64 x.cust) := one_at BS.out
        have xBS2 : wr.cell? ⟨w3.heap.size, 2, none⟩ = some (.int .i64 x.dead) := one_at BS.out
        have xBS3 : wr.cell? ⟨w3.heap.size, 3, none⟩ = some (.int .i64 x.u0) := one_at BS.out
        have xBS4 : wr.cell? ⟨w3.heap.size, 4, none⟩ = some (.int .i64 x.u1) := one_at BS.out
        have xBS5 : wr.cell? ⟨w3.heap.size, 5, none⟩ = some (.int .i64 x.u2) := one_at BS.out
        have xBS6 : wr.cell? ⟨w3.heap.size, 6, none⟩ = some (.int .i64 x.price) := one_at BS.out
        have xBS7 : wr.cell? ⟨w3.heap.size, 7, none⟩ = some (.int .i64 1) := one_at BS.out
        have xBS8 : wr.cell? ⟨w3.heap.size, 8, none⟩ = some (.int .i64 (k : Int)) := one_at BS.out
        have xBS9 : wr.cell? ⟨w3.heap.size, 9, none⟩ = some (.int .i64 0) := one_at BS.out
        have xBS10 : wr.cell? ⟨w3.heap.size, 10, none⟩ = some (.int .i64 t) := one_at BS.out
        have lBS : w3.heap.size < wr.heap.size := lt_some BS.out
        go_wp2_with fail
        refine (N1.out _ (by first | assumption | (refine Lib.hid (kr.out.trans (Below.mono ?_ kr.out.size)); first | assumption | exact Hid.out (by assumption)) | (refine Lib.hid (kb.out.trans (Below.mono ?_ kb.out.size)); first | assumption | exact Hid.out (by assumption))) k s hs.out).mono ?_
        rintro e w21 ⟨rfl, h⟩
        clear xBS0 xBS1 xBS2 xBS3 xBS4 xBS5 xBS6 xBS7 xBS8 xBS9 xBS10 lBS
        replace BS := Lib.hid ((h.block _ (lt_some BS.out)).trans BS.out)
        have b22 : Hid (Below wr.heap.size wr w21) := bb.out.trans (h.mono bb.out.size)
        clear h
        go_upto_region 12 with fail
        obtain ⟨W23, hW⟩ : ∃ ww, ww = w21.alloc (.cells #[.int .i64 s.node, .int .i64 s.op.kind, .int .i64 s.op.book, .int .i64 s.op.units, .int .i64 s.op.cust, .int .i64 s.op.amount] 30) := ⟨_, rfl⟩
        rw [← hW]
        have h : Below w21.heap.size w21 W23 := by rw [hW]; exact (Below.refl _ _).alloc (Nat.le_refl _) _
        have BA : Hid (W23.heap[w21.heap.size]? = some (.cells #[.int .i64 s.node, .int .i64 s.op.kind, .int .i64 s.op.book, .int .i64 s.op.units, .int .i64 s.op.cust, .int .i64 s.op.amount] 30 (0, 0))) := by rw [hW]; exact heap_alloc_new _ _
        clear hW
        replace BS := Lib.hid ((h.block _ (lt_some BS.out)).trans BS.out)
        have b24 : Hid (Below wr.heap.size wr W23) := b22.out.trans (h.mono b22.out.size)
        clear h
        have CSx : Hid (∀ w', Below W23.heap.size W23 w' → CellS w' w3.heap.size ⟨x, 1, (k : Int), 0, t⟩) := fun w' h => BoxS.cells (s := ⟨x, 1, (k : Int), 0, t⟩) ((h.block _ (lt_some BS.out)).trans BS.out)
        have CAx : Hid (∀ w', Below W23.heap.size W23 w' → w'.heap[w21.heap.size]? = _) := fun w' h => (h.block _ (lt_some BA.out)).trans BA.out
        have CRx : Hid (∀ w', Below W23.heap.size W23 w' → At w' g k s) := fun w' h => hat.out.below (b24.out.trans (h.mono b24.out.size))
        refine gw12 _ _ _ _ _ _ _ _ _ _ _ _ _ _ _ _ _ _ _ _ _ _ _ _ _ _ _ _ _ _ _ _ _ _ _ _ _ _ _ _ _ _ _ _ _ _ _ _ _ _ _ _ _ _ _ _ _ _ _ _ _ _ _ _ _ _ _ _ _ _ _ _ _ _ _ _ _ _ _ _ _ _ _ _ _ _ _ _ _ _ _ _ _ _ _ _ _ _ _ _ _ _ _ _ _ _ _ _ _ _ _ _ _ _ _ _ _ _ _ _ _ _ _ _ _ _ _ _ _ _ _ _ _ _ _ _ _ _ _ _ _ _ _ _ _ _ _ _ _ _ _ _ _ _ _ _ _ _ _ _ _ _ _ _ _ _ _ _ _ _ _ _ _ _ W23 w3.heap.size g w21.heap.size k l.length cf x t s i1 i2 CSx CAx CRx (EQ.out s) _ (fun _ _ d _ _ h => by cases d <;> exact h) (fun _ _ _ _ _ _ _ _ _ _ _ _ _ _ _ _ _ _ _ _ wg h => ?_)
        clear CSx CAx CRx EQ N1 hat
        replace BS := Lib.hid ((h.block _ (lt_some BS.out)).trans BS.out)
        replace BA := Lib.hid ((h.block _ (lt_some BA.out)).trans BA.out)
        have b25 : Hid (Below wr.heap.size wr wg) := b24.out.trans (h.mono b24.out.size)
        clear h
        by_cases hi : k + 1 < l.length
        · have xBS0 : wg.cell? ⟨w3.heap.size, 0, none⟩ = some (.int .i64 x.book) := one_at BS.out
          have xBS1 : wg.cell? ⟨w3.heap.size, 1, none⟩ = some (.int .i64 x.cust) := one_at BS.out
          have xBS2 : wg.cell? ⟨w3.heap.size, 2, none⟩ = some (.int .i64 x.dead) := one_at BS.out
          have xBS3 : wg.cell? ⟨w3.heap.size, 3, none⟩ = some (.int .i64 x.u0) := one_at BS.out
          have xBS4 : wg.cell? ⟨w3.heap.size, 4, none⟩ = some (.int .i64 x.u1) := one_at BS.out
          have xBS5 : wg.cell? ⟨w3.heap.size, 5, none⟩ = some (.int .i64 x.u2) := one_at BS.out
          have xBS6 : wg.cell? ⟨w3.heap.size, 6, none⟩ = some (.int .i64 x.price) := one_at BS.out
          have xBS7 : wg.cell? ⟨w3.heap.size, 7, none⟩ = some (.int .i64 1) := one_at BS.out
          have xBS8 : wg.cell? ⟨w3.heap.size, 8, none⟩ = some (.int .i64 (k : Int)) := one_at BS.out
          have xBS9 : wg.cell? ⟨w3.heap.size, 9, none⟩ = some (.int .i64 0) := one_at BS.out
          have xBS10 : wg.cell? ⟨w3.heap.size, 10, none⟩ = some (.int .i64 t) := one_at BS.out
          have lBS : w3.heap.size < wg.heap.size := lt_some BS.out
          have xBA0 : wg.cell? ⟨w21.heap.size, 0, none⟩ = some (.int .i64 s.node) := one_at BA.out
          have xBA1 : wg.cell? ⟨w21.heap.size, 1, none⟩ = some (.int .i64 s.op.kind) := one_at BA.out
          have xBA2 : wg.cell? ⟨w21.heap.size, 2, none⟩ = some (.int .i64 s.op.book) := one_at BA.out
          have xBA3 : wg.cell? ⟨w21.heap.size, 3, none⟩ = some (.int .i64 s.op.units) := one_at BA.out
          have xBA4 : wg.cell? ⟨w21.heap.size, 4, none⟩ = some (.int .i64 s.op.cust) := one_at BA.out
          have xBA5 : wg.cell? ⟨w21.heap.size, 5, none⟩ = some (.int .i64 s.op.amount) := one_at BA.out
          have lBA : w21.heap.size < wg.heap.size := lt_some BA.out
          go_wp2_with fail
          refine (N2.out _ (by first | assumption | (refine Lib.hid (kr.out.trans (Below.mono ?_ kr.out.size)); first | assumption | exact Hid.out (by assumption)) | (refine Lib.hid (kb.out.trans (Below.mono ?_ kb.out.size)); first | assumption | exact Hid.out (by assumption))) k s hs.out hi).mono ?_
          rintro e w26 ⟨rfl, h⟩
          clear xBS0 xBS1 xBS2 xBS3 xBS4 xBS5 xBS6 xBS7 xBS8 xBS9 xBS10 lBS xBA0 xBA1 xBA2 xBA3 xBA4 xBA5 lBA
          replace BS := Lib.hid ((h.block _ (lt_some BS.out)).trans BS.out)
          replace BA := Lib.hid ((h.block _ (lt_some BA.out)).trans BA.out)
          have b27 : Hid (Below wr.heap.size wr w26) := b25.out.trans (h.mono b25.out.size)
          clear h
          have nx := Lib.hid (wl_next (k := k) (l := l) (W := w3) (A := some ⟨g, 0, none⟩) (c := cf) (cs := #[.int .i64 x.book, .int .i64 x.cust, .int .i64 x.dead, .int .i64 x.u0, .int .i64 x.u1, .int .i64 x.u2, .int .i64 x.price, .int .i64 1, .int .i64 ((k + 1 : Nat) : Int), .int .i64 0, .int .i64 t]) (by have := hlt.out; omega) ⟨_, BS.out⟩ (by unfold fw; rw [if_pos hi]) (rt_below HR.out b27.out) (hbe.out.trans (b27.out.mono hbe.out.size)))
          replace BS := BS.out
          go_wp2_with (refine wpList_store_row rfl 26 (.tmp 6) (.tmp 76) rfl w3.heap.size #[.int .i64 x.book, .int .i64 x.cust, .int .i64 x.dead, .int .i64 x.u0, .int .i64 x.u1, .int .i64 x.u2, .int .i64 x.price, .int .i64 1, .int .i64 ((k + 1 : Nat) : Int), .int .i64 0, .int .i64 t] rfl rfl 26 #[.int .i64 x.book, .int .i64 x.cust, .int .i64 x.dead, .int .i64 x.u0, .int .i64 x.u1, .int .i64 x.u2, .int .i64 x.price, .int .i64 1, .int .i64 (k : Int), .int .i64 0, .int .i64 t] BS sag_size rfl (by simp [Value.oneCell']) ?_)
          exact ⟨nx.out, by simp [intOf]; have := hlt.out; omega⟩
        · have xBS0 : wg.cell? ⟨w3.heap.size, 0, none⟩ = some (.int .i64 x.book) := one_at BS.out
          have xBS1 : wg.cell? ⟨w3.heap.size, 1, none⟩ = some (.int .i64 x.cust) := one_at BS.out
          have xBS2 : wg.cell? ⟨w3.heap.size, 2, none⟩ = some (.int .i64 x.dead) := one_at BS.out
          have xBS3 : wg.cell? ⟨w3.heap.size, 3, none⟩ = some (.int .i64 x.u0) := one_at BS.out
          have xBS4 : wg.cell? ⟨w3.heap.size, 4, none⟩ = some (.int .i64 x.u1) := one_at BS.out
          have xBS5 : wg.cell? ⟨w3.heap.size, 5, none⟩ = some (.int .i64 x.u2) := one_at BS.out
          have xBS6 : wg.cell? ⟨w3.heap.size, 6, none⟩ = some (.int .i64 x.price) := one_at BS.out
          have xBS7 : wg.cell? ⟨w3.heap.size, 7, none⟩ = some (.int .i64 1) := one_at BS.out
          have xBS8 : wg.cell? ⟨w3.heap.size, 8, none⟩ = some (.int .i64 (k : Int)) := one_at BS.out
          have xBS9 : wg.cell? ⟨w3.heap.size, 9, none⟩ = some (.int .i64 0) := one_at BS.out
          have xBS10 : wg.cell? ⟨w3.heap.size, 10, none⟩ = some (.int .i64 t) := one_at BS.out
          have lBS : w3.heap.size < wg.heap.size := lt_some BS.out
          have xBA0 : wg.cell? ⟨w21.heap.size, 0, none⟩ = some (.int .i64 s.node) := one_at BA.out
          have xBA1 : wg.cell? ⟨w21.heap.size, 1, none⟩ = some (.int .i64 s.op.kind) := one_at BA.out
          have xBA2 : wg.cell? ⟨w21.heap.size, 2, none⟩ = some (.int .i64 s.op.book) := one_at BA.out
          have xBA3 : wg.cell? ⟨w21.heap.size, 3, none⟩ = some (.int .i64 s.op.units) := one_at BA.out
          have xBA4 : wg.cell? ⟨w21.heap.size, 4, none⟩ = some (.int .i64 s.op.cust) := one_at BA.out
          have xBA5 : wg.cell? ⟨w21.heap.size, 5, none⟩ = some (.int .i64 s.op.amount) := one_at BA.out
          have lBA : w21.heap.size < wg.heap.size := lt_some BA.out
          go_wp2_with fail
          refine (N3.out _ (by first | assumption | (refine Lib.hid (kr.out.trans (Below.mono ?_ kr.out.size)); first | assumption | exact Hid.out (by assumption)) | (refine Lib.hid (kb.out.trans (Below.mono ?_ kb.out.size)); first | assumption | exact Hid.out (by assumption))) k s hs.out (by have := hlt.out; omega)).mono ?_
          rintro e w26 ⟨rfl, h⟩
          clear xBS0 xBS1 xBS2 xBS3 xBS4 xBS5 xBS6 xBS7 xBS8 xBS9 xBS10 lBS xBA0 xBA1 xBA2 xBA3 xBA4 xBA5 lBA
          replace BS := Lib.hid ((h.block _ (lt_some BS.out)).trans BS.out)
          replace BA := Lib.hid ((h.block _ (lt_some BA.out)).trans BA.out)
          have b27 : Hid (Below wr.heap.size wr w26) := b25.out.trans (h.mono b25.out.size)
          clear h
          have nx := Lib.hid (wl_next (k := k) (l := l) (W := w3) (A := some ⟨g, 0, none⟩) (c := cf) (cs := #[.int .i64 x.book, .int .i64 x.cust, .int .i64 x.dead, .int .i64 x.u0, .int .i64 x.u1, .int .i64 x.u2, .int .i64 x.price, .int .i64 2, .int .i64 0, .int .i64 0, .int .i64 t]) (by have := hlt.out; omega) ⟨_, BS.out⟩ (by unfold fw; rw [if_neg hi]) (rt_below HR.out b27.out) (hbe.out.trans (b27.out.mono hbe.out.size)))
          replace BS := BS.out
          go_wp2_with (refine wpList_store_row rfl 26 (.tmp 6) (.tmp 76) rfl w3.heap.size #[.int .i64 x.book, .int .i64 x.cust, .int .i64 x.dead, .int .i64 x.u0, .int .i64 x.u1, .int .i64 x.u2, .int .i64 x.price, .int .i64 2, .int .i64 0, .int .i64 0, .int .i64 t] rfl rfl 26 #[.int .i64 x.book, .int .i64 x.cust, .int .i64 x.dead, .int .i64 x.u0, .int .i64 x.u1, .int .i64 x.u2, .int .i64 x.price, .int .i64 1, .int .i64 (k : Int), .int .i64 0, .int .i64 t] BS sag_size rfl (by simp [Value.oneCell']) ?_)
          exact ⟨nx.out, by simp [intOf]; have := hlt.out; omega⟩
      · obtain rfl : k = l.length := by omega
        have BS : Hid (wr.heap[w3.heap.size]? = some (.cells #[.int .i64 x.book, .int .i64 x.cust, .int .i64 x.dead, .int .i64 x.u0, .int .i64 x.u1, .int .i64 x.u2, .int .i64 x.price, .int .i64 2, .int .i64 0, .int .i64 0, .int .i64 t] 26 (0, 0))) := by have := HB; unfold fw at this; rw [if_neg (by omega)] at this; exact this
        have BW : Hid (wr.heap[w.heap.size]? = some (.cells #[.int .i64 x.book, .int .i64 x.cust, .int .i64 x.dead, .int .i64 x.u0, .int .i64 x.u1, .int .i64 x.u2, .int .i64 x.price] 24 (0, 0))) := kq.out _ hbe
        have bw : Hid (Below w.heap.size w wr) := kb.out.trans (hbe.mono kb.out.size)
        have i1 : ¬ (l.length : Int) < (l.length : Int) := by omega
        clear HB HR hbe hlt hk kq kb N1 N2 N3 few
        have xBS0 : wr.cell? ⟨w3.heap.size, 0, none⟩ = some (.int .i64 x.book) := one_at BS.out
        have xBS1 : wr.cell? ⟨w3.heap.size, 1, none⟩ = some (.int .i64 x.cust) := one_at BS.out
        have xBS2 : wr.cell? ⟨w3.heap.size, 2, none⟩ = some (.int .i64 x.dead) := one_at BS.out
        have xBS3 : wr.cell? ⟨w3.heap.size, 3, none⟩ = some (.int .i64 x.u0) := one_at BS.out
        have xBS4 : wr.cell? ⟨w3.heap.size, 4, none⟩ = some (.int .i64 x.u1) := one_at BS.out
        have xBS5 : wr.cell? ⟨w3.heap.size, 5, none⟩ = some (.int .i64 x.u2) := one_at BS.out
        have xBS6 : wr.cell? ⟨w3.heap.size, 6, none⟩ = some (.int .i64 x.price) := one_at BS.out
        have xBS7 : wr.cell? ⟨w3.heap.size, 7, none⟩ = some (.int .i64 2) := one_at BS.out
        have xBS8 : wr.cell? ⟨w3.heap.size, 8, none⟩ = some (.int .i64 0) := one_at BS.out
        have xBS9 : wr.cell? ⟨w3.heap.size, 9, none⟩ = some (.int .i64 0) := one_at BS.out
        have xBS10 : wr.cell? ⟨w3.heap.size, 10, none⟩ = some (.int .i64 t) := one_at BS.out
        have lBS : w3.heap.size < wr.heap.size := lt_some BS.out
        go_wp2_with fail
        refine (N4.out _ (by assumption)).mono ?_
        rintro e w41 ⟨rfl, h⟩
        clear xBS0 xBS1 xBS2 xBS3 xBS4 xBS5 xBS6 xBS7 xBS8 xBS9 xBS10 lBS
        replace BW := Lib.hid ((h.block _ (lt_some BW.out)).trans BW.out)
        replace BS := Lib.hid ((h.block _ (lt_some BS.out)).trans BS.out)
        have b42 : Hid (Below w.heap.size w w41) := bw.out.trans (h.mono bw.out.size)
        clear h
        go_upto_region 18 with fail
        obtain ⟨W43, hW⟩ : ∃ ww, ww = w41.alloc (.cells #[.int .i64 cp.node, .int .i64 cp.op.kind, .int .i64 cp.op.book, .int .i64 cp.op.units, .int .i64 cp.op.cust, .int .i64 cp.op.amount] 30) := ⟨_, rfl⟩
        rw [← hW]
        have h : Below w41.heap.size w41 W43 := by rw [hW]; exact (Below.refl _ _).alloc (Nat.le_refl _) _
        have BA : Hid (W43.heap[w41.heap.size]? = some (.cells #[.int .i64 cp.node, .int .i64 cp.op.kind, .int .i64 cp.op.book, .int .i64 cp.op.units, .int .i64 cp.op.cust, .int .i64 cp.op.amount] 30 (0, 0))) := by rw [hW]; exact heap_alloc_new _ _
        clear hW
        replace BW := Lib.hid ((h.block _ (lt_some BW.out)).trans BW.out)
        replace BS := Lib.hid ((h.block _ (lt_some BS.out)).trans BS.out)
        have b44 : Hid (Below w.heap.size w W43) := b42.out.trans (h.mono b42.out.size)
        clear h
        have CBx : Hid (∀ w', Below W43.heap.size W43 w' → Pl.BoxW w' w.heap.size x) := fun w' h => (h.block _ (lt_some BW.out)).trans BW.out
        have CSx : Hid (∀ w', Below W43.heap.size W43 w' → CellS w' w3.heap.size ⟨x, 2, 0, 0, t⟩) := fun w' h => BoxS.cells (s := ⟨x, 2, 0, 0, t⟩) ((h.block _ (lt_some BS.out)).trans BS.out)
        have CAx : Hid (∀ w', Below W43.heap.size W43 w' → w'.heap[w41.heap.size]? = _) := fun w' h => (h.block _ (lt_some BA.out)).trans BA.out
        have F5 : Hid (∀ w', Below W43.heap.size W43 w' → Calls Tryd.prog 34 #[.agg #[.int .i64 x.book, .int .i64 x.cust, .int .i64 x.dead, .int .i64 x.u0, .int .i64 x.u1, .int .i64 x.u2, .int .i64 x.price]] w' fun e w'' => e = .returned (.agg #[.int .i64 cp.node, .int .i64 cp.op.kind, .int .i64 cp.op.book, .int .i64 cp.op.units, .int .i64 cp.op.cust, .int .i64 cp.op.amount]) ∧ Below W43.heap.size W43 w'') := fun w' h => (N5.out w').mono fun _ _ ⟨e1, e2⟩ => ⟨e1, h.trans (e2.mono h.size)⟩
        have F6 : Hid (∀ w', Below W43.heap.size W43 w' → Calls Tryd.prog 17 #[.agg #[.int .i64 x.book, .int .i64 x.cust, .int .i64 x.dead, .int .i64 x.u0, .int .i64 x.u1, .int .i64 x.u2, .int .i64 x.price, .int .i64 2, .int .i64 0, .int .i64 0, .int .i64 t]] w' fun e w'' => e = .returned (.bool false) ∧ Below W43.heap.size W43 w'') := fun w' h => (N6.out w' (b44.out.trans (h.mono b44.out.size))).mono fun _ _ ⟨e1, e2⟩ => ⟨e1, h.trans (e2.mono h.size)⟩
        have F7 : Hid (∀ w', Below W43.heap.size W43 w' → Calls Tryd.prog 15 #[.agg #[.int .i64 x.book, .int .i64 x.cust, .int .i64 x.dead, .int .i64 x.u0, .int .i64 x.u1, .int .i64 x.u2, .int .i64 x.price, .int .i64 2, .int .i64 0, .int .i64 0, .int .i64 t]] w' fun e w'' => e = .returned (.int .i64 2) ∧ Below W43.heap.size W43 w'') := fun w' h => (N7.out w' (b44.out.trans (h.mono b44.out.size))).mono fun _ _ ⟨e1, e2⟩ => ⟨e1, h.trans (e2.mono h.size)⟩
        refine gw18 _ _ _ _ _ _ _ _ _ _ _ _ _ _ _ _ _ _ _ _ _ _ _ _ _ _ _ _ _ _ _ _ _ _ _ _ _ _ _ _ _ _ _ _ _ _ _ _ _ _ _ _ _ _ _ _ _ _ _ _ _ _ _ _ _ _ _ _ _ _ _ _ _ _ _ _ _ _ _ _ _ _ _ _ _ _ _ _ _ _ _ _ _ _ _ _ _ _ _ _ _ _ _ _ _ _ _ _ _ _ _ _ _ _ _ _ _ _ _ _ _ _ _ _ _ _ _ _ _ _ _ _ _ _ _ _ _ _ _ _ _ _ _ _ _ _ _ _ _ _ _ _ _ _ _ _ _ _ _ _ _ _ _ _ _ _ _ _ _ _ _ _ _ _ _ W43 w.heap.size w3.heap.size w41.heap.size x t cp CBx CSx CAx F5 F6 F7 (EQ.out cp) _ (fun _ _ d _ _ h => by cases d <;> exact h) (fun _ _ _ _ _ _ _ _ _ _ _ _ _ _ _ _ _ _ _ _ _ wg h => ?_)
        clear CBx CSx CAx F5 F6 F7 EQ N4 N5 N6 N7
        replace BW := Lib.hid ((h.block _ (lt_some BW.out)).trans BW.out)
        replace BS := Lib.hid ((h.block _ (lt_some BS.out)).trans BS.out)
        replace BA := Lib.hid ((h.block _ (lt_some BA.out)).trans BA.out)
        have b45 : Hid (Below w.heap.size w wg) := b44.out.trans (h.mono b44.out.size)
        clear h
        have xBS0 : wg.cell? ⟨w3.heap.size, 0, none⟩ = some (.int .i64 x.book) := one_at BS.out
        have xBS1 : wg.cell? ⟨w3.heap.size, 1, none⟩ = some (.int .i64 x.cust) := one_at BS.out
        have xBS2 : wg.cell? ⟨w3.heap.size, 2, none⟩ = some (.int .i64 x.dead) := one_at BS.out
        have xBS3 : wg.cell? ⟨w3.heap.size, 3, none⟩ = some (.int .i64 x.u0) := one_at BS.out
        have xBS4 : wg.cell? ⟨w3.heap.size, 4, none⟩ = some (.int .i64 x.u1) := one_at BS.out
        have xBS5 : wg.cell? ⟨w3.heap.size, 5, none⟩ = some (.int .i64 x.u2) := one_at BS.out
        have xBS6 : wg.cell? ⟨w3.heap.size, 6, none⟩ = some (.int .i64 x.price) := one_at BS.out
        have xBS7 : wg.cell? ⟨w3.heap.size, 7, none⟩ = some (.int .i64 2) := one_at BS.out
        have xBS8 : wg.cell? ⟨w3.heap.size, 8, none⟩ = some (.int .i64 0) := one_at BS.out
        have xBS9 : wg.cell? ⟨w3.heap.size, 9, none⟩ = some (.int .i64 0) := one_at BS.out
        have xBS10 : wg.cell? ⟨w3.heap.size, 10, none⟩ = some (.int .i64 t) := one_at BS.out
        have lBS : w3.heap.size < wg.heap.size := lt_some BS.out
        go_wp2_with fail
        refine (N8.out _ (by assumption)).mono ?_
        rintro e w46 ⟨rfl, h⟩
        clear xBS0 xBS1 xBS2 xBS3 xBS4 xBS5 xBS6 xBS7 xBS8 xBS9 xBS10 lBS
        replace BW := Lib.hid ((h.block _ (lt_some BW.out)).trans BW.out)
        replace BS := Lib.hid ((h.block _ (lt_some BS.out)).trans BS.out)
        replace BA := Lib.hid ((h.block _ (lt_some BA.out)).trans BA.out)
        have b47 : Hid (Below w.heap.size w w46) := b45.out.trans (h.mono b45.out.size)
        clear h
        go_upto_region 21 with fail
        obtain ⟨W48, hW⟩ : ∃ ww, ww = w46.alloc (.cells #[.int .i64 x.book, .int .i64 x.cust, .int .i64 x.dead, .int .i64 x.u0, .int .i64 x.u1, .int .i64 x.u2, .int .i64 x.price, .int .i64 2, .int .i64 0, .int .i64 0, .int .i64 t] 26) := ⟨_, rfl⟩
        rw [← hW]
        have h : Below w46.heap.size w46 W48 := by rw [hW]; exact (Below.refl _ _).alloc (Nat.le_refl _) _
        have BC : Hid (W48.heap[w46.heap.size]? = some (.cells #[.int .i64 x.book, .int .i64 x.cust, .int .i64 x.dead, .int .i64 x.u0, .int .i64 x.u1, .int .i64 x.u2, .int .i64 x.price, .int .i64 2, .int .i64 0, .int .i64 0, .int .i64 t] 26 (0, 0))) := by rw [hW]; exact heap_alloc_new _ _
        clear hW
        replace BW := Lib.hid ((h.block _ (lt_some BW.out)).trans BW.out)
        replace BS := Lib.hid ((h.block _ (lt_some BS.out)).trans BS.out)
        replace BA := Lib.hid ((h.block _ (lt_some BA.out)).trans BA.out)
        have b49 : Hid (Below w.heap.size w W48) := b47.out.trans (h.mono b47.out.size)
        clear h
        have xBS0 : W48.cell? ⟨w3.heap.size, 0, none⟩ = some (.int .i64 x.book) := one_at BS.out
        have xBS1 : W48.cell? ⟨w3.heap.size, 1, none⟩ = some (.int .i64 x.cust) := one_at BS.out
        have xBS2 : W48.cell? ⟨w3.heap.size, 2, none⟩ = some (.int .i64 x.dead) := one_at BS.out
        have xBS3 : W48.cell? ⟨w3.heap.size, 3, none⟩ = some (.int .i64 x.u0) := one_at BS.out
        have xBS4 : W48.cell? ⟨w3.heap.size, 4, none⟩ = some (.int .i64 x.u1) := one_at BS.out
        have xBS5 : W48.cell? ⟨w3.heap.size, 5, none⟩ = some (.int .i64 x.u2) := one_at BS.out
        have xBS6 : W48.cell? ⟨w3.heap.size, 6, none⟩ = some (.int .i64 x.price) := one_at BS.out
        have xBS7 : W48.cell? ⟨w3.heap.size, 7, none⟩ = some (.int .i64 2) := one_at BS.out
        have xBS8 : W48.cell? ⟨w3.heap.size, 8, none⟩ = some (.int .i64 0) := one_at BS.out
        have xBS9 : W48.cell? ⟨w3.heap.size, 9, none⟩ = some (.int .i64 0) := one_at BS.out
        have xBS10 : W48.cell? ⟨w3.heap.size, 10, none⟩ = some (.int .i64 t) := one_at BS.out
        have lBS : w3.heap.size < W48.heap.size := lt_some BS.out
        go_wp2_with fail
        refine (N9.out _ (by assumption)).mono ?_
        rintro e w50 ⟨rfl, h⟩
        clear xBS0 xBS1 xBS2 xBS3 xBS4 xBS5 xBS6 xBS7 xBS8 xBS9 xBS10 lBS
        replace BW := Lib.hid ((h.block _ (lt_some BW.out)).trans BW.out)
        replace BS := Lib.hid ((h.block _ (lt_some BS.out)).trans BS.out)
        replace BA := Lib.hid ((h.block _ (lt_some BA.out)).trans BA.out)
        replace BC := Lib.hid ((h.block _ (lt_some BC.out)).trans BC.out)
        have b51 : Hid (Below w.heap.size w w50) := b49.out.trans (h.mono b49.out.size)
        clear h
        go_upto_region 22 with fail
        obtain ⟨W52, hW⟩ : ∃ ww, ww = w50.alloc (.cells #[.int .i64 x.book, .int .i64 x.cust, .int .i64 x.dead, .int .i64 x.u0, .int .i64 x.u1, .int .i64 x.u2, .int .i64 x.price, .int .i64 2, .int .i64 0, .int .i64 0, .int .i64 t] 26) := ⟨_, rfl⟩
        rw [← hW]
        have h : Below w50.heap.size w50 W52 := by rw [hW]; exact (Below.refl _ _).alloc (Nat.le_refl _) _
        have BL : Hid (W52.heap[w50.heap.size]? = some (.cells #[.int .i64 x.book, .int .i64 x.cust, .int .i64 x.dead, .int .i64 x.u0, .int .i64 x.u1, .int .i64 x.u2, .int .i64 x.price, .int .i64 2, .int .i64 0, .int .i64 0, .int .i64 t] 26 (0, 0))) := by rw [hW]; exact heap_alloc_new _ _
        clear hW
        replace BW := Lib.hid ((h.block _ (lt_some BW.out)).trans BW.out)
        replace BS := Lib.hid ((h.block _ (lt_some BS.out)).trans BS.out)
        replace BA := Lib.hid ((h.block _ (lt_some BA.out)).trans BA.out)
        replace BC := Lib.hid ((h.block _ (lt_some BC.out)).trans BC.out)
        have b53 : Hid (Below w.heap.size w W52) := b51.out.trans (h.mono b51.out.size)
        clear h
        have xBS0 : W52.cell? ⟨w3.heap.size, 0, none⟩ = some (.int .i64 x.book) := one_at BS.out
        have xBS1 : W52.cell? ⟨w3.heap.size, 1, none⟩ = some (.int .i64 x.cust) := one_at BS.out
        have xBS2 : W52.cell? ⟨w3.heap.size, 2, none⟩ = some (.int .i64 x.dead) := one_at BS.out
        have xBS3 : W52.cell? ⟨w3.heap.size, 3, none⟩ = some (.int .i64 x.u0) := one_at BS.out
        have xBS4 : W52.cell? ⟨w3.heap.size, 4, none⟩ = some (.int .i64 x.u1) := one_at BS.out
        have xBS5 : W52.cell? ⟨w3.heap.size, 5, none⟩ = some (.int .i64 x.u2) := one_at BS.out
        have xBS6 : W52.cell? ⟨w3.heap.size, 6, none⟩ = some (.int .i64 x.price) := one_at BS.out
        have xBS7 : W52.cell? ⟨w3.heap.size, 7, none⟩ = some (.int .i64 2) := one_at BS.out
        have xBS8 : W52.cell? ⟨w3.heap.size, 8, none⟩ = some (.int .i64 0) := one_at BS.out
        have xBS9 : W52.cell? ⟨w3.heap.size, 9, none⟩ = some (.int .i64 0) := one_at BS.out
        have xBS10 : W52.cell? ⟨w3.heap.size, 10, none⟩ = some (.int .i64 t) := one_at BS.out
        have lBS : w3.heap.size < W52.heap.size := lt_some BS.out
        have xBA0 : W52.cell? ⟨w41.heap.size, 0, none⟩ = some (.int .i64 cp.node) := one_at BA.out
        have xBA1 : W52.cell? ⟨w41.heap.size, 1, none⟩ = some (.int .i64 cp.op.kind) := one_at BA.out
        have xBA2 : W52.cell? ⟨w41.heap.size, 2, none⟩ = some (.int .i64 cp.op.book) := one_at BA.out
        have xBA3 : W52.cell? ⟨w41.heap.size, 3, none⟩ = some (.int .i64 cp.op.units) := one_at BA.out
        have xBA4 : W52.cell? ⟨w41.heap.size, 4, none⟩ = some (.int .i64 cp.op.cust) := one_at BA.out
        have xBA5 : W52.cell? ⟨w41.heap.size, 5, none⟩ = some (.int .i64 cp.op.amount) := one_at BA.out
        have lBA : w41.heap.size < W52.heap.size := lt_some BA.out
        go_wp2_with fail
        refine (NA.out _ (by assumption)).mono ?_
        rintro e w54 ⟨rfl, h⟩
        clear xBS0 xBS1 xBS2 xBS3 xBS4 xBS5 xBS6 xBS7 xBS8 xBS9 xBS10 lBS xBA0 xBA1 xBA2 xBA3 xBA4 xBA5 lBA
        replace BW := Lib.hid ((h.block _ (lt_some BW.out)).trans BW.out)
        replace BS := Lib.hid ((h.block _ (lt_some BS.out)).trans BS.out)
        replace BA := Lib.hid ((h.block _ (lt_some BA.out)).trans BA.out)
        replace BC := Lib.hid ((h.block _ (lt_some BC.out)).trans BC.out)
        replace BL := Lib.hid ((h.block _ (lt_some BL.out)).trans BL.out)
        have b55 : Hid (Below w.heap.size w w54) := b53.out.trans (h.mono b53.out.size)
        clear h
        go_upto_region 23 with fail
        obtain ⟨W56, hW⟩ : ∃ ww, ww = w54.alloc (.cells #[.int .i64 x.book, .int .i64 x.cust, .int .i64 x.dead, .int .i64 x.u0, .int .i64 x.u1, .int .i64 x.u2, .int .i64 x.price, .int .i64 2, .int .i64 0, .int .i64 0, .int .i64 t] 26) := ⟨_, rfl⟩
        rw [← hW]
        have h : Below w54.heap.size w54 W56 := by rw [hW]; exact (Below.refl _ _).alloc (Nat.le_refl _) _
        have BX : Hid (W56.heap[w54.heap.size]? = some (.cells #[.int .i64 x.book, .int .i64 x.cust, .int .i64 x.dead, .int .i64 x.u0, .int .i64 x.u1, .int .i64 x.u2, .int .i64 x.price, .int .i64 2, .int .i64 0, .int .i64 0, .int .i64 t] 26 (0, 0))) := by rw [hW]; exact heap_alloc_new _ _
        clear hW
        replace BW := Lib.hid ((h.block _ (lt_some BW.out)).trans BW.out)
        replace BS := Lib.hid ((h.block _ (lt_some BS.out)).trans BS.out)
        replace BA := Lib.hid ((h.block _ (lt_some BA.out)).trans BA.out)
        replace BC := Lib.hid ((h.block _ (lt_some BC.out)).trans BC.out)
        replace BL := Lib.hid ((h.block _ (lt_some BL.out)).trans BL.out)
        have b57 : Hid (Below w.heap.size w W56) := b55.out.trans (h.mono b55.out.size)
        clear h
        replace ES := ES.out
        have xBS0 : W56.cell? ⟨w3.heap.size, 0, none⟩ = some (.int .i64 x.book) := one_at BS.out
        have xBS1 : W56.cell? ⟨w3.heap.size, 1, none⟩ = some (.int .i64 x.cust) := one_at BS.out
        have xBS2 : W56.cell? ⟨w3.heap.size, 2, none⟩ = some (.int .i64 x.dead) := one_at BS.out
        have xBS3 : W56.cell? ⟨w3.heap.size, 3, none⟩ = some (.int .i64 x.u0) := one_at BS.out
        have xBS4 : W56.cell? ⟨w3.heap.size, 4, none⟩ = some (.int .i64 x.u1) := one_at BS.out
        have xBS5 : W56.cell? ⟨w3.heap.size, 5, none⟩ = some (.int .i64 x.u2) := one_at BS.out
        have xBS6 : W56.cell? ⟨w3.heap.size, 6, none⟩ = some (.int .i64 x.price) := one_at BS.out
        have xBS7 : W56.cell? ⟨w3.heap.size, 7, none⟩ = some (.int .i64 2) := one_at BS.out
        have xBS8 : W56.cell? ⟨w3.heap.size, 8, none⟩ = some (.int .i64 0) := one_at BS.out
        have xBS9 : W56.cell? ⟨w3.heap.size, 9, none⟩ = some (.int .i64 0) := one_at BS.out
        have xBS10 : W56.cell? ⟨w3.heap.size, 10, none⟩ = some (.int .i64 t) := one_at BS.out
        have lBS : w3.heap.size < W56.heap.size := lt_some BS.out
        have xBA0 : W56.cell? ⟨w41.heap.size, 0, none⟩ = some (.int .i64 cp.node) := one_at BA.out
        have xBA1 : W56.cell? ⟨w41.heap.size, 1, none⟩ = some (.int .i64 cp.op.kind) := one_at BA.out
        have xBA2 : W56.cell? ⟨w41.heap.size, 2, none⟩ = some (.int .i64 cp.op.book) := one_at BA.out
        have xBA3 : W56.cell? ⟨w41.heap.size, 3, none⟩ = some (.int .i64 cp.op.units) := one_at BA.out
        have xBA4 : W56.cell? ⟨w41.heap.size, 4, none⟩ = some (.int .i64 cp.op.cust) := one_at BA.out
        have xBA5 : W56.cell? ⟨w41.heap.size, 5, none⟩ = some (.int .i64 cp.op.amount) := one_at BA.out
        have lBA : w41.heap.size < W56.heap.size := lt_some BA.out
        have xBC0 : W56.cell? ⟨w46.heap.size, 0, none⟩ = some (.int .i64 x.book) := one_at BC.out
        have xBC1 : W56.cell? ⟨w46.heap.size, 1, none⟩ = some (.int .i64 x.cust) := one_at BC.out
        have xBC2 : W56.cell? ⟨w46.heap.size, 2, none⟩ = some (.int .i64 x.dead) := one_at BC.out
        have xBC3 : W56.cell? ⟨w46.heap.size, 3, none⟩ = some (.int .i64 x.u0) := one_at BC.out
        have xBC4 : W56.cell? ⟨w46.heap.size, 4, none⟩ = some (.int .i64 x.u1) := one_at BC.out
        have xBC5 : W56.cell? ⟨w46.heap.size, 5, none⟩ = some (.int .i64 x.u2) := one_at BC.out
        have xBC6 : W56.cell? ⟨w46.heap.size, 6, none⟩ = some (.int .i64 x.price) := one_at BC.out
        have xBC7 : W56.cell? ⟨w46.heap.size, 7, none⟩ = some (.int .i64 2) := one_at BC.out
        have xBC8 : W56.cell? ⟨w46.heap.size, 8, none⟩ = some (.int .i64 0) := one_at BC.out
        have xBC9 : W56.cell? ⟨w46.heap.size, 9, none⟩ = some (.int .i64 0) := one_at BC.out
        have xBC10 : W56.cell? ⟨w46.heap.size, 10, none⟩ = some (.int .i64 t) := one_at BC.out
        have lBC : w46.heap.size < W56.heap.size := lt_some BC.out
        have xBL0 : W56.cell? ⟨w50.heap.size, 0, none⟩ = some (.int .i64 x.book) := one_at BL.out
        have xBL1 : W56.cell? ⟨w50.heap.size, 1, none⟩ = some (.int .i64 x.cust) := one_at BL.out
        have xBL2 : W56.cell? ⟨w50.heap.size, 2, none⟩ = some (.int .i64 x.dead) := one_at BL.out
        have xBL3 : W56.cell? ⟨w50.heap.size, 3, none⟩ = some (.int .i64 x.u0) := one_at BL.out
        have xBL4 : W56.cell? ⟨w50.heap.size, 4, none⟩ = some (.int .i64 x.u1) := one_at BL.out
        have xBL5 : W56.cell? ⟨w50.heap.size, 5, none⟩ = some (.int .i64 x.u2) := one_at BL.out
        have xBL6 : W56.cell? ⟨w50.heap.size, 6, none⟩ = some (.int .i64 x.price) := one_at BL.out
        have xBL7 : W56.cell? ⟨w50.heap.size, 7, none⟩ = some (.int .i64 2) := one_at BL.out
        have xBL8 : W56.cell? ⟨w50.heap.size, 8, none⟩ = some (.int .i64 0) := one_at BL.out
        have xBL9 : W56.cell? ⟨w50.heap.size, 9, none⟩ = some (.int .i64 0) := one_at BL.out
        have xBL10 : W56.cell? ⟨w50.heap.size, 10, none⟩ = some (.int .i64 t) := one_at BL.out
        have lBL : w50.heap.size < W56.heap.size := lt_some BL.out
        go_wp2_with fail
        refine (NB.out _ (by assumption)).mono ?_
        rintro e w58 ⟨rfl, h⟩
        clear xBS0 xBS1 xBS2 xBS3 xBS4 xBS5 xBS6 xBS7 xBS8 xBS9 xBS10 lBS xBA0 xBA1 xBA2 xBA3 xBA4 xBA5 lBA xBC0 xBC1 xBC2 xBC3 xBC4 xBC5 xBC6 xBC7 xBC8 xBC9 xBC10 lBC xBL0 xBL1 xBL2 xBL3 xBL4 xBL5 xBL6 xBL7 xBL8 xBL9 xBL10 lBL
        replace BW := Lib.hid ((h.block _ (lt_some BW.out)).trans BW.out)
        replace BS := Lib.hid ((h.block _ (lt_some BS.out)).trans BS.out)
        replace BA := Lib.hid ((h.block _ (lt_some BA.out)).trans BA.out)
        replace BC := Lib.hid ((h.block _ (lt_some BC.out)).trans BC.out)
        replace BL := Lib.hid ((h.block _ (lt_some BL.out)).trans BL.out)
        replace BX := Lib.hid ((h.block _ (lt_some BX.out)).trans BX.out)
        have b59 : Hid (Below w.heap.size w w58) := b57.out.trans (h.mono b57.out.size)
        clear h
        obtain ⟨wz, hwz⟩ : ∃ z, z = w58.setRow w3.heap.size #[.int .i64 x.book, .int .i64 x.cust, .int .i64 x.dead, .int .i64 x.u0, .int .i64 x.u1, .int .i64 x.u2, .int .i64 x.price, .int .i64 4, .int .i64 0, .int .i64 0, .int .i64 t] := ⟨_, rfl⟩
        have h : Below w.heap.size w58 wz := by rw [hwz]; exact setRow_below _ (Nat.le_of_lt (by have := lt_some BW.out; have := kl.out; omega))
        have BS4 : Hid (wz.heap[w3.heap.size]? = some (.cells #[.int .i64 x.book, .int .i64 x.cust, .int .i64 x.dead, .int .i64 x.u0, .int .i64 x.u1, .int .i64 x.u2, .int .i64 x.price, .int .i64 4, .int .i64 0, .int .i64 0, .int .i64 t] 26 (0, 0))) := by rw [hwz]; exact setRow_heap _ _ _ _ _ _ BS.out
        have bz : Hid (Below w.heap.size w wz) := b59.out.trans h
        replace BS := BS.out
        replace hwz := Lib.hid hwz
        clear h BA BC BL BX ES N8 N9 NA NB
        go_upto_region 26 with (refine wpList_store_row rfl 26 (.tmp 6) (.tmp 144) rfl w3.heap.size #[.int .i64 x.book, .int .i64 x.cust, .int .i64 x.dead, .int .i64 x.u0, .int .i64 x.u1, .int .i64 x.u2, .int .i64 x.price, .int .i64 4, .int .i64 0, .int .i64 0, .int .i64 t] rfl rfl 26 #[.int .i64 x.book, .int .i64 x.cust, .int .i64 x.dead, .int .i64 x.u0, .int .i64 x.u1, .int .i64 x.u2, .int .i64 x.price, .int .i64 2, .int .i64 0, .int .i64 0, .int .i64 t] BS sag_size rfl (by simp [Value.oneCell']) ?_)
        rw [← hwz.out]
        clear BS hwz BW
        have xBS40 : wz.cell? ⟨w3.heap.size, 0, none⟩ = some (.int .i64 x.book) := one_at BS4.out
        have xBS41 : wz.cell? ⟨w3.heap.size, 1, none⟩ = some (.int .i64 x.cust) := one_at BS4.out
        have xBS42 : wz.cell? ⟨w3.heap.size, 2, none⟩ = some (.int .i64 x.dead) := one_at BS4.out
        have xBS43 : wz.cell? ⟨w3.heap.size, 3, none⟩ = some (.int .i64 x.u0) := one_at BS4.out
        have xBS44 : wz.cell? ⟨w3.heap.size, 4, none⟩ = some (.int .i64 x.u1) := one_at BS4.out
        have xBS45 : wz.cell? ⟨w3.heap.size, 5, none⟩ = some (.int .i64 x.u2) := one_at BS4.out
        have xBS46 : wz.cell? ⟨w3.heap.size, 6, none⟩ = some (.int .i64 x.price) := one_at BS4.out
        have xBS47 : wz.cell? ⟨w3.heap.size, 7, none⟩ = some (.int .i64 4) := one_at BS4.out
        have xBS48 : wz.cell? ⟨w3.heap.size, 8, none⟩ = some (.int .i64 0) := one_at BS4.out
        have xBS49 : wz.cell? ⟨w3.heap.size, 9, none⟩ = some (.int .i64 0) := one_at BS4.out
        have xBS410 : wz.cell? ⟨w3.heap.size, 10, none⟩ = some (.int .i64 t) := one_at BS4.out
        have lBS4 : w3.heap.size < wz.heap.size := lt_some BS4.out
        go_wp2_with fail
        refine (NC.out _ (by assumption)).mono ?_
        rintro e w60 ⟨rfl, h⟩
        clear xBS40 xBS41 xBS42 xBS43 xBS44 xBS45 xBS46 xBS47 xBS48 xBS49 xBS410 lBS4
        replace BS4 := Lib.hid ((h.block _ (lt_some BS4.out)).trans BS4.out)
        have b61 : Hid (Below w.heap.size w w60) := bz.out.trans (h.mono bz.out.size)
        clear h
        go_upto_region 27 with fail
        obtain ⟨Wz, hW⟩ : ∃ x, x = w60.alloc (.cells #[.int .i64 0, .int .i64 0, .int .i64 0, .int .i64 0, .int .i64 0, .int .i64 0] 30) := ⟨_, rfl⟩
        rw [← hW]
        have h : Below w60.heap.size w60 Wz := by rw [hW]; exact (Below.refl _ _).alloc (Nat.le_refl _) _
        clear hW
        replace BS4 := Lib.hid ((h.block _ (lt_some BS4.out)).trans BS4.out)
        have b62 : Hid (Below w.heap.size w Wz) := b61.out.trans (h.mono b61.out.size)
        clear h
        go_wp2_with fail
        refine (TD.out _ (by assumption)).mono ?_
        rintro e w63 ⟨rfl, h⟩
        replace BS4 := Lib.hid ((h.block _ (lt_some BS4.out)).trans BS4.out)
        have b64 : Hid (Below w.heap.size w w63) := b62.out.trans (h.mono b62.out.size)
        clear h
        have xBS40 : w63.cell? ⟨w3.heap.size, 0, none⟩ = some (.int .i64 x.book) := one_at BS4.out
        have xBS41 : w63.cell? ⟨w3.heap.size, 1, none⟩ = some (.int .i64 x.cust) := one_at BS4.out
        have xBS42 : w63.cell? ⟨w3.heap.size, 2, none⟩ = some (.int .i64 x.dead) := one_at BS4.out
        have xBS43 : w63.cell? ⟨w3.heap.size, 3, none⟩ = some (.int .i64 x.u0) := one_at BS4.out
        have xBS44 : w63.cell? ⟨w3.heap.size, 4, none⟩ = some (.int .i64 x.u1) := one_at BS4.out
        have xBS45 : w63.cell? ⟨w3.heap.size, 5, none⟩ = some (.int .i64 x.u2) := one_at BS4.out
        have xBS46 : w63.cell? ⟨w3.heap.size, 6, none⟩ = some (.int .i64 x.price) := one_at BS4.out
        have xBS47 : w63.cell? ⟨w3.heap.size, 7, none⟩ = some (.int .i64 4) := one_at BS4.out
        have xBS48 : w63.cell? ⟨w3.heap.size, 8, none⟩ = some (.int .i64 0) := one_at BS4.out
        have xBS49 : w63.cell? ⟨w3.heap.size, 9, none⟩ = some (.int .i64 0) := one_at BS4.out
        have xBS410 : w63.cell? ⟨w3.heap.size, 10, none⟩ = some (.int .i64 t) := one_at BS4.out
        have lBS4 : w3.heap.size < w63.heap.size := lt_some BS4.out
        go_wp2_with fail
        refine (ND.out _ (by assumption)).mono ?_
        rintro e w65 ⟨rfl, h⟩
        clear xBS40 xBS41 xBS42 xBS43 xBS44 xBS45 xBS46 xBS47 xBS48 xBS49 xBS410 lBS4
        replace BS4 := Lib.hid ((h.block _ (lt_some BS4.out)).trans BS4.out)
        have b66 : Hid (Below w.heap.size w w65) := b64.out.trans (h.mono b64.out.size)
        clear h
        have xBS40 : w65.cell? ⟨w3.heap.size, 0, none⟩ = some (.int .i64 x.book) := one_at BS4.out
        have xBS41 : w65.cell? ⟨w3.heap.size, 1, none⟩ = some (.int .i64 x.cust) := one_at BS4.out
        have xBS42 : w65.cell? ⟨w3.heap.size, 2, none⟩ = some (.int .i64 x.dead) := one_at BS4.out
        have xBS43 : w65.cell? ⟨w3.heap.size, 3, none⟩ = some (.int .i64 x.u0) := one_at BS4.out
        have xBS44 : w65.cell? ⟨w3.heap.size, 4, none⟩ = some (.int .i64 x.u1) := one_at BS4.out
        have xBS45 : w65.cell? ⟨w3.heap.size, 5, none⟩ = some (.int .i64 x.u2) := one_at BS4.out
        have xBS46 : w65.cell? ⟨w3.heap.size, 6, none⟩ = some (.int .i64 x.price) := one_at BS4.out
        have xBS47 : w65.cell? ⟨w3.heap.size, 7, none⟩ = some (.int .i64 4) := one_at BS4.out
        have xBS48 : w65.cell? ⟨w3.heap.size, 8, none⟩ = some (.int .i64 0) := one_at BS4.out
        have xBS49 : w65.cell? ⟨w3.heap.size, 9, none⟩ = some (.int .i64 0) := one_at BS4.out
        have xBS410 : w65.cell? ⟨w3.heap.size, 10, none⟩ = some (.int .i64 t) := one_at BS4.out
        have lBS4 : w3.heap.size < w65.heap.size := lt_some BS4.out
        go_wp2_with fail
        refine (NE.out _ (by assumption)).mono ?_
        rintro e w67 ⟨rfl, h⟩
        clear xBS40 xBS41 xBS42 xBS43 xBS44 xBS45 xBS46 xBS47 xBS48 xBS49 xBS410 lBS4
        replace BS4 := Lib.hid ((h.block _ (lt_some BS4.out)).trans BS4.out)
        have b68 : Hid (Below w.heap.size w w67) := b66.out.trans (h.mono b66.out.size)
        clear h
        have xBS40 : w67.cell? ⟨w3.heap.size, 0, none⟩ = some (.int .i64 x.book) := one_at BS4.out
        have xBS41 : w67.cell? ⟨w3.heap.size, 1, none⟩ = some (.int .i64 x.cust) := one_at BS4.out
        have xBS42 : w67.cell? ⟨w3.heap.size, 2, none⟩ = some (.int .i64 x.dead) := one_at BS4.out
        have xBS43 : w67.cell? ⟨w3.heap.size, 3, none⟩ = some (.int .i64 x.u0) := one_at BS4.out
        have xBS44 : w67.cell? ⟨w3.heap.size, 4, none⟩ = some (.int .i64 x.u1) := one_at BS4.out
        have xBS45 : w67.cell? ⟨w3.heap.size, 5, none⟩ = some (.int .i64 x.u2) := one_at BS4.out
        have xBS46 : w67.cell? ⟨w3.heap.size, 6, none⟩ = some (.int .i64 x.price) := one_at BS4.out
        have xBS47 : w67.cell? ⟨w3.heap.size, 7, none⟩ = some (.int .i64 4) := one_at BS4.out
        have xBS48 : w67.cell? ⟨w3.heap.size, 8, none⟩ = some (.int .i64 0) := one_at BS4.out
        have xBS49 : w67.cell? ⟨w3.heap.size, 9, none⟩ = some (.int .i64 0) := one_at BS4.out
        have xBS410 : w67.cell? ⟨w3.heap.size, 10, none⟩ = some (.int .i64 t) := one_at BS4.out
        have lBS4 : w3.heap.size < w67.heap.size := lt_some BS4.out
        go_wp2_with fail
        rw [et.out, beq_self_eq_true]
        go_ret
        exact ⟨rfl, b68.out⟩
end Go.Proofs.YtakicogelkdofaaDoor.sagaWhole
