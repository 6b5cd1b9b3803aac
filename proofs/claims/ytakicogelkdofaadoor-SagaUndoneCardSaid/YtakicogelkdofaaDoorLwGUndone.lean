/- A saga that is taken back gives all back, the last step first (SagaUndone). -/
import Derived.Test.YtakicogelkdofaaDoorSgZ
import Derived.Test.YtakicogelkdofaaDoorSgT
import Derived.Test.YtakicogelkdofaaDoorSgO
import Derived.LoopTactic
namespace Go.Proofs.YtakicogelkdofaaDoor.sagaUndone
set_option maxRecDepth 100000
open Go.RowKit
open Go.Proofs.YtakicogelkdofaaDoor.Pk (one_at one_free one_set lt_some)
open Go.Proofs.YtakicogelkdofaaDoor.Sg
open Go.Proofs.YtakicogelkdofaaDoor.Wt (Wan may Opn mayOp refmay_any inR)
open Go.Proofs.YtakicogelkdofaaDoor.Pl (Stp fwd bck cap z0 wanv spv RowT rt_form rt_mono rt_same rt_below rt_cell rt_at rt_block At fwd_any bck_any wpList_store_row setRow_below StpsTo)

def UlAs (x : Wan) (l lb : List Stp) (m : Nat) (W : World) (v u i : Value) (wr : World) : Prop := ∃ k : Nat, i = .int .i64 (k : Int) ∧ k ≤ m ∧ BoxS wr W.heap.size ⟨x, 1, (k : Int), 0, 3⟩ ∧ RowT 30 wr (W.heap.size + 1) v l.length l ∧ RowT 30 wr (W.heap.size + 1) u lb.length lb ∧ Below W.heap.size W wr
/-- After k of N steps back. -/
def bw (x : Wan) (N k : Nat) : Sag := if k < N then ⟨x, 3, (k : Int), 4, 3⟩ else ⟨x, 5, 0, 4, 3⟩
def VlAs (x : Wan) (l : List Stp) (W : World) (v i : Value) (wr : World) : Prop := ∃ k : Nat, i = .int .i64 (k : Int) ∧ k ≤ l.length ∧ BoxS wr W.heap.size (bw x l.length k) ∧ RowT 30 wr (W.heap.size + 1) v l.length l ∧ Below W.heap.size W wr
theorem vl_next {x : Wan} {l : List Stp} {W wr : World} {A : Option Addr} {c k : Nat} {cs : Array Value} (hk : k + 1 ≤ l.length) (hB : ∃ y, wr.heap[W.heap.size]? = some (.cells y 26 (0, 0))) (hc : cs = sgc (bw x l.length (k + 1))) (hR : RowT 30 wr (W.heap.size + 1) (.slice A l.length c) l.length l) (hb : Below W.heap.size W wr) : VlAs x l W (.slice A l.length c) (.int .i64 ((k : Int) + 1)) (wr.setRow W.heap.size cs) := by
  obtain ⟨y, hB⟩ := hB
  refine ⟨k + 1, by simp, hk, ?_, rt_same hR fun g hg => ?_, hb.trans (setRow_below _ (Nat.le_refl _))⟩
  · unfold BoxS
    rw [← hc]
    exact setRow_heap _ _ _ _ _ _ hB
  · have := (rt_block hR hg).1
    exact setRow_other _ _ _ _ (by omega)
theorem u64_len {n : Nat} (h : n ≤ 7) : IntKind.u64.wrap (n : Int) = (n : Int) := by
  rw [IntKind.wrap_u64]; omega
set_option maxHeartbeats 25600000 in
theorem walk (P : Prg) (w : World) (tb : Tab w) (x : Wan) (at_ rf : Int) (et : may x = true → ∃ m : Nat, wrap64 ((IntKind.u64.wrap at_).tmod ((fwd x).length : Int)) = (m : Int) ∧ m < (fwd x).length) : Calls Tryd.prog 8 #[wanv x, .int .i64 at_, .int .i64 rf] w fun e w' => e = .returned (.bool true) ∧ Below w.heap.size w w' := by
  have TD := con tb fun w' t => told_any P w' t
  have M1 := fun w => refmay_any w x
  unfold wanv
  obtain ⟨W0, hW0⟩ : ∃ W0, W0 = w.alloc (.cells #[.int .i64 x.book, .int .i64 x.cust, .int .i64 x.dead, .int .i64 x.u0, .int .i64 x.u1, .int .i64 x.u2, .int .i64 x.price] 24) := ⟨_, rfl⟩
  have BW : Hid (W0.heap[w.heap.size]? = some (.cells #[.int .i64 x.book, .int .i64 x.cust, .int .i64 x.dead, .int .i64 x.u0, .int .i64 x.u1, .int .i64 x.u2, .int .i64 x.price] 24 (0, 0))) := by rw [hW0]; exact heap_alloc_new _ _
  have b0 : Hid (Below w.heap.size w W0) := by rw [hW0]; exact (Below.refl _ w).alloc (Nat.le_refl _) _
  replace hW0 := Lib.hid hW0
  cases hm : may x with
  | false =>
    rw [hm] at M1
    replace M1 := Lib.hid M1
    replace TD := Lib.hid TD
    clear hm et
    go_enter Tryd.func8, Tryd.ntmps8
    go_wp2_with fail
    rw [← hW0.out]
    refine (M1.out _).mono ?_
    rintro e w1 ⟨rfl, h⟩
    have b2 : Hid (Below w.heap.size w w1) := b0.out.trans (h.mono b0.out.size)
    clear h
    go_wp2_with fail
    refine (TD.out _ (by assumption)).mono ?_
    rintro e w3 ⟨rfl, h⟩
    have b4 : Hid (Below w.heap.size w w3) := b2.out.trans (h.mono b2.out.size)
    clear h
    go_wp2_with fail
    go_ret
    exact ⟨rfl, b4.out⟩
  | true =>
    have ht : inR 3 0 1099511627776 = true := by decide
    obtain ⟨m, em, hmL⟩ := et hm
    have N0 : Hid (∀ w' (_ : Hid (Below w.heap.size w w')), Calls Tryd.prog 24 #[.agg #[.int .i64 x.book, .int .i64 x.cust, .int .i64 x.dead, .int .i64 x.u0, .int .i64 x.u1, .int .i64 x.u2, .int .i64 x.price], .int .i64 3] w' fun e w'' => e = .returned (.tuple #[.agg #[.int .i64 x.book, .int .i64 x.cust, .int .i64 x.dead, .int .i64 x.u0, .int .i64 x.u1, .int .i64 x.u2, .int .i64 x.price, .int .i64 1, .int .i64 0, .int .i64 0, .int .i64 3], .int .i64 0]) ∧ Below w'.heap.size w' w'') := fun w' bb => by have := P.new w' (tb.below bb.out) x 3; rw [new_yes hm ht] at this; exact this
    have N2 : Hid (∀ w' (_ : Hid (Below w.heap.size w w')) (k : Nat) (s : Stp), (fwd x)[k]? = some s → k + 1 < (fwd x).length → Calls Tryd.prog 18 #[.agg #[.int .i64 x.book, .int .i64 x.cust, .int .i64 x.dead, .int .i64 x.u0, .int .i64 x.u1, .int .i64 x.u2, .int .i64 x.price, .int .i64 1, .int .i64 (k : Int), .int .i64 0, .int .i64 3], spv s, .int .i64 1] w' fun e w'' => e = .returned (.tuple #[.agg #[.int .i64 x.book, .int .i64 x.cust, .int .i64 x.dead, .int .i64 x.u0, .int .i64 x.u1, .int .i64 x.u2, .int .i64 x.price, .int .i64 1, .int .i64 ((k : Int) + 1), .int .i64 0, .int .i64 3], .bool true]) ∧ Below w'.heap.size w' w'') := fun w' bb k s hs hi => by
          have e : ((k + 1 : Nat) : Int) = (k : Int) + 1 := by simp
          have := P.ans w' (tb.below bb.out) ⟨x, 1, (k : Int), 0, 3⟩ s 1
          rw [done_1a hm ht hs hi, e] at this
          exact this
    have N3 : Hid (∀ w' (_ : Hid (Below w.heap.size w w')), Calls Tryd.prog 20 #[.agg #[.int .i64 x.book, .int .i64 x.cust, .int .i64 x.dead, .int .i64 x.u0, .int .i64 x.u1, .int .i64 x.u2, .int .i64 x.price, .int .i64 1, .int .i64 (m : Int), .int .i64 0, .int .i64 3]] w' fun e w'' => e = .returned (.tuple #[.agg #[.int .i64 x.book, .int .i64 x.cust, .int .i64 x.dead, .int .i64 x.u0, .int .i64 x.u1, .int .i64 x.u2, .int .i64 x.price, .int .i64 3, .int .i64 0, .int .i64 4, .int .i64 3], .bool true]) ∧ Below w'.heap.size w' w'') := fun w' bb => by have := P.can w' (tb.below bb.out) ⟨x, 1, (m : Int), 0, 3⟩; rw [can_1 hm ht hmL] at this; exact this
    have N4 : Hid (∀ w' (_ : Hid (Below w.heap.size w w')) (k : Nat) (s : Stp), (bck x)[k]? = some s → Calls Tryd.prog 10 #[.agg #[.int .i64 x.book, .int .i64 x.cust, .int .i64 x.dead, .int .i64 x.u0, .int .i64 x.u1, .int .i64 x.u2, .int .i64 x.price, .int .i64 3, .int .i64 (k : Int), .int .i64 4, .int .i64 3]] w' fun e w'' => e = .returned (.tuple #[spv s, .bool true]) ∧ Below w'.heap.size w' w'') := fun w' bb k s hs => by have := P.next w' (tb.below bb.out) ⟨x, 3, (k : Int), 4, 3⟩; rw [next_3 hm ht (why_of (.inr (.inr (.inl rfl)))) hs] at this; exact this
    have N5 : Hid (∀ w' (_ : Hid (Below w.heap.size w w')) (k : Nat) (s : Stp), (bck x)[k]? = some s → k + 1 < (bck x).length → Calls Tryd.prog 18 #[.agg #[.int .i64 x.book, .int .i64 x.cust, .int .i64 x.dead, .int .i64 x.u0, .int .i64 x.u1, .int .i64 x.u2, .int .i64 x.price, .int .i64 3, .int .i64 (k : Int), .int .i64 4, .int .i64 3], spv s, .int .i64 1] w' fun e w'' => e = .returned (.tuple #[.agg #[.int .i64 x.book, .int .i64 x.cust, .int .i64 x.dead, .int .i64 x.u0, .int .i64 x.u1, .int .i64 x.u2, .int .i64 x.price, .int .i64 3, .int .i64 ((k + 1 : Nat) : Int), .int .i64 4, .int .i64 3], .bool true]) ∧ Below w'.heap.size w' w'') := fun w' bb k s hs hi => by have := P.ans w' (tb.below bb.out) ⟨x, 3, (k : Int), 4, 3⟩ s 1; rw [done_3a hm ht (why_of (.inr (.inr (.inl rfl)))) hs hi] at this; exact this
    have N6 : Hid (∀ w' (_ : Hid (Below w.heap.size w w')) (k : Nat) (s : Stp), (bck x)[k]? = some s → k + 1 = (bck x).length → Calls Tryd.prog 18 #[.agg #[.int .i64 x.book, .int .i64 x.cust, .int .i64 x.dead, .int .i64 x.u0, .int .i64 x.u1, .int .i64 x.u2, .int .i64 x.price, .int .i64 3, .int .i64 (k : Int), .int .i64 4, .int .i64 3], spv s, .int .i64 1] w' fun e w'' => e = .returned (.tuple #[.agg #[.int .i64 x.book, .int .i64 x.cust, .int .i64 x.dead, .int .i64 x.u0, .int .i64 x.u1, .int .i64 x.u2, .int .i64 x.price, .int .i64 5, .int .i64 0, .int .i64 4, .int .i64 3], .bool true]) ∧ Below w'.heap.size w' w'') := fun w' bb k s hs hi => by have := P.ans w' (tb.below bb.out) ⟨x, 3, (k : Int), 4, 3⟩ s 1; rw [done_3b hm ht (why_of (.inr (.inr (.inl rfl)))) hs hi] at this; exact this
    have N7 : Hid (∀ w' (_ : Hid (Below w.heap.size w w')) (k : Nat) (s : Stp), (bck x)[k]? = some s → Calls Tryd.prog 18 #[.agg #[.int .i64 x.book, .int .i64 x.cust, .int .i64 x.dead, .int .i64 x.u0, .int .i64 x.u1, .int .i64 x.u2, .int .i64 x.price, .int .i64 3, .int .i64 (k : Int), .int .i64 4, .int .i64 3], spv s, .int .i64 2] w' fun e w'' => e = .returned (.tuple #[.agg #[.int .i64 x.book, .int .i64 x.cust, .int .i64 x.dead, .int .i64 x.u0, .int .i64 x.u1, .int .i64 x.u2, .int .i64 x.price, .int .i64 3, .int .i64 (k : Int), .int .i64 4, .int .i64 3], .bool false]) ∧ Below w'.heap.size w' w'') := fun w' bb k s hs => by have := P.ans w' (tb.below bb.out) ⟨x, 3, (k : Int), 4, 3⟩ s 2; rw [no_3 hm ht (why_of (.inr (.inr (.inl rfl)))) hs] at this; exact this
    have N8 : Hid (∀ w' (_ : Hid (Below w.heap.size w w')) (k : Int), Calls Tryd.prog 17 #[.agg #[.int .i64 x.book, .int .i64 x.cust, .int .i64 x.dead, .int .i64 x.u0, .int .i64 x.u1, .int .i64 x.u2, .int .i64 x.price, .int .i64 3, .int .i64 k, .int .i64 4, .int .i64 3]] w' fun e w'' => e = .returned (.bool false) ∧ Below w'.heap.size w' w'') := fun w' bb k => by have := P.over w' (tb.below bb.out) ⟨x, 3, k, 4, 3⟩; rw [show sover ⟨x, 3, k, 4, 3⟩ = false by simp [sover]] at this; exact this
    have N9 : Hid (∀ w' (_ : Hid (Below w.heap.size w w')), Calls Tryd.prog 10 #[.agg #[.int .i64 x.book, .int .i64 x.cust, .int .i64 x.dead, .int .i64 x.u0, .int .i64 x.u1, .int .i64 x.u2, .int .i64 x.price, .int .i64 5, .int .i64 0, .int .i64 4, .int .i64 3]] w' fun e w'' => e = .returned (.tuple #[.agg #[.int .i64 0, .int .i64 0, .int .i64 0, .int .i64 0, .int .i64 0, .int .i64 0], .bool false]) ∧ Below w'.heap.size w' w'') := fun w' bb => by have := P.next w' (tb.below bb.out) ⟨x, 5, 0, 4, 3⟩; rw [next_5 hm ht (why_of (.inr (.inr (.inl rfl))))] at this; exact this
    have NA : Hid (∀ w' (_ : Hid (Below w.heap.size w w')), Calls Tryd.prog 15 #[.agg #[.int .i64 x.book, .int .i64 x.cust, .int .i64 x.dead, .int .i64 x.u0, .int .i64 x.u1, .int .i64 x.u2, .int .i64 x.price, .int .i64 5, .int .i64 0, .int .i64 4, .int .i64 3]] w' fun e w'' => e = .returned (.int .i64 4) ∧ Below w'.heap.size w' w'') := fun w' bb => by have := P.tells w' (tb.below bb.out) ⟨x, 5, 0, 4, 3⟩; rw [show stells ⟨x, 5, 0, 4, 3⟩ = 4 by simp [stells, may_5 hm ht (why_of (.inr (.inr (.inl rfl))))]] at this; exact this
    have NB : Hid (∀ w' (_ : Hid (Below w.heap.size w w')), Calls Tryd.prog 12 #[.agg #[.int .i64 x.book, .int .i64 x.cust, .int .i64 x.dead, .int .i64 x.u0, .int .i64 x.u1, .int .i64 x.u2, .int .i64 x.price, .int .i64 5, .int .i64 0, .int .i64 4, .int .i64 3]] w' fun e w'' => e = .returned (.bool true) ∧ Below w'.heap.size w' w'') := fun w' bb => by have := P.may w' (tb.below bb.out) ⟨x, 5, 0, 4, 3⟩; rw [may_5 hm ht (why_of (.inr (.inr (.inl rfl))))] at this; exact this
    have FW : Hid (∀ w', Calls Tryd.prog 32 #[.agg #[.int .i64 x.book, .int .i64 x.cust, .int .i64 x.dead, .int .i64 x.u0, .int .i64 x.u1, .int .i64 x.u2, .int .i64 x.price]] w' (StpsTo 30 w' (fwd x))) := fun w' => fwd_any w' x
    have FB : Hid (∀ w', Calls Tryd.prog 33 #[.agg #[.int .i64 x.book, .int .i64 x.cust, .int .i64 x.dead, .int .i64 x.u0, .int .i64 x.u1, .int .i64 x.u2, .int .i64 x.price]] w' (StpsTo 30 w' (bck x))) := fun w' => bck_any w' x
    have EQ : Hid (∀ (s : Stp) w', (Op.equalIn 10000 30 (spv s) (spv s)).run Tryd.prog w' = .ok true w') := fun s w' => by rw [eq_pask, decide_eq_true rfl]
    have ES : Hid (∀ (k : Nat) w', (Op.equalIn 10000 26 (.agg #[.int .i64 x.book, .int .i64 x.cust, .int .i64 x.dead, .int .i64 x.u0, .int .i64 x.u1, .int .i64 x.u2, .int .i64 x.price, .int .i64 3, .int .i64 (k : Int), .int .i64 4, .int .i64 3]) (.agg #[.int .i64 x.book, .int .i64 x.cust, .int .i64 x.dead, .int .i64 x.u0, .int .i64 x.u1, .int .i64 x.u2, .int .i64 x.price, .int .i64 3, .int .i64 (k : Int), .int .i64 4, .int .i64 3])).run Tryd.prog w' = .ok true w') := fun k w' => by have := eq_sag w' ⟨x, 3, (k : Int), 4, 3⟩ ⟨x, 3, (k : Int), 4, 3⟩; rw [decide_eq_true rfl] at this; exact this
    have few : Hid (((fwd x).length ≤ 7 ∧ 0 < (fwd x).length) ∧ (bck x).length ≤ 4 ∧ 0 < (bck x).length) := ⟨⟨Pl.fwd_len x, fwd_pos hm⟩, Pl.bck_len x, bck_pos hm⟩
    rw [hm] at M1
    replace M1 := Lib.hid M1
    replace TD := Lib.hid TD
    clear hm ht et
    generalize fwd x = l at *
    generalize bck x = lb at *
    have ul := u64_len few.out.1.1
    have l0 : 0 < (l.length : Int) := by have := few.out.1.2; omega
    unfold spv at *
    go_enter Tryd.func8, Tryd.ntmps8
    go_wp2_with fail
    rw [← hW0.out]
    refine (M1.out _).mono ?_
    rintro e w1 ⟨rfl, h⟩
    replace BW := Lib.hid ((h.block _ (lt_some BW.out)).trans BW.out)
    have b2 : Hid (Below w.heap.size w w1) := b0.out.trans (h.mono b0.out.size)
    clear h
    have xBW0 : w1.cell? ⟨w.heap.size, 0, none⟩ = some (.int .i64 x.book) := one_at BW.out
    have xBW1 : w1.cell? ⟨w.heap.size, 1, none⟩ = some (.int .i64 x.cust) := one_at BW.out
    have xBW2 : w1.cell? ⟨w.heap.size, 2, none⟩ = some (.int .i64 x.dead) := one_at BW.out
    have xBW3 : w1.cell? ⟨w.heap.size, 3, none⟩ = some (.int .i64 x.u0) := one_at BW.out
    have xBW4 : w1.cell? ⟨w.heap.size, 4, none⟩ = some (.int .i64 x.u1) := one_at BW.out
    have xBW5 : w1.cell? ⟨w.heap.size, 5, none⟩ = some (.int .i64 x.u2) := one_at BW.out
    have xBW6 : w1.cell? ⟨w.heap.size, 6, none⟩ = some (.int .i64 x.price) := one_at BW.out
    have lBW : w.heap.size < w1.heap.size := lt_some BW.out
    go_wp2_with fail
    refine (N0.out _ (by assumption)).mono ?_
    rintro e w3 ⟨rfl, h⟩
    clear xBW0 xBW1 xBW2 xBW3 xBW4 xBW5 xBW6 lBW
    replace BW := Lib.hid ((h.block _ (lt_some BW.out)).trans BW.out)
    have b4 : Hid (Below w.heap.size w w3) := b2.out.trans (h.mono b2.out.size)
    clear h
    clear M1 N0 hW0
    have kl : Hid (w.heap.size < w3.heap.size) := lt_some BW.out
    have kb : Hid (Below w.heap.size w w3) := b4.out
    go_upto_region 4 with fail
    obtain ⟨W5, hW⟩ : ∃ ww, ww = w3.alloc (.cells #[.int .i64 x.book, .int .i64 x.cust, .int .i64 x.dead, .int .i64 x.u0, .int .i64 x.u1, .int .i64 x.u2, .int .i64 x.price, .int .i64 1, .int .i64 0, .int .i64 0, .int .i64 3] 26) := ⟨_, rfl⟩
    rw [← hW]
    have h : Below w3.heap.size w3 W5 := by rw [hW]; exact (Below.refl _ _).alloc (Nat.le_refl _) _
    have BS : Hid (W5.heap[w3.heap.size]? = some (.cells #[.int .i64 x.book, .int .i64 x.cust, .int .i64 x.dead, .int .i64 x.u0, .int .i64 x.u1, .int .i64 x.u2, .int .i64 x.price, .int .i64 1, .int .i64 0, .int .i64 0, .int .i64 3] 26 (0, 0))) := by rw [hW]; exact heap_alloc_new _ _
    clear hW
    have qb : Hid (Below w3.heap.size w3 W5) := h
    replace BW := Lib.hid ((h.block _ (lt_some BW.out)).trans BW.out)
    have b6 : Hid (Below w.heap.size w W5) := b4.out.trans (h.mono b4.out.size)
    clear h
    go_upto_region 6 with fail
    have CBx : Hid (∀ w', Below W5.heap.size W5 w' → Pl.BoxW w' w.heap.size x) := fun w' h => (h.block _ (lt_some BW.out)).trans BW.out
    have F1 : Hid (∀ w', Below W5.heap.size W5 w' → Calls Tryd.prog 32 #[.agg #[.int .i64 x.book, .int .i64 x.cust, .int .i64 x.dead, .int .i64 x.u0, .int .i64 x.u1, .int .i64 x.u2, .int .i64 x.price]] w' fun e w'' => ∃ A k, e = .returned (.slice A l.length k) ∧ RowT 30 w'' W5.heap.size (.slice A l.length k) l.length l ∧ Below W5.heap.size W5 w'' ∧ Below w'.heap.size w' w'') := fun w' h => (FW.out w').mono fun _ _ ⟨v, e1, e2, e3⟩ => by
      obtain ⟨A, k, rfl, -⟩ := rt_form e2
      exact ⟨A, k, e1, rt_mono e2 h.size, h.trans (e3.mono h.size), e3⟩
    have F2 : Hid (∀ w', Below W5.heap.size W5 w' → Calls Tryd.prog 33 #[.agg #[.int .i64 x.book, .int .i64 x.cust, .int .i64 x.dead, .int .i64 x.u0, .int .i64 x.u1, .int .i64 x.u2, .int .i64 x.price]] w' fun e w'' => ∃ A k, e = .returned (.slice A lb.length k) ∧ RowT 30 w'' W5.heap.size (.slice A lb.length k) lb.length lb ∧ Below W5.heap.size W5 w'' ∧ Below w'.heap.size w' w'') := fun w' h => (FB.out w').mono fun _ _ ⟨v, e1, e2, e3⟩ => by
      obtain ⟨A, k, rfl, -⟩ := rt_form e2
      exact ⟨A, k, e1, rt_mono e2 h.size, h.trans (e3.mono h.size), e3⟩
    refine gu6 _ _ _ _ _ _ _ _ _ _ _ _ _ _ _ _ _ _ _ _ _ _ _ _ _ _ _ _ _ _ _ _ _ _ _ _ _ _ _ _ _ _ _ _ _ _ _ _ _ _ _ _ _ _ _ _ _ _ _ _ _ _ _ _ _ _ _ _ _ _ _ _ _ _ _ _ _ _ _ _ _ _ _ _ _ _ _ _ _ _ _ _ _ _ _ _ _ _ _ _ _ _ _ _ _ _ _ _ _ _ _ _ _ _ _ _ _ _ _ _ _ _ _ _ _ _ _ _ _ _ _ _ _ _ _ _ _ _ _ _ _ _ W5 w.heap.size x l lb CBx F1 F2 _ (fun _ _ d _ _ h => by cases d <;> exact h) (fun _ _ _ _ A B kA kB wf rA rB h => ?_)
    clear CBx F1 F2 FW FB BW
    replace qb : Hid (Below w3.heap.size w3 wf) := qb.out.trans (h.mono qb.out.size)
    have st : Hid (UlAs x l lb m w3 (.slice A l.length kA) (.slice B lb.length kB) (.int .i64 0) wf) := ⟨0, rfl, Nat.zero_le _, (h.block _ (lt_some BS.out)).trans BS.out, rt_mono rA (lt_some BS.out), rt_mono rB (lt_some BS.out), qb.out⟩
    clear h rA rB qb BS b6 b0
    have lz : ((l.length : Int) == 0) = false := by rw [beq_eq_false_iff_ne]; omega
    go_wp2_with fail
    go_loopw [11] (fun i wr => UlAs x l lb m w3 (.slice A l.length kA) (.slice B lb.length kB) i wr) (fun i _ => m - (intOf i).toNat)
    case atStart => exact st.out
    case round =>
      clear st lz
      obtain ⟨k, rfl, hk, HB, HR, HU, hbe⟩ := hrel
      by_cases hlt : k < m
      · obtain ⟨s, hs⟩ : ∃ s, l[k]? = some s := ⟨_, List.getElem?_eq_getElem (by omega)⟩
        obtain ⟨u, hu⟩ : ∃ u, lb[0]? = some u := ⟨_, List.getElem?_eq_getElem few.out.2.2⟩
        obtain ⟨g, rfl, hat⟩ := rt_cell HR hs
        obtain ⟨q, rfl, -⟩ := rt_cell HU hu
        obtain ⟨lg, cu, hc⟩ := rt_block (g := g) HR rfl
        obtain ⟨lq, du, hd⟩ := rt_block (g := q) HU rfl
        have kf : (k : Int) < 7 := by have := few.out.1.1; omega
        have i1 : (k : Int) < (l.length : Int) := by omega
        have i2 : (0 : Int) ≤ (k : Int) := by omega
        have i3 : (k : Int) < (m : Int) := by omega
        have i4 : k + 1 < l.length := by omega
        have hob : Hid (∀ w' : World, w'.heap[g]? = some (.cells cu 30 (0, 0)) → At w' g k s) := fun w' h => rt_at (rt_same HR (fun j hj => by obtain rfl : g = j := (by simpa [Value.ownBlock] using hj); exact h.trans hc.symm)) hs
        have FA : Hid (∀ w', Below w3.heap.size wr w' → Calls Tryd.prog 18 #[.agg #[.int .i64 x.book, .int .i64 x.cust, .int .i64 x.dead, .int .i64 x.u0, .int .i64 x.u1, .int .i64 x.u2, .int .i64 x.price, .int .i64 1, .int .i64 (k : Int), .int .i64 0, .int .i64 3], .agg #[.int .i64 s.node, .int .i64 s.op.kind, .int .i64 s.op.book, .int .i64 s.op.units, .int .i64 s.op.cust, .int .i64 s.op.amount], .int .i64 1] w' fun e w'' => e = .returned (.tuple #[.agg #[.int .i64 x.book, .int .i64 x.cust, .int .i64 x.dead, .int .i64 x.u0, .int .i64 x.u1, .int .i64 x.u2, .int .i64 x.price, .int .i64 1, .int .i64 ((k : Int) + 1), .int .i64 0, .int .i64 3], .bool true]) ∧ Below w3.heap.size wr w'' ∧ Below w'.heap.size w' w'') := fun w' h => (N2.out w' (kb.out.trans ((hbe.trans h).mono kb.out.size)) k s hs i4).mono fun _ _ ⟨e1, e2⟩ => ⟨e1, h.trans (e2.mono (by have := h.size; have := lt_some HB; omega)), e2⟩
        replace HB := Lib.hid HB
        replace HR := Lib.hid HR
        replace HU := Lib.hid HU
        replace hbe := Lib.hid hbe
        have kr : Hid (Below w.heap.size w wr) := kb.out.trans (hbe.out.mono kb.out.size)
        replace hc := Lib.hid hc
        replace hd := Lib.hid hd
        replace lg := Lib.hid lg
        replace lq := Lib.hid lq
        replace i4 := Lib.hid i4
        clear hat hu
        go_upto_region 12 with fail
        refine gu12 _ _ _ _ _ _ _ _ _ _ _ _ _ _ _ _ _ _ _ _ _ _ _ _ _ _ _ _ _ _ _ _ _ _ _ _ _ _ _ _ _ _ _ _ _ _ _ _ _ _ _ _ _ _ _ _ _ _ _ _ _ _ _ _ _ _ _ _ _ _ _ _ _ _ _ _ _ _ _ _ _ _ _ _ _ _ _ _ _ _ _ _ _ _ _ _ _ _ _ _ _ _ _ _ _ _ _ _ _ _ _ _ _ _ _ _ _ _ _ _ _ _ _ _ _ _ _ _ _ _ _ _ _ _ _ _ _ _ _ _ wr w3.heap.size g q k l.length kA x 3 s _ _ i1 i2 lg.out lq.out HB.out hc.out hd.out hob FA _ (fun _ _ d _ _ h => by cases d <;> exact h) (fun _ _ _ _ _ _ _ _ _ wg hS hG hQ h => ?_)
        have nx : Hid (UlAs x l lb m w3 (.slice (some ⟨g, 0, none⟩) l.length kA) (.slice (some ⟨q, 0, none⟩) lb.length kB) (.int .i64 ((k : Int) + 1)) wg) := ⟨k + 1, by simp, by omega, by unfold BoxS; simpa [sgc] using hS, rt_same HR.out (fun j hj => by obtain rfl : g = j := (by simpa [Value.ownBlock] using hj); exact hG.trans hc.out.symm), rt_same HU.out (fun j hj => by obtain rfl : q = j := (by simpa [Value.ownBlock] using hj); exact hQ.trans hd.out.symm), hbe.out.trans h⟩
        clear hS hG hQ h FA hob hc hd HB HR HU hbe lg lq i4
        go_wp2_with fail
        exact ⟨nx.out, by simp [intOf]; omega⟩
      · obtain rfl : k = m := by omega
        have BS : Hid (wr.heap[w3.heap.size]? = some (.cells #[.int .i64 x.book, .int .i64 x.cust, .int .i64 x.dead, .int .i64 x.u0, .int .i64 x.u1, .int .i64 x.u2, .int .i64 x.price, .int .i64 1, .int .i64 (k : Int), .int .i64 0, .int .i64 3] 26 (0, 0))) := HB
        have i3 : ¬ (k : Int) < (k : Int) := by omega
        have bq : Hid (Below w3.heap.size w3 wr) := hbe
        clear HB HR hbe hlt hk N2
        replace HU := Lib.hid HU
        have xBS0 : wr.cell? ⟨w3.heap.size, 0, none⟩ = some (.int .i64 x.book) := one_at BS.out
        have xBS1 : wr.cell? ⟨w3.heap.size, 1, none⟩ = some (.int .i64 x.cust) := one_at BS.out
        have xBS2 : wr.cell? ⟨w3.heap.size, 2, none⟩ = some (.int .i64 x.dead) := one_at BS.out
        have xBS3 : wr.cell? ⟨w3.heap.size, 3, none⟩ = some (.int .i64 x.u0) := one_at BS.out
        have xBS4 : wr.cell? ⟨w3.heap.size, 4, none⟩ = some (.int .i64 x.u1) := one_at BS.out
        have xBS5 : wr.cell? ⟨w3.heap.size, 5, none⟩ = some (.int .i64 x.u2) := one_at BS.out
        have xBS6 : wr.cell? ⟨w3.heap.size, 6, none⟩ = some (.int .i64 x.price) := one_at BS.out
        have xBS7 : wr.cell? ⟨w3.heap.size, 7, none⟩ = some (.int .i64 1) := one_at BS.out
        have xBS8 : wr.cell? ⟨w3.heap.size, 8, none⟩ = some (.int .i64 (k : Int)) := one_at BS.out
        have xBS9 : wr.cell? ⟨w3.heap.size, 9, none⟩ = some (.int .i64 0) := one_at BS.out
        have xBS10 : wr.cell? ⟨w3.heap.size, 10, none⟩ = some (.int .i64 3) := one_at BS.out
        have lBS : w3.heap.size < wr.heap.size := lt_some BS.out
        go_wp2_with fail
        refine (N3.out _ (by first | assumption | (refine Lib.hid (kr.out.trans (Below.mono ?_ kr.out.size)); first | assumption | exact Hid.out (by assumption)) | (refine Lib.hid (kb.out.trans (Below.mono ?_ kb.out.size)); first | assumption | exact Hid.out (by assumption)))).mono ?_
        rintro e w41 ⟨rfl, h⟩
        have HU2 := Lib.hid (rt_below HU.out h)
        clear xBS0 xBS1 xBS2 xBS3 xBS4 xBS5 xBS6 xBS7 xBS8 xBS9 xBS10 lBS
        replace BS := Lib.hid ((h.block _ (lt_some BS.out)).trans BS.out)
        have b42 : Hid (Below w3.heap.size w3 w41) := bq.out.trans (h.mono bq.out.size)
        clear h
        obtain ⟨wz, hwz⟩ : ∃ z, z = w41.setRow w3.heap.size #[.int .i64 x.book, .int .i64 x.cust, .int .i64 x.dead, .int .i64 x.u0, .int .i64 x.u1, .int .i64 x.u2, .int .i64 x.price, .int .i64 3, .int .i64 0, .int .i64 4, .int .i64 3] := ⟨_, rfl⟩
        have st2 : Hid (VlAs x lb w3 (.slice B lb.length kB) (.int .i64 0) wz) := ⟨0, rfl, Nat.zero_le _, by unfold BoxS bw; rw [if_pos few.out.2.2, hwz]; exact setRow_heap _ _ _ _ _ _ BS.out, rt_same HU2.out (fun j hj => by rw [hwz]; have := (rt_block HU2.out hj).1; exact setRow_other _ _ _ _ (by omega)), by rw [hwz]; exact b42.out.trans (setRow_below _ (Nat.le_refl _))⟩
        replace BS := BS.out
        replace hwz := Lib.hid hwz
        clear HU HU2 N3 ul l0 em
        go_upto_region 14 with (refine wpList_store_row rfl 26 (.tmp 7) (.tmp 61) rfl w3.heap.size #[.int .i64 x.book, .int .i64 x.cust, .int .i64 x.dead, .int .i64 x.u0, .int .i64 x.u1, .int .i64 x.u2, .int .i64 x.price, .int .i64 3, .int .i64 0, .int .i64 4, .int .i64 3] rfl rfl 26 #[.int .i64 x.book, .int .i64 x.cust, .int .i64 x.dead, .int .i64 x.u0, .int .i64 x.u1, .int .i64 x.u2, .int .i64 x.price, .int .i64 1, .int .i64 (k : Int), .int .i64 0, .int .i64 3] BS sag_size rfl (by simp [Value.oneCell']) ?_)
        rw [← hwz.out]
        clear BS hwz b42
        go_wp2_with fail
        go_loopw [13] (fun i wr => VlAs x lb w3 (.slice B lb.length kB) i wr) (fun i _ => lb.length - (intOf i).toNat)
        case atStart => exact st2.out
        case round =>
          clear st2
          obtain ⟨k, rfl, hk, HB, HR, hbe⟩ := hrel
          by_cases hlt : k < lb.length
          · obtain ⟨s, hs⟩ : ∃ s, lb[k]? = some s := ⟨_, List.getElem?_eq_getElem hlt⟩
            obtain ⟨g, rfl, hat⟩ := rt_cell HR hs
            have BS : Hid (wr.heap[w3.heap.size]? = some (.cells #[.int .i64 x.book, .int .i64 x.cust, .int .i64 x.dead, .int .i64 x.u0, .int .i64 x.u1, .int .i64 x.u2, .int .i64 x.price, .int .i64 3, .int .i64 (k : Int), .int .i64 4, .int .i64 3] 26 (0, 0))) := by have := HB; unfold bw at this; rw [if_pos hlt] at this; exact this
            have kf : (k : Int) < 4 := by have := few.out.2.1; omega
            have i1 : (k : Int) < (lb.length : Int) := by omega
            have i2 : (0 : Int) ≤ (k : Int) := by omega
            have bb : Hid (Below wr.heap.size wr wr) := Below.refl _ _
            replace HR := Lib.hid HR
            replace hat := Lib.hid hat
            replace hs := Lib.hid hs
            replace hbe := Lib.hid hbe
            have kr : Hid (Below w.heap.size w wr) := kb.out.trans (hbe.out.mono kb.out.size)
            replace hk := Lib.hid hk
            replace hlt := Lib.hid hlt
            clear HB
            clear TD N9 NA NB few kl
            have xBS0 : wr.cell? ⟨w3.heap.size, 0, none⟩ = some (.int .i64 x.book) := one_at BS.out
            have xBS1 : wr.cell? ⟨w3.heap.size, 1, none⟩ = some (.int .i64 x.cust) := one_at BS.out
            have xBS2 : wr.cell? ⟨w3.heap.size, 2, none⟩ = some (.int .i64 x.dead) := one_at BS.out
            have xBS3 : wr.cell? ⟨w3.heap.size, 3, none⟩ = some (.int .i64 x.u0) := one_at BS.out
            have xBS4 : wr.cell? ⟨w3.heap.size, 4, none⟩ = some (.int .i64 x.u1) := one_at BS.out
            have xBS5 : wr.cell? ⟨w3.heap.size, 5, none⟩ = some (.int .i64 x.u2) := one_at BS.out
            have xBS6 : wr.cell? ⟨w3.heap.size, 6, none⟩ = some (.int .i64 x.price) := one_at BS.out
            have xBS7 : wr.cell? ⟨w3.heap.size, 7, none⟩ = some (.int .i64 3) := one_at BS.out
            have xBS8 : wr.cell? ⟨w3.heap.size, 8, none⟩ = some (.int .i64 (k : Int)) := one_at BS.out
            have xBS9 : wr.cell? ⟨w3.heap.size, 9, none⟩ = some (.int .i64 4) := one_at BS.out
            have xBS10 : wr.cell? ⟨w3.heap.size, 10, none⟩ = some (.int .i64 3) := one_at BS.out
            have lBS : w3.heap.size < wr.heap.size := lt_some BS.out
            go_wp2_with fail
            refine (N4.out _ (by first | assumption | (refine Lib.hid (kr.out.trans (Below.mono ?_ kr.out.size)); first | assumption | exact Hid.out (by assumption)) | (refine Lib.hid (kb.out.trans (Below.mono ?_ kb.out.size)); first | assumption | exact Hid.out (by assumption))) k s hs.out).mono ?_
            rintro e w61 ⟨rfl, h⟩
            clear xBS0 xBS1 xBS2 xBS3 xBS4 xBS5 xBS6 xBS7 xBS8 xBS9 xBS10 lBS
            replace BS := Lib.hid ((h.block _ (lt_some BS.out)).trans BS.out)
            have b62 : Hid (Below wr.heap.size wr w61) := bb.out.trans (h.mono bb.out.size)
            clear h
            go_upto_region 20 with fail
            obtain ⟨W63, hW⟩ : ∃ ww, ww = w61.alloc (.cells #[.int .i64 s.node, .int .i64 s.op.kind, .int .i64 s.op.book, .int .i64 s.op.units, .int .i64 s.op.cust, .int .i64 s.op.amount] 30) := ⟨_, rfl⟩
            rw [← hW]
            have h : Below w61.heap.size w61 W63 := by rw [hW]; exact (Below.refl _ _).alloc (Nat.le_refl _) _
            have BA : Hid (W63.heap[w61.heap.size]? = some (.cells #[.int .i64 s.node, .int .i64 s.op.kind, .int .i64 s.op.book, .int .i64 s.op.units, .int .i64 s.op.cust, .int .i64 s.op.amount] 30 (0, 0))) := by rw [hW]; exact heap_alloc_new _ _
            clear hW
            replace BS := Lib.hid ((h.block _ (lt_some BS.out)).trans BS.out)
            have b64 : Hid (Below wr.heap.size wr W63) := b62.out.trans (h.mono b62.out.size)
            clear h
            have CSx : Hid (∀ w', Below W63.heap.size W63 w' → CellS w' w3.heap.size ⟨x, 3, (k : Int), 4, 3⟩) := fun w' h => BoxS.cells (s := ⟨x, 3, (k : Int), 4, 3⟩) ((h.block _ (lt_some BS.out)).trans BS.out)
            have CAx : Hid (∀ w', Below W63.heap.size W63 w' → w'.heap[w61.heap.size]? = _) := fun w' h => (h.block _ (lt_some BA.out)).trans BA.out
            have CRx : Hid (∀ w', Below W63.heap.size W63 w' → At w' g k s) := fun w' h => hat.out.below (b64.out.trans (h.mono b64.out.size))
            have F8 : Hid (∀ w', Below W63.heap.size W63 w' → Calls Tryd.prog 17 #[.agg #[.int .i64 x.book, .int .i64 x.cust, .int .i64 x.dead, .int .i64 x.u0, .int .i64 x.u1, .int .i64 x.u2, .int .i64 x.price, .int .i64 3, .int .i64 (k : Int), .int .i64 4, .int .i64 3]] w' fun e w'' => e = .returned (.bool false) ∧ Below W63.heap.size W63 w'') := fun w' h => (N8.out w' (Lib.hid (kr.out.trans ((b64.out.trans (h.mono b64.out.size)).mono kr.out.size))) (k : Int)).mono fun _ _ ⟨e1, e2⟩ => ⟨e1, h.trans (e2.mono h.size)⟩
            refine gu20 _ _ _ _ _ _ _ _ _ _ _ _ _ _ _ _ _ _ _ _ _ _ _ _ _ _ _ _ _ _ _ _ _ _ _ _ _ _ _ _ _ _ _ _ _ _ _ _ _ _ _ _ _ _ _ _ _ _ _ _ _ _ _ _ _ _ _ _ _ _ _ _ _ _ _ _ _ _ _ _ _ _ _ _ _ _ _ _ _ _ _ _ _ _ _ _ _ _ _ _ _ _ _ _ _ _ _ _ _ _ _ _ _ _ _ _ _ _ _ _ _ _ _ _ _ _ _ _ _ _ _ _ _ _ _ _ _ _ W63 w3.heap.size g w61.heap.size k lb.length kB x 3 s i1 i2 CSx CAx CRx F8 (EQ.out s) _ (fun _ _ d _ _ h => by cases d <;> exact h) (fun _ _ _ _ _ _ _ _ _ _ _ _ _ wg h => ?_)
            clear CSx CAx CRx F8 EQ N4 N8 hat
            replace BS := Lib.hid ((h.block _ (lt_some BS.out)).trans BS.out)
            replace BA := Lib.hid ((h.block _ (lt_some BA.out)).trans BA.out)
            have b65 : Hid (Below wr.heap.size wr wg) := b64.out.trans (h.mono b64.out.size)
            clear h
            go_upto_region 22 with fail
            go_cut [95] from 90 to 107 (fun s95 wx => (∃ b, s95 = .bool b) ∧ wg = wx)
            case first =>
              go_wp2_with fail
              go_meet
              exact ⟨⟨_, rfl⟩, rfl⟩
            case rest =>
              obtain ⟨⟨b, rfl⟩, rfl⟩ := hcut
              cases b with
              | false =>
                clear ES N7
                by_cases hi : k + 1 < lb.length
                · have xBS0 : wg.cell? ⟨w3.heap.size, 0, none⟩ = some (.int .i64 x.book) := one_at BS.out
                  have xBS1 : wg.cell? ⟨w3.heap.size, 1, none⟩ = some (.int .i64 x.cust) := one_at BS.out
                  have xBS2 : wg.cell? ⟨w3.heap.size, 2, none⟩ = some (.int .i64 x.dead) := one_at BS.out
                  have xBS3 : wg.cell? ⟨w3.heap.size, 3, none⟩ = some (.int .i64 x.u0) := one_at BS.out
                  have xBS4 : wg.cell? ⟨w3.heap.size, 4, none⟩ = some (.int .i64 x.u1) := one_at BS.out
                  have xBS5 : wg.cell? ⟨w3.heap.size, 5, none⟩ = some (.int .i64 x.u2) := one_at BS.out
                  have xBS6 : wg.cell? ⟨w3.heap.size, 6, none⟩ = some (.int .i64 x.price) := one_at BS.out
                  have xBS7 : wg.cell? ⟨w3.heap.size, 7, none⟩ = some (.int .i64 3) := one_at BS.out
                  have xBS8 : wg.cell? ⟨w3.heap.size, 8, none⟩ = some (.int .i64 (k : Int)) := one_at BS.out
                  have xBS9 : wg.cell? ⟨w3.heap.size, 9, none⟩ = some (.int .i64 4) := one_at BS.out
                  have xBS10 : wg.cell? ⟨w3.heap.size, 10, none⟩ = some (.int .i64 3) := one_at BS.out
                  have lBS : w3.heap.size < wg.heap.size := lt_some BS.out
                  have xBA0 : wg.cell? ⟨w61.heap.size, 0, none⟩ = some (.int .i64 s.node) := one_at BA.out
                  have xBA1 : wg.cell? ⟨w61.heap.size, 1, none⟩ = some (.int .i64 s.op.kind) := one_at BA.out
                  have xBA2 : wg.cell? ⟨w61.heap.size, 2, none⟩ = some (.int .i64 s.op.book) := one_at BA.out
                  have xBA3 : wg.cell? ⟨w61.heap.size, 3, none⟩ = some (.int .i64 s.op.units) := one_at BA.out
                  have xBA4 : wg.cell? ⟨w61.heap.size, 4, none⟩ = some (.int .i64 s.op.cust) := one_at BA.out
                  have xBA5 : wg.cell? ⟨w61.heap.size, 5, none⟩ = some (.int .i64 s.op.amount) := one_at BA.out
                  have lBA : w61.heap.size < wg.heap.size := lt_some BA.out
                  go_wp2_with fail
                  refine (N5.out _ (by first | assumption | (refine Lib.hid (kr.out.trans (Below.mono ?_ kr.out.size)); first | assumption | exact Hid.out (by assumption)) | (refine Lib.hid (kb.out.trans (Below.mono ?_ kb.out.size)); first | assumption | exact Hid.out (by assumption))) k s hs.out hi).mono ?_
                  rintro e w66 ⟨rfl, h⟩
                  clear xBS0 xBS1 xBS2 xBS3 xBS4 xBS5 xBS6 xBS7 xBS8 xBS9 xBS10 lBS xBA0 xBA1 xBA2 xBA3 xBA4 xBA5 lBA
                  replace BS := Lib.hid ((h.block _ (lt_some BS.out)).trans BS.out)
                  replace BA := Lib.hid ((h.block _ (lt_some BA.out)).trans BA.out)
                  have b67 : Hid (Below wr.heap.size wr w66) := b65.out.trans (h.mono b65.out.size)
                  clear h
                  have nx := Lib.hid (vl_next (x := x) (k := k) (l := lb) (W := w3) (A := some ⟨g, 0, none⟩) (c := kB) (cs := #[.int .i64 x.book, .int .i64 x.cust, .int .i64 x.dead, .int .i64 x.u0, .int .i64 x.u1, .int .i64 x.u2, .int .i64 x.price, .int .i64 3, .int .i64 ((k + 1 : Nat) : Int), .int .i64 4, .int .i64 3]) (by have := hlt.out; omega) ⟨_, BS.out⟩ (by unfold bw; rw [if_pos hi]) (rt_below HR.out b67.out) (hbe.out.trans (b67.out.mono hbe.out.size)))
                  replace BS := BS.out
                  go_wp2_with (refine wpList_store_row rfl 26 (.tmp 7) (.tmp 112) rfl w3.heap.size #[.int .i64 x.book, .int .i64 x.cust, .int .i64 x.dead, .int .i64 x.u0, .int .i64 x.u1, .int .i64 x.u2, .int .i64 x.price, .int .i64 3, .int .i64 ((k + 1 : Nat) : Int), .int .i64 4, .int .i64 3] rfl rfl 26 #[.int .i64 x.book, .int .i64 x.cust, .int .i64 x.dead, .int .i64 x.u0, .int .i64 x.u1, .int .i64 x.u2, .int .i64 x.price, .int .i64 3, .int .i64 (k : Int), .int .i64 4, .int .i64 3] BS sag_size rfl (by simp [Value.oneCell']) ?_)
                  exact ⟨nx.out, by simp [intOf]; have := hlt.out; omega⟩
                · have xBS0 : wg.cell? ⟨w3.heap.size, 0, none⟩ = some (.int .i64 x.book) := one_at BS.out
                  have xBS1 : wg.cell? ⟨w3.heap.size, 1, none⟩ = some (.int .i64 x.cust) := one_at BS.out
                  have xBS2 : wg.cell? ⟨w3.heap.size, 2, none⟩ = some (.int .i64 x.dead) := one_at BS.out
                  have xBS3 : wg.cell? ⟨w3.heap.size, 3, none⟩ = some (.int .i64 x.u0) := one_at BS.out
                  have xBS4 : wg.cell? ⟨w3.heap.size, 4, none⟩ = some (.int .i64 x.u1) := one_at BS.out
                  have xBS5 : wg.cell? ⟨w3.heap.size, 5, none⟩ = some (.int .i64 x.u2) := one_at BS.out
                  have xBS6 : wg.cell? ⟨w3.heap.size, 6, none⟩ = some (.int .i64 x.price) := one_at BS.out
                  have xBS7 : wg.cell? ⟨w3.heap.size, 7, none⟩ = some (.int .i64 3) := one_at BS.out
                  have xBS8 : wg.cell? ⟨w3.heap.size, 8, none⟩ = some (.int .i64 (k : Int)) := one_at BS.out
                  have xBS9 : wg.cell? ⟨w3.heap.size, 9, none⟩ = some (.int .i64 4) := one_at BS.out
                  have xBS10 : wg.cell? ⟨w3.heap.size, 10, none⟩ = some (.int .i64 3) := one_at BS.out
                  have lBS : w3.heap.size < wg.heap.size := lt_some BS.out
                  have xBA0 : wg.cell? ⟨w61.heap.size, 0, none⟩ = some (.int .i64 s.node) := one_at BA.out
                  have xBA1 : wg.cell? ⟨w61.heap.size, 1, none⟩ = some (.int .i64 s.op.kind) := one_at BA.out
                  have xBA2 : wg.cell? ⟨w61.heap.size, 2, none⟩ = some (.int .i64 s.op.book) := one_at BA.out
                  have xBA3 : wg.cell? ⟨w61.heap.size, 3, none⟩ = some (.int .i64 s.op.units) := one_at BA.out
                  have xBA4 : wg.cell? ⟨w61.heap.size, 4, none⟩ = some (.int .i64 s.op.cust) := one_at BA.out
                  have xBA5 : wg.cell? ⟨w61.heap.size, 5, none⟩ = some (.int .i64 s.op.amount) := one_at BA.out
                  have lBA : w61.heap.size < wg.heap.size := lt_some BA.out
                  go_wp2_with fail
                  refine (N6.out _ (by first | assumption | (refine Lib.hid (kr.out.trans (Below.mono ?_ kr.out.size)); first | assumption | exact Hid.out (by assumption)) | (refine Lib.hid (kb.out.trans (Below.mono ?_ kb.out.size)); first | assumption | exact Hid.out (by assumption))) k s hs.out (by have := hlt.out; omega)).mono ?_
                  rintro e w66 ⟨rfl, h⟩
                  clear xBS0 xBS1 xBS2 xBS3 xBS4 xBS5 xBS6 xBS7 xBS8 xBS9 xBS10 lBS xBA0 xBA1 xBA2 xBA3 xBA4 xBA5 lBA
                  replace BS := Lib.hid ((h.block _ (lt_some BS.out)).trans BS.out)
                  replace BA := Lib.hid ((h.block _ (lt_some BA.out)).trans BA.out)
                  have b67 : Hid (Below wr.heap.size wr w66) := b65.out.trans (h.mono b65.out.size)
                  clear h
                  have nx := Lib.hid (vl_next (x := x) (k := k) (l := lb) (W := w3) (A := some ⟨g, 0, none⟩) (c := kB) (cs := #[.int .i64 x.book, .int .i64 x.cust, .int .i64 x.dead, .int .i64 x.u0, .int .i64 x.u1, .int .i64 x.u2, .int .i64 x.price, .int .i64 5, .int .i64 0, .int .i64 4, .int .i64 3]) (by have := hlt.out; omega) ⟨_, BS.out⟩ (by unfold bw; rw [if_neg hi]) (rt_below HR.out b67.out) (hbe.out.trans (b67.out.mono hbe.out.size)))
                  replace BS := BS.out
                  go_wp2_with (refine wpList_store_row rfl 26 (.tmp 7) (.tmp 112) rfl w3.heap.size #[.int .i64 x.book, .int .i64 x.cust, .int .i64 x.dead, .int .i64 x.u0, .int .i64 x.u1, .int .i64 x.u2, .int .i64 x.price, .int .i64 5, .int .i64 0, .int .i64 4, .int .i64 3] rfl rfl 26 #[.int .i64 x.book, .int .i64 x.cust, .int .i64 x.dead, .int .i64 x.u0, .int .i64 x.u1, .int .i64 x.u2, .int .i64 x.price, .int .i64 3, .int .i64 (k : Int), .int .i64 4, .int .i64 3] BS sag_size rfl (by simp [Value.oneCell']) ?_)
                  exact ⟨nx.out, by simp [intOf]; have := hlt.out; omega⟩
              | true =>
                replace ES := (fun w => ES.out k w)
                have xBS0 : wg.cell? ⟨w3.heap.size, 0, none⟩ = some (.int .i64 x.book) := one_at BS.out
                have xBS1 : wg.cell? ⟨w3.heap.size, 1, none⟩ = some (.int .i64 x.cust) := one_at BS.out
                have xBS2 : wg.cell? ⟨w3.heap.size, 2, none⟩ = some (.int .i64 x.dead) := one_at BS.out
                have xBS3 : wg.cell? ⟨w3.heap.size, 3, none⟩ = some (.int .i64 x.u0) := one_at BS.out
                have xBS4 : wg.cell? ⟨w3.heap.size, 4, none⟩ = some (.int .i64 x.u1) := one_at BS.out
                have xBS5 : wg.cell? ⟨w3.heap.size, 5, none⟩ = some (.int .i64 x.u2) := one_at BS.out
                have xBS6 : wg.cell? ⟨w3.heap.size, 6, none⟩ = some (.int .i64 x.price) := one_at BS.out
                have xBS7 : wg.cell? ⟨w3.heap.size, 7, none⟩ = some (.int .i64 3) := one_at BS.out
                have xBS8 : wg.cell? ⟨w3.heap.size, 8, none⟩ = some (.int .i64 (k : Int)) := one_at BS.out
                have xBS9 : wg.cell? ⟨w3.heap.size, 9, none⟩ = some (.int .i64 4) := one_at BS.out
                have xBS10 : wg.cell? ⟨w3.heap.size, 10, none⟩ = some (.int .i64 3) := one_at BS.out
                have lBS : w3.heap.size < wg.heap.size := lt_some BS.out
                have xBA0 : wg.cell? ⟨w61.heap.size, 0, none⟩ = some (.int .i64 s.node) := one_at BA.out
                have xBA1 : wg.cell? ⟨w61.heap.size, 1, none⟩ = some (.int .i64 s.op.kind) := one_at BA.out
                have xBA2 : wg.cell? ⟨w61.heap.size, 2, none⟩ = some (.int .i64 s.op.book) := one_at BA.out
                have xBA3 : wg.cell? ⟨w61.heap.size, 3, none⟩ = some (.int .i64 s.op.units) := one_at BA.out
                have xBA4 : wg.cell? ⟨w61.heap.size, 4, none⟩ = some (.int .i64 s.op.cust) := one_at BA.out
                have xBA5 : wg.cell? ⟨w61.heap.size, 5, none⟩ = some (.int .i64 s.op.amount) := one_at BA.out
                have lBA : w61.heap.size < wg.heap.size := lt_some BA.out
                go_wp2_with fail
                refine (N7.out _ (by first | assumption | (refine Lib.hid (kr.out.trans (Below.mono ?_ kr.out.size)); first | assumption | exact Hid.out (by assumption)) | (refine Lib.hid (kb.out.trans (Below.mono ?_ kb.out.size)); first | assumption | exact Hid.out (by assumption))) k s hs.out).mono ?_
                rintro e w66 ⟨rfl, h⟩
                clear xBS0 xBS1 xBS2 xBS3 xBS4 xBS5 xBS6 xBS7 xBS8 xBS9 xBS10 lBS xBA0 xBA1 xBA2 xBA3 xBA4 xBA5 lBA
                replace BS := Lib.hid ((h.block _ (lt_some BS.out)).trans BS.out)
                replace BA := Lib.hid ((h.block _ (lt_some BA.out)).trans BA.out)
                have b67 : Hid (Below wr.heap.size wr w66) := b65.out.trans (h.mono b65.out.size)
                clear h
                go_upto_region 24 with fail
                obtain ⟨W68, hW⟩ : ∃ ww, ww = w66.alloc (.cells #[.int .i64 x.book, .int .i64 x.cust, .int .i64 x.dead, .int .i64 x.u0, .int .i64 x.u1, .int .i64 x.u2, .int .i64 x.price, .int .i64 3, .int .i64 (k : Int), .int .i64 4, .int .i64 3] 26) := ⟨_, rfl⟩
                rw [← hW]
                have h : Below w66.heap.size w66 W68 := by rw [hW]; exact (Below.refl _ _).alloc (Nat.le_refl _) _
                have BX : Hid (W68.heap[w66.heap.size]? = some (.cells #[.int .i64 x.book, .int .i64 x.cust, .int .i64 x.dead, .int .i64 x.u0, .int .i64 x.u1, .int .i64 x.u2, .int .i64 x.price, .int .i64 3, .int .i64 (k : Int), .int .i64 4, .int .i64 3] 26 (0, 0))) := by rw [hW]; exact heap_alloc_new _ _
                clear hW
                replace BS := Lib.hid ((h.block _ (lt_some BS.out)).trans BS.out)
                replace BA := Lib.hid ((h.block _ (lt_some BA.out)).trans BA.out)
                have b69 : Hid (Below wr.heap.size wr W68) := b67.out.trans (h.mono b67.out.size)
                clear h
                clear N7
                have xBS0 : W68.cell? ⟨w3.heap.size, 0, none⟩ = some (.int .i64 x.book) := one_at BS.out
                have xBS1 : W68.cell? ⟨w3.heap.size, 1, none⟩ = some (.int .i64 x.cust) := one_at BS.out
                have xBS2 : W68.cell? ⟨w3.heap.size, 2, none⟩ = some (.int .i64 x.dead) := one_at BS.out
                have xBS3 : W68.cell? ⟨w3.heap.size, 3, none⟩ = some (.int .i64 x.u0) := one_at BS.out
                have xBS4 : W68.cell? ⟨w3.heap.size, 4, none⟩ = some (.int .i64 x.u1) := one_at BS.out
                have xBS5 : W68.cell? ⟨w3.heap.size, 5, none⟩ = some (.int .i64 x.u2) := one_at BS.out
                have xBS6 : W68.cell? ⟨w3.heap.size, 6, none⟩ = some (.int .i64 x.price) := one_at BS.out
                have xBS7 : W68.cell? ⟨w3.heap.size, 7, none⟩ = some (.int .i64 3) := one_at BS.out
                have xBS8 : W68.cell? ⟨w3.heap.size, 8, none⟩ = some (.int .i64 (k : Int)) := one_at BS.out
                have xBS9 : W68.cell? ⟨w3.heap.size, 9, none⟩ = some (.int .i64 4) := one_at BS.out
                have xBS10 : W68.cell? ⟨w3.heap.size, 10, none⟩ = some (.int .i64 3) := one_at BS.out
                have lBS : w3.heap.size < W68.heap.size := lt_some BS.out
                have xBA0 : W68.cell? ⟨w61.heap.size, 0, none⟩ = some (.int .i64 s.node) := one_at BA.out
                have xBA1 : W68.cell? ⟨w61.heap.size, 1, none⟩ = some (.int .i64 s.op.kind) := one_at BA.out
                have xBA2 : W68.cell? ⟨w61.heap.size, 2, none⟩ = some (.int .i64 s.op.book) := one_at BA.out
                have xBA3 : W68.cell? ⟨w61.heap.size, 3, none⟩ = some (.int .i64 s.op.units) := one_at BA.out
                have xBA4 : W68.cell? ⟨w61.heap.size, 4, none⟩ = some (.int .i64 s.op.cust) := one_at BA.out
                have xBA5 : W68.cell? ⟨w61.heap.size, 5, none⟩ = some (.int .i64 s.op.amount) := one_at BA.out
                have lBA : w61.heap.size < W68.heap.size := lt_some BA.out
                have xBX0 : W68.cell? ⟨w66.heap.size, 0, none⟩ = some (.int .i64 x.book) := one_at BX.out
                have xBX1 : W68.cell? ⟨w66.heap.size, 1, none⟩ = some (.int .i64 x.cust) := one_at BX.out
                have xBX2 : W68.cell? ⟨w66.heap.size, 2, none⟩ = some (.int .i64 x.dead) := one_at BX.out
                have xBX3 : W68.cell? ⟨w66.heap.size, 3, none⟩ = some (.int .i64 x.u0) := one_at BX.out
                have xBX4 : W68.cell? ⟨w66.heap.size, 4, none⟩ = some (.int .i64 x.u1) := one_at BX.out
                have xBX5 : W68.cell? ⟨w66.heap.size, 5, none⟩ = some (.int .i64 x.u2) := one_at BX.out
                have xBX6 : W68.cell? ⟨w66.heap.size, 6, none⟩ = some (.int .i64 x.price) := one_at BX.out
                have xBX7 : W68.cell? ⟨w66.heap.size, 7, none⟩ = some (.int .i64 3) := one_at BX.out
                have xBX8 : W68.cell? ⟨w66.heap.size, 8, none⟩ = some (.int .i64 (k : Int)) := one_at BX.out
                have xBX9 : W68.cell? ⟨w66.heap.size, 9, none⟩ = some (.int .i64 4) := one_at BX.out
                have xBX10 : W68.cell? ⟨w66.heap.size, 10, none⟩ = some (.int .i64 3) := one_at BX.out
                have lBX : w66.heap.size < W68.heap.size := lt_some BX.out
                go_upto_region 26 with fail
                clear xBS0 xBS1 xBS2 xBS3 xBS4 xBS5 xBS6 xBS7 xBS8 xBS9 xBS10 lBS xBA0 xBA1 xBA2 xBA3 xBA4 xBA5 lBA xBX0 xBX1 xBX2 xBX3 xBX4 xBX5 xBX6 xBX7 xBX8 xBX9 xBX10 lBX
                clear ES
                by_cases hi : k + 1 < lb.length
                · have xBS0 : W68.cell? ⟨w3.heap.size, 0, none⟩ = some (.int .i64 x.book) := one_at BS.out
                  have xBS1 : W68.cell? ⟨w3.heap.size, 1, none⟩ = some (.int .i64 x.cust) := one_at BS.out
                  have xBS2 : W68.cell? ⟨w3.heap.size, 2, none⟩ = some (.int .i64 x.dead) := one_at BS.out
                  have xBS3 : W68.cell? ⟨w3.heap.size, 3, none⟩ = some (.int .i64 x.u0) := one_at BS.out
                  have xBS4 : W68.cell? ⟨w3.heap.size, 4, none⟩ = some (.int .i64 x.u1) := one_at BS.out
                  have xBS5 : W68.cell? ⟨w3.heap.size, 5, none⟩ = some (.int .i64 x.u2) := one_at BS.out
                  have xBS6 : W68.cell? ⟨w3.heap.size, 6, none⟩ = some (.int .i64 x.price) := one_at BS.out
                  have xBS7 : W68.cell? ⟨w3.heap.size, 7, none⟩ = some (.int .i64 3) := one_at BS.out
                  have xBS8 : W68.cell? ⟨w3.heap.size, 8, none⟩ = some (.int .i64 (k : Int)) := one_at BS.out
                  have xBS9 : W68.cell? ⟨w3.heap.size, 9, none⟩ = some (.int .i64 4) := one_at BS.out
                  have xBS10 : W68.cell? ⟨w3.heap.size, 10, none⟩ = some (.int .i64 3) := one_at BS.out
                  have lBS : w3.heap.size < W68.heap.size := lt_some BS.out
                  have xBA0 : W68.cell? ⟨w61.heap.size, 0, none⟩ = some (.int .i64 s.node) := one_at BA.out
                  have xBA1 : W68.cell? ⟨w61.heap.size, 1, none⟩ = some (.int .i64 s.op.kind) := one_at BA.out
                  have xBA2 : W68.cell? ⟨w61.heap.size, 2, none⟩ = some (.int .i64 s.op.book) := one_at BA.out
                  have xBA3 : W68.cell? ⟨w61.heap.size, 3, none⟩ = some (.int .i64 s.op.units) := one_at BA.out
                  have xBA4 : W68.cell? ⟨w61.heap.size, 4, none⟩ = some (.int .i64 s.op.cust) := one_at BA.out
                  have xBA5 : W68.cell? ⟨w61.heap.size, 5, none⟩ = some (.int .i64 s.op.amount) := one_at BA.out
                  have lBA : w61.heap.size < W68.heap.size := lt_some BA.out
                  go_wp2_with fail
                  refine (N5.out _ (by first | assumption | (refine Lib.hid (kr.out.trans (Below.mono ?_ kr.out.size)); first | assumption | exact Hid.out (by assumption)) | (refine Lib.hid (kb.out.trans (Below.mono ?_ kb.out.size)); first | assumption | exact Hid.out (by assumption))) k s hs.out hi).mono ?_
                  rintro e w70 ⟨rfl, h⟩
                  clear xBS0 xBS1 xBS2 xBS3 xBS4 xBS5 xBS6 xBS7 xBS8 xBS9 xBS10 lBS xBA0 xBA1 xBA2 xBA3 xBA4 xBA5 lBA
                  replace BS := Lib.hid ((h.block _ (lt_some BS.out)).trans BS.out)
                  replace BA := Lib.hid ((h.block _ (lt_some BA.out)).trans BA.out)
                  replace BX := Lib.hid ((h.block _ (lt_some BX.out)).trans BX.out)
                  have b71 : Hid (Below wr.heap.size wr w70) := b69.out.trans (h.mono b69.out.size)
                  clear h
                  have nx := Lib.hid (vl_next (x := x) (k := k) (l := lb) (W := w3) (A := some ⟨g, 0, none⟩) (c := kB) (cs := #[.int .i64 x.book, .int .i64 x.cust, .int .i64 x.dead, .int .i64 x.u0, .int .i64 x.u1, .int .i64 x.u2, .int .i64 x.price, .int .i64 3, .int .i64 ((k + 1 : Nat) : Int), .int .i64 4, .int .i64 3]) (by have := hlt.out; omega) ⟨_, BS.out⟩ (by unfold bw; rw [if_pos hi]) (rt_below HR.out b71.out) (hbe.out.trans (b71.out.mono hbe.out.size)))
                  replace BS := BS.out
                  go_wp2_with (refine wpList_store_row rfl 26 (.tmp 7) (.tmp 112) rfl w3.heap.size #[.int .i64 x.book, .int .i64 x.cust, .int .i64 x.dead, .int .i64 x.u0, .int .i64 x.u1, .int .i64 x.u2, .int .i64 x.price, .int .i64 3, .int .i64 ((k + 1 : Nat) : Int), .int .i64 4, .int .i64 3] rfl rfl 26 #[.int .i64 x.book, .int .i64 x.cust, .int .i64 x.dead, .int .i64 x.u0, .int .i64 x.u1, .int .i64 x.u2, .int .i64 x.price, .int .i64 3, .int .i64 (k : Int), .int .i64 4, .int .i64 3] BS sag_size rfl (by simp [Value.oneCell']) ?_)
                  exact ⟨nx.out, by simp [intOf]; have := hlt.out; omega⟩
                · have xBS0 : W68.cell? ⟨w3.heap.size, 0, none⟩ = some (.int .i64 x.book) := one_at BS.out
                  have xBS1 : W68.cell? ⟨w3.heap.size, 1, none⟩ = some (.int .i64 x.cust) := one_at BS.out
                  have xBS2 : W68.cell? ⟨w3.heap.size, 2, none⟩ = some (.int .i64 x.dead) := one_at BS.out
                  have xBS3 : W68.cell? ⟨w3.heap.size, 3, none⟩ = some (.int .i64 x.u0) := one_at BS.out
                  have xBS4 : W68.cell? ⟨w3.heap.size, 4, none⟩ = some (.int .i64 x.u1) := one_at BS.out
                  have xBS5 : W68.cell? ⟨w3.heap.size, 5, none⟩ = some (.int .i64 x.u2) := one_at BS.out
                  have xBS6 : W68.cell? ⟨w3.heap.size, 6, none⟩ = some (.int .i64 x.price) := one_at BS.out
                  have xBS7 : W68.cell? ⟨w3.heap.size, 7, none⟩ = some (.int .i64 3) := one_at BS.out
                  have xBS8 : W68.cell? ⟨w3.heap.size, 8, none⟩ = some (.int .i64 (k : Int)) := one_at BS.out
                  have xBS9 : W68.cell? ⟨w3.heap.size, 9, none⟩ = some (.int .i64 4) := one_at BS.out
                  have xBS10 : W68.cell? ⟨w3.heap.size, 10, none⟩ = some (.int .i64 3) := one_at BS.out
                  have lBS : w3.heap.size < W68.heap.size := lt_some BS.out
                  have xBA0 : W68.cell? ⟨w61.heap.size, 0, none⟩ = some (.int .i64 s.node) := one_at BA.out
                  have xBA1 : W68.cell? ⟨w61.heap.size, 1, none⟩ = some (.int .i64 s.op.kind) := one_at BA.out
                  have xBA2 : W68.cell? ⟨w61.heap.size, 2, none⟩ = some (.int .i64 s.op.book) := one_at BA.out
                  have xBA3 : W68.cell? ⟨w61.heap.size, 3, none⟩ = some (.int .i64 s.op.units) := one_at BA.out
                  have xBA4 : W68.cell? ⟨w61.heap.size, 4, none⟩ = some (.int .i64 s.op.cust) := one_at BA.out
                  have xBA5 : W68.cell? ⟨w61.heap.size, 5, none⟩ = some (.int .i64 s.op.amount) := one_at BA.out
                  have lBA : w61.heap.size < W68.heap.size := lt_some BA.out
                  go_wp2_with fail
                  refine (N6.out _ (by first | assumption | (refine Lib.hid (kr.out.trans (Below.mono ?_ kr.out.size)); first | assumption | exact Hid.out (by assumption)) | (refine Lib.hid (kb.out.trans (Below.mono ?_ kb.out.size)); first | assumption | exact Hid.out (by assumption))) k s hs.out (by have := hlt.out; omega)).mono ?_
                  rintro e w70 ⟨rfl, h⟩
                  clear xBS0 xBS1 xBS2 xBS3 xBS4 xBS5 xBS6 xBS7 xBS8 xBS9 xBS10 lBS xBA0 xBA1 xBA2 xBA3 xBA4 xBA5 lBA
                  replace BS := Lib.hid ((h.block _ (lt_some BS.out)).trans BS.out)
                  replace BA := Lib.hid ((h.block _ (lt_some BA.out)).trans BA.out)
                  replace BX := Lib.hid ((h.block _ (lt_some BX.out)).trans BX.out)
                  have b71 : Hid (Below wr.heap.size wr w70) := b69.out.trans (h.mono b69.out.size)
                  clear h
                  have nx := Lib.hid (vl_next (x := x) (k := k) (l := lb) (W := w3) (A := some ⟨g, 0, none⟩) (c := kB) (cs := #[.int .i64 x.book, .int .i64 x.cust, .int .i64 x.dead, .int .i64 x.u0, .int .i64 x.u1, .int .i64 x.u2, .int .i64 x.price, .int .i64 5, .int .i64 0, .int .i64 4, .int .i64 3]) (by have := hlt.out; omega) ⟨_, BS.out⟩ (by unfold bw; rw [if_neg hi]) (rt_below HR.out b71.out) (hbe.out.trans (b71.out.mono hbe.out.size)))
                  replace BS := BS.out
                  go_wp2_with (refine wpList_store_row rfl 26 (.tmp 7) (.tmp 112) rfl w3.heap.size #[.int .i64 x.book, .int .i64 x.cust, .int .i64 x.dead, .int .i64 x.u0, .int .i64 x.u1, .int .i64 x.u2, .int .i64 x.price, .int .i64 5, .int .i64 0, .int .i64 4, .int .i64 3] rfl rfl 26 #[.int .i64 x.book, .int .i64 x.cust, .int .i64 x.dead, .int .i64 x.u0, .int .i64 x.u1, .int .i64 x.u2, .int .i64 x.price, .int .i64 3, .int .i64 (k : Int), .int .i64 4, .int .i64 3] BS sag_size rfl (by simp [Value.oneCell']) ?_)
                  exact ⟨nx.out, by simp [intOf]; have := hlt.out; omega⟩
          · obtain rfl : k = lb.length := by omega
            have BS : Hid (wr.heap[w3.heap.size]? = some (.cells #[.int .i64 x.book, .int .i64 x.cust, .int .i64 x.dead, .int .i64 x.u0, .int .i64 x.u1, .int .i64 x.u2, .int .i64 x.price, .int .i64 5, .int .i64 0, .int .i64 4, .int .i64 3] 26 (0, 0))) := by have := HB; unfold bw at this; rw [if_neg (by omega)] at this; exact this
            have bz : Hid (Below w.heap.size w wr) := kb.out.trans (hbe.mono kb.out.size)
            have i1 : ¬ (lb.length : Int) < (lb.length : Int) := by omega
            clear HB HR hbe hlt hk N4 N5 N6 N7 N8 EQ ES few
            have xBS0 : wr.cell? ⟨w3.heap.size, 0, none⟩ = some (.int .i64 x.book) := one_at BS.out
            have xBS1 : wr.cell? ⟨w3.heap.size, 1, none⟩ = some (.int .i64 x.cust) := one_at BS.out
            have xBS2 : wr.cell? ⟨w3.heap.size, 2, none⟩ = some (.int .i64 x.dead) := one_at BS.out
            have xBS3 : wr.cell? ⟨w3.heap.size, 3, none⟩ = some (.int .i64 x.u0) := one_at BS.out
            have xBS4 : wr.cell? ⟨w3.heap.size, 4, none⟩ = some (.int .i64 x.u1) := one_at BS.out
            have xBS5 : wr.cell? ⟨w3.heap.size, 5, none⟩ = some (.int .i64 x.u2) := one_at BS.out
            have xBS6 : wr.cell? ⟨w3.heap.size, 6, none⟩ = some (.int .i64 x.price) := one_at BS.out
            have xBS7 : wr.cell? ⟨w3.heap.size, 7, none⟩ = some (.int .i64 5) := one_at BS.out
            have xBS8 : wr.cell? ⟨w3.heap.size, 8, none⟩ = some (.int .i64 0) := one_at BS.out
            have xBS9 : wr.cell? ⟨w3.heap.size, 9, none⟩ = some (.int .i64 4) := one_at BS.out
            have xBS10 : wr.cell? ⟨w3.heap.size, 10, none⟩ = some (.int .i64 3) := one_at BS.out
            have lBS : w3.heap.size < wr.heap.size := lt_some BS.out
            go_wp2_with fail
            refine (N9.out _ (by assumption)).mono ?_
            rintro e w81 ⟨rfl, h⟩
            clear xBS0 xBS1 xBS2 xBS3 xBS4 xBS5 xBS6 xBS7 xBS8 xBS9 xBS10 lBS
            replace BS := Lib.hid ((h.block _ (lt_some BS.out)).trans BS.out)
            have b82 : Hid (Below w.heap.size w w81) := bz.out.trans (h.mono bz.out.size)
            clear h
            go_upto_region 28 with fail
            obtain ⟨Wz, hW⟩ : ∃ ww, ww = w81.alloc (.cells #[.int .i64 0, .int .i64 0, .int .i64 0, .int .i64 0, .int .i64 0, .int .i64 0] 30) := ⟨_, rfl⟩
            rw [← hW]
            have h : Below w81.heap.size w81 Wz := by rw [hW]; exact (Below.refl _ _).alloc (Nat.le_refl _) _
            clear hW
            replace BS := Lib.hid ((h.block _ (lt_some BS.out)).trans BS.out)
            have b83 : Hid (Below w.heap.size w Wz) := b82.out.trans (h.mono b82.out.size)
            clear h
            go_wp2_with fail
            refine (TD.out _ (by assumption)).mono ?_
            rintro e w84 ⟨rfl, h⟩
            replace BS := Lib.hid ((h.block _ (lt_some BS.out)).trans BS.out)
            have b85 : Hid (Below w.heap.size w w84) := b83.out.trans (h.mono b83.out.size)
            clear h
            have xBS0 : w84.cell? ⟨w3.heap.size, 0, none⟩ = some (.int .i64 x.book) := one_at BS.out
            have xBS1 : w84.cell? ⟨w3.heap.size, 1, none⟩ = some (.int .i64 x.cust) := one_at BS.out
            have xBS2 : w84.cell? ⟨w3.heap.size, 2, none⟩ = some (.int .i64 x.dead) := one_at BS.out
            have xBS3 : w84.cell? ⟨w3.heap.size, 3, none⟩ = some (.int .i64 x.u0) := one_at BS.out
            have xBS4 : w84.cell? ⟨w3.heap.size, 4, none⟩ = some (.int .i64 x.u1) := one_at BS.out
            have xBS5 : w84.cell? ⟨w3.heap.size, 5, none⟩ = some (.int .i64 x.u2) := one_at BS.out
            have xBS6 : w84.cell? ⟨w3.heap.size, 6, none⟩ = some (.int .i64 x.price) := one_at BS.out
            have xBS7 : w84.cell? ⟨w3.heap.size, 7, none⟩ = some (.int .i64 5) := one_at BS.out
            have xBS8 : w84.cell? ⟨w3.heap.size, 8, none⟩ = some (.int .i64 0) := one_at BS.out
            have xBS9 : w84.cell? ⟨w3.heap.size, 9, none⟩ = some (.int .i64 4) := one_at BS.out
            have xBS10 : w84.cell? ⟨w3.heap.size, 10, none⟩ = some (.int .i64 3) := one_at BS.out
            have lBS : w3.heap.size < w84.heap.size := lt_some BS.out
            go_wp2_with fail
            refine (NA.out _ (by assumption)).mono ?_
            rintro e w86 ⟨rfl, h⟩
            clear xBS0 xBS1 xBS2 xBS3 xBS4 xBS5 xBS6 xBS7 xBS8 xBS9 xBS10 lBS
            replace BS := Lib.hid ((h.block _ (lt_some BS.out)).trans BS.out)
            have b87 : Hid (Below w.heap.size w w86) := b85.out.trans (h.mono b85.out.size)
            clear h
            have xBS0 : w86.cell? ⟨w3.heap.size, 0, none⟩ = some (.int .i64 x.book) := one_at BS.out
            have xBS1 : w86.cell? ⟨w3.heap.size, 1, none⟩ = some (.int .i64 x.cust) := one_at BS.out
            have xBS2 : w86.cell? ⟨w3.heap.size, 2, none⟩ = some (.int .i64 x.dead) := one_at BS.out
            have xBS3 : w86.cell? ⟨w3.heap.size, 3, none⟩ = some (.int .i64 x.u0) := one_at BS.out
            have xBS4 : w86.cell? ⟨w3.heap.size, 4, none⟩ = some (.int .i64 x.u1) := one_at BS.out
            have xBS5 : w86.cell? ⟨w3.heap.size, 5, none⟩ = some (.int .i64 x.u2) := one_at BS.out
            have xBS6 : w86.cell? ⟨w3.heap.size, 6, none⟩ = some (.int .i64 x.price) := one_at BS.out
            have xBS7 : w86.cell? ⟨w3.heap.size, 7, none⟩ = some (.int .i64 5) := one_at BS.out
            have xBS8 : w86.cell? ⟨w3.heap.size, 8, none⟩ = some (.int .i64 0) := one_at BS.out
            have xBS9 : w86.cell? ⟨w3.heap.size, 9, none⟩ = some (.int .i64 4) := one_at BS.out
            have xBS10 : w86.cell? ⟨w3.heap.size, 10, none⟩ = some (.int .i64 3) := one_at BS.out
            have lBS : w3.heap.size < w86.heap.size := lt_some BS.out
            go_wp2_with fail
            refine (NB.out _ (by assumption)).mono ?_
            rintro e w88 ⟨rfl, h⟩
            clear xBS0 xBS1 xBS2 xBS3 xBS4 xBS5 xBS6 xBS7 xBS8 xBS9 xBS10 lBS
            replace BS := Lib.hid ((h.block _ (lt_some BS.out)).trans BS.out)
            have b89 : Hid (Below w.heap.size w w88) := b87.out.trans (h.mono b87.out.size)
            clear h
            go_wp2_with fail
            go_ret
            exact ⟨rfl, b89.out⟩
end Go.Proofs.YtakicogelkdofaaDoor.sagaUndone
