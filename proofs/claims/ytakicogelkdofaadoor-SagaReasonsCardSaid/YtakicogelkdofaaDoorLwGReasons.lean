/- Why a saga is taken back (SagaReasons). -/
import Derived.Test.YtakicogelkdofaaDoorSgY
import Derived.Test.YtakicogelkdofaaDoorSgT
import Derived.Test.YtakicogelkdofaaDoorSgO
import Derived.LoopTactic
namespace Go.Proofs.YtakicogelkdofaaDoor.sagaReasons
set_option maxRecDepth 100000
open Go.RowKit
open Go.Proofs.YtakicogelkdofaaDoor.Pk (one_at one_free one_set lt_some)
open Go.Proofs.YtakicogelkdofaaDoor.Sg
open Go.Proofs.YtakicogelkdofaaDoor.Wt (Wan may Opn mayOp refmay_any inR)
open Go.Proofs.YtakicogelkdofaaDoor.Pl (Stp fwd bck cap z0 wanv spv RowT rt_form rt_mono rt_same rt_below rt_cell rt_at rt_block At fwd_any wpList_store_row setRow_below StpsTo)

def RlAs (x : Wan) (l : List Stp) (m : Nat) (W : World) (v i : Value) (wr : World) : Prop := ∃ k : Nat, i = .int .i64 (k : Int) ∧ k ≤ m ∧ BoxS wr W.heap.size ⟨x, 1, (k : Int), 0, 100⟩ ∧ RowT 30 wr (W.heap.size + 1) v l.length l ∧ Below W.heap.size W wr
theorem rl_next {x : Wan} {l : List Stp} {W wr : World} {A : Option Addr} {c k m : Nat} {cs : Array Value} (hk : k + 1 ≤ m) (hB : ∃ y, wr.heap[W.heap.size]? = some (.cells y 26 (0, 0))) (hc : cs = sgc ⟨x, 1, ((k + 1 : Nat) : Int), 0, 100⟩) (hR : RowT 30 wr (W.heap.size + 1) (.slice A l.length c) l.length l) (hb : Below W.heap.size W wr) : RlAs x l m W (.slice A l.length c) (.int .i64 ((k : Int) + 1)) (wr.setRow W.heap.size cs) := by
  obtain ⟨y, hB⟩ := hB
  refine ⟨k + 1, by simp, hk, ?_, rt_same hR fun g hg => ?_, hb.trans (setRow_below _ (Nat.le_refl _))⟩
  · unfold BoxS
    rw [← hc]
    exact setRow_heap _ _ _ _ _ _ hB
  · have := (rt_block hR hg).1
    exact setRow_other _ _ _ _ (by omega)
theorem dead_in {x : Wan} (h : may x = true) : 0 ≤ x.dead ∧ x.dead ≤ 1099511627776 := by
  simp [may, inR] at h
  omega
theorem u64_len {n : Nat} (h : n ≤ 7) : IntKind.u64.wrap (n : Int) = (n : Int) := by
  rw [IntKind.wrap_u64]; omega
set_option maxHeartbeats 25600000 in
theorem walk (P : Prg) (w : World) (tb : Tab w) (x : Wan) (at_ hw : Int) (h : Nat) (eh : wrap64 ((IntKind.u64.wrap hw).tmod 3) = (h : Int)) (hh : h < 3) (et : may x = true → ∃ m : Nat, wrap64 ((IntKind.u64.wrap at_).tmod ((fwd x).length : Int)) = (m : Int) ∧ m < (fwd x).length) : Calls Tryd.prog 6 #[wanv x, .int .i64 at_, .int .i64 hw] w fun e w' => e = .returned (.bool true) ∧ Below w.heap.size w w' := by
  have TD := con tb fun w' t => told_any P w' t
  have M1 := fun w => refmay_any w x
  unfold wanv
  obtain ⟨W0, hW0⟩ : ∃ W0, W0 = w.alloc (.cells #[.int .i64 x.book, .int .i64 x.cust, .int .i64 x.dead, .int .i64 x.u0, .int .i64 x.u1, .int .i64 x.u2, .int .i64 x.price] 24) := ⟨_, rfl⟩
  have BW : Hid (W0.heap[w.heap.size]? = some (.cells #[.int .i64 x.book, .int .i64 x.cust, .int .i64 x.dead, .int .i64 x.u0, .int .i64 x.u1, .int .i64 x.u2, .int .i64 x.price] 24 (0, 0))) := by rw [hW0]; exact heap_alloc_new _ _
  have b0 : Hid (Below w.heap.size w W0) := by rw [hW0]; exact (Below.refl _ w).alloc (Nat.le_refl _) _
  replace hW0 := Lib.hid hW0
  cases hm : may x with
  | false =>
    rw [hm] at M1
    replace M1 := Lib.hid M1
    replace TD := Lib.hid TD
    clear hm et eh hh
    go_enter Tryd.func6, Tryd.ntmps6
    go_wp2_with fail
    rw [← hW0.out]
    refine (M1.out _).mono ?_
    rintro e w1 ⟨rfl, h⟩
    have b2 : Hid (Below w.heap.size w w1) := b0.out.trans (h.mono b0.out.size)
    clear h
    go_wp2_with fail
    refine (TD.out _ (by assumption)).mono ?_
    rintro e w3 ⟨rfl, h⟩
    have b4 : Hid (Below w.heap.size w w3) := b2.out.trans (h.mono b2.out.size)
    clear h
    go_wp2_with fail
    go_ret
    exact ⟨rfl, b4.out⟩
  | true =>
    have ht : inR 100 0 1099511627776 = true := by decide
    obtain ⟨m, em, hmL⟩ := et hm
    obtain ⟨d0, d1⟩ := dead_in hm
    have N0 : Hid (∀ w' (_ : Hid (Below w.heap.size w w')), Calls Tryd.prog 24 #[.agg #[.int .i64 x.book, .int .i64 x.cust, .int .i64 x.dead, .int .i64 x.u0, .int .i64 x.u1, .int .i64 x.u2, .int .i64 x.price], .int .i64 100] w' fun e w'' => e = .returned (.tuple #[.agg #[.int .i64 x.book, .int .i64 x.cust, .int .i64 x.dead, .int .i64 x.u0, .int .i64 x.u1, .int .i64 x.u2, .int .i64 x.price, .int .i64 1, .int .i64 0, .int .i64 0, .int .i64 100], .int .i64 0]) ∧ Below w'.heap.size w' w'') := fun w' bb => by have := P.new w' (tb.below bb.out) x 100; rw [new_yes hm ht] at this; exact this
    have N1 : Hid (∀ w' (_ : Hid (Below w.heap.size w w')) (k : Nat) (s : Stp), (fwd x)[k]? = some s → Calls Tryd.prog 10 #[.agg #[.int .i64 x.book, .int .i64 x.cust, .int .i64 x.dead, .int .i64 x.u0, .int .i64 x.u1, .int .i64 x.u2, .int .i64 x.price, .int .i64 1, .int .i64 (k : Int), .int .i64 0, .int .i64 100]] w' fun e w'' => e = .returned (.tuple #[spv s, .bool true]) ∧ Below w'.heap.size w' w'') := fun w' bb k s hs => by have := P.next w' (tb.below bb.out) ⟨x, 1, (k : Int), 0, 100⟩; rw [next_1 hm ht hs] at this; exact this
    have N2 : Hid (∀ w' (_ : Hid (Below w.heap.size w w')) (k : Nat) (s : Stp), (fwd x)[k]? = some s → k + 1 < (fwd x).length → Calls Tryd.prog 18 #[.agg #[.int .i64 x.book, .int .i64 x.cust, .int .i64 x.dead, .int .i64 x.u0, .int .i64 x.u1, .int .i64 x.u2, .int .i64 x.price, .int .i64 1, .int .i64 (k : Int), .int .i64 0, .int .i64 100], spv s, .int .i64 1] w' fun e w'' => e = .returned (.tuple #[.agg #[.int .i64 x.book, .int .i64 x.cust, .int .i64 x.dead, .int .i64 x.u0, .int .i64 x.u1, .int .i64 x.u2, .int .i64 x.price, .int .i64 1, .int .i64 ((k : Int) + 1), .int .i64 0, .int .i64 100], .bool true]) ∧ Below w'.heap.size w' w'') := fun w' bb k s hs hi => by
          have e : ((k + 1 : Nat) : Int) = (k : Int) + 1 := by simp
          have := P.ans w' (tb.below bb.out) ⟨x, 1, (k : Int), 0, 100⟩ s 1
          rw [done_1a hm ht hs hi, e] at this
          exact this
    have N3 : Hid (∀ w' (_ : Hid (Below w.heap.size w w')) (s : Stp), (fwd x)[m]? = some s → s.op.kind = 4 → Calls Tryd.prog 18 #[.agg #[.int .i64 x.book, .int .i64 x.cust, .int .i64 x.dead, .int .i64 x.u0, .int .i64 x.u1, .int .i64 x.u2, .int .i64 x.price, .int .i64 1, .int .i64 (m : Int), .int .i64 0, .int .i64 100], spv s, .int .i64 2] w' fun e w'' => e = .returned (.tuple #[.agg #[.int .i64 x.book, .int .i64 x.cust, .int .i64 x.dead, .int .i64 x.u0, .int .i64 x.u1, .int .i64 x.u2, .int .i64 x.price, .int .i64 3, .int .i64 0, .int .i64 2, .int .i64 100], .bool true]) ∧ Below w'.heap.size w' w'') := fun w' bb s hs h4 => by have := P.ans w' (tb.below bb.out) ⟨x, 1, (m : Int), 0, 100⟩ s 2; rw [no_1 hm ht hs, if_pos h4] at this; exact this
    have N4 : Hid (∀ w' (_ : Hid (Below w.heap.size w w')) (s : Stp), (fwd x)[m]? = some s → ¬ s.op.kind = 4 → Calls Tryd.prog 18 #[.agg #[.int .i64 x.book, .int .i64 x.cust, .int .i64 x.dead, .int .i64 x.u0, .int .i64 x.u1, .int .i64 x.u2, .int .i64 x.price, .int .i64 1, .int .i64 (m : Int), .int .i64 0, .int .i64 100], spv s, .int .i64 2] w' fun e w'' => e = .returned (.tuple #[.agg #[.int .i64 x.book, .int .i64 x.cust, .int .i64 x.dead, .int .i64 x.u0, .int .i64 x.u1, .int .i64 x.u2, .int .i64 x.price, .int .i64 3, .int .i64 0, .int .i64 1, .int .i64 100], .bool true]) ∧ Below w'.heap.size w' w'') := fun w' bb s hs h4 => by have := P.ans w' (tb.below bb.out) ⟨x, 1, (m : Int), 0, 100⟩ s 2; rw [no_1 hm ht hs, if_neg h4] at this; exact this
    have N5 : Hid (∀ w' (_ : Hid (Below w.heap.size w w')), Calls Tryd.prog 20 #[.agg #[.int .i64 x.book, .int .i64 x.cust, .int .i64 x.dead, .int .i64 x.u0, .int .i64 x.u1, .int .i64 x.u2, .int .i64 x.price, .int .i64 1, .int .i64 (m : Int), .int .i64 0, .int .i64 100]] w' fun e w'' => e = .returned (.tuple #[.agg #[.int .i64 x.book, .int .i64 x.cust, .int .i64 x.dead, .int .i64 x.u0, .int .i64 x.u1, .int .i64 x.u2, .int .i64 x.price, .int .i64 3, .int .i64 0, .int .i64 4, .int .i64 100], .bool true]) ∧ Below w'.heap.size w' w'') := fun w' bb => by have := P.can w' (tb.below bb.out) ⟨x, 1, (m : Int), 0, 100⟩; rw [can_1 hm ht hmL] at this; exact this
    have N6 : Hid (∀ w' (_ : Hid (Below w.heap.size w w')), Calls Tryd.prog 22 #[.agg #[.int .i64 x.book, .int .i64 x.cust, .int .i64 x.dead, .int .i64 x.u0, .int .i64 x.u1, .int .i64 x.u2, .int .i64 x.price, .int .i64 1, .int .i64 (m : Int), .int .i64 0, .int .i64 100], .int .i64 (100 + x.dead - 1)] w' fun e w'' => e = .returned (.tuple #[.agg #[.int .i64 x.book, .int .i64 x.cust, .int .i64 x.dead, .int .i64 x.u0, .int .i64 x.u1, .int .i64 x.u2, .int .i64 x.price, .int .i64 1, .int .i64 (m : Int), .int .i64 0, .int .i64 100], .bool false]) ∧ Below w'.heap.size w' w'') := fun w' bb => by have := P.late w' (tb.below bb.out) ⟨x, 1, (m : Int), 0, 100⟩ (100 + x.dead - 1); rw [early_1 (by omega)] at this; exact this
    have N7 : Hid (∀ w' (_ : Hid (Below w.heap.size w w')), 0 < x.dead → 100 + x.dead ≤ 1099511627776 → Calls Tryd.prog 22 #[.agg #[.int .i64 x.book, .int .i64 x.cust, .int .i64 x.dead, .int .i64 x.u0, .int .i64 x.u1, .int .i64 x.u2, .int .i64 x.price, .int .i64 1, .int .i64 (m : Int), .int .i64 0, .int .i64 100], .int .i64 (100 + x.dead)] w' fun e w'' => e = .returned (.tuple #[.agg #[.int .i64 x.book, .int .i64 x.cust, .int .i64 x.dead, .int .i64 x.u0, .int .i64 x.u1, .int .i64 x.u2, .int .i64 x.price, .int .i64 3, .int .i64 0, .int .i64 3, .int .i64 100], .bool true]) ∧ Below w'.heap.size w' w'') := fun w' bb h0 h1 => by have := P.late w' (tb.below bb.out) ⟨x, 1, (m : Int), 0, 100⟩ (100 + x.dead); rw [late_1 hm ht hmL h0 h1 (Int.le_refl _)] at this; exact this
    have AU : Hid (∀ s, s ∈ fwd x → (s.op.kind = 4 ↔ s.node = 3)) := fun s hs => fwd_auth hm hs
    have FW : Hid (∀ w', Calls Tryd.prog 32 #[.agg #[.int .i64 x.book, .int .i64 x.cust, .int .i64 x.dead, .int .i64 x.u0, .int .i64 x.u1, .int .i64 x.u2, .int .i64 x.price]] w' (StpsTo 30 w' (fwd x))) := fun w' => fwd_any w' x
    have EQ : Hid (∀ (s : Stp) w', (Op.equalIn 10000 30 (spv s) (spv s)).run Tryd.prog w' = .ok true w') := fun s w' => by rw [eq_pask, decide_eq_true rfl]
    have EW : Hid (∀ w', (Op.equalIn 10000 24 (.agg #[.int .i64 x.book, .int .i64 x.cust, .int .i64 x.dead, .int .i64 x.u0, .int .i64 x.u1, .int .i64 x.u2, .int .i64 x.price]) (.agg #[.int .i64 x.book, .int .i64 x.cust, .int .i64 x.dead, .int .i64 x.u0, .int .i64 x.u1, .int .i64 x.u2, .int .i64 x.price])).run Tryd.prog w' = .ok true w') := fun w' => by have := eq_wan10 w' x x; rw [decide_eq_true rfl] at this; exact this
    have few : Hid ((fwd x).length ≤ 7 ∧ 0 < (fwd x).length) := ⟨Pl.fwd_len x, fwd_pos hm⟩
    rw [hm] at M1
    replace M1 := Lib.hid M1
    replace TD := Lib.hid TD
    clear hm ht et
    generalize fwd x = l at *
    have ul := u64_len few.out.1
    have l0 : 0 < (l.length : Int) := by have := few.out.2; omega
    unfold spv at *
    go_enter Tryd.func6, Tryd.ntmps6
    go_wp2_with fail
    rw [← hW0.out]
    refine (M1.out _).mono ?_
    rintro e w1 ⟨rfl, h⟩
    replace BW := Lib.hid ((h.block _ (lt_some BW.out)).trans BW.out)
    have b2 : Hid (Below w.heap.size w w1) := b0.out.trans (h.mono b0.out.size)
    clear h
    have xBW0 : w1.cell? ⟨w.heap.size, 0, none⟩ = some (.int .i64 x.book) := one_at BW.out
    have xBW1 : w1.cell? ⟨w.heap.size, 1, none⟩ = some (.int .i64 x.cust) := one_at BW.out
    have xBW2 : w1.cell? ⟨w.heap.size, 2, none⟩ = some (.int .i64 x.dead) := one_at BW.out
    have xBW3 : w1.cell? ⟨w.heap.size, 3, none⟩ = some (.int .i64 x.u0) := one_at BW.out
    have xBW4 : w1.cell? ⟨w.heap.size, 4, none⟩ = some (.int .i64 x.u1) := one_at BW.out
    have xBW5 : w1.cell? ⟨w.heap.size, 5, none⟩ = some (.int .i64 x.u2) := one_at BW.out
    have xBW6 : w1.cell? ⟨w.heap.size, 6, none⟩ = some (.int .i64 x.price) := one_at BW.out
    have lBW : w.heap.size < w1.heap.size := lt_some BW.out
    go_wp2_with fail
    refine (N0.out _ (by assumption)).mono ?_
    rintro e w3 ⟨rfl, h⟩
    clear xBW0 xBW1 xBW2 xBW3 xBW4 xBW5 xBW6 lBW
    replace BW := Lib.hid ((h.block _ (lt_some BW.out)).trans BW.out)
    have b4 : Hid (Below w.heap.size w w3) := b2.out.trans (h.mono b2.out.size)
    clear h
    clear M1 N0 hW0
    have kl : Hid (w.heap.size < w3.heap.size) := lt_some BW.out
    have kq : Hid (∀ wy, Below w3.heap.size w3 wy → wy.heap[w.heap.size]? = some (.cells #[.int .i64 x.book, .int .i64 x.cust, .int .i64 x.dead, .int .i64 x.u0, .int .i64 x.u1, .int .i64 x.u2, .int .i64 x.price] 24 (0, 0))) := fun wy h => (h.block _ (lt_some BW.out)).trans BW.out
    have kb : Hid (Below w.heap.size w w3) := b4.out
    go_upto_region 4 with fail
    obtain ⟨W5, hW⟩ : ∃ ww, ww = w3.alloc (.cells #[.int .i64 x.book, .int .i64 x.cust, .int .i64 x.dead, .int .i64 x.u0, .int .i64 x.u1, .int .i64 x.u2, .int .i64 x.price, .int .i64 1, .int .i64 0, .int .i64 0, .int .i64 100] 26) := ⟨_, rfl⟩
    rw [← hW]
    have h : Below w3.heap.size w3 W5 := by rw [hW]; exact (Below.refl _ _).alloc (Nat.le_refl _) _
    have BS : Hid (W5.heap[w3.heap.size]? = some (.cells #[.int .i64 x.book, .int .i64 x.cust, .int .i64 x.dead, .int .i64 x.u0, .int .i64 x.u1, .int .i64 x.u2, .int .i64 x.price, .int .i64 1, .int .i64 0, .int .i64 0, .int .i64 100] 26 (0, 0))) := by rw [hW]; exact heap_alloc_new _ _
    clear hW
    have qb : Hid (Below w3.heap.size w3 W5) := h
    replace BW := Lib.hid ((h.block _ (lt_some BW.out)).trans BW.out)
    have b6 : Hid (Below w.heap.size w W5) := b4.out.trans (h.mono b4.out.size)
    clear h
    have xBW0 : W5.cell? ⟨w.heap.size, 0, none⟩ = some (.int .i64 x.book) := one_at BW.out
    have xBW1 : W5.cell? ⟨w.heap.size, 1, none⟩ = some (.int .i64 x.cust) := one_at BW.out
    have xBW2 : W5.cell? ⟨w.heap.size, 2, none⟩ = some (.int .i64 x.dead) := one_at BW.out
    have xBW3 : W5.cell? ⟨w.heap.size, 3, none⟩ = some (.int .i64 x.u0) := one_at BW.out
    have xBW4 : W5.cell? ⟨w.heap.size, 4, none⟩ = some (.int .i64 x.u1) := one_at BW.out
    have xBW5 : W5.cell? ⟨w.heap.size, 5, none⟩ = some (.int .i64 x.u2) := one_at BW.out
    have xBW6 : W5.cell? ⟨w.heap.size, 6, none⟩ = some (.int .i64 x.price) := one_at BW.out
    have lBW : w.heap.size < W5.heap.size := lt_some BW.out
    have BS0 := BS
    go_wp2_with fail
    refine (FW.out _).mono ?_
    rintro e w7 ⟨v, rfl, hF, h⟩
    clear xBW0 xBW1 xBW2 xBW3 xBW4 xBW5 xBW6 lBW
    replace BW := Lib.hid ((h.block _ (lt_some BW.out)).trans BW.out)
    replace BS := Lib.hid ((h.block _ (lt_some BS.out)).trans BS.out)
    have b8 : Hid (Below w.heap.size w w7) := b6.out.trans (h.mono b6.out.size)
    clear BW
    replace qb : Hid (Below w3.heap.size w3 w7) := qb.out.trans (h.mono qb.out.size)
    obtain ⟨A, cf, rfl, -⟩ := rt_form hF
    have st : Hid (RlAs x l m w3 (.slice A l.length cf) (.int .i64 0) w7) := ⟨0, rfl, Nat.zero_le _, BS.out, rt_mono hF (by have := lt_some BS0.out; omega), qb.out⟩
    clear h hF FW qb BS BS0 b8
    have lz : ((l.length : Int) == 0) = false := by rw [beq_eq_false_iff_ne]; omega
    go_wp2_with fail
    try simp only [em]
    go_loopw [11] (fun i wr => RlAs x l m w3 (.slice A l.length cf) i wr) (fun i _ => m - (intOf i).toNat)
    case atStart => exact st.out
    case round =>
      clear st lz
      obtain ⟨k, rfl, hk, HB, HR, hbe⟩ := hrel
      by_cases hlt : k < m
      · obtain ⟨s, hs⟩ : ∃ s, l[k]? = some s := ⟨_, List.getElem?_eq_getElem (by omega)⟩
        obtain ⟨g, rfl, hat⟩ := rt_cell HR hs
        have BS : Hid (wr.heap[w3.heap.size]? = some (.cells #[.int .i64 x.book, .int .i64 x.cust, .int .i64 x.dead, .int .i64 x.u0, .int .i64 x.u1, .int .i64 x.u2, .int .i64 x.price, .int .i64 1, .int .i64 (k : Int), .int .i64 0, .int .i64 100] 26 (0, 0))) := HB
        have kf : (k : Int) < 7 := by have := few.out.1; omega
        have i1 : (k : Int) < (l.length : Int) := by omega
        have i2 : (0 : Int) ≤ (k : Int) := by omega
        have i3 : (k : Int) < (m : Int) := by omega
        have i4 : k + 1 < l.length := by omega
        have bb : Hid (Below wr.heap.size wr wr) := Below.refl _ _
        replace HR := Lib.hid HR
        replace hat := Lib.hid hat
        replace hs := Lib.hid hs
        replace hbe := Lib.hid hbe
        have kr : Hid (Below w.heap.size w wr) := kb.out.trans (hbe.out.mono kb.out.size)
        replace hk := Lib.hid hk
        replace hlt := Lib.hid hlt
        replace i4 := Lib.hid i4
        replace i1 := Lib.hid i1
        clear HB
        clear TD N3 N4 N5 N6 N7 AU EW few kq ul l0 em eh
        have xBS0 : wr.cell? ⟨w3.heap.size, 0, none⟩ = some (.int .i64 x.book) := one_at BS.out
        have xBS1 : wr.cell? ⟨w3.heap.size, 1, none⟩ = some (.int .i64 x.cust) := one_at BS.out
        have xBS2 : wr.cell? ⟨w3.heap.size, 2, none⟩ = some (.int .i64 x.dead) := one_at BS.out
        have xBS3 : wr.cell? ⟨w3.heap.size, 3, none⟩ = some (.int .i64 x.u0) := one_at BS.out
        have xBS4 : wr.cell? ⟨w3.heap.size, 4, none⟩ = some (.int .i64 x.u1) := one_at BS.out
        have xBS5 : wr.cell? ⟨w3.heap.size, 5, none⟩ = some (.int .i64 x.u2) := one_at BS.out
        have xBS6 : wr.cell? ⟨w3.heap.size, 6, none⟩ = some (.int .i64 x.price) := one_at BS.out
        have xBS7 : wr.cell? ⟨w3.heap.size, 7, none⟩ = some (.int .i64 1) := one_at BS.out
        have xBS8 : wr.cell? ⟨w3.heap.size, 8, none⟩ = some (.int .i64 (k : Int)) := one_at BS.out
        have xBS9 : wr.cell? ⟨w3.heap.size, 9, none⟩ = some (.int .i64 0) := one_at BS.out
        have xBS10 : wr.cell? ⟨w3.heap.size, 10, none⟩ = some (.int .i64 100) := one_at BS.out
        have lBS : w3.heap.size < wr.heap.size := lt_some BS.out
        go_wp2_with fail
        refine (N1.out _ (by first | assumption | (refine Lib.hid (kr.out.trans (Below.mono ?_ kr.out.size)); first | assumption | exact Hid.out (by assumption)) | (refine Lib.hid (kb.out.trans (Below.mono ?_ kb.out.size)); first | assumption | exact Hid.out (by assumption))) k s hs.out).mono ?_
        rintro e w21 ⟨rfl, h⟩
        clear xBS0 xBS1 xBS2 xBS3 xBS4 xBS5 xBS6 xBS7 xBS8 xBS9 xBS10 lBS
        replace BS := Lib.hid ((h.block _ (lt_some BS.out)).trans BS.out)
        have b22 : Hid (Below wr.heap.size wr w21) := bb.out.trans (h.mono bb.out.size)
        clear h
        go_upto_region 14 with fail
        obtain ⟨W23, hW⟩ : ∃ ww, ww = w21.alloc (.cells #[.int .i64 s.node, .int .i64 s.op.kind, .int .i64 s.op.book, .int .i64 s.op.units, .int .i64 s.op.cust, .int .i64 s.op.amount] 30) := ⟨_, rfl⟩
        rw [← hW]
        have h : Below w21.heap.size w21 W23 := by rw [hW]; exact (Below.refl _ _).alloc (Nat.le_refl _) _
        have BA : Hid (W23.heap[w21.heap.size]? = some (.cells #[.int .i64 s.node, .int .i64 s.op.kind, .int .i64 s.op.book, .int .i64 s.op.units, .int .i64 s.op.cust, .int .i64 s.op.amount] 30 (0, 0))) := by rw [hW]; exact heap_alloc_new _ _
        clear hW
        replace BS := Lib.hid ((h.block _ (lt_some BS.out)).trans BS.out)
        have b24 : Hid (Below wr.heap.size wr W23) := b22.out.trans (h.mono b22.out.size)
        clear h
        have xBS0 : W23.cell? ⟨w3.heap.size, 0, none⟩ = some (.int .i64 x.book) := one_at BS.out
        have xBS1 : W23.cell? ⟨w3.heap.size, 1, none⟩ = some (.int .i64 x.cust) := one_at BS.out
        have xBS2 : W23.cell? ⟨w3.heap.size, 2, none⟩ = some (.int .i64 x.dead) := one_at BS.out
        have xBS3 : W23.cell? ⟨w3.heap.size, 3, none⟩ = some (.int .i64 x.u0) := one_at BS.out
        have xBS4 : W23.cell? ⟨w3.heap.size, 4, none⟩ = some (.int .i64 x.u1) := one_at BS.out
        have xBS5 : W23.cell? ⟨w3.heap.size, 5, none⟩ = some (.int .i64 x.u2) := one_at BS.out
        have xBS6 : W23.cell? ⟨w3.heap.size, 6, none⟩ = some (.int .i64 x.price) := one_at BS.out
        have xBS7 : W23.cell? ⟨w3.heap.size, 7, none⟩ = some (.int .i64 1) := one_at BS.out
        have xBS8 : W23.cell? ⟨w3.heap.size, 8, none⟩ = some (.int .i64 (k : Int)) := one_at BS.out
        have xBS9 : W23.cell? ⟨w3.heap.size, 9, none⟩ = some (.int .i64 0) := one_at BS.out
        have xBS10 : W23.cell? ⟨w3.heap.size, 10, none⟩ = some (.int .i64 100) := one_at BS.out
        have lBS : w3.heap.size < W23.heap.size := lt_some BS.out
        have xBA0 : W23.cell? ⟨w21.heap.size, 0, none⟩ = some (.int .i64 s.node) := one_at BA.out
        have xBA1 : W23.cell? ⟨w21.heap.size, 1, none⟩ = some (.int .i64 s.op.kind) := one_at BA.out
        have xBA2 : W23.cell? ⟨w21.heap.size, 2, none⟩ = some (.int .i64 s.op.book) := one_at BA.out
        have xBA3 : W23.cell? ⟨w21.heap.size, 3, none⟩ = some (.int .i64 s.op.units) := one_at BA.out
        have xBA4 : W23.cell? ⟨w21.heap.size, 4, none⟩ = some (.int .i64 s.op.cust) := one_at BA.out
        have xBA5 : W23.cell? ⟨w21.heap.size, 5, none⟩ = some (.int .i64 s.op.amount) := one_at BA.out
        have lBA : w21.heap.size < W23.heap.size := lt_some BA.out
        go_wp2_with fail
        refine (N2.out _ (by first | assumption | (refine Lib.hid (kr.out.trans (Below.mono ?_ kr.out.size)); first | assumption | exact Hid.out (by assumption)) | (refine Lib.hid (kb.out.trans (Below.mono ?_ kb.out.size)); first | assumption | exact Hid.out (by assumption))) k s hs.out i4.out).mono ?_
        rintro e w25 ⟨rfl, h⟩
        clear xBS0 xBS1 xBS2 xBS3 xBS4 xBS5 xBS6 xBS7 xBS8 xBS9 xBS10 lBS xBA0 xBA1 xBA2 xBA3 xBA4 xBA5 lBA
        replace BS := Lib.hid ((h.block _ (lt_some BS.out)).trans BS.out)
        replace BA := Lib.hid ((h.block _ (lt_some BA.out)).trans BA.out)
        have b26 : Hid (Below wr.heap.size wr w25) := b24.out.trans (h.mono b24.out.size)
        clear h
        go_upto_region 15 with fail
        obtain ⟨W27, hW⟩ : ∃ ww, ww = w25.alloc (.cells #[.int .i64 x.book, .int .i64 x.cust, .int .i64 x.dead, .int .i64 x.u0, .int .i64 x.u1, .int .i64 x.u2, .int .i64 x.price, .int .i64 1, .int .i64 ((k : Int) + 1), .int .i64 0, .int .i64 100] 26) := ⟨_, rfl⟩
        rw [← hW]
        have h : Below w25.heap.size w25 W27 := by rw [hW]; exact (Below.refl _ _).alloc (Nat.le_refl _) _
        have BT : Hid (W27.heap[w25.heap.size]? = some (.cells #[.int .i64 x.book, .int .i64 x.cust, .int .i64 x.dead, .int .i64 x.u0, .int .i64 x.u1, .int .i64 x.u2, .int .i64 x.price, .int .i64 1, .int .i64 ((k : Int) + 1), .int .i64 0, .int .i64 100] 26 (0, 0))) := by rw [hW]; exact heap_alloc_new _ _
        clear hW
        replace BS := Lib.hid ((h.block _ (lt_some BS.out)).trans BS.out)
        replace BA := Lib.hid ((h.block _ (lt_some BA.out)).trans BA.out)
        have b28 : Hid (Below wr.heap.size wr W27) := b26.out.trans (h.mono b26.out.size)
        clear h
        have CAx : Hid (∀ w', Below W27.heap.size W27 w' → w'.heap[w21.heap.size]? = _) := fun w' h => (h.block _ (lt_some BA.out)).trans BA.out
        have CRx : Hid (∀ w', Below W27.heap.size W27 w' → At w' g k s) := fun w' h => hat.out.below (b28.out.trans (h.mono b28.out.size))
        refine gr15 _ _ _ _ _ _ _ _ _ _ _ _ _ _ _ _ _ _ _ _ _ _ _ _ _ _ _ _ _ _ _ _ _ _ _ _ _ _ _ _ _ _ _ _ _ _ _ _ _ _ _ _ _ _ _ _ _ _ _ _ _ _ _ _ _ _ _ _ _ _ _ _ _ _ _ _ _ _ _ _ _ _ _ _ _ _ _ _ _ _ _ _ _ _ _ _ _ _ _ _ _ _ _ _ _ _ _ _ _ _ _ _ _ _ _ _ _ _ _ _ _ _ _ _ _ _ _ _ _ _ _ _ _ _ _ _ _ _ _ _ _ _ _ _ _ _ _ W27 g w21.heap.size k l.length cf s i1.out i2 CAx CRx (EQ.out s) _ (fun _ _ d _ _ h => by cases d <;> exact h) (fun _ _ _ _ _ _ _ _ _ wg h => ?_)
        clear CAx CRx EQ N1 N2 hat
        replace BS := Lib.hid ((h.block _ (lt_some BS.out)).trans BS.out)
        replace BA := Lib.hid ((h.block _ (lt_some BA.out)).trans BA.out)
        replace BT := Lib.hid ((h.block _ (lt_some BT.out)).trans BT.out)
        have b29 : Hid (Below wr.heap.size wr wg) := b28.out.trans (h.mono b28.out.size)
        clear h
        have xBT0 : wg.cell? ⟨w25.heap.size, 0, none⟩ = some (.int .i64 x.book) := one_at BT.out
        have xBT1 : wg.cell? ⟨w25.heap.size, 1, none⟩ = some (.int .i64 x.cust) := one_at BT.out
        have xBT2 : wg.cell? ⟨w25.heap.size, 2, none⟩ = some (.int .i64 x.dead) := one_at BT.out
        have xBT3 : wg.cell? ⟨w25.heap.size, 3, none⟩ = some (.int .i64 x.u0) := one_at BT.out
        have xBT4 : wg.cell? ⟨w25.heap.size, 4, none⟩ = some (.int .i64 x.u1) := one_at BT.out
        have xBT5 : wg.cell? ⟨w25.heap.size, 5, none⟩ = some (.int .i64 x.u2) := one_at BT.out
        have xBT6 : wg.cell? ⟨w25.heap.size, 6, none⟩ = some (.int .i64 x.price) := one_at BT.out
        have xBT7 : wg.cell? ⟨w25.heap.size, 7, none⟩ = some (.int .i64 1) := one_at BT.out
        have xBT8 : wg.cell? ⟨w25.heap.size, 8, none⟩ = some (.int .i64 ((k : Int) + 1)) := one_at BT.out
        have xBT9 : wg.cell? ⟨w25.heap.size, 9, none⟩ = some (.int .i64 0) := one_at BT.out
        have xBT10 : wg.cell? ⟨w25.heap.size, 10, none⟩ = some (.int .i64 100) := one_at BT.out
        have lBT : w25.heap.size < wg.heap.size := lt_some BT.out
        have nx := Lib.hid (rl_next (x := x) (k := k) (m := m) (l := l) (W := w3) (A := some ⟨g, 0, none⟩) (c := cf) (cs := #[.int .i64 x.book, .int .i64 x.cust, .int .i64 x.dead, .int .i64 x.u0, .int .i64 x.u1, .int .i64 x.u2, .int .i64 x.price, .int .i64 1, .int .i64 ((k : Int) + 1), .int .i64 0, .int .i64 100]) (by have := hlt.out; omega) ⟨_, BS.out⟩ (by simp [sgc]) (rt_below HR.out b29.out) (hbe.out.trans (b29.out.mono hbe.out.size)))
        replace BS := BS.out
        go_wp2_with (refine wpList_store_row rfl 26 (.tmp 7) (.tmp 69) rfl w3.heap.size #[.int .i64 x.book, .int .i64 x.cust, .int .i64 x.dead, .int .i64 x.u0, .int .i64 x.u1, .int .i64 x.u2, .int .i64 x.price, .int .i64 1, .int .i64 ((k : Int) + 1), .int .i64 0, .int .i64 100] rfl rfl 26 #[.int .i64 x.book, .int .i64 x.cust, .int .i64 x.dead, .int .i64 x.u0, .int .i64 x.u1, .int .i64 x.u2, .int .i64 x.price, .int .i64 1, .int .i64 (k : Int), .int .i64 0, .int .i64 100] BS sag_size rfl (by simp [Value.oneCell']) ?_)
        exact ⟨nx.out, by simp [intOf]; omega⟩
      · obtain rfl : k = m := by omega
        obtain ⟨s, hs⟩ : ∃ s, l[k]? = some s := ⟨_, List.getElem?_eq_getElem hmL⟩
        obtain ⟨g, rfl, hat⟩ := rt_cell HR hs
        have BS : Hid (wr.heap[w3.heap.size]? = some (.cells #[.int .i64 x.book, .int .i64 x.cust, .int .i64 x.dead, .int .i64 x.u0, .int .i64 x.u1, .int .i64 x.u2, .int .i64 x.price, .int .i64 1, .int .i64 (k : Int), .int .i64 0, .int .i64 100] 26 (0, 0))) := HB
        have BW : Hid (wr.heap[w.heap.size]? = some (.cells #[.int .i64 x.book, .int .i64 x.cust, .int .i64 x.dead, .int .i64 x.u0, .int .i64 x.u1, .int .i64 x.u2, .int .i64 x.price] 24 (0, 0))) := kq.out _ hbe
        have bw : Hid (Below w.heap.size w wr) := kb.out.trans (hbe.mono kb.out.size)
        have i1 : (k : Int) < (l.length : Int) := by omega
        have i2 : (0 : Int) ≤ (k : Int) := by omega
        have i3 : ¬ (k : Int) < (k : Int) := by omega
        have au := AU.out s (List.mem_of_getElem? hs)
        have hgs : Hid (w3.heap.size < g) := (rt_block (g := g) HR rfl).1
        have hob : Hid (∃ ob, wr.heap[g]? = some ob ∧ ∀ w' : World, w'.heap[g]? = some ob → At w' g k s) := by
          obtain ⟨_, cur, hc⟩ := rt_block HR rfl
          exact ⟨_, hc, fun w' h => rt_at (rt_same HR (fun q hq => by obtain rfl : g = q := (by simpa [Value.ownBlock] using hq); exact h.trans hc.symm)) hs⟩
        replace hs := Lib.hid hs
        clear HB HR hbe hlt hk kq N1 N2 few AU
        rcases (by omega : h = 0 ∨ h = 1 ∨ h = 2) with rfl | rfl | rfl
        · by_cases h4 : s.op.kind = 4
          · have nd : s.node = 3 := au.1 h4
            have nd2 : (s.node == 3) = true := by rw [nd]; rfl
            replace nd := Lib.hid nd
            obtain ⟨a0, -⟩ := hat
            have gl : g < wr.heap.size := block_lt_of_cell a0
            clear au N5 N6 N7 N4
            go_upto_region 34 with fail
            clear a0 gl nd2
            obtain ⟨ob, ho1, ho2⟩ := hob.out
            have FA : Hid (∀ w', Below w3.heap.size wr w' → Calls Tryd.prog 18 #[.agg #[.int .i64 x.book, .int .i64 x.cust, .int .i64 x.dead, .int .i64 x.u0, .int .i64 x.u1, .int .i64 x.u2, .int .i64 x.price, .int .i64 1, .int .i64 (k : Int), .int .i64 0, .int .i64 100], .agg #[.int .i64 s.node, .int .i64 s.op.kind, .int .i64 s.op.book, .int .i64 s.op.units, .int .i64 s.op.cust, .int .i64 s.op.amount], .int .i64 2] w' fun e w'' => e = .returned (.tuple #[.agg #[.int .i64 x.book, .int .i64 x.cust, .int .i64 x.dead, .int .i64 x.u0, .int .i64 x.u1, .int .i64 x.u2, .int .i64 x.price, .int .i64 3, .int .i64 0, .int .i64 2, .int .i64 100], .bool true]) ∧ Below w3.heap.size wr w'' ∧ Below w'.heap.size w' w'') := fun w' h => (N3.out w' (bw.out.trans (h.mono kb.out.size)) s hs.out h4).mono fun _ _ ⟨e1, e2⟩ => ⟨e1, h.trans (e2.mono (by have := h.size; have := lt_some BS.out; omega)), e2⟩
            refine gr34 _ _ _ _ _ _ _ _ _ _ _ _ _ _ _ _ _ _ _ _ _ _ _ _ _ _ _ _ _ _ _ _ _ _ _ _ _ _ _ _ _ _ _ _ _ _ _ _ _ _ _ _ _ _ _ _ _ _ _ _ _ _ _ _ _ _ _ _ _ _ _ _ _ _ _ _ _ _ _ _ _ _ _ _ _ _ _ _ _ _ _ _ _ _ _ _ _ _ _ _ _ _ _ _ _ _ _ _ _ _ _ _ _ _ _ _ _ _ _ _ _ _ _ _ _ _ _ _ _ _ _ _ _ _ _ _ _ _ _ _ _ _ _ _ _ _ _ _ wr w3.heap.size g k l.length cf x 100 2 s ob i1 i2 hgs.out BS.out ho1 ho2 FA _ (fun _ _ d _ _ h => by cases d <;> exact h) (fun _ _ _ _ _ _ _ _ _ wg BSn h => ?_)
            clear FA ho1 ho2 BS
            replace BSn := Lib.hid BSn
            replace BW := Lib.hid ((h.block _ kl.out).trans BW.out)
            have bn : Hid (Below w.heap.size w wg) := bw.out.trans (h.mono (Nat.le_of_lt kl.out))
            clear h
            go_wp2_with fail
            refine (TD.out _ (by assumption)).mono ?_
            rintro e w41 ⟨rfl, h⟩
            replace BW := Lib.hid ((h.block _ (lt_some BW.out)).trans BW.out)
            replace BSn := Lib.hid ((h.block _ (lt_some BSn.out)).trans BSn.out)
            have b42 : Hid (Below w.heap.size w w41) := bn.out.trans (h.mono bn.out.size)
            clear h
            replace EW := EW.out
            have xBW0 : w41.cell? ⟨w.heap.size, 0, none⟩ = some (.int .i64 x.book) := one_at BW.out
            have xBW1 : w41.cell? ⟨w.heap.size, 1, none⟩ = some (.int .i64 x.cust) := one_at BW.out
            have xBW2 : w41.cell? ⟨w.heap.size, 2, none⟩ = some (.int .i64 x.dead) := one_at BW.out
            have xBW3 : w41.cell? ⟨w.heap.size, 3, none⟩ = some (.int .i64 x.u0) := one_at BW.out
            have xBW4 : w41.cell? ⟨w.heap.size, 4, none⟩ = some (.int .i64 x.u1) := one_at BW.out
            have xBW5 : w41.cell? ⟨w.heap.size, 5, none⟩ = some (.int .i64 x.u2) := one_at BW.out
            have xBW6 : w41.cell? ⟨w.heap.size, 6, none⟩ = some (.int .i64 x.price) := one_at BW.out
            have lBW : w.heap.size < w41.heap.size := lt_some BW.out
            have xBSn0 : w41.cell? ⟨w3.heap.size, 0, none⟩ = some (.int .i64 x.book) := one_at BSn.out
            have xBSn1 : w41.cell? ⟨w3.heap.size, 1, none⟩ = some (.int .i64 x.cust) := one_at BSn.out
            have xBSn2 : w41.cell? ⟨w3.heap.size, 2, none⟩ = some (.int .i64 x.dead) := one_at BSn.out
            have xBSn3 : w41.cell? ⟨w3.heap.size, 3, none⟩ = some (.int .i64 x.u0) := one_at BSn.out
            have xBSn4 : w41.cell? ⟨w3.heap.size, 4, none⟩ = some (.int .i64 x.u1) := one_at BSn.out
            have xBSn5 : w41.cell? ⟨w3.heap.size, 5, none⟩ = some (.int .i64 x.u2) := one_at BSn.out
            have xBSn6 : w41.cell? ⟨w3.heap.size, 6, none⟩ = some (.int .i64 x.price) := one_at BSn.out
            have xBSn7 : w41.cell? ⟨w3.heap.size, 7, none⟩ = some (.int .i64 3) := one_at BSn.out
            have xBSn8 : w41.cell? ⟨w3.heap.size, 8, none⟩ = some (.int .i64 0) := one_at BSn.out
            have xBSn9 : w41.cell? ⟨w3.heap.size, 9, none⟩ = some (.int .i64 2) := one_at BSn.out
            have xBSn10 : w41.cell? ⟨w3.heap.size, 10, none⟩ = some (.int .i64 100) := one_at BSn.out
            have lBSn : w3.heap.size < w41.heap.size := lt_some BSn.out
            go_wp2_with fail
            go_ret
            exact ⟨rfl, b42.out⟩
          · have nd : (s.node == 3) = false := by rw [beq_eq_false_iff_ne]; exact fun e => h4 (au.2 e)
            obtain ⟨a0, -⟩ := hat
            have gl : g < wr.heap.size := block_lt_of_cell a0
            clear au N5 N6 N7 N3
            go_upto_region 34 with fail
            clear a0 gl nd
            obtain ⟨ob, ho1, ho2⟩ := hob.out
            have FA : Hid (∀ w', Below w3.heap.size wr w' → Calls Tryd.prog 18 #[.agg #[.int .i64 x.book, .int .i64 x.cust, .int .i64 x.dead, .int .i64 x.u0, .int .i64 x.u1, .int .i64 x.u2, .int .i64 x.price, .int .i64 1, .int .i64 (k : Int), .int .i64 0, .int .i64 100], .agg #[.int .i64 s.node, .int .i64 s.op.kind, .int .i64 s.op.book, .int .i64 s.op.units, .int .i64 s.op.cust, .int .i64 s.op.amount], .int .i64 2] w' fun e w'' => e = .returned (.tuple #[.agg #[.int .i64 x.book, .int .i64 x.cust, .int .i64 x.dead, .int .i64 x.u0, .int .i64 x.u1, .int .i64 x.u2, .int .i64 x.price, .int .i64 3, .int .i64 0, .int .i64 1, .int .i64 100], .bool true]) ∧ Below w3.heap.size wr w'' ∧ Below w'.heap.size w' w'') := fun w' h => (N4.out w' (bw.out.trans (h.mono kb.out.size)) s hs.out h4).mono fun _ _ ⟨e1, e2⟩ => ⟨e1, h.trans (e2.mono (by have := h.size; have := lt_some BS.out; omega)), e2⟩
            refine gr34 _ _ _ _ _ _ _ _ _ _ _ _ _ _ _ _ _ _ _ _ _ _ _ _ _ _ _ _ _ _ _ _ _ _ _ _ _ _ _ _ _ _ _ _ _ _ _ _ _ _ _ _ _ _ _ _ _ _ _ _ _ _ _ _ _ _ _ _ _ _ _ _ _ _ _ _ _ _ _ _ _ _ _ _ _ _ _ _ _ _ _ _ _ _ _ _ _ _ _ _ _ _ _ _ _ _ _ _ _ _ _ _ _ _ _ _ _ _ _ _ _ _ _ _ _ _ _ _ _ _ _ _ _ _ _ _ _ _ _ _ _ _ _ _ _ _ _ _ wr w3.heap.size g k l.length cf x 100 1 s ob i1 i2 hgs.out BS.out ho1 ho2 FA _ (fun _ _ d _ _ h => by cases d <;> exact h) (fun _ _ _ _ _ _ _ _ _ wg BSn h => ?_)
            clear FA ho1 ho2 BS
            replace BSn := Lib.hid BSn
            replace BW := Lib.hid ((h.block _ kl.out).trans BW.out)
            have bn : Hid (Below w.heap.size w wg) := bw.out.trans (h.mono (Nat.le_of_lt kl.out))
            clear h
            go_wp2_with fail
            refine (TD.out _ (by assumption)).mono ?_
            rintro e w41 ⟨rfl, h⟩
            replace BW := Lib.hid ((h.block _ (lt_some BW.out)).trans BW.out)
            replace BSn := Lib.hid ((h.block _ (lt_some BSn.out)).trans BSn.out)
            have b42 : Hid (Below w.heap.size w w41) := bn.out.trans (h.mono bn.out.size)
            clear h
            replace EW := EW.out
            have xBW0 : w41.cell? ⟨w.heap.size, 0, none⟩ = some (.int .i64 x.book) := one_at BW.out
            have xBW1 : w41.cell? ⟨w.heap.size, 1, none⟩ = some (.int .i64 x.cust) := one_at BW.out
            have xBW2 : w41.cell? ⟨w.heap.size, 2, none⟩ = some (.int .i64 x.dead) := one_at BW.out
            have xBW3 : w41.cell? ⟨w.heap.size, 3, none⟩ = some (.int .i64 x.u0) := one_at BW.out
            have xBW4 : w41.cell? ⟨w.heap.size, 4, none⟩ = some (.int .i64 x.u1) := one_at BW.out
            have xBW5 : w41.cell? ⟨w.heap.size, 5, none⟩ = some (.int .i64 x.u2) := one_at BW.out
            have xBW6 : w41.cell? ⟨w.heap.size, 6, none⟩ = some (.int .i64 x.price) := one_at BW.out
            have lBW : w.heap.size < w41.heap.size := lt_some BW.out
            have xBSn0 : w41.cell? ⟨w3.heap.size, 0, none⟩ = some (.int .i64 x.book) := one_at BSn.out
            have xBSn1 : w41.cell? ⟨w3.heap.size, 1, none⟩ = some (.int .i64 x.cust) := one_at BSn.out
            have xBSn2 : w41.cell? ⟨w3.heap.size, 2, none⟩ = some (.int .i64 x.dead) := one_at BSn.out
            have xBSn3 : w41.cell? ⟨w3.heap.size, 3, none⟩ = some (.int .i64 x.u0) := one_at BSn.out
            have xBSn4 : w41.cell? ⟨w3.heap.size, 4, none⟩ = some (.int .i64 x.u1) := one_at BSn.out
            have xBSn5 : w41.cell? ⟨w3.heap.size, 5, none⟩ = some (.int .i64 x.u2) := one_at BSn.out
            have xBSn6 : w41.cell? ⟨w3.heap.size, 6, none⟩ = some (.int .i64 x.price) := one_at BSn.out
            have xBSn7 : w41.cell? ⟨w3.heap.size, 7, none⟩ = some (.int .i64 3) := one_at BSn.out
            have xBSn8 : w41.cell? ⟨w3.heap.size, 8, none⟩ = some (.int .i64 0) := one_at BSn.out
            have xBSn9 : w41.cell? ⟨w3.heap.size, 9, none⟩ = some (.int .i64 1) := one_at BSn.out
            have xBSn10 : w41.cell? ⟨w3.heap.size, 10, none⟩ = some (.int .i64 100) := one_at BSn.out
            have lBSn : w3.heap.size < w41.heap.size := lt_some BSn.out
            go_wp2_with fail
            go_ret
            exact ⟨rfl, b42.out⟩
        · clear au N3 N4 N6 N7 hob hgs hat
          have xBS0 : wr.cell? ⟨w3.heap.size, 0, none⟩ = some (.int .i64 x.book) := one_at BS.out
          have xBS1 : wr.cell? ⟨w3.heap.size, 1, none⟩ = some (.int .i64 x.cust) := one_at BS.out
          have xBS2 : wr.cell? ⟨w3.heap.size, 2, none⟩ = some (.int .i64 x.dead) := one_at BS.out
          have xBS3 : wr.cell? ⟨w3.heap.size, 3, none⟩ = some (.int .i64 x.u0) := one_at BS.out
          have xBS4 : wr.cell? ⟨w3.heap.size, 4, none⟩ = some (.int .i64 x.u1) := one_at BS.out
          have xBS5 : wr.cell? ⟨w3.heap.size, 5, none⟩ = some (.int .i64 x.u2) := one_at BS.out
          have xBS6 : wr.cell? ⟨w3.heap.size, 6, none⟩ = some (.int .i64 x.price) := one_at BS.out
          have xBS7 : wr.cell? ⟨w3.heap.size, 7, none⟩ = some (.int .i64 1) := one_at BS.out
          have xBS8 : wr.cell? ⟨w3.heap.size, 8, none⟩ = some (.int .i64 (k : Int)) := one_at BS.out
          have xBS9 : wr.cell? ⟨w3.heap.size, 9, none⟩ = some (.int .i64 0) := one_at BS.out
          have xBS10 : wr.cell? ⟨w3.heap.size, 10, none⟩ = some (.int .i64 100) := one_at BS.out
          have lBS : w3.heap.size < wr.heap.size := lt_some BS.out
          go_wp2_with fail
          refine (N5.out _ (by assumption)).mono ?_
          rintro e w41 ⟨rfl, h⟩
          clear xBS0 xBS1 xBS2 xBS3 xBS4 xBS5 xBS6 xBS7 xBS8 xBS9 xBS10 lBS
          replace BW := Lib.hid ((h.block _ (lt_some BW.out)).trans BW.out)
          replace BS := Lib.hid ((h.block _ (lt_some BS.out)).trans BS.out)
          have b42 : Hid (Below w.heap.size w w41) := bw.out.trans (h.mono bw.out.size)
          clear h
          obtain ⟨wz, hwz⟩ : ∃ z, z = w41.setRow w3.heap.size #[.int .i64 x.book, .int .i64 x.cust, .int .i64 x.dead, .int .i64 x.u0, .int .i64 x.u1, .int .i64 x.u2, .int .i64 x.price, .int .i64 3, .int .i64 0, .int .i64 4, .int .i64 100] := ⟨_, rfl⟩
          have h : Below w3.heap.size w41 wz := by rw [hwz]; exact setRow_below _ (Nat.le_refl _)
          have BSn : Hid (wz.heap[w3.heap.size]? = some (.cells #[.int .i64 x.book, .int .i64 x.cust, .int .i64 x.dead, .int .i64 x.u0, .int .i64 x.u1, .int .i64 x.u2, .int .i64 x.price, .int .i64 3, .int .i64 0, .int .i64 4, .int .i64 100] 26 (0, 0))) := by rw [hwz]; exact setRow_heap _ _ _ _ _ _ BS.out
          replace BW := Lib.hid ((h.block _ kl.out).trans BW.out)
          have bz : Hid (Below w.heap.size w wz) := b42.out.trans (h.mono (Nat.le_of_lt kl.out))
          replace BS := BS.out
          replace hwz := Lib.hid hwz
          clear h
          go_upto_region 38 with (refine wpList_store_row rfl 26 (.tmp 7) (.tmp 123) rfl w3.heap.size #[.int .i64 x.book, .int .i64 x.cust, .int .i64 x.dead, .int .i64 x.u0, .int .i64 x.u1, .int .i64 x.u2, .int .i64 x.price, .int .i64 3, .int .i64 0, .int .i64 4, .int .i64 100] rfl rfl 26 #[.int .i64 x.book, .int .i64 x.cust, .int .i64 x.dead, .int .i64 x.u0, .int .i64 x.u1, .int .i64 x.u2, .int .i64 x.price, .int .i64 1, .int .i64 (k : Int), .int .i64 0, .int .i64 100] BS sag_size rfl (by simp [Value.oneCell']) ?_)
          rw [← hwz.out]
          clear BS hwz
          go_wp2_with fail
          refine (TD.out _ (by assumption)).mono ?_
          rintro e w43 ⟨rfl, h⟩
          replace BW := Lib.hid ((h.block _ (lt_some BW.out)).trans BW.out)
          replace BSn := Lib.hid ((h.block _ (lt_some BSn.out)).trans BSn.out)
          have b44 : Hid (Below w.heap.size w w43) := bz.out.trans (h.mono bz.out.size)
          clear h
          replace EW := EW.out
          have xBW0 : w43.cell? ⟨w.heap.size, 0, none⟩ = some (.int .i64 x.book) := one_at BW.out
          have xBW1 : w43.cell? ⟨w.heap.size, 1, none⟩ = some (.int .i64 x.cust) := one_at BW.out
          have xBW2 : w43.cell? ⟨w.heap.size, 2, none⟩ = some (.int .i64 x.dead) := one_at BW.out
          have xBW3 : w43.cell? ⟨w.heap.size, 3, none⟩ = some (.int .i64 x.u0) := one_at BW.out
          have xBW4 : w43.cell? ⟨w.heap.size, 4, none⟩ = some (.int .i64 x.u1) := one_at BW.out
          have xBW5 : w43.cell? ⟨w.heap.size, 5, none⟩ = some (.int .i64 x.u2) := one_at BW.out
          have xBW6 : w43.cell? ⟨w.heap.size, 6, none⟩ = some (.int .i64 x.price) := one_at BW.out
          have lBW : w.heap.size < w43.heap.size := lt_some BW.out
          have xBSn0 : w43.cell? ⟨w3.heap.size, 0, none⟩ = some (.int .i64 x.book) := one_at BSn.out
          have xBSn1 : w43.cell? ⟨w3.heap.size, 1, none⟩ = some (.int .i64 x.cust) := one_at BSn.out
          have xBSn2 : w43.cell? ⟨w3.heap.size, 2, none⟩ = some (.int .i64 x.dead) := one_at BSn.out
          have xBSn3 : w43.cell? ⟨w3.heap.size, 3, none⟩ = some (.int .i64 x.u0) := one_at BSn.out
          have xBSn4 : w43.cell? ⟨w3.heap.size, 4, none⟩ = some (.int .i64 x.u1) := one_at BSn.out
          have xBSn5 : w43.cell? ⟨w3.heap.size, 5, none⟩ = some (.int .i64 x.u2) := one_at BSn.out
          have xBSn6 : w43.cell? ⟨w3.heap.size, 6, none⟩ = some (.int .i64 x.price) := one_at BSn.out
          have xBSn7 : w43.cell? ⟨w3.heap.size, 7, none⟩ = some (.int .i64 3) := one_at BSn.out
          have xBSn8 : w43.cell? ⟨w3.heap.size, 8, none⟩ = some (.int .i64 0) := one_at BSn.out
          have xBSn9 : w43.cell? ⟨w3.heap.size, 9, none⟩ = some (.int .i64 4) := one_at BSn.out
          have xBSn10 : w43.cell? ⟨w3.heap.size, 10, none⟩ = some (.int .i64 100) := one_at BSn.out
          have lBSn : w3.heap.size < w43.heap.size := lt_some BSn.out
          go_wp2_with fail
          go_ret
          exact ⟨rfl, b44.out⟩
        · clear au N3 N4 N5 hob hgs hat
          by_cases hd : x.dead = 0
          · have q0 : (x.dead == 0) = true := by rw [hd]; rfl
            clear N6 N7
            replace hd := Lib.hid hd
            have xBW0 : wr.cell? ⟨w.heap.size, 0, none⟩ = some (.int .i64 x.book) := one_at BW.out
            have xBW1 : wr.cell? ⟨w.heap.size, 1, none⟩ = some (.int .i64 x.cust) := one_at BW.out
            have xBW2 : wr.cell? ⟨w.heap.size, 2, none⟩ = some (.int .i64 x.dead) := one_at BW.out
            have xBW3 : wr.cell? ⟨w.heap.size, 3, none⟩ = some (.int .i64 x.u0) := one_at BW.out
            have xBW4 : wr.cell? ⟨w.heap.size, 4, none⟩ = some (.int .i64 x.u1) := one_at BW.out
            have xBW5 : wr.cell? ⟨w.heap.size, 5, none⟩ = some (.int .i64 x.u2) := one_at BW.out
            have xBW6 : wr.cell? ⟨w.heap.size, 6, none⟩ = some (.int .i64 x.price) := one_at BW.out
            have lBW : w.heap.size < wr.heap.size := lt_some BW.out
            go_wp2_with fail
            refine (TD.out _ (by assumption)).mono ?_
            rintro e w41 ⟨rfl, h⟩
            clear xBW0 xBW1 xBW2 xBW3 xBW4 xBW5 xBW6 lBW
            replace BW := Lib.hid ((h.block _ (lt_some BW.out)).trans BW.out)
            replace BS := Lib.hid ((h.block _ (lt_some BS.out)).trans BS.out)
            have b42 : Hid (Below w.heap.size w w41) := bw.out.trans (h.mono bw.out.size)
            clear h
            go_wp2_with fail
            go_ret
            exact ⟨rfl, b42.out⟩
          · have q0 : (x.dead == 0) = false := by rw [beq_eq_false_iff_ne]; exact hd
            have p0 : Hid (0 < x.dead) := by unfold Hid; omega
            replace hd := Lib.hid hd
            have xBW0 : wr.cell? ⟨w.heap.size, 0, none⟩ = some (.int .i64 x.book) := one_at BW.out
            have xBW1 : wr.cell? ⟨w.heap.size, 1, none⟩ = some (.int .i64 x.cust) := one_at BW.out
            have xBW2 : wr.cell? ⟨w.heap.size, 2, none⟩ = some (.int .i64 x.dead) := one_at BW.out
            have xBW3 : wr.cell? ⟨w.heap.size, 3, none⟩ = some (.int .i64 x.u0) := one_at BW.out
            have xBW4 : wr.cell? ⟨w.heap.size, 4, none⟩ = some (.int .i64 x.u1) := one_at BW.out
            have xBW5 : wr.cell? ⟨w.heap.size, 5, none⟩ = some (.int .i64 x.u2) := one_at BW.out
            have xBW6 : wr.cell? ⟨w.heap.size, 6, none⟩ = some (.int .i64 x.price) := one_at BW.out
            have lBW : w.heap.size < wr.heap.size := lt_some BW.out
            have xBS0 : wr.cell? ⟨w3.heap.size, 0, none⟩ = some (.int .i64 x.book) := one_at BS.out
            have xBS1 : wr.cell? ⟨w3.heap.size, 1, none⟩ = some (.int .i64 x.cust) := one_at BS.out
            have xBS2 : wr.cell? ⟨w3.heap.size, 2, none⟩ = some (.int .i64 x.dead) := one_at BS.out
            have xBS3 : wr.cell? ⟨w3.heap.size, 3, none⟩ = some (.int .i64 x.u0) := one_at BS.out
            have xBS4 : wr.cell? ⟨w3.heap.size, 4, none⟩ = some (.int .i64 x.u1) := one_at BS.out
            have xBS5 : wr.cell? ⟨w3.heap.size, 5, none⟩ = some (.int .i64 x.u2) := one_at BS.out
            have xBS6 : wr.cell? ⟨w3.heap.size, 6, none⟩ = some (.int .i64 x.price) := one_at BS.out
            have xBS7 : wr.cell? ⟨w3.heap.size, 7, none⟩ = some (.int .i64 1) := one_at BS.out
            have xBS8 : wr.cell? ⟨w3.heap.size, 8, none⟩ = some (.int .i64 (k : Int)) := one_at BS.out
            have xBS9 : wr.cell? ⟨w3.heap.size, 9, none⟩ = some (.int .i64 0) := one_at BS.out
            have xBS10 : wr.cell? ⟨w3.heap.size, 10, none⟩ = some (.int .i64 100) := one_at BS.out
            have lBS : w3.heap.size < wr.heap.size := lt_some BS.out
            go_wp2_with fail
            refine (N6.out _ (by assumption)).mono ?_
            rintro e w41 ⟨rfl, h⟩
            clear xBW0 xBW1 xBW2 xBW3 xBW4 xBW5 xBW6 lBW xBS0 xBS1 xBS2 xBS3 xBS4 xBS5 xBS6 xBS7 xBS8 xBS9 xBS10 lBS
            replace BW := Lib.hid ((h.block _ (lt_some BW.out)).trans BW.out)
            replace BS := Lib.hid ((h.block _ (lt_some BS.out)).trans BS.out)
            have b42 : Hid (Below w.heap.size w w41) := bw.out.trans (h.mono bw.out.size)
            clear h
            go_upto_region 25 with fail
            obtain ⟨W43, hW⟩ : ∃ ww, ww = w41.alloc (.cells #[.int .i64 x.book, .int .i64 x.cust, .int .i64 x.dead, .int .i64 x.u0, .int .i64 x.u1, .int .i64 x.u2, .int .i64 x.price, .int .i64 1, .int .i64 (k : Int), .int .i64 0, .int .i64 100] 26) := ⟨_, rfl⟩
            rw [← hW]
            have h : Below w41.heap.size w41 W43 := by rw [hW]; exact (Below.refl _ _).alloc (Nat.le_refl _) _
            have BE : Hid (W43.heap[w41.heap.size]? = some (.cells #[.int .i64 x.book, .int .i64 x.cust, .int .i64 x.dead, .int .i64 x.u0, .int .i64 x.u1, .int .i64 x.u2, .int .i64 x.price, .int .i64 1, .int .i64 (k : Int), .int .i64 0, .int .i64 100] 26 (0, 0))) := by rw [hW]; exact heap_alloc_new _ _
            clear hW
            replace BW := Lib.hid ((h.block _ (lt_some BW.out)).trans BW.out)
            replace BS := Lib.hid ((h.block _ (lt_some BS.out)).trans BS.out)
            have b44 : Hid (Below w.heap.size w W43) := b42.out.trans (h.mono b42.out.size)
            clear h
            by_cases hb : 100 + x.dead ≤ 1099511627776
            · have q1 : ¬ 1099511627776 < 100 + x.dead := by omega
              have xBW0 : W43.cell? ⟨w.heap.size, 0, none⟩ = some (.int .i64 x.book) := one_at BW.out
              have xBW1 : W43.cell? ⟨w.heap.size, 1, none⟩ = some (.int .i64 x.cust) := one_at BW.out
              have xBW2 : W43.cell? ⟨w.heap.size, 2, none⟩ = some (.int .i64 x.dead) := one_at BW.out
              have xBW3 : W43.cell? ⟨w.heap.size, 3, none⟩ = some (.int .i64 x.u0) := one_at BW.out
              have xBW4 : W43.cell? ⟨w.heap.size, 4, none⟩ = some (.int .i64 x.u1) := one_at BW.out
              have xBW5 : W43.cell? ⟨w.heap.size, 5, none⟩ = some (.int .i64 x.u2) := one_at BW.out
              have xBW6 : W43.cell? ⟨w.heap.size, 6, none⟩ = some (.int .i64 x.price) := one_at BW.out
              have lBW : w.heap.size < W43.heap.size := lt_some BW.out
              have xBS0 : W43.cell? ⟨w3.heap.size, 0, none⟩ = some (.int .i64 x.book) := one_at BS.out
              have xBS1 : W43.cell? ⟨w3.heap.size, 1, none⟩ = some (.int .i64 x.cust) := one_at BS.out
              have xBS2 : W43.cell? ⟨w3.heap.size, 2, none⟩ = some (.int .i64 x.dead) := one_at BS.out
              have xBS3 : W43.cell? ⟨w3.heap.size, 3, none⟩ = some (.int .i64 x.u0) := one_at BS.out
              have xBS4 : W43.cell? ⟨w3.heap.size, 4, none⟩ = some (.int .i64 x.u1) := one_at BS.out
              have xBS5 : W43.cell? ⟨w3.heap.size, 5, none⟩ = some (.int .i64 x.u2) := one_at BS.out
              have xBS6 : W43.cell? ⟨w3.heap.size, 6, none⟩ = some (.int .i64 x.price) := one_at BS.out
              have xBS7 : W43.cell? ⟨w3.heap.size, 7, none⟩ = some (.int .i64 1) := one_at BS.out
              have xBS8 : W43.cell? ⟨w3.heap.size, 8, none⟩ = some (.int .i64 (k : Int)) := one_at BS.out
              have xBS9 : W43.cell? ⟨w3.heap.size, 9, none⟩ = some (.int .i64 0) := one_at BS.out
              have xBS10 : W43.cell? ⟨w3.heap.size, 10, none⟩ = some (.int .i64 100) := one_at BS.out
              have lBS : w3.heap.size < W43.heap.size := lt_some BS.out
              go_wp2_with fail
              refine (N7.out _ (by assumption) p0.out hb).mono ?_
              rintro e w45 ⟨rfl, h⟩
              clear xBW0 xBW1 xBW2 xBW3 xBW4 xBW5 xBW6 lBW xBS0 xBS1 xBS2 xBS3 xBS4 xBS5 xBS6 xBS7 xBS8 xBS9 xBS10 lBS
              replace BW := Lib.hid ((h.block _ (lt_some BW.out)).trans BW.out)
              replace BS := Lib.hid ((h.block _ (lt_some BS.out)).trans BS.out)
              replace BE := Lib.hid ((h.block _ (lt_some BE.out)).trans BE.out)
              have b46 : Hid (Below w.heap.size w w45) := b44.out.trans (h.mono b44.out.size)
              clear h
              obtain ⟨wz, hwz⟩ : ∃ z, z = w45.setRow w3.heap.size #[.int .i64 x.book, .int .i64 x.cust, .int .i64 x.dead, .int .i64 x.u0, .int .i64 x.u1, .int .i64 x.u2, .int .i64 x.price, .int .i64 3, .int .i64 0, .int .i64 3, .int .i64 100] := ⟨_, rfl⟩
              have h : Below w3.heap.size w45 wz := by rw [hwz]; exact setRow_below _ (Nat.le_refl _)
              have BSn : Hid (wz.heap[w3.heap.size]? = some (.cells #[.int .i64 x.book, .int .i64 x.cust, .int .i64 x.dead, .int .i64 x.u0, .int .i64 x.u1, .int .i64 x.u2, .int .i64 x.price, .int .i64 3, .int .i64 0, .int .i64 3, .int .i64 100] 26 (0, 0))) := by rw [hwz]; exact setRow_heap _ _ _ _ _ _ BS.out
              replace BW := Lib.hid ((h.block _ kl.out).trans BW.out)
              have bz : Hid (Below w.heap.size w wz) := b46.out.trans (h.mono (Nat.le_of_lt kl.out))
              replace BS := BS.out
              replace hwz := Lib.hid hwz
              clear h
              go_upto_region 38 with (refine wpList_store_row rfl 26 (.tmp 7) (.tmp 99) rfl w3.heap.size #[.int .i64 x.book, .int .i64 x.cust, .int .i64 x.dead, .int .i64 x.u0, .int .i64 x.u1, .int .i64 x.u2, .int .i64 x.price, .int .i64 3, .int .i64 0, .int .i64 3, .int .i64 100] rfl rfl 26 #[.int .i64 x.book, .int .i64 x.cust, .int .i64 x.dead, .int .i64 x.u0, .int .i64 x.u1, .int .i64 x.u2, .int .i64 x.price, .int .i64 1, .int .i64 (k : Int), .int .i64 0, .int .i64 100] BS sag_size rfl (by simp [Value.oneCell']) ?_)
              rw [← hwz.out]
              clear BS hwz
              go_wp2_with fail
              refine (TD.out _ (by assumption)).mono ?_
              rintro e w47 ⟨rfl, h⟩
              replace BW := Lib.hid ((h.block _ (lt_some BW.out)).trans BW.out)
              replace BSn := Lib.hid ((h.block _ (lt_some BSn.out)).trans BSn.out)
              have b48 : Hid (Below w.heap.size w w47) := bz.out.trans (h.mono bz.out.size)
              clear h
              replace EW := EW.out
              have xBW0 : w47.cell? ⟨w.heap.size, 0, none⟩ = some (.int .i64 x.book) := one_at BW.out
              have xBW1 : w47.cell? ⟨w.heap.size, 1, none⟩ = some (.int .i64 x.cust) := one_at BW.out
              have xBW2 : w47.cell? ⟨w.heap.size, 2, none⟩ = some (.int .i64 x.dead) := one_at BW.out
              have xBW3 : w47.cell? ⟨w.heap.size, 3, none⟩ = some (.int .i64 x.u0) := one_at BW.out
              have xBW4 : w47.cell? ⟨w.heap.size, 4, none⟩ = some (.int .i64 x.u1) := one_at BW.out
              have xBW5 : w47.cell? ⟨w.heap.size, 5, none⟩ = some (.int .i64 x.u2) := one_at BW.out
              have xBW6 : w47.cell? ⟨w.heap.size, 6, none⟩ = some (.int .i64 x.price) := one_at BW.out
              have lBW : w.heap.size < w47.heap.size := lt_some BW.out
              have xBSn0 : w47.cell? ⟨w3.heap.size, 0, none⟩ = some (.int .i64 x.book) := one_at BSn.out
              have xBSn1 : w47.cell? ⟨w3.heap.size, 1, none⟩ = some (.int .i64 x.cust) := one_at BSn.out
              have xBSn2 : w47.cell? ⟨w3.heap.size, 2, none⟩ = some (.int .i64 x.dead) := one_at BSn.out
              have xBSn3 : w47.cell? ⟨w3.heap.size, 3, none⟩ = some (.int .i64 x.u0) := one_at BSn.out
              have xBSn4 : w47.cell? ⟨w3.heap.size, 4, none⟩ = some (.int .i64 x.u1) := one_at BSn.out
              have xBSn5 : w47.cell? ⟨w3.heap.size, 5, none⟩ = some (.int .i64 x.u2) := one_at BSn.out
              have xBSn6 : w47.cell? ⟨w3.heap.size, 6, none⟩ = some (.int .i64 x.price) := one_at BSn.out
              have xBSn7 : w47.cell? ⟨w3.heap.size, 7, none⟩ = some (.int .i64 3) := one_at BSn.out
              have xBSn8 : w47.cell? ⟨w3.heap.size, 8, none⟩ = some (.int .i64 0) := one_at BSn.out
              have xBSn9 : w47.cell? ⟨w3.heap.size, 9, none⟩ = some (.int .i64 3) := one_at BSn.out
              have xBSn10 : w47.cell? ⟨w3.heap.size, 10, none⟩ = some (.int .i64 100) := one_at BSn.out
              have lBSn : w3.heap.size < w47.heap.size := lt_some BSn.out
              go_wp2_with fail
              go_ret
              exact ⟨rfl, b48.out⟩
            · have q1 : 1099511627776 < 100 + x.dead := by omega
              have xBW0 : W43.cell? ⟨w.heap.size, 0, none⟩ = some (.int .i64 x.book) := one_at BW.out
              have xBW1 : W43.cell? ⟨w.heap.size, 1, none⟩ = some (.int .i64 x.cust) := one_at BW.out
              have xBW2 : W43.cell? ⟨w.heap.size, 2, none⟩ = some (.int .i64 x.dead) := one_at BW.out
              have xBW3 : W43.cell? ⟨w.heap.size, 3, none⟩ = some (.int .i64 x.u0) := one_at BW.out
              have xBW4 : W43.cell? ⟨w.heap.size, 4, none⟩ = some (.int .i64 x.u1) := one_at BW.out
              have xBW5 : W43.cell? ⟨w.heap.size, 5, none⟩ = some (.int .i64 x.u2) := one_at BW.out
              have xBW6 : W43.cell? ⟨w.heap.size, 6, none⟩ = some (.int .i64 x.price) := one_at BW.out
              have lBW : w.heap.size < W43.heap.size := lt_some BW.out
              have xBS0 : W43.cell? ⟨w3.heap.size, 0, none⟩ = some (.int .i64 x.book) := one_at BS.out
              have xBS1 : W43.cell? ⟨w3.heap.size, 1, none⟩ = some (.int .i64 x.cust) := one_at BS.out
              have xBS2 : W43.cell? ⟨w3.heap.size, 2, none⟩ = some (.int .i64 x.dead) := one_at BS.out
              have xBS3 : W43.cell? ⟨w3.heap.size, 3, none⟩ = some (.int .i64 x.u0) := one_at BS.out
              have xBS4 : W43.cell? ⟨w3.heap.size, 4, none⟩ = some (.int .i64 x.u1) := one_at BS.out
              have xBS5 : W43.cell? ⟨w3.heap.size, 5, none⟩ = some (.int .i64 x.u2) := one_at BS.out
              have xBS6 : W43.cell? ⟨w3.heap.size, 6, none⟩ = some (.int .i64 x.price) := one_at BS.out
              have xBS7 : W43.cell? ⟨w3.heap.size, 7, none⟩ = some (.int .i64 1) := one_at BS.out
              have xBS8 : W43.cell? ⟨w3.heap.size, 8, none⟩ = some (.int .i64 (k : Int)) := one_at BS.out
              have xBS9 : W43.cell? ⟨w3.heap.size, 9, none⟩ = some (.int .i64 0) := one_at BS.out
              have xBS10 : W43.cell? ⟨w3.heap.size, 10, none⟩ = some (.int .i64 100) := one_at BS.out
              have lBS : w3.heap.size < W43.heap.size := lt_some BS.out
              go_wp2_with fail
              refine (TD.out _ (by assumption)).mono ?_
              rintro e w45 ⟨rfl, h⟩
              clear xBW0 xBW1 xBW2 xBW3 xBW4 xBW5 xBW6 lBW xBS0 xBS1 xBS2 xBS3 xBS4 xBS5 xBS6 xBS7 xBS8 xBS9 xBS10 lBS
              replace BW := Lib.hid ((h.block _ (lt_some BW.out)).trans BW.out)
              replace BS := Lib.hid ((h.block _ (lt_some BS.out)).trans BS.out)
              replace BE := Lib.hid ((h.block _ (lt_some BE.out)).trans BE.out)
              have b46 : Hid (Below w.heap.size w w45) := b44.out.trans (h.mono b44.out.size)
              clear h
              go_wp2_with fail
              go_ret
              exact ⟨rfl, b46.out⟩
end Go.Proofs.YtakicogelkdofaaDoor.sagaReasons
