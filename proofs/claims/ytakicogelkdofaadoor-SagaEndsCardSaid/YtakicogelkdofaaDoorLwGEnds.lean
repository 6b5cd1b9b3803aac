/- A saga goes on as it is answered (SagaEnds). -/
import Derived.Test.YtakicogelkdofaaDoorSnM
import Derived.Test.YtakicogelkdofaaDoorSnO
import Derived.Test.YtakicogelkdofaaDoorSnQ
import Derived.Test.YtakicogelkdofaaDoorSgT
import Derived.Test.YtakicogelkdofaaDoorSgY
import Derived.LoopTactic
namespace Go.Proofs.YtakicogelkdofaaDoor.sagaEnds
set_option maxRecDepth 100000
open Go.RowKit
open Go.Proofs.YtakicogelkdofaaDoor.Pk (one_at one_free one_set lt_some adr_block)
open Go.Proofs.YtakicogelkdofaaDoor.Sg
open Go.Proofs.YtakicogelkdofaaDoor.Sn
open Go.Proofs.YtakicogelkdofaaDoor.Wt (Wan may Opn mayOp refmay_any inR)
open Go.Proofs.YtakicogelkdofaaDoor.Pl (Stp fwd bck cap z0 wanv spv BoxW rt_form fwd_any bck_any wpList_store_row setRow_below StpsTo)

/-- Between the rounds. -/
def EnAt (x : Wan) (g : Nat) (wb : World) (s7 s8 s9 s10 i : Value) (wr : World) : Prop :=
  ∃ (k : Nat) (s : Sag) (n a b : Int) (r : Bool), i = .int .i64 (k : Int) ∧ k ≤ 60 ∧ s7 = .int .i64 n ∧ 0 ≤ n ∧ n ≤ 10 * (k : Int) ∧ s8 = .int .i64 a ∧ s9 = .int .i64 b ∧ s10 = .bool r ∧ En x s a b r ∧ 0 ≤ a ∧ a ≤ k ∧ 0 ≤ b ∧ b ≤ k ∧ BoxS wr g s ∧ Below g wb wr
/-- Behind an event: the saga t in block g, what it was in block gw. -/
def EnCut (x : Wan) (s : Sag) (g gw k : Nat) (wb : World) (s7 s8 s9 s10 : Value) (wx : World) : Prop :=
  ∃ (t : Sag) (n a b : Int) (r : Bool), s7 = .int .i64 n ∧ 0 ≤ n ∧ n ≤ 10 * (k : Int) + 10 ∧ s8 = .int .i64 a ∧ s9 = .int .i64 b ∧ s10 = .bool r ∧ En x t a b r ∧ 0 ≤ a ∧ a ≤ (k : Int) + 1 ∧ 0 ≤ b ∧ b ≤ (k : Int) + 1 ∧ Nx s t ∧ BoxS wx g t ∧ BoxS wx gw s ∧ Below g wb wx
theorem Below.set {B g : Nat} {wb w : World} {cs : Array Value} (h : Below B wb w) (hg : B ≤ g) : Below B wb (w.setRow g cs) := h.trans (setRow_below _ hg)
set_option maxHeartbeats 51200000 in
theorem walk (P : Prg) (w : World) (tb : Tab w) (x : Wan) (v : Value) (l : List Evt) (hl : Esrc w v l) : Calls Tryd.prog 5 #[wanv x, v] w fun e w' => e = .returned (.bool true) ∧ Below w.heap.size w w' := by
  obtain ⟨A, n, c, rfl, hnc, hc, hev⟩ := hl
  have TD := con tb fun w' t => told_any P w' t
  have M1 := fun w => refmay_any w x
  have N0 := con tb fun w' t => P.new w' t x 0
  unfold wanv
  obtain ⟨W0, hW0⟩ : ∃ W0, W0 = w.alloc (.cells #[.int .i64 x.book, .int .i64 x.cust, .int .i64 x.dead, .int .i64 x.u0, .int .i64 x.u1, .int .i64 x.u2, .int .i64 x.price] 24) := ⟨_, rfl⟩
  have BW : Hid (W0.heap[w.heap.size]? = some (.cells #[.int .i64 x.book, .int .i64 x.cust, .int .i64 x.dead, .int .i64 x.u0, .int .i64 x.u1, .int .i64 x.u2, .int .i64 x.price] 24 (0, 0))) := by rw [hW0]; exact heap_alloc_new _ _
  have b0 : Hid (Below w.heap.size w W0) := by rw [hW0]; exact (Below.refl _ w).alloc (Nat.le_refl _) _
  replace hW0 := Lib.hid hW0
  cases hm : may x with
  | false =>
    rw [show snew x 0 = (sz, 1) by unfold snew; rw [if_neg (by rw [hm]; simp)]] at N0
    rw [hm] at M1
    unfold sgv at N0
    unfold sgc at N0
    simp only at N0
    generalize sz = y at *
    replace M1 := Lib.hid M1
    replace TD := Lib.hid TD
    replace N0 := Lib.hid N0
    clear hm hev tb
    go_enter Tryd.func5, Tryd.ntmps5
    go_upto_region 1 with fail
    rw [← hW0.out]
    have xBW0 : W0.cell? ⟨w.heap.size, 0, none⟩ = some (.int .i64 x.book) := one_at BW.out
    have xBW1 : W0.cell? ⟨w.heap.size, 1, none⟩ = some (.int .i64 x.cust) := one_at BW.out
    have xBW2 : W0.cell? ⟨w.heap.size, 2, none⟩ = some (.int .i64 x.dead) := one_at BW.out
    have xBW3 : W0.cell? ⟨w.heap.size, 3, none⟩ = some (.int .i64 x.u0) := one_at BW.out
    have xBW4 : W0.cell? ⟨w.heap.size, 4, none⟩ = some (.int .i64 x.u1) := one_at BW.out
    have xBW5 : W0.cell? ⟨w.heap.size, 5, none⟩ = some (.int .i64 x.u2) := one_at BW.out
    have xBW6 : W0.cell? ⟨w.heap.size, 6, none⟩ = some (.int .i64 x.price) := one_at BW.out
    have lBW : w.heap.size < W0.heap.size := lt_some BW.out
    go_wp2_with fail
    refine (N0.out _ (by assumption)).mono ?_
    rintro e w1 ⟨rfl, h⟩
    clear xBW0 xBW1 xBW2 xBW3 xBW4 xBW5 xBW6 lBW
    replace BW := Lib.hid ((h.block _ (lt_some BW.out)).trans BW.out)
    have b1 : Hid (Below w.heap.size w w1) := b0.out.trans (h.mono b0.out.size)
    clear h N0 hW0 b0
    go_upto_region 2 with fail
    obtain ⟨W2, hW⟩ : ∃ ww, ww = w1.alloc (.cells #[.int .i64 y.w.book, .int .i64 y.w.cust, .int .i64 y.w.dead, .int .i64 y.w.u0, .int .i64 y.w.u1, .int .i64 y.w.u2, .int .i64 y.w.price, .int .i64 y.ph, .int .i64 y.st, .int .i64 y.rs, .int .i64 y.si] 26) := ⟨_, rfl⟩
    rw [← hW]
    have h : Below w1.heap.size w1 W2 := by rw [hW]; exact (Below.refl _ _).alloc (Nat.le_refl _) _
    clear hW
    replace BW := Lib.hid ((h.block _ (lt_some BW.out)).trans BW.out)
    have b2 : Hid (Below w.heap.size w W2) := b1.out.trans (h.mono b1.out.size)
    clear h b1
    have xBW0 : W2.cell? ⟨w.heap.size, 0, none⟩ = some (.int .i64 x.book) := one_at BW.out
    have xBW1 : W2.cell? ⟨w.heap.size, 1, none⟩ = some (.int .i64 x.cust) := one_at BW.out
    have xBW2 : W2.cell? ⟨w.heap.size, 2, none⟩ = some (.int .i64 x.dead) := one_at BW.out
    have xBW3 : W2.cell? ⟨w.heap.size, 3, none⟩ = some (.int .i64 x.u0) := one_at BW.out
    have xBW4 : W2.cell? ⟨w.heap.size, 4, none⟩ = some (.int .i64 x.u1) := one_at BW.out
    have xBW5 : W2.cell? ⟨w.heap.size, 5, none⟩ = some (.int .i64 x.u2) := one_at BW.out
    have xBW6 : W2.cell? ⟨w.heap.size, 6, none⟩ = some (.int .i64 x.price) := one_at BW.out
    have lBW : w.heap.size < W2.heap.size := lt_some BW.out
    go_wp2_with fail
    refine (M1.out _).mono ?_
    rintro e w3 ⟨rfl, h⟩
    clear xBW0 xBW1 xBW2 xBW3 xBW4 xBW5 xBW6 lBW
    have b3 : Hid (Below w.heap.size w w3) := b2.out.trans (h.mono b2.out.size)
    clear h M1 b2 BW
    go_wp2_with fail
    refine (TD.out _ (by assumption)).mono ?_
    rintro e w4 ⟨rfl, h⟩
    have b4 : Hid (Below w.heap.size w w4) := b3.out.trans (h.mono b3.out.size)
    clear h TD b3
    go_wp2_with fail
    go_ret
    exact ⟨rfl, b4.out⟩
  | true =>
    rw [new_yes hm in0] at N0
    rw [hm] at M1
    unfold sgv at N0
    unfold sgc at N0
    simp only at N0
    have S0 := en0 hm
    replace M1 := Lib.hid M1
    replace TD := Lib.hid TD
    replace N0 := Lib.hid N0
    replace hev := Lib.hid hev
    replace tb := Lib.hid tb
    replace S0 := Lib.hid S0
    clear hm
    go_enter Tryd.func5, Tryd.ntmps5
    go_upto_region 1 with fail
    rw [← hW0.out]
    have xBW0 : W0.cell? ⟨w.heap.size, 0, none⟩ = some (.int .i64 x.book) := one_at BW.out
    have xBW1 : W0.cell? ⟨w.heap.size, 1, none⟩ = some (.int .i64 x.cust) := one_at BW.out
    have xBW2 : W0.cell? ⟨w.heap.size, 2, none⟩ = some (.int .i64 x.dead) := one_at BW.out
    have xBW3 : W0.cell? ⟨w.heap.size, 3, none⟩ = some (.int .i64 x.u0) := one_at BW.out
    have xBW4 : W0.cell? ⟨w.heap.size, 4, none⟩ = some (.int .i64 x.u1) := one_at BW.out
    have xBW5 : W0.cell? ⟨w.heap.size, 5, none⟩ = some (.int .i64 x.u2) := one_at BW.out
    have xBW6 : W0.cell? ⟨w.heap.size, 6, none⟩ = some (.int .i64 x.price) := one_at BW.out
    have lBW : w.heap.size < W0.heap.size := lt_some BW.out
    go_wp2_with fail
    refine (N0.out _ (by assumption)).mono ?_
    rintro e w1 ⟨rfl, h⟩
    clear xBW0 xBW1 xBW2 xBW3 xBW4 xBW5 xBW6 lBW
    replace BW := Lib.hid ((h.block _ (lt_some BW.out)).trans BW.out)
    have b1 : Hid (Below w.heap.size w w1) := b0.out.trans (h.mono b0.out.size)
    clear h N0 hW0 b0
    go_upto_region 2 with fail
    obtain ⟨wb, hW⟩ : ∃ ww, ww = w1.alloc (.cells #[.int .i64 x.book, .int .i64 x.cust, .int .i64 x.dead, .int .i64 x.u0, .int .i64 x.u1, .int .i64 x.u2, .int .i64 x.price, .int .i64 1, .int .i64 0, .int .i64 0, .int .i64 0] 26) := ⟨_, rfl⟩
    rw [← hW]
    have h : Below w1.heap.size w1 wb := by rw [hW]; exact (Below.refl _ _).alloc (Nat.le_refl _) _
    have BS : Hid (wb.heap[w1.heap.size]? = some (.cells #[.int .i64 x.book, .int .i64 x.cust, .int .i64 x.dead, .int .i64 x.u0, .int .i64 x.u1, .int .i64 x.u2, .int .i64 x.price, .int .i64 1, .int .i64 0, .int .i64 0, .int .i64 0] 26 (0, 0))) := by rw [hW]; exact heap_alloc_new _ _
    clear hW
    have gl : Hid (w.heap.size < w1.heap.size) := lt_some BW.out
    replace BW := Lib.hid ((h.block _ (lt_some BW.out)).trans BW.out)
    have b2 : Hid (Below w.heap.size w wb) := b1.out.trans (h.mono b1.out.size)
    have gb : Hid (w1.heap.size < wb.heap.size) := lt_some BS.out
    clear h b1
    obtain ⟨g, hg⟩ : ∃ g, g = w1.heap.size := ⟨_, rfl⟩
    rw [← hg] at BS gl gb ⊢
    clear hg
    have xBW0 : wb.cell? ⟨w.heap.size, 0, none⟩ = some (.int .i64 x.book) := one_at BW.out
    have xBW1 : wb.cell? ⟨w.heap.size, 1, none⟩ = some (.int .i64 x.cust) := one_at BW.out
    have xBW2 : wb.cell? ⟨w.heap.size, 2, none⟩ = some (.int .i64 x.dead) := one_at BW.out
    have xBW3 : wb.cell? ⟨w.heap.size, 3, none⟩ = some (.int .i64 x.u0) := one_at BW.out
    have xBW4 : wb.cell? ⟨w.heap.size, 4, none⟩ = some (.int .i64 x.u1) := one_at BW.out
    have xBW5 : wb.cell? ⟨w.heap.size, 5, none⟩ = some (.int .i64 x.u2) := one_at BW.out
    have xBW6 : wb.cell? ⟨w.heap.size, 6, none⟩ = some (.int .i64 x.price) := one_at BW.out
    have lBW : w.heap.size < wb.heap.size := lt_some BW.out
    go_wp2_with fail
    refine (M1.out _).mono ?_
    rintro e w3 ⟨rfl, h⟩
    clear xBW0 xBW1 xBW2 xBW3 xBW4 xBW5 xBW6 lBW
    have kb : Hid (Below w.heap.size w wb) := b2.out
    have k3 : Hid (Below g wb w3) := h.mono (Nat.le_of_lt gb.out)
    have BS3 : Hid (BoxS w3 g ⟨x, 1, 0, 0, 0⟩) := (h.block _ gb.out).trans BS.out
    have T3 : Tab wb := tb.out.below b2.out
    have gp : 0 < g := by have := tb.out.lt; have := gl.out; omega
    have con3 : ∀ {Q : World → Prop}, (∀ w', Tab w' → Q w') → Hid (∀ w', Hid (Below g wb w') → Q w') := fun h w' b => h w' (T3.sub b.out gp)
    have N1 := con3 (fun w' t => P.next w' t)
    have N2 := con3 (fun w' t => P.ans w' t)
    have N3 := con3 (fun w' t => P.can w' t)
    have N4 := con3 (fun w' t => P.late w' t)
    have N5 := con3 (fun w' t => P.over w' t)
    have N6 := con3 (fun w' t => P.may w' t)
    have N7 := con3 (fun w' t => P.tells w' t)
    have EW : Hid (∀ w' : World, (Op.equalIn 10000 24 (.agg #[.int .i64 x.book, .int .i64 x.cust, .int .i64 x.dead, .int .i64 x.u0, .int .i64 x.u1, .int .i64 x.u2, .int .i64 x.price]) (.agg #[.int .i64 x.book, .int .i64 x.cust, .int .i64 x.dead, .int .i64 x.u0, .int .i64 x.u1, .int .i64 x.u2, .int .i64 x.price])).run Tryd.prog w' = .ok true w') := fun w' => by have := eq_wan10 w' x x; rw [decide_eq_true rfl] at this; exact this
    have ES : Hid (∀ (s : Sag) (w' : World), (Op.equalIn 10000 26 (.agg #[.int .i64 s.w.book, .int .i64 s.w.cust, .int .i64 s.w.dead, .int .i64 s.w.u0, .int .i64 s.w.u1, .int .i64 s.w.u2, .int .i64 s.w.price, .int .i64 s.ph, .int .i64 s.st, .int .i64 s.rs, .int .i64 s.si]) (.agg #[.int .i64 s.w.book, .int .i64 s.w.cust, .int .i64 s.w.dead, .int .i64 s.w.u0, .int .i64 s.w.u1, .int .i64 s.w.u2, .int .i64 s.w.price, .int .i64 s.ph, .int .i64 s.st, .int .i64 s.rs, .int .i64 s.si])).run Tryd.prog w' = .ok true w') := fun s w' => by have := eq_sag w' s s; rw [decide_eq_true rfl] at this; exact this
    have KW : Hid (∀ w', Below g wb w' → BoxW w' w.heap.size x) := fun w' h => (h.block _ gl.out).trans BW.out
    have KE : Hid (∀ (k : Nat) (o : Evt), l[k]? = some o → k < n ∧ ∃ ad : Addr, A = some ad ∧ ad.block < g ∧ ∀ w', Below g wb w' → EvAt w' ad k o) := fun k o ho => by
      have hk : k < n := by rw [← hev.out.len]; exact (List.getElem?_eq_some_iff.1 ho).1
      obtain ⟨ad, h1, h2, h3⟩ := hev.out.at_ (by omega)
      have hag : ad.block < g := Nat.lt_trans h2 gl.out
      exact ⟨hk, ad, h1, hag, fun w' hb => (h3 k o ho).same ((hb.block _ hag).trans (kb.out.block _ h2))⟩
    have LN : Hid (∀ k : Nat, k < n → ∃ o, l[k]? = some o) := fun k hk => ⟨_, List.getElem?_eq_getElem (by rw [hev.out.len]; exact hk)⟩
    have st : Hid (EnAt x g wb (.int .i64 0) (.int .i64 0) (.int .i64 0) (.bool false) (.int .i64 0) w3) := ⟨0, _, 0, 0, 0, false, rfl, by omega, rfl, by omega, by omega, rfl, rfl, rfl, S0.out, by omega, by omega, by omega, by omega, BS3.out, k3.out⟩
    unfold sgv sgc at N1 N2 N3 N4 N5 N6 N7
    unfold spv at N1 N2
    clear M1 hev S0 h BS BS3 k3 con3 T3 tb
    go_wp2_with fail
    go_loopw [7, 8, 9, 10, 11] (fun s7 s8 s9 s10 i wr => EnAt x g wb s7 s8 s9 s10 i wr) (fun _ _ _ _ i _ => 60 - (intOf i).toNat)
    case atStart => exact st.out
    case round =>
      clear st
      obtain ⟨k, s, nw, a, b, r, rfl, hk, rfl, n0, n1, rfl, rfl, rfl, hE, a0, a1, b0', b1', BS, k3⟩ := hrel
      replace BS : Hid (wr.heap[g]? = some (.cells #[.int .i64 s.w.book, .int .i64 s.w.cust, .int .i64 s.w.dead, .int .i64 s.w.u0, .int .i64 s.w.u1, .int .i64 s.w.u2, .int .i64 s.w.price, .int .i64 s.ph, .int .i64 s.st, .int .i64 s.rs, .int .i64 s.si] 26 (0, 0))) := BS
      replace hE := Lib.hid hE
      replace k3 := Lib.hid k3
      replace hk := Lib.hid hk
      have hnum : Hid ((0 ≤ nw ∧ nw ≤ 10 * (k : Int)) ∧ 0 ≤ a ∧ a ≤ (k : Int) ∧ 0 ≤ b ∧ b ≤ (k : Int)) := ⟨⟨n0, n1⟩, a0, a1, b0', b1'⟩
      clear n0 n1 a0 a1 b0' b1'
      obtain ⟨bb, hbb⟩ : ∃ b : Bool, b = (decide (k < n) && decide (k < 60)) := ⟨_, rfl⟩
      go_upto_region 9 with fail
      go_cut [50] from 43 to 50 (fun s50 wx => s50 = .bool bb ∧ wx = wr)
      case first =>
        by_cases hkn : k < n
        · have i0 : (k : Int) < (n : Int) := by omega
          by_cases h60 : k < 60
          · have i1 : (k : Int) < 60 := by omega
            have F : Hid (bb = true) := by unfold Hid; rw [hbb, decide_eq_true hkn, decide_eq_true h60]; rfl
            clear hbb
            go_wp2
            go_meet
            case rel => exact ⟨by rw [F.out], rfl⟩
          · have i1 : ¬ (k : Int) < 60 := by omega
            have F : Hid (bb = false) := by unfold Hid; rw [hbb, decide_eq_true hkn, decide_eq_false h60]; rfl
            clear hbb
            go_wp2
            go_meet
            case rel => exact ⟨by rw [F.out], rfl⟩
        · have i0 : ¬ (k : Int) < (n : Int) := by omega
          have F : Hid (bb = false) := by unfold Hid; rw [hbb, decide_eq_false hkn]; rfl
          clear hbb
          go_wp2
          go_meet
          case rel => exact ⟨by rw [F.out], rfl⟩
      case rest =>
        obtain ⟨rfl, rfl⟩ := hcut
        obtain ⟨wr, ewr⟩ : ∃ z, z = wc := ⟨_, rfl⟩
        subst ewr
        cases bb with
        | true =>
          have hkn : k < n ∧ k < 60 := by simpa using hbb.symm
          obtain ⟨o, ho⟩ := LN.out k hkn.1
          obtain ⟨-, ad, rfl, hadg, hat⟩ := KE.out k o ho
          replace hat := Lib.hid hat
          replace hadg := Lib.hid hadg
          have i0 : Hid (k < n ∧ k < 60) := hkn
          clear hbb hkn ho LN KE
          have hok := hE.out.ok
          have hmay := hE.out.may
          have D1 := done hE.out
          have R1 := refused hE.out
          have C1 := cancelled hE.out
          have X1 := hE.out.w
          have L1 := fun t h0 h1 => lated hE.out (t := t) h0 h1
          have Z1 := fun c hc => stale hE.out (c := c) hc
          have BK := hE.out.bk
          have N1s := fun w' h => N1.out w' h s
          have N5s := fun w' h => N5.out w' h s
          have N6s := fun w' h => N6.out w' h s
          rw [hmay] at N6s
          have N2a := fun w' h => N2.out w' h s (snext s).1 1
          have N2b := fun w' h => N2.out w' h s (snext s).1 2
          have N2c := fun w' h c => N2.out w' h s c 1
          have N3s := fun w' h => N3.out w' h s
          have N4s := fun w' h t => N4.out w' h s t
          obtain ⟨D1, D2⟩ := D1
          rw [D1] at N2a
          generalize (sans s (snext s).1 1).1 = y0 at *
          generalize sans s (snext s).1 2 = y1 at *
          generalize (snext s).1 = nx at *
          generalize (snext s).2 = ok at *
          generalize hov : sover s = ov at *
          have hq : (ok == ov) = false := by rw [hok]; cases ov <;> rfl
          replace N1s := Lib.hid N1s
          replace N5s := Lib.hid N5s
          replace N6s := Lib.hid N6s
          replace N2a := Lib.hid N2a
          replace N2b := Lib.hid N2b
          replace N2c := Lib.hid N2c
          replace N3s := Lib.hid N3s
          replace N4s := Lib.hid N4s
          replace D2 := Lib.hid D2
          replace R1 := Lib.hid R1
          replace C1 := Lib.hid C1
          replace X1 := Lib.hid X1
          replace L1 := Lib.hid L1
          replace Z1 := Lib.hid Z1
          replace hov := Lib.hid hov
          replace hok := Lib.hid hok
          replace BK := Lib.hid BK
          clear hmay D1
          have xBS0 : wr.cell? ⟨g, 0, none⟩ = some (.int .i64 s.w.book) := one_at BS.out
          have xBS1 : wr.cell? ⟨g, 1, none⟩ = some (.int .i64 s.w.cust) := one_at BS.out
          have xBS2 : wr.cell? ⟨g, 2, none⟩ = some (.int .i64 s.w.dead) := one_at BS.out
          have xBS3 : wr.cell? ⟨g, 3, none⟩ = some (.int .i64 s.w.u0) := one_at BS.out
          have xBS4 : wr.cell? ⟨g, 4, none⟩ = some (.int .i64 s.w.u1) := one_at BS.out
          have xBS5 : wr.cell? ⟨g, 5, none⟩ = some (.int .i64 s.w.u2) := one_at BS.out
          have xBS6 : wr.cell? ⟨g, 6, none⟩ = some (.int .i64 s.w.price) := one_at BS.out
          have xBS7 : wr.cell? ⟨g, 7, none⟩ = some (.int .i64 s.ph) := one_at BS.out
          have xBS8 : wr.cell? ⟨g, 8, none⟩ = some (.int .i64 s.st) := one_at BS.out
          have xBS9 : wr.cell? ⟨g, 9, none⟩ = some (.int .i64 s.rs) := one_at BS.out
          have xBS10 : wr.cell? ⟨g, 10, none⟩ = some (.int .i64 s.si) := one_at BS.out
          have lBS : g < wr.heap.size := lt_some BS.out
          go_wp2_with fail
          refine (N1s.out _ (by assumption)).mono ?_
          rintro e w1 ⟨rfl, h⟩
          clear xBS0 xBS1 xBS2 xBS3 xBS4 xBS5 xBS6 xBS7 xBS8 xBS9 xBS10 lBS
          replace BS := Lib.hid ((h.block _ (lt_some BS.out)).trans BS.out)
          have k2 : Hid (Below g wb w1) := k3.out.trans (h.mono (Nat.le_of_lt (Nat.lt_of_lt_of_le gb.out k3.out.size)))
          clear h
          go_upto_region 12 with fail
          obtain ⟨W3, hW⟩ : ∃ ww, ww = w1.alloc (.cells #[.int .i64 nx.node, .int .i64 nx.op.kind, .int .i64 nx.op.book, .int .i64 nx.op.units, .int .i64 nx.op.cust, .int .i64 nx.op.amount] 30) := ⟨_, rfl⟩
          rw [← hW]
          have h : Below w1.heap.size w1 W3 := by rw [hW]; exact (Below.refl _ _).alloc (Nat.le_refl _) _
          have BA : Hid (W3.heap[w1.heap.size]? = some (.cells #[.int .i64 nx.node, .int .i64 nx.op.kind, .int .i64 nx.op.book, .int .i64 nx.op.units, .int .i64 nx.op.cust, .int .i64 nx.op.amount] 30 (0, 0))) := by rw [hW]; exact heap_alloc_new _ _
          clear hW
          replace BS := Lib.hid ((h.block _ (lt_some BS.out)).trans BS.out)
          have k4 : Hid (Below g wb W3) := k2.out.trans (h.mono (Nat.le_of_lt (Nat.lt_of_lt_of_le gb.out k2.out.size)))
          clear h
          have xBS0 : W3.cell? ⟨g, 0, none⟩ = some (.int .i64 s.w.book) := one_at BS.out
          have xBS1 : W3.cell? ⟨g, 1, none⟩ = some (.int .i64 s.w.cust) := one_at BS.out
          have xBS2 : W3.cell? ⟨g, 2, none⟩ = some (.int .i64 s.w.dead) := one_at BS.out
          have xBS3 : W3.cell? ⟨g, 3, none⟩ = some (.int .i64 s.w.u0) := one_at BS.out
          have xBS4 : W3.cell? ⟨g, 4, none⟩ = some (.int .i64 s.w.u1) := one_at BS.out
          have xBS5 : W3.cell? ⟨g, 5, none⟩ = some (.int .i64 s.w.u2) := one_at BS.out
          have xBS6 : W3.cell? ⟨g, 6, none⟩ = some (.int .i64 s.w.price) := one_at BS.out
          have xBS7 : W3.cell? ⟨g, 7, none⟩ = some (.int .i64 s.ph) := one_at BS.out
          have xBS8 : W3.cell? ⟨g, 8, none⟩ = some (.int .i64 s.st) := one_at BS.out
          have xBS9 : W3.cell? ⟨g, 9, none⟩ = some (.int .i64 s.rs) := one_at BS.out
          have xBS10 : W3.cell? ⟨g, 10, none⟩ = some (.int .i64 s.si) := one_at BS.out
          have lBS : g < W3.heap.size := lt_some BS.out
          go_wp2_with fail
          refine (N5s.out _ (by assumption)).mono ?_
          rintro e w5 ⟨rfl, h⟩
          clear xBS0 xBS1 xBS2 xBS3 xBS4 xBS5 xBS6 xBS7 xBS8 xBS9 xBS10 lBS
          replace BS := Lib.hid ((h.block _ (lt_some BS.out)).trans BS.out)
          replace BA := Lib.hid ((h.block _ (lt_some BA.out)).trans BA.out)
          have k6 : Hid (Below g wb w5) := k4.out.trans (h.mono (Nat.le_of_lt (Nat.lt_of_lt_of_le gb.out k4.out.size)))
          clear h
          have xBS0 : w5.cell? ⟨g, 0, none⟩ = some (.int .i64 s.w.book) := one_at BS.out
          have xBS1 : w5.cell? ⟨g, 1, none⟩ = some (.int .i64 s.w.cust) := one_at BS.out
          have xBS2 : w5.cell? ⟨g, 2, none⟩ = some (.int .i64 s.w.dead) := one_at BS.out
          have xBS3 : w5.cell? ⟨g, 3, none⟩ = some (.int .i64 s.w.u0) := one_at BS.out
          have xBS4 : w5.cell? ⟨g, 4, none⟩ = some (.int .i64 s.w.u1) := one_at BS.out
          have xBS5 : w5.cell? ⟨g, 5, none⟩ = some (.int .i64 s.w.u2) := one_at BS.out
          have xBS6 : w5.cell? ⟨g, 6, none⟩ = some (.int .i64 s.w.price) := one_at BS.out
          have xBS7 : w5.cell? ⟨g, 7, none⟩ = some (.int .i64 s.ph) := one_at BS.out
          have xBS8 : w5.cell? ⟨g, 8, none⟩ = some (.int .i64 s.st) := one_at BS.out
          have xBS9 : w5.cell? ⟨g, 9, none⟩ = some (.int .i64 s.rs) := one_at BS.out
          have xBS10 : w5.cell? ⟨g, 10, none⟩ = some (.int .i64 s.si) := one_at BS.out
          have lBS : g < w5.heap.size := lt_some BS.out
          go_wp2_with fail
          refine (N6s.out _ (by assumption)).mono ?_
          rintro e w7 ⟨rfl, h⟩
          clear xBS0 xBS1 xBS2 xBS3 xBS4 xBS5 xBS6 xBS7 xBS8 xBS9 xBS10 lBS
          replace BS := Lib.hid ((h.block _ (lt_some BS.out)).trans BS.out)
          replace BA := Lib.hid ((h.block _ (lt_some BA.out)).trans BA.out)
          have k8 : Hid (Below g wb w7) := k6.out.trans (h.mono (Nat.le_of_lt (Nat.lt_of_lt_of_le gb.out k6.out.size)))
          clear h
          have xBS0 : w7.cell? ⟨g, 0, none⟩ = some (.int .i64 s.w.book) := one_at BS.out
          have xBS1 : w7.cell? ⟨g, 1, none⟩ = some (.int .i64 s.w.cust) := one_at BS.out
          have xBS2 : w7.cell? ⟨g, 2, none⟩ = some (.int .i64 s.w.dead) := one_at BS.out
          have xBS3 : w7.cell? ⟨g, 3, none⟩ = some (.int .i64 s.w.u0) := one_at BS.out
          have xBS4 : w7.cell? ⟨g, 4, none⟩ = some (.int .i64 s.w.u1) := one_at BS.out
          have xBS5 : w7.cell? ⟨g, 5, none⟩ = some (.int .i64 s.w.u2) := one_at BS.out
          have xBS6 : w7.cell? ⟨g, 6, none⟩ = some (.int .i64 s.w.price) := one_at BS.out
          have xBS7 : w7.cell? ⟨g, 7, none⟩ = some (.int .i64 s.ph) := one_at BS.out
          have xBS8 : w7.cell? ⟨g, 8, none⟩ = some (.int .i64 s.st) := one_at BS.out
          have xBS9 : w7.cell? ⟨g, 9, none⟩ = some (.int .i64 s.rs) := one_at BS.out
          have xBS10 : w7.cell? ⟨g, 10, none⟩ = some (.int .i64 s.si) := one_at BS.out
          have lBS : g < w7.heap.size := lt_some BS.out
          clear N1s N6s hq
          go_upto_region 15 with fail
          obtain ⟨W9, hW⟩ : ∃ ww, ww = w7.alloc (.cells #[.int .i64 s.w.book, .int .i64 s.w.cust, .int .i64 s.w.dead, .int .i64 s.w.u0, .int .i64 s.w.u1, .int .i64 s.w.u2, .int .i64 s.w.price, .int .i64 s.ph, .int .i64 s.st, .int .i64 s.rs, .int .i64 s.si] 26) := ⟨_, rfl⟩
          rw [← hW]
          have h : Below w7.heap.size w7 W9 := by rw [hW]; exact (Below.refl _ _).alloc (Nat.le_refl _) _
          have BT : Hid (W9.heap[w7.heap.size]? = some (.cells #[.int .i64 s.w.book, .int .i64 s.w.cust, .int .i64 s.w.dead, .int .i64 s.w.u0, .int .i64 s.w.u1, .int .i64 s.w.u2, .int .i64 s.w.price, .int .i64 s.ph, .int .i64 s.st, .int .i64 s.rs, .int .i64 s.si] 26 (0, 0))) := by rw [hW]; exact heap_alloc_new _ _
          clear hW
          clear xBS0 xBS1 xBS2 xBS3 xBS4 xBS5 xBS6 xBS7 xBS8 xBS9 xBS10 lBS
          replace BS := Lib.hid ((h.block _ (lt_some BS.out)).trans BS.out)
          replace BA := Lib.hid ((h.block _ (lt_some BA.out)).trans BA.out)
          have k10 : Hid (Below g wb W9) := k8.out.trans (h.mono (Nat.le_of_lt (Nat.lt_of_lt_of_le gb.out k8.out.size)))
          clear h
          obtain ⟨gw, hgw⟩ : ∃ z, z = w7.heap.size := ⟨_, rfl⟩
          rw [← hgw] at BT ⊢
          have ogw : Hid (g < gw) := by rw [hgw]; exact Nat.lt_of_lt_of_le gb.out k8.out.size
          clear hgw
          obtain ⟨ga, hga⟩ : ∃ z, z = w1.heap.size := ⟨_, rfl⟩
          rw [← hga] at BA ⊢
          have oga : Hid (g < ga) := by rw [hga]; exact Nat.lt_of_lt_of_le gb.out k2.out.size
          clear hga
          have i2 : (k : Int) < (n : Int) := by have := i0.out.1; omega
          have i3 : (0 : Int) ≤ (k : Int) := by omega
          obtain ⟨e0, e1⟩ := hat.out _ k10.out
          have la : ad.block < W9.heap.size := by have := hadg.out; have := lt_some BS.out; omega
          obtain ⟨⟨n0, n1⟩, a0, a1, b0, b1⟩ := hnum.out
          have hk60 := i0.out.2
          go_upto_block 2 with fail
          go_cut [7, 8, 9, 10, 15, 16, 17, 18, 19, 20, 21, 22, 23, 24, 25] from 73 to 186 (fun s7 s8 s9 s10 _ _ _ _ _ _ _ _ _ _ _ wx => EnCut x s g gw k wb s7 s8 s9 s10 wx)
          case first =>
            by_cases q0 : o.kind = 0
            case pos =>
              as_aux_lemma =>
                have d0 : (o.kind == 0) = true := by rw [q0]; rfl
                clear q0 N5s N2b N2c N3s N4s R1 C1 X1 L1 Z1 hov hok KW EW ES
                have xBS0 : W9.cell? ⟨g, 0, none⟩ = some (.int .i64 s.w.book) := one_at BS.out
                have xBS1 : W9.cell? ⟨g, 1, none⟩ = some (.int .i64 s.w.cust) := one_at BS.out
                have xBS2 : W9.cell? ⟨g, 2, none⟩ = some (.int .i64 s.w.dead) := one_at BS.out
                have xBS3 : W9.cell? ⟨g, 3, none⟩ = some (.int .i64 s.w.u0) := one_at BS.out
                have xBS4 : W9.cell? ⟨g, 4, none⟩ = some (.int .i64 s.w.u1) := one_at BS.out
                have xBS5 : W9.cell? ⟨g, 5, none⟩ = some (.int .i64 s.w.u2) := one_at BS.out
                have xBS6 : W9.cell? ⟨g, 6, none⟩ = some (.int .i64 s.w.price) := one_at BS.out
                have xBS7 : W9.cell? ⟨g, 7, none⟩ = some (.int .i64 s.ph) := one_at BS.out
                have xBS8 : W9.cell? ⟨g, 8, none⟩ = some (.int .i64 s.st) := one_at BS.out
                have xBS9 : W9.cell? ⟨g, 9, none⟩ = some (.int .i64 s.rs) := one_at BS.out
                have xBS10 : W9.cell? ⟨g, 10, none⟩ = some (.int .i64 s.si) := one_at BS.out
                have lBS : g < W9.heap.size := lt_some BS.out
                have xBA0 : W9.cell? ⟨ga, 0, none⟩ = some (.int .i64 nx.node) := one_at BA.out
                have xBA1 : W9.cell? ⟨ga, 1, none⟩ = some (.int .i64 nx.op.kind) := one_at BA.out
                have xBA2 : W9.cell? ⟨ga, 2, none⟩ = some (.int .i64 nx.op.book) := one_at BA.out
                have xBA3 : W9.cell? ⟨ga, 3, none⟩ = some (.int .i64 nx.op.units) := one_at BA.out
                have xBA4 : W9.cell? ⟨ga, 4, none⟩ = some (.int .i64 nx.op.cust) := one_at BA.out
                have xBA5 : W9.cell? ⟨ga, 5, none⟩ = some (.int .i64 nx.op.amount) := one_at BA.out
                have lBA : ga < W9.heap.size := lt_some BA.out
                go_wp2_with fail
                refine (N2a.out _ (by assumption)).mono ?_
                rintro e w11 ⟨rfl, h⟩
                clear xBS0 xBS1 xBS2 xBS3 xBS4 xBS5 xBS6 xBS7 xBS8 xBS9 xBS10 lBS xBA0 xBA1 xBA2 xBA3 xBA4 xBA5 lBA
                replace BS := Lib.hid ((h.block _ (lt_some BS.out)).trans BS.out)
                replace BA := Lib.hid ((h.block _ (lt_some BA.out)).trans BA.out)
                replace BT := Lib.hid ((h.block _ (lt_some BT.out)).trans BT.out)
                have k12 : Hid (Below g wb w11) := k10.out.trans (h.mono (Nat.le_of_lt (Nat.lt_of_lt_of_le gb.out k10.out.size)))
                clear h
                go_upto_region 23 with fail
                obtain ⟨W13, hW⟩ : ∃ ww, ww = w11.alloc (.cells #[.int .i64 y0.w.book, .int .i64 y0.w.cust, .int .i64 y0.w.dead, .int .i64 y0.w.u0, .int .i64 y0.w.u1, .int .i64 y0.w.u2, .int .i64 y0.w.price, .int .i64 y0.ph, .int .i64 y0.st, .int .i64 y0.rs, .int .i64 y0.si] 26) := ⟨_, rfl⟩
                rw [← hW]
                have h : Below w11.heap.size w11 W13 := by rw [hW]; exact (Below.refl _ _).alloc (Nat.le_refl _) _
                have BY : Hid (W13.heap[w11.heap.size]? = some (.cells #[.int .i64 y0.w.book, .int .i64 y0.w.cust, .int .i64 y0.w.dead, .int .i64 y0.w.u0, .int .i64 y0.w.u1, .int .i64 y0.w.u2, .int .i64 y0.w.price, .int .i64 y0.ph, .int .i64 y0.st, .int .i64 y0.rs, .int .i64 y0.si] 26 (0, 0))) := by rw [hW]; exact heap_alloc_new _ _
                clear hW
                replace BS := Lib.hid ((h.block _ (lt_some BS.out)).trans BS.out)
                replace BA := Lib.hid ((h.block _ (lt_some BA.out)).trans BA.out)
                replace BT := Lib.hid ((h.block _ (lt_some BT.out)).trans BT.out)
                have k14 : Hid (Below g wb W13) := k12.out.trans (h.mono (Nat.le_of_lt (Nat.lt_of_lt_of_le gb.out k12.out.size)))
                clear h
                have xBY0 : W13.cell? ⟨w11.heap.size, 0, none⟩ = some (.int .i64 y0.w.book) := one_at BY.out
                have xBY1 : W13.cell? ⟨w11.heap.size, 1, none⟩ = some (.int .i64 y0.w.cust) := one_at BY.out
                have xBY2 : W13.cell? ⟨w11.heap.size, 2, none⟩ = some (.int .i64 y0.w.dead) := one_at BY.out
                have xBY3 : W13.cell? ⟨w11.heap.size, 3, none⟩ = some (.int .i64 y0.w.u0) := one_at BY.out
                have xBY4 : W13.cell? ⟨w11.heap.size, 4, none⟩ = some (.int .i64 y0.w.u1) := one_at BY.out
                have xBY5 : W13.cell? ⟨w11.heap.size, 5, none⟩ = some (.int .i64 y0.w.u2) := one_at BY.out
                have xBY6 : W13.cell? ⟨w11.heap.size, 6, none⟩ = some (.int .i64 y0.w.price) := one_at BY.out
                have xBY7 : W13.cell? ⟨w11.heap.size, 7, none⟩ = some (.int .i64 y0.ph) := one_at BY.out
                have xBY8 : W13.cell? ⟨w11.heap.size, 8, none⟩ = some (.int .i64 y0.st) := one_at BY.out
                have xBY9 : W13.cell? ⟨w11.heap.size, 9, none⟩ = some (.int .i64 y0.rs) := one_at BY.out
                have xBY10 : W13.cell? ⟨w11.heap.size, 10, none⟩ = some (.int .i64 y0.si) := one_at BY.out
                have lBY : w11.heap.size < W13.heap.size := lt_some BY.out
                go_upto_region 26 with (refine wpList_store_row rfl 26 (.tmp 5) (.tmp 117) rfl g #[.int .i64 y0.w.book, .int .i64 y0.w.cust, .int .i64 y0.w.dead, .int .i64 y0.w.u0, .int .i64 y0.w.u1, .int .i64 y0.w.u2, .int .i64 y0.w.price, .int .i64 y0.ph, .int .i64 y0.st, .int .i64 y0.rs, .int .i64 y0.si] rfl rfl 26 _ BS.out sag_size rfl (by simp [Value.oneCell']) ?_)
                clear xBY0 xBY1 xBY2 xBY3 xBY4 xBY5 xBY6 xBY7 xBY8 xBY9 xBY10 lBY
                obtain ⟨W15, hW⟩ : ∃ ww, ww = W13.setRow g #[.int .i64 y0.w.book, .int .i64 y0.w.cust, .int .i64 y0.w.dead, .int .i64 y0.w.u0, .int .i64 y0.w.u1, .int .i64 y0.w.u2, .int .i64 y0.w.price, .int .i64 y0.ph, .int .i64 y0.st, .int .i64 y0.rs, .int .i64 y0.si] := ⟨_, rfl⟩
                rw [← hW]
                have CS : Hid (W15.heap[g]? = some (.cells #[.int .i64 y0.w.book, .int .i64 y0.w.cust, .int .i64 y0.w.dead, .int .i64 y0.w.u0, .int .i64 y0.w.u1, .int .i64 y0.w.u2, .int .i64 y0.w.price, .int .i64 y0.ph, .int .i64 y0.st, .int .i64 y0.rs, .int .i64 y0.si] 26 (0, 0))) := by rw [hW]; exact setRow_heap _ _ _ _ _ _ BS.out
                replace BT : Hid (W15.heap[gw]? = some (.cells #[.int .i64 s.w.book, .int .i64 s.w.cust, .int .i64 s.w.dead, .int .i64 s.w.u0, .int .i64 s.w.u1, .int .i64 s.w.u2, .int .i64 s.w.price, .int .i64 s.ph, .int .i64 s.st, .int .i64 s.rs, .int .i64 s.si] 26 (0, 0))) := by rw [hW]; exact (setRow_other _ _ _ _ (by have := ogw.out; omega)).trans BT.out
                have k15 : Hid (Below g wb W15) := by rw [hW]; exact k14.out.trans (setRow_below _ (Nat.le_refl _))
                clear hW BS
                have xBT0 : W15.cell? ⟨gw, 0, none⟩ = some (.int .i64 s.w.book) := one_at BT.out
                have xBT1 : W15.cell? ⟨gw, 1, none⟩ = some (.int .i64 s.w.cust) := one_at BT.out
                have xBT2 : W15.cell? ⟨gw, 2, none⟩ = some (.int .i64 s.w.dead) := one_at BT.out
                have xBT3 : W15.cell? ⟨gw, 3, none⟩ = some (.int .i64 s.w.u0) := one_at BT.out
                have xBT4 : W15.cell? ⟨gw, 4, none⟩ = some (.int .i64 s.w.u1) := one_at BT.out
                have xBT5 : W15.cell? ⟨gw, 5, none⟩ = some (.int .i64 s.w.u2) := one_at BT.out
                have xBT6 : W15.cell? ⟨gw, 6, none⟩ = some (.int .i64 s.w.price) := one_at BT.out
                have xBT7 : W15.cell? ⟨gw, 7, none⟩ = some (.int .i64 s.ph) := one_at BT.out
                have xBT8 : W15.cell? ⟨gw, 8, none⟩ = some (.int .i64 s.st) := one_at BT.out
                have xBT9 : W15.cell? ⟨gw, 9, none⟩ = some (.int .i64 s.rs) := one_at BT.out
                have xBT10 : W15.cell? ⟨gw, 10, none⟩ = some (.int .i64 s.si) := one_at BT.out
                have lBT : gw < W15.heap.size := lt_some BT.out
                obtain ⟨NX, E0, E1⟩ := D2.out
                replace NX := Lib.hid NX
                replace E0 := Lib.hid E0
                cases ok with
                | false =>
                  clear E1
                  go_wp2_with fail
                  go_meet
                  case rel => exact ⟨y0, nw, a, b, r, rfl, by have := hnum.out; omega, by have := hnum.out; omega, rfl, rfl, rfl, (by rw [E0.out (by simp)]; exact hE.out), by have := hnum.out; omega, by have := hnum.out; omega, by have := hnum.out; omega, by have := hnum.out; omega, NX.out, CS.out, BT.out, k15.out⟩
                | true =>
                  rcases E1 rfl with ⟨hp, EN⟩ | ⟨hp, EN⟩ | ⟨hp, EN⟩
                  · have p1 : (s.ph == 1) = true := by rw [hp]; rfl
                    have p3 : (s.ph == 3) = false := by rw [hp]; rfl
                    replace EN := Lib.hid EN
                    clear hp
                    go_wp2_with fail
                    go_meet
                    case rel => exact ⟨y0, nw, (a + 1), b, r, rfl, by have := hnum.out; omega, by have := hnum.out; omega, rfl, rfl, rfl, EN.out, by have := hnum.out; omega, by have := hnum.out; omega, by have := hnum.out; omega, by have := hnum.out; omega, NX.out, CS.out, BT.out, k15.out⟩
                  · have p1 : (s.ph == 1) = false := by rw [hp]; rfl
                    have p3 : (s.ph == 3) = false := by rw [hp]; rfl
                    replace EN := Lib.hid EN
                    clear hp
                    go_wp2_with fail
                    go_meet
                    case rel => exact ⟨y0, nw, a, b, r, rfl, by have := hnum.out; omega, by have := hnum.out; omega, rfl, rfl, rfl, EN.out, by have := hnum.out; omega, by have := hnum.out; omega, by have := hnum.out; omega, by have := hnum.out; omega, NX.out, CS.out, BT.out, k15.out⟩
                  · have p1 : (s.ph == 1) = false := by rw [hp]; rfl
                    have p3 : (s.ph == 3) = true := by rw [hp]; rfl
                    replace EN := Lib.hid EN
                    clear hp
                    go_wp2_with fail
                    go_meet
                    case rel => exact ⟨y0, nw, a, (b + 1), r, rfl, by have := hnum.out; omega, by have := hnum.out; omega, rfl, rfl, rfl, EN.out, by have := hnum.out; omega, by have := hnum.out; omega, by have := hnum.out; omega, by have := hnum.out; omega, NX.out, CS.out, BT.out, k15.out⟩
            have d0 : (o.kind == 0) = false := beq_eq_false_iff_ne.2 q0
            clear q0
            by_cases q1 : o.kind = 1
            case pos =>
              as_aux_lemma =>
                have d1 : (o.kind == 1) = true := by rw [q1]; rfl
                clear q1 N5s N2a N2c N3s N4s D2 C1 X1 L1 Z1 hov hok KW EW ES
                obtain ⟨y, p⟩ := y1
                obtain ⟨NX, R2⟩ := R1.out
                replace NX := Lib.hid NX
                simp only at N2b NX R2
                clear R1
                rcases R2 with ⟨hp, hr, hp2, EN⟩ | ⟨hp, he⟩
                ·
                  subst hr hp2
                  have p1 : (s.ph == 1) = true := by rw [hp]; rfl
                  replace EN := Lib.hid EN
                  clear hp
                  have xBS0 : W9.cell? ⟨g, 0, none⟩ = some (.int .i64 s.w.book) := one_at BS.out
                  have xBS1 : W9.cell? ⟨g, 1, none⟩ = some (.int .i64 s.w.cust) := one_at BS.out
                  have xBS2 : W9.cell? ⟨g, 2, none⟩ = some (.int .i64 s.w.dead) := one_at BS.out
                  have xBS3 : W9.cell? ⟨g, 3, none⟩ = some (.int .i64 s.w.u0) := one_at BS.out
                  have xBS4 : W9.cell? ⟨g, 4, none⟩ = some (.int .i64 s.w.u1) := one_at BS.out
                  have xBS5 : W9.cell? ⟨g, 5, none⟩ = some (.int .i64 s.w.u2) := one_at BS.out
                  have xBS6 : W9.cell? ⟨g, 6, none⟩ = some (.int .i64 s.w.price) := one_at BS.out
                  have xBS7 : W9.cell? ⟨g, 7, none⟩ = some (.int .i64 s.ph) := one_at BS.out
                  have xBS8 : W9.cell? ⟨g, 8, none⟩ = some (.int .i64 s.st) := one_at BS.out
                  have xBS9 : W9.cell? ⟨g, 9, none⟩ = some (.int .i64 s.rs) := one_at BS.out
                  have xBS10 : W9.cell? ⟨g, 10, none⟩ = some (.int .i64 s.si) := one_at BS.out
                  have lBS : g < W9.heap.size := lt_some BS.out
                  have xBA0 : W9.cell? ⟨ga, 0, none⟩ = some (.int .i64 nx.node) := one_at BA.out
                  have xBA1 : W9.cell? ⟨ga, 1, none⟩ = some (.int .i64 nx.op.kind) := one_at BA.out
                  have xBA2 : W9.cell? ⟨ga, 2, none⟩ = some (.int .i64 nx.op.book) := one_at BA.out
                  have xBA3 : W9.cell? ⟨ga, 3, none⟩ = some (.int .i64 nx.op.units) := one_at BA.out
                  have xBA4 : W9.cell? ⟨ga, 4, none⟩ = some (.int .i64 nx.op.cust) := one_at BA.out
                  have xBA5 : W9.cell? ⟨ga, 5, none⟩ = some (.int .i64 nx.op.amount) := one_at BA.out
                  have lBA : ga < W9.heap.size := lt_some BA.out
                  go_wp2_with fail
                  refine (N2b.out _ (by assumption)).mono ?_
                  rintro e w11 ⟨rfl, h⟩
                  clear xBS0 xBS1 xBS2 xBS3 xBS4 xBS5 xBS6 xBS7 xBS8 xBS9 xBS10 lBS xBA0 xBA1 xBA2 xBA3 xBA4 xBA5 lBA
                  replace BS := Lib.hid ((h.block _ (lt_some BS.out)).trans BS.out)
                  replace BA := Lib.hid ((h.block _ (lt_some BA.out)).trans BA.out)
                  replace BT := Lib.hid ((h.block _ (lt_some BT.out)).trans BT.out)
                  have k12 : Hid (Below g wb w11) := k10.out.trans (h.mono (Nat.le_of_lt (Nat.lt_of_lt_of_le gb.out k10.out.size)))
                  clear h
                  go_upto_region 32 with fail
                  obtain ⟨W13, hW⟩ : ∃ ww, ww = w11.alloc (.cells #[.int .i64 y.w.book, .int .i64 y.w.cust, .int .i64 y.w.dead, .int .i64 y.w.u0, .int .i64 y.w.u1, .int .i64 y.w.u2, .int .i64 y.w.price, .int .i64 y.ph, .int .i64 y.st, .int .i64 y.rs, .int .i64 y.si] 26) := ⟨_, rfl⟩
                  rw [← hW]
                  have h : Below w11.heap.size w11 W13 := by rw [hW]; exact (Below.refl _ _).alloc (Nat.le_refl _) _
                  have BY : Hid (W13.heap[w11.heap.size]? = some (.cells #[.int .i64 y.w.book, .int .i64 y.w.cust, .int .i64 y.w.dead, .int .i64 y.w.u0, .int .i64 y.w.u1, .int .i64 y.w.u2, .int .i64 y.w.price, .int .i64 y.ph, .int .i64 y.st, .int .i64 y.rs, .int .i64 y.si] 26 (0, 0))) := by rw [hW]; exact heap_alloc_new _ _
                  clear hW
                  replace BS := Lib.hid ((h.block _ (lt_some BS.out)).trans BS.out)
                  replace BA := Lib.hid ((h.block _ (lt_some BA.out)).trans BA.out)
                  replace BT := Lib.hid ((h.block _ (lt_some BT.out)).trans BT.out)
                  have k14 : Hid (Below g wb W13) := k12.out.trans (h.mono (Nat.le_of_lt (Nat.lt_of_lt_of_le gb.out k12.out.size)))
                  clear h
                  have xBY0 : W13.cell? ⟨w11.heap.size, 0, none⟩ = some (.int .i64 y.w.book) := one_at BY.out
                  have xBY1 : W13.cell? ⟨w11.heap.size, 1, none⟩ = some (.int .i64 y.w.cust) := one_at BY.out
                  have xBY2 : W13.cell? ⟨w11.heap.size, 2, none⟩ = some (.int .i64 y.w.dead) := one_at BY.out
                  have xBY3 : W13.cell? ⟨w11.heap.size, 3, none⟩ = some (.int .i64 y.w.u0) := one_at BY.out
                  have xBY4 : W13.cell? ⟨w11.heap.size, 4, none⟩ = some (.int .i64 y.w.u1) := one_at BY.out
                  have xBY5 : W13.cell? ⟨w11.heap.size, 5, none⟩ = some (.int .i64 y.w.u2) := one_at BY.out
                  have xBY6 : W13.cell? ⟨w11.heap.size, 6, none⟩ = some (.int .i64 y.w.price) := one_at BY.out
                  have xBY7 : W13.cell? ⟨w11.heap.size, 7, none⟩ = some (.int .i64 y.ph) := one_at BY.out
                  have xBY8 : W13.cell? ⟨w11.heap.size, 8, none⟩ = some (.int .i64 y.st) := one_at BY.out
                  have xBY9 : W13.cell? ⟨w11.heap.size, 9, none⟩ = some (.int .i64 y.rs) := one_at BY.out
                  have xBY10 : W13.cell? ⟨w11.heap.size, 10, none⟩ = some (.int .i64 y.si) := one_at BY.out
                  have lBY : w11.heap.size < W13.heap.size := lt_some BY.out
                  have xBT0 : W13.cell? ⟨gw, 0, none⟩ = some (.int .i64 s.w.book) := one_at BT.out
                  have xBT1 : W13.cell? ⟨gw, 1, none⟩ = some (.int .i64 s.w.cust) := one_at BT.out
                  have xBT2 : W13.cell? ⟨gw, 2, none⟩ = some (.int .i64 s.w.dead) := one_at BT.out
                  have xBT3 : W13.cell? ⟨gw, 3, none⟩ = some (.int .i64 s.w.u0) := one_at BT.out
                  have xBT4 : W13.cell? ⟨gw, 4, none⟩ = some (.int .i64 s.w.u1) := one_at BT.out
                  have xBT5 : W13.cell? ⟨gw, 5, none⟩ = some (.int .i64 s.w.u2) := one_at BT.out
                  have xBT6 : W13.cell? ⟨gw, 6, none⟩ = some (.int .i64 s.w.price) := one_at BT.out
                  have xBT7 : W13.cell? ⟨gw, 7, none⟩ = some (.int .i64 s.ph) := one_at BT.out
                  have xBT8 : W13.cell? ⟨gw, 8, none⟩ = some (.int .i64 s.st) := one_at BT.out
                  have xBT9 : W13.cell? ⟨gw, 9, none⟩ = some (.int .i64 s.rs) := one_at BT.out
                  have xBT10 : W13.cell? ⟨gw, 10, none⟩ = some (.int .i64 s.si) := one_at BT.out
                  have lBT : gw < W13.heap.size := lt_some BT.out
                  go_wp2_with (refine wpList_store_row rfl 26 (.tmp 5) (.tmp 147) rfl g #[.int .i64 y.w.book, .int .i64 y.w.cust, .int .i64 y.w.dead, .int .i64 y.w.u0, .int .i64 y.w.u1, .int .i64 y.w.u2, .int .i64 y.w.price, .int .i64 y.ph, .int .i64 y.st, .int .i64 y.rs, .int .i64 y.si] rfl rfl 26 _ BS.out sag_size rfl (by simp [Value.oneCell']) ?_)
                  clear xBY0 xBY1 xBY2 xBY3 xBY4 xBY5 xBY6 xBY7 xBY8 xBY9 xBY10 lBY xBT0 xBT1 xBT2 xBT3 xBT4 xBT5 xBT6 xBT7 xBT8 xBT9 xBT10 lBT
                  obtain ⟨W15, hW⟩ : ∃ ww, ww = W13.setRow g #[.int .i64 y.w.book, .int .i64 y.w.cust, .int .i64 y.w.dead, .int .i64 y.w.u0, .int .i64 y.w.u1, .int .i64 y.w.u2, .int .i64 y.w.price, .int .i64 y.ph, .int .i64 y.st, .int .i64 y.rs, .int .i64 y.si] := ⟨_, rfl⟩
                  rw [← hW]
                  have CS : Hid (W15.heap[g]? = some (.cells #[.int .i64 y.w.book, .int .i64 y.w.cust, .int .i64 y.w.dead, .int .i64 y.w.u0, .int .i64 y.w.u1, .int .i64 y.w.u2, .int .i64 y.w.price, .int .i64 y.ph, .int .i64 y.st, .int .i64 y.rs, .int .i64 y.si] 26 (0, 0))) := by rw [hW]; exact setRow_heap _ _ _ _ _ _ BS.out
                  replace BT : Hid (W15.heap[gw]? = some (.cells #[.int .i64 s.w.book, .int .i64 s.w.cust, .int .i64 s.w.dead, .int .i64 s.w.u0, .int .i64 s.w.u1, .int .i64 s.w.u2, .int .i64 s.w.price, .int .i64 s.ph, .int .i64 s.st, .int .i64 s.rs, .int .i64 s.si] 26 (0, 0))) := by rw [hW]; exact (setRow_other _ _ _ _ (by have := ogw.out; omega)).trans BT.out
                  have k15 : Hid (Below g wb W15) := by rw [hW]; exact k14.out.trans (setRow_below _ (Nat.le_refl _))
                  clear hW BS
                  go_wp2_with fail
                  go_meet
                  case rel => exact ⟨y, nw, a, b, true, rfl, by have := hnum.out; omega, by have := hnum.out; omega, rfl, rfl, rfl, EN.out, by have := hnum.out; omega, by have := hnum.out; omega, by have := hnum.out; omega, by have := hnum.out; omega, NX.out, CS.out, BT.out, k15.out⟩
                ·
                  obtain ⟨he1, he2⟩ := Prod.mk.inj he
                  have he3 := he1.symm
                  clear he he1
                  subst he3 he2
                  have p1 : (s.ph == 1) = false := beq_eq_false_iff_ne.2 hp
                  clear hp
                  have xBS0 : W9.cell? ⟨g, 0, none⟩ = some (.int .i64 s.w.book) := one_at BS.out
                  have xBS1 : W9.cell? ⟨g, 1, none⟩ = some (.int .i64 s.w.cust) := one_at BS.out
                  have xBS2 : W9.cell? ⟨g, 2, none⟩ = some (.int .i64 s.w.dead) := one_at BS.out
                  have xBS3 : W9.cell? ⟨g, 3, none⟩ = some (.int .i64 s.w.u0) := one_at BS.out
                  have xBS4 : W9.cell? ⟨g, 4, none⟩ = some (.int .i64 s.w.u1) := one_at BS.out
                  have xBS5 : W9.cell? ⟨g, 5, none⟩ = some (.int .i64 s.w.u2) := one_at BS.out
                  have xBS6 : W9.cell? ⟨g, 6, none⟩ = some (.int .i64 s.w.price) := one_at BS.out
                  have xBS7 : W9.cell? ⟨g, 7, none⟩ = some (.int .i64 s.ph) := one_at BS.out
                  have xBS8 : W9.cell? ⟨g, 8, none⟩ = some (.int .i64 s.st) := one_at BS.out
                  have xBS9 : W9.cell? ⟨g, 9, none⟩ = some (.int .i64 s.rs) := one_at BS.out
                  have xBS10 : W9.cell? ⟨g, 10, none⟩ = some (.int .i64 s.si) := one_at BS.out
                  have lBS : g < W9.heap.size := lt_some BS.out
                  have xBA0 : W9.cell? ⟨ga, 0, none⟩ = some (.int .i64 nx.node) := one_at BA.out
                  have xBA1 : W9.cell? ⟨ga, 1, none⟩ = some (.int .i64 nx.op.kind) := one_at BA.out
                  have xBA2 : W9.cell? ⟨ga, 2, none⟩ = some (.int .i64 nx.op.book) := one_at BA.out
                  have xBA3 : W9.cell? ⟨ga, 3, none⟩ = some (.int .i64 nx.op.units) := one_at BA.out
                  have xBA4 : W9.cell? ⟨ga, 4, none⟩ = some (.int .i64 nx.op.cust) := one_at BA.out
                  have xBA5 : W9.cell? ⟨ga, 5, none⟩ = some (.int .i64 nx.op.amount) := one_at BA.out
                  have lBA : ga < W9.heap.size := lt_some BA.out
                  go_wp2_with fail
                  refine (N2b.out _ (by assumption)).mono ?_
                  rintro e w11 ⟨rfl, h⟩
                  clear xBS0 xBS1 xBS2 xBS3 xBS4 xBS5 xBS6 xBS7 xBS8 xBS9 xBS10 lBS xBA0 xBA1 xBA2 xBA3 xBA4 xBA5 lBA
                  replace BS := Lib.hid ((h.block _ (lt_some BS.out)).trans BS.out)
                  replace BA := Lib.hid ((h.block _ (lt_some BA.out)).trans BA.out)
                  replace BT := Lib.hid ((h.block _ (lt_some BT.out)).trans BT.out)
                  have k12 : Hid (Below g wb w11) := k10.out.trans (h.mono (Nat.le_of_lt (Nat.lt_of_lt_of_le gb.out k10.out.size)))
                  clear h
                  go_upto_region 32 with fail
                  obtain ⟨W13, hW⟩ : ∃ ww, ww = w11.alloc (.cells #[.int .i64 s.w.book, .int .i64 s.w.cust, .int .i64 s.w.dead, .int .i64 s.w.u0, .int .i64 s.w.u1, .int .i64 s.w.u2, .int .i64 s.w.price, .int .i64 s.ph, .int .i64 s.st, .int .i64 s.rs, .int .i64 s.si] 26) := ⟨_, rfl⟩
                  rw [← hW]
                  have h : Below w11.heap.size w11 W13 := by rw [hW]; exact (Below.refl _ _).alloc (Nat.le_refl _) _
                  have BY : Hid (W13.heap[w11.heap.size]? = some (.cells #[.int .i64 s.w.book, .int .i64 s.w.cust, .int .i64 s.w.dead, .int .i64 s.w.u0, .int .i64 s.w.u1, .int .i64 s.w.u2, .int .i64 s.w.price, .int .i64 s.ph, .int .i64 s.st, .int .i64 s.rs, .int .i64 s.si] 26 (0, 0))) := by rw [hW]; exact heap_alloc_new _ _
                  clear hW
                  replace BS := Lib.hid ((h.block _ (lt_some BS.out)).trans BS.out)
                  replace BA := Lib.hid ((h.block _ (lt_some BA.out)).trans BA.out)
                  replace BT := Lib.hid ((h.block _ (lt_some BT.out)).trans BT.out)
                  have k14 : Hid (Below g wb W13) := k12.out.trans (h.mono (Nat.le_of_lt (Nat.lt_of_lt_of_le gb.out k12.out.size)))
                  clear h
                  have xBY0 : W13.cell? ⟨w11.heap.size, 0, none⟩ = some (.int .i64 s.w.book) := one_at BY.out
                  have xBY1 : W13.cell? ⟨w11.heap.size, 1, none⟩ = some (.int .i64 s.w.cust) := one_at BY.out
                  have xBY2 : W13.cell? ⟨w11.heap.size, 2, none⟩ = some (.int .i64 s.w.dead) := one_at BY.out
                  have xBY3 : W13.cell? ⟨w11.heap.size, 3, none⟩ = some (.int .i64 s.w.u0) := one_at BY.out
                  have xBY4 : W13.cell? ⟨w11.heap.size, 4, none⟩ = some (.int .i64 s.w.u1) := one_at BY.out
                  have xBY5 : W13.cell? ⟨w11.heap.size, 5, none⟩ = some (.int .i64 s.w.u2) := one_at BY.out
                  have xBY6 : W13.cell? ⟨w11.heap.size, 6, none⟩ = some (.int .i64 s.w.price) := one_at BY.out
                  have xBY7 : W13.cell? ⟨w11.heap.size, 7, none⟩ = some (.int .i64 s.ph) := one_at BY.out
                  have xBY8 : W13.cell? ⟨w11.heap.size, 8, none⟩ = some (.int .i64 s.st) := one_at BY.out
                  have xBY9 : W13.cell? ⟨w11.heap.size, 9, none⟩ = some (.int .i64 s.rs) := one_at BY.out
                  have xBY10 : W13.cell? ⟨w11.heap.size, 10, none⟩ = some (.int .i64 s.si) := one_at BY.out
                  have lBY : w11.heap.size < W13.heap.size := lt_some BY.out
                  have xBT0 : W13.cell? ⟨gw, 0, none⟩ = some (.int .i64 s.w.book) := one_at BT.out
                  have xBT1 : W13.cell? ⟨gw, 1, none⟩ = some (.int .i64 s.w.cust) := one_at BT.out
                  have xBT2 : W13.cell? ⟨gw, 2, none⟩ = some (.int .i64 s.w.dead) := one_at BT.out
                  have xBT3 : W13.cell? ⟨gw, 3, none⟩ = some (.int .i64 s.w.u0) := one_at BT.out
                  have xBT4 : W13.cell? ⟨gw, 4, none⟩ = some (.int .i64 s.w.u1) := one_at BT.out
                  have xBT5 : W13.cell? ⟨gw, 5, none⟩ = some (.int .i64 s.w.u2) := one_at BT.out
                  have xBT6 : W13.cell? ⟨gw, 6, none⟩ = some (.int .i64 s.w.price) := one_at BT.out
                  have xBT7 : W13.cell? ⟨gw, 7, none⟩ = some (.int .i64 s.ph) := one_at BT.out
                  have xBT8 : W13.cell? ⟨gw, 8, none⟩ = some (.int .i64 s.st) := one_at BT.out
                  have xBT9 : W13.cell? ⟨gw, 9, none⟩ = some (.int .i64 s.rs) := one_at BT.out
                  have xBT10 : W13.cell? ⟨gw, 10, none⟩ = some (.int .i64 s.si) := one_at BT.out
                  have lBT : gw < W13.heap.size := lt_some BT.out
                  go_upto_region 35 with (refine wpList_store_row rfl 26 (.tmp 5) (.tmp 147) rfl g #[.int .i64 s.w.book, .int .i64 s.w.cust, .int .i64 s.w.dead, .int .i64 s.w.u0, .int .i64 s.w.u1, .int .i64 s.w.u2, .int .i64 s.w.price, .int .i64 s.ph, .int .i64 s.st, .int .i64 s.rs, .int .i64 s.si] rfl rfl 26 _ BS.out sag_size rfl (by simp [Value.oneCell']) ?_)
                  clear xBY0 xBY1 xBY2 xBY3 xBY4 xBY5 xBY6 xBY7 xBY8 xBY9 xBY10 lBY xBT0 xBT1 xBT2 xBT3 xBT4 xBT5 xBT6 xBT7 xBT8 xBT9 xBT10 lBT
                  obtain ⟨W15, hW⟩ : ∃ ww, ww = W13.setRow g #[.int .i64 s.w.book, .int .i64 s.w.cust, .int .i64 s.w.dead, .int .i64 s.w.u0, .int .i64 s.w.u1, .int .i64 s.w.u2, .int .i64 s.w.price, .int .i64 s.ph, .int .i64 s.st, .int .i64 s.rs, .int .i64 s.si] := ⟨_, rfl⟩
                  rw [← hW]
                  have CS : Hid (W15.heap[g]? = some (.cells #[.int .i64 s.w.book, .int .i64 s.w.cust, .int .i64 s.w.dead, .int .i64 s.w.u0, .int .i64 s.w.u1, .int .i64 s.w.u2, .int .i64 s.w.price, .int .i64 s.ph, .int .i64 s.st, .int .i64 s.rs, .int .i64 s.si] 26 (0, 0))) := by rw [hW]; exact setRow_heap _ _ _ _ _ _ BS.out
                  replace BT : Hid (W15.heap[gw]? = some (.cells #[.int .i64 s.w.book, .int .i64 s.w.cust, .int .i64 s.w.dead, .int .i64 s.w.u0, .int .i64 s.w.u1, .int .i64 s.w.u2, .int .i64 s.w.price, .int .i64 s.ph, .int .i64 s.st, .int .i64 s.rs, .int .i64 s.si] 26 (0, 0))) := by rw [hW]; exact (setRow_other _ _ _ _ (by have := ogw.out; omega)).trans BT.out
                  have k15 : Hid (Below g wb W15) := by rw [hW]; exact k14.out.trans (setRow_below _ (Nat.le_refl _))
                  clear hW BS
                  cases r with
                  | false =>
                    go_wp2_with fail
                    go_meet
                    case rel => exact ⟨s, nw, a, b, false, rfl, by have := hnum.out; omega, by have := hnum.out; omega, rfl, rfl, rfl, hE.out, by have := hnum.out; omega, by have := hnum.out; omega, by have := hnum.out; omega, by have := hnum.out; omega, (Nx.refl _), CS.out, BT.out, k15.out⟩
                  | true =>
                    go_wp2_with fail
                    go_meet
                    case rel => exact ⟨s, nw, a, b, true, rfl, by have := hnum.out; omega, by have := hnum.out; omega, rfl, rfl, rfl, hE.out, by have := hnum.out; omega, by have := hnum.out; omega, by have := hnum.out; omega, by have := hnum.out; omega, (Nx.refl _), CS.out, BT.out, k15.out⟩
            have d1 : (o.kind == 1) = false := beq_eq_false_iff_ne.2 q1
            clear q1
            by_cases q2 : o.kind = 2
            case pos =>
              as_aux_lemma =>
                have d2 : (o.kind == 2) = true := by rw [q2]; rfl
                clear q2 N5s N2a N2b N3s N4s D2 R1 C1 X1 L1 hov hok KW EW
                have xBA0 : W9.cell? ⟨ga, 0, none⟩ = some (.int .i64 nx.node) := one_at BA.out
                have xBA1 : W9.cell? ⟨ga, 1, none⟩ = some (.int .i64 nx.op.kind) := one_at BA.out
                have xBA2 : W9.cell? ⟨ga, 2, none⟩ = some (.int .i64 nx.op.book) := one_at BA.out
                have xBA3 : W9.cell? ⟨ga, 3, none⟩ = some (.int .i64 nx.op.units) := one_at BA.out
                have xBA4 : W9.cell? ⟨ga, 4, none⟩ = some (.int .i64 nx.op.cust) := one_at BA.out
                have xBA5 : W9.cell? ⟨ga, 5, none⟩ = some (.int .i64 nx.op.amount) := one_at BA.out
                have lBA : ga < W9.heap.size := lt_some BA.out
                obtain ⟨bk0, bk1⟩ := BK.out
                have N2q := fun w' h => N2c.out w' h ⟨nx.node, ⟨nx.op.kind, 1 + nx.op.book % 200, nx.op.units, nx.op.cust, nx.op.amount⟩⟩
                rw [Z1.out _ rfl] at N2q
                simp only at N2q
                replace N2q := Lib.hid N2q
                have ESs := ES.out s
                clear N2c Z1 ES
                go_upto_region 39 with fail
                obtain ⟨W11, hW⟩ : ∃ ww, ww = W9.alloc (.cells #[.int .i64 nx.node, .int .i64 nx.op.kind, .int .i64 (1 + nx.op.book % 200), .int .i64 nx.op.units, .int .i64 nx.op.cust, .int .i64 nx.op.amount] 30) := ⟨_, rfl⟩
                rw [← hW]
                have h : Below W9.heap.size W9 W11 := by rw [hW]; exact (Below.refl _ _).alloc (Nat.le_refl _) _
                have BQ : Hid (W11.heap[W9.heap.size]? = some (.cells #[.int .i64 nx.node, .int .i64 nx.op.kind, .int .i64 (1 + nx.op.book % 200), .int .i64 nx.op.units, .int .i64 nx.op.cust, .int .i64 nx.op.amount] 30 (0, 0))) := by rw [hW]; exact heap_alloc_new _ _
                clear hW
                clear xBA0 xBA1 xBA2 xBA3 xBA4 xBA5 lBA
                replace BS := Lib.hid ((h.block _ (lt_some BS.out)).trans BS.out)
                replace BA := Lib.hid ((h.block _ (lt_some BA.out)).trans BA.out)
                replace BT := Lib.hid ((h.block _ (lt_some BT.out)).trans BT.out)
                have k12 : Hid (Below g wb W11) := k10.out.trans (h.mono (Nat.le_of_lt (Nat.lt_of_lt_of_le gb.out k10.out.size)))
                clear h
                clear bk0 bk1
                have xBS0 : W11.cell? ⟨g, 0, none⟩ = some (.int .i64 s.w.book) := one_at BS.out
                have xBS1 : W11.cell? ⟨g, 1, none⟩ = some (.int .i64 s.w.cust) := one_at BS.out
                have xBS2 : W11.cell? ⟨g, 2, none⟩ = some (.int .i64 s.w.dead) := one_at BS.out
                have xBS3 : W11.cell? ⟨g, 3, none⟩ = some (.int .i64 s.w.u0) := one_at BS.out
                have xBS4 : W11.cell? ⟨g, 4, none⟩ = some (.int .i64 s.w.u1) := one_at BS.out
                have xBS5 : W11.cell? ⟨g, 5, none⟩ = some (.int .i64 s.w.u2) := one_at BS.out
                have xBS6 : W11.cell? ⟨g, 6, none⟩ = some (.int .i64 s.w.price) := one_at BS.out
                have xBS7 : W11.cell? ⟨g, 7, none⟩ = some (.int .i64 s.ph) := one_at BS.out
                have xBS8 : W11.cell? ⟨g, 8, none⟩ = some (.int .i64 s.st) := one_at BS.out
                have xBS9 : W11.cell? ⟨g, 9, none⟩ = some (.int .i64 s.rs) := one_at BS.out
                have xBS10 : W11.cell? ⟨g, 10, none⟩ = some (.int .i64 s.si) := one_at BS.out
                have lBS : g < W11.heap.size := lt_some BS.out
                have xBQ0 : W11.cell? ⟨W9.heap.size, 0, none⟩ = some (.int .i64 nx.node) := one_at BQ.out
                have xBQ1 : W11.cell? ⟨W9.heap.size, 1, none⟩ = some (.int .i64 nx.op.kind) := one_at BQ.out
                have xBQ2 : W11.cell? ⟨W9.heap.size, 2, none⟩ = some (.int .i64 (1 + nx.op.book % 200)) := one_at BQ.out
                have xBQ3 : W11.cell? ⟨W9.heap.size, 3, none⟩ = some (.int .i64 nx.op.units) := one_at BQ.out
                have xBQ4 : W11.cell? ⟨W9.heap.size, 4, none⟩ = some (.int .i64 nx.op.cust) := one_at BQ.out
                have xBQ5 : W11.cell? ⟨W9.heap.size, 5, none⟩ = some (.int .i64 nx.op.amount) := one_at BQ.out
                have lBQ : W9.heap.size < W11.heap.size := lt_some BQ.out
                go_wp2_with fail
                refine (N2q.out _ (by assumption)).mono ?_
                rintro e w13 ⟨rfl, h⟩
                clear xBS0 xBS1 xBS2 xBS3 xBS4 xBS5 xBS6 xBS7 xBS8 xBS9 xBS10 lBS xBQ0 xBQ1 xBQ2 xBQ3 xBQ4 xBQ5 lBQ
                replace BS := Lib.hid ((h.block _ (lt_some BS.out)).trans BS.out)
                replace BA := Lib.hid ((h.block _ (lt_some BA.out)).trans BA.out)
                replace BT := Lib.hid ((h.block _ (lt_some BT.out)).trans BT.out)
                replace BQ := Lib.hid ((h.block _ (lt_some BQ.out)).trans BQ.out)
                have k14 : Hid (Below g wb w13) := k12.out.trans (h.mono (Nat.le_of_lt (Nat.lt_of_lt_of_le gb.out k12.out.size)))
                clear h
                go_upto_region 40 with fail
                obtain ⟨W15, hW⟩ : ∃ ww, ww = w13.alloc (.cells #[.int .i64 s.w.book, .int .i64 s.w.cust, .int .i64 s.w.dead, .int .i64 s.w.u0, .int .i64 s.w.u1, .int .i64 s.w.u2, .int .i64 s.w.price, .int .i64 s.ph, .int .i64 s.st, .int .i64 s.rs, .int .i64 s.si] 26) := ⟨_, rfl⟩
                rw [← hW]
                have h : Below w13.heap.size w13 W15 := by rw [hW]; exact (Below.refl _ _).alloc (Nat.le_refl _) _
                have BY : Hid (W15.heap[w13.heap.size]? = some (.cells #[.int .i64 s.w.book, .int .i64 s.w.cust, .int .i64 s.w.dead, .int .i64 s.w.u0, .int .i64 s.w.u1, .int .i64 s.w.u2, .int .i64 s.w.price, .int .i64 s.ph, .int .i64 s.st, .int .i64 s.rs, .int .i64 s.si] 26 (0, 0))) := by rw [hW]; exact heap_alloc_new _ _
                clear hW
                replace BS := Lib.hid ((h.block _ (lt_some BS.out)).trans BS.out)
                replace BA := Lib.hid ((h.block _ (lt_some BA.out)).trans BA.out)
                replace BT := Lib.hid ((h.block _ (lt_some BT.out)).trans BT.out)
                replace BQ := Lib.hid ((h.block _ (lt_some BQ.out)).trans BQ.out)
                have k16 : Hid (Below g wb W15) := k14.out.trans (h.mono (Nat.le_of_lt (Nat.lt_of_lt_of_le gb.out k14.out.size)))
                clear h
                have xBS0 : W15.cell? ⟨g, 0, none⟩ = some (.int .i64 s.w.book) := one_at BS.out
                have xBS1 : W15.cell? ⟨g, 1, none⟩ = some (.int .i64 s.w.cust) := one_at BS.out
                have xBS2 : W15.cell? ⟨g, 2, none⟩ = some (.int .i64 s.w.dead) := one_at BS.out
                have xBS3 : W15.cell? ⟨g, 3, none⟩ = some (.int .i64 s.w.u0) := one_at BS.out
                have xBS4 : W15.cell? ⟨g, 4, none⟩ = some (.int .i64 s.w.u1) := one_at BS.out
                have xBS5 : W15.cell? ⟨g, 5, none⟩ = some (.int .i64 s.w.u2) := one_at BS.out
                have xBS6 : W15.cell? ⟨g, 6, none⟩ = some (.int .i64 s.w.price) := one_at BS.out
                have xBS7 : W15.cell? ⟨g, 7, none⟩ = some (.int .i64 s.ph) := one_at BS.out
                have xBS8 : W15.cell? ⟨g, 8, none⟩ = some (.int .i64 s.st) := one_at BS.out
                have xBS9 : W15.cell? ⟨g, 9, none⟩ = some (.int .i64 s.rs) := one_at BS.out
                have xBS10 : W15.cell? ⟨g, 10, none⟩ = some (.int .i64 s.si) := one_at BS.out
                have lBS : g < W15.heap.size := lt_some BS.out
                have xBY0 : W15.cell? ⟨w13.heap.size, 0, none⟩ = some (.int .i64 s.w.book) := one_at BY.out
                have xBY1 : W15.cell? ⟨w13.heap.size, 1, none⟩ = some (.int .i64 s.w.cust) := one_at BY.out
                have xBY2 : W15.cell? ⟨w13.heap.size, 2, none⟩ = some (.int .i64 s.w.dead) := one_at BY.out
                have xBY3 : W15.cell? ⟨w13.heap.size, 3, none⟩ = some (.int .i64 s.w.u0) := one_at BY.out
                have xBY4 : W15.cell? ⟨w13.heap.size, 4, none⟩ = some (.int .i64 s.w.u1) := one_at BY.out
                have xBY5 : W15.cell? ⟨w13.heap.size, 5, none⟩ = some (.int .i64 s.w.u2) := one_at BY.out
                have xBY6 : W15.cell? ⟨w13.heap.size, 6, none⟩ = some (.int .i64 s.w.price) := one_at BY.out
                have xBY7 : W15.cell? ⟨w13.heap.size, 7, none⟩ = some (.int .i64 s.ph) := one_at BY.out
                have xBY8 : W15.cell? ⟨w13.heap.size, 8, none⟩ = some (.int .i64 s.st) := one_at BY.out
                have xBY9 : W15.cell? ⟨w13.heap.size, 9, none⟩ = some (.int .i64 s.rs) := one_at BY.out
                have xBY10 : W15.cell? ⟨w13.heap.size, 10, none⟩ = some (.int .i64 s.si) := one_at BY.out
                have lBY : w13.heap.size < W15.heap.size := lt_some BY.out
                go_wp2_with fail
                go_meet
                case rel => exact ⟨s, nw, a, b, r, rfl, by have := hnum.out; omega, by have := hnum.out; omega, rfl, rfl, rfl, hE.out, by have := hnum.out; omega, by have := hnum.out; omega, by have := hnum.out; omega, by have := hnum.out; omega, (Nx.refl _), BS.out, BT.out, k16.out⟩
            have d2 : (o.kind == 2) = false := beq_eq_false_iff_ne.2 q2
            clear q2
            by_cases q3 : o.kind = 3
            case pos =>
              as_aux_lemma =>
                have d3 : (o.kind == 3) = true := by rw [q3]; rfl
                clear q3 N5s N2a N2b N2c N4s D2 R1 X1 L1 Z1 hov hok KW EW ES
                obtain ⟨NX, EN, hp⟩ := C1.out
                replace NX := Lib.hid NX
                replace EN := Lib.hid EN
                replace N3s := N3s.out
                rw [hp] at N3s
                clear hp C1
                generalize (scan s).1 = y at *
                generalize hp3 : (s.ph == 1) = p3 at *
                replace N3s := Lib.hid N3s
                have xBS0 : W9.cell? ⟨g, 0, none⟩ = some (.int .i64 s.w.book) := one_at BS.out
                have xBS1 : W9.cell? ⟨g, 1, none⟩ = some (.int .i64 s.w.cust) := one_at BS.out
                have xBS2 : W9.cell? ⟨g, 2, none⟩ = some (.int .i64 s.w.dead) := one_at BS.out
                have xBS3 : W9.cell? ⟨g, 3, none⟩ = some (.int .i64 s.w.u0) := one_at BS.out
                have xBS4 : W9.cell? ⟨g, 4, none⟩ = some (.int .i64 s.w.u1) := one_at BS.out
                have xBS5 : W9.cell? ⟨g, 5, none⟩ = some (.int .i64 s.w.u2) := one_at BS.out
                have xBS6 : W9.cell? ⟨g, 6, none⟩ = some (.int .i64 s.w.price) := one_at BS.out
                have xBS7 : W9.cell? ⟨g, 7, none⟩ = some (.int .i64 s.ph) := one_at BS.out
                have xBS8 : W9.cell? ⟨g, 8, none⟩ = some (.int .i64 s.st) := one_at BS.out
                have xBS9 : W9.cell? ⟨g, 9, none⟩ = some (.int .i64 s.rs) := one_at BS.out
                have xBS10 : W9.cell? ⟨g, 10, none⟩ = some (.int .i64 s.si) := one_at BS.out
                have lBS : g < W9.heap.size := lt_some BS.out
                go_wp2_with fail
                refine (N3s.out _ (by assumption)).mono ?_
                rintro e w11 ⟨rfl, h⟩
                clear xBS0 xBS1 xBS2 xBS3 xBS4 xBS5 xBS6 xBS7 xBS8 xBS9 xBS10 lBS
                replace BS := Lib.hid ((h.block _ (lt_some BS.out)).trans BS.out)
                replace BA := Lib.hid ((h.block _ (lt_some BA.out)).trans BA.out)
                replace BT := Lib.hid ((h.block _ (lt_some BT.out)).trans BT.out)
                have k12 : Hid (Below g wb w11) := k10.out.trans (h.mono (Nat.le_of_lt (Nat.lt_of_lt_of_le gb.out k10.out.size)))
                clear h
                go_upto_region 44 with fail
                obtain ⟨W13, hW⟩ : ∃ ww, ww = w11.alloc (.cells #[.int .i64 y.w.book, .int .i64 y.w.cust, .int .i64 y.w.dead, .int .i64 y.w.u0, .int .i64 y.w.u1, .int .i64 y.w.u2, .int .i64 y.w.price, .int .i64 y.ph, .int .i64 y.st, .int .i64 y.rs, .int .i64 y.si] 26) := ⟨_, rfl⟩
                rw [← hW]
                have h : Below w11.heap.size w11 W13 := by rw [hW]; exact (Below.refl _ _).alloc (Nat.le_refl _) _
                have BY : Hid (W13.heap[w11.heap.size]? = some (.cells #[.int .i64 y.w.book, .int .i64 y.w.cust, .int .i64 y.w.dead, .int .i64 y.w.u0, .int .i64 y.w.u1, .int .i64 y.w.u2, .int .i64 y.w.price, .int .i64 y.ph, .int .i64 y.st, .int .i64 y.rs, .int .i64 y.si] 26 (0, 0))) := by rw [hW]; exact heap_alloc_new _ _
                clear hW
                replace BS := Lib.hid ((h.block _ (lt_some BS.out)).trans BS.out)
                replace BA := Lib.hid ((h.block _ (lt_some BA.out)).trans BA.out)
                replace BT := Lib.hid ((h.block _ (lt_some BT.out)).trans BT.out)
                have k14 : Hid (Below g wb W13) := k12.out.trans (h.mono (Nat.le_of_lt (Nat.lt_of_lt_of_le gb.out k12.out.size)))
                clear h
                have xBY0 : W13.cell? ⟨w11.heap.size, 0, none⟩ = some (.int .i64 y.w.book) := one_at BY.out
                have xBY1 : W13.cell? ⟨w11.heap.size, 1, none⟩ = some (.int .i64 y.w.cust) := one_at BY.out
                have xBY2 : W13.cell? ⟨w11.heap.size, 2, none⟩ = some (.int .i64 y.w.dead) := one_at BY.out
                have xBY3 : W13.cell? ⟨w11.heap.size, 3, none⟩ = some (.int .i64 y.w.u0) := one_at BY.out
                have xBY4 : W13.cell? ⟨w11.heap.size, 4, none⟩ = some (.int .i64 y.w.u1) := one_at BY.out
                have xBY5 : W13.cell? ⟨w11.heap.size, 5, none⟩ = some (.int .i64 y.w.u2) := one_at BY.out
                have xBY6 : W13.cell? ⟨w11.heap.size, 6, none⟩ = some (.int .i64 y.w.price) := one_at BY.out
                have xBY7 : W13.cell? ⟨w11.heap.size, 7, none⟩ = some (.int .i64 y.ph) := one_at BY.out
                have xBY8 : W13.cell? ⟨w11.heap.size, 8, none⟩ = some (.int .i64 y.st) := one_at BY.out
                have xBY9 : W13.cell? ⟨w11.heap.size, 9, none⟩ = some (.int .i64 y.rs) := one_at BY.out
                have xBY10 : W13.cell? ⟨w11.heap.size, 10, none⟩ = some (.int .i64 y.si) := one_at BY.out
                have lBY : w11.heap.size < W13.heap.size := lt_some BY.out
                have xBT0 : W13.cell? ⟨gw, 0, none⟩ = some (.int .i64 s.w.book) := one_at BT.out
                have xBT1 : W13.cell? ⟨gw, 1, none⟩ = some (.int .i64 s.w.cust) := one_at BT.out
                have xBT2 : W13.cell? ⟨gw, 2, none⟩ = some (.int .i64 s.w.dead) := one_at BT.out
                have xBT3 : W13.cell? ⟨gw, 3, none⟩ = some (.int .i64 s.w.u0) := one_at BT.out
                have xBT4 : W13.cell? ⟨gw, 4, none⟩ = some (.int .i64 s.w.u1) := one_at BT.out
                have xBT5 : W13.cell? ⟨gw, 5, none⟩ = some (.int .i64 s.w.u2) := one_at BT.out
                have xBT6 : W13.cell? ⟨gw, 6, none⟩ = some (.int .i64 s.w.price) := one_at BT.out
                have xBT7 : W13.cell? ⟨gw, 7, none⟩ = some (.int .i64 s.ph) := one_at BT.out
                have xBT8 : W13.cell? ⟨gw, 8, none⟩ = some (.int .i64 s.st) := one_at BT.out
                have xBT9 : W13.cell? ⟨gw, 9, none⟩ = some (.int .i64 s.rs) := one_at BT.out
                have xBT10 : W13.cell? ⟨gw, 10, none⟩ = some (.int .i64 s.si) := one_at BT.out
                have lBT : gw < W13.heap.size := lt_some BT.out
                go_wp2_with (refine wpList_store_row rfl 26 (.tmp 5) (.tmp 186) rfl g #[.int .i64 y.w.book, .int .i64 y.w.cust, .int .i64 y.w.dead, .int .i64 y.w.u0, .int .i64 y.w.u1, .int .i64 y.w.u2, .int .i64 y.w.price, .int .i64 y.ph, .int .i64 y.st, .int .i64 y.rs, .int .i64 y.si] rfl rfl 26 _ BS.out sag_size rfl (by simp [Value.oneCell']) ?_)
                clear xBY0 xBY1 xBY2 xBY3 xBY4 xBY5 xBY6 xBY7 xBY8 xBY9 xBY10 lBY xBT0 xBT1 xBT2 xBT3 xBT4 xBT5 xBT6 xBT7 xBT8 xBT9 xBT10 lBT
                obtain ⟨W15, hW⟩ : ∃ ww, ww = W13.setRow g #[.int .i64 y.w.book, .int .i64 y.w.cust, .int .i64 y.w.dead, .int .i64 y.w.u0, .int .i64 y.w.u1, .int .i64 y.w.u2, .int .i64 y.w.price, .int .i64 y.ph, .int .i64 y.st, .int .i64 y.rs, .int .i64 y.si] := ⟨_, rfl⟩
                rw [← hW]
                have CS : Hid (W15.heap[g]? = some (.cells #[.int .i64 y.w.book, .int .i64 y.w.cust, .int .i64 y.w.dead, .int .i64 y.w.u0, .int .i64 y.w.u1, .int .i64 y.w.u2, .int .i64 y.w.price, .int .i64 y.ph, .int .i64 y.st, .int .i64 y.rs, .int .i64 y.si] 26 (0, 0))) := by rw [hW]; exact setRow_heap _ _ _ _ _ _ BS.out
                replace BT : Hid (W15.heap[gw]? = some (.cells #[.int .i64 s.w.book, .int .i64 s.w.cust, .int .i64 s.w.dead, .int .i64 s.w.u0, .int .i64 s.w.u1, .int .i64 s.w.u2, .int .i64 s.w.price, .int .i64 s.ph, .int .i64 s.st, .int .i64 s.rs, .int .i64 s.si] 26 (0, 0))) := by rw [hW]; exact (setRow_other _ _ _ _ (by have := ogw.out; omega)).trans BT.out
                have k15 : Hid (Below g wb W15) := by rw [hW]; exact k14.out.trans (setRow_below _ (Nat.le_refl _))
                clear hW BS
                go_wp2_with fail
                go_meet
                case rel => exact ⟨y, nw, a, b, r, rfl, by have := hnum.out; omega, by have := hnum.out; omega, rfl, rfl, rfl, EN.out, by have := hnum.out; omega, by have := hnum.out; omega, by have := hnum.out; omega, by have := hnum.out; omega, NX.out, CS.out, BT.out, k15.out⟩
            have d3 : (o.kind == 3) = false := beq_eq_false_iff_ne.2 q3
            clear q3 N5s N2a N2b N2c N3s D2 R1 C1 Z1 hov hok EW ES
            as_aux_lemma =>
              obtain ⟨m, hm⟩ : ∃ m, m = usm o.n 10 := ⟨_, rfl⟩
              have m1 : m < 10 := by rw [hm]; exact usm_lt _ (by omega)
              have uz : wrap64 ((IntKind.u64.wrap o.n).tmod 10) = (m : Int) := by rw [hm]; exact usm_slot o.n (n := 10) (by omega) (by omega)
              replace hm := Lib.hid hm
              obtain ⟨nn, hnn⟩ : ∃ z : Int, z = nw + (m : Int) := ⟨_, rfl⟩
              have z0 : 0 ≤ nn := by omega
              have z1 : nn ≤ 10 * (k : Int) + 10 := by omega
              have z2 : nn ≤ 1099511627776 := by omega
              have hz : Hid (0 ≤ nn ∧ nn ≤ 10 * (k : Int) + 10) := ⟨z0, z1⟩
              have L2 := L1.out nn z0 z2
              have N4q := fun w' h => N4s.out w' h nn
              go_upto_region 17 with fail
              rw [uz, ← hnn]
              clear uz L1 N4s z0 z1 z2 hnn m1 n0 n1 e0 e1 la i2 i3
              generalize slate s nn = yy at *
              obtain ⟨y, p⟩ := yy
              simp only at N4q L2
              replace N4q := Lib.hid N4q
              rcases L2 with ⟨hp, hd, hn, hp2, NX, EN⟩ | ⟨hno, he⟩
              ·
                subst hp2
                have p1 : (s.ph == 1) = true := by rw [hp]; rfl
                replace EN := Lib.hid EN
                replace NX := Lib.hid NX
                clear hp
                have xBS0 : W9.cell? ⟨g, 0, none⟩ = some (.int .i64 s.w.book) := one_at BS.out
                have xBS1 : W9.cell? ⟨g, 1, none⟩ = some (.int .i64 s.w.cust) := one_at BS.out
                have xBS2 : W9.cell? ⟨g, 2, none⟩ = some (.int .i64 s.w.dead) := one_at BS.out
                have xBS3 : W9.cell? ⟨g, 3, none⟩ = some (.int .i64 s.w.u0) := one_at BS.out
                have xBS4 : W9.cell? ⟨g, 4, none⟩ = some (.int .i64 s.w.u1) := one_at BS.out
                have xBS5 : W9.cell? ⟨g, 5, none⟩ = some (.int .i64 s.w.u2) := one_at BS.out
                have xBS6 : W9.cell? ⟨g, 6, none⟩ = some (.int .i64 s.w.price) := one_at BS.out
                have xBS7 : W9.cell? ⟨g, 7, none⟩ = some (.int .i64 s.ph) := one_at BS.out
                have xBS8 : W9.cell? ⟨g, 8, none⟩ = some (.int .i64 s.st) := one_at BS.out
                have xBS9 : W9.cell? ⟨g, 9, none⟩ = some (.int .i64 s.rs) := one_at BS.out
                have xBS10 : W9.cell? ⟨g, 10, none⟩ = some (.int .i64 s.si) := one_at BS.out
                have lBS : g < W9.heap.size := lt_some BS.out
                go_wp2_with fail
                refine (N4q.out _ (by assumption)).mono ?_
                rintro e w11 ⟨rfl, h⟩
                clear xBS0 xBS1 xBS2 xBS3 xBS4 xBS5 xBS6 xBS7 xBS8 xBS9 xBS10 lBS
                replace BS := Lib.hid ((h.block _ (lt_some BS.out)).trans BS.out)
                replace BA := Lib.hid ((h.block _ (lt_some BA.out)).trans BA.out)
                replace BT := Lib.hid ((h.block _ (lt_some BT.out)).trans BT.out)
                have k12 : Hid (Below g wb w11) := k10.out.trans (h.mono (Nat.le_of_lt (Nat.lt_of_lt_of_le gb.out k10.out.size)))
                clear h
                go_upto_region 18 with fail
                obtain ⟨W13, hW⟩ : ∃ ww, ww = w11.alloc (.cells #[.int .i64 y.w.book, .int .i64 y.w.cust, .int .i64 y.w.dead, .int .i64 y.w.u0, .int .i64 y.w.u1, .int .i64 y.w.u2, .int .i64 y.w.price, .int .i64 y.ph, .int .i64 y.st, .int .i64 y.rs, .int .i64 y.si] 26) := ⟨_, rfl⟩
                rw [← hW]
                have h : Below w11.heap.size w11 W13 := by rw [hW]; exact (Below.refl _ _).alloc (Nat.le_refl _) _
                have BY : Hid (W13.heap[w11.heap.size]? = some (.cells #[.int .i64 y.w.book, .int .i64 y.w.cust, .int .i64 y.w.dead, .int .i64 y.w.u0, .int .i64 y.w.u1, .int .i64 y.w.u2, .int .i64 y.w.price, .int .i64 y.ph, .int .i64 y.st, .int .i64 y.rs, .int .i64 y.si] 26 (0, 0))) := by rw [hW]; exact heap_alloc_new _ _
                clear hW
                replace BS := Lib.hid ((h.block _ (lt_some BS.out)).trans BS.out)
                replace BA := Lib.hid ((h.block _ (lt_some BA.out)).trans BA.out)
                replace BT := Lib.hid ((h.block _ (lt_some BT.out)).trans BT.out)
                have k14 : Hid (Below g wb W13) := k12.out.trans (h.mono (Nat.le_of_lt (Nat.lt_of_lt_of_le gb.out k12.out.size)))
                clear h
                have xBY0 : W13.cell? ⟨w11.heap.size, 0, none⟩ = some (.int .i64 y.w.book) := one_at BY.out
                have xBY1 : W13.cell? ⟨w11.heap.size, 1, none⟩ = some (.int .i64 y.w.cust) := one_at BY.out
                have xBY2 : W13.cell? ⟨w11.heap.size, 2, none⟩ = some (.int .i64 y.w.dead) := one_at BY.out
                have xBY3 : W13.cell? ⟨w11.heap.size, 3, none⟩ = some (.int .i64 y.w.u0) := one_at BY.out
                have xBY4 : W13.cell? ⟨w11.heap.size, 4, none⟩ = some (.int .i64 y.w.u1) := one_at BY.out
                have xBY5 : W13.cell? ⟨w11.heap.size, 5, none⟩ = some (.int .i64 y.w.u2) := one_at BY.out
                have xBY6 : W13.cell? ⟨w11.heap.size, 6, none⟩ = some (.int .i64 y.w.price) := one_at BY.out
                have xBY7 : W13.cell? ⟨w11.heap.size, 7, none⟩ = some (.int .i64 y.ph) := one_at BY.out
                have xBY8 : W13.cell? ⟨w11.heap.size, 8, none⟩ = some (.int .i64 y.st) := one_at BY.out
                have xBY9 : W13.cell? ⟨w11.heap.size, 9, none⟩ = some (.int .i64 y.rs) := one_at BY.out
                have xBY10 : W13.cell? ⟨w11.heap.size, 10, none⟩ = some (.int .i64 y.si) := one_at BY.out
                have lBY : w11.heap.size < W13.heap.size := lt_some BY.out
                have xBT0 : W13.cell? ⟨gw, 0, none⟩ = some (.int .i64 s.w.book) := one_at BT.out
                have xBT1 : W13.cell? ⟨gw, 1, none⟩ = some (.int .i64 s.w.cust) := one_at BT.out
                have xBT2 : W13.cell? ⟨gw, 2, none⟩ = some (.int .i64 s.w.dead) := one_at BT.out
                have xBT3 : W13.cell? ⟨gw, 3, none⟩ = some (.int .i64 s.w.u0) := one_at BT.out
                have xBT4 : W13.cell? ⟨gw, 4, none⟩ = some (.int .i64 s.w.u1) := one_at BT.out
                have xBT5 : W13.cell? ⟨gw, 5, none⟩ = some (.int .i64 s.w.u2) := one_at BT.out
                have xBT6 : W13.cell? ⟨gw, 6, none⟩ = some (.int .i64 s.w.price) := one_at BT.out
                have xBT7 : W13.cell? ⟨gw, 7, none⟩ = some (.int .i64 s.ph) := one_at BT.out
                have xBT8 : W13.cell? ⟨gw, 8, none⟩ = some (.int .i64 s.st) := one_at BT.out
                have xBT9 : W13.cell? ⟨gw, 9, none⟩ = some (.int .i64 s.rs) := one_at BT.out
                have xBT10 : W13.cell? ⟨gw, 10, none⟩ = some (.int .i64 s.si) := one_at BT.out
                have lBT : gw < W13.heap.size := lt_some BT.out
                obtain ⟨y0_, y1_, y2_, y3_, y4_, y5_, y6_⟩ := (KW.out _ k14.out).cells
                have lBW : w.heap.size < W13.heap.size := (KW.out _ k14.out).lt
                go_wp2_with (refine wpList_store_row rfl 26 (.tmp 5) (.tmp 105) rfl g #[.int .i64 y.w.book, .int .i64 y.w.cust, .int .i64 y.w.dead, .int .i64 y.w.u0, .int .i64 y.w.u1, .int .i64 y.w.u2, .int .i64 y.w.price, .int .i64 y.ph, .int .i64 y.st, .int .i64 y.rs, .int .i64 y.si] rfl rfl 26 _ BS.out sag_size rfl (by simp [Value.oneCell']) ?_)
                clear xBY0 xBY1 xBY2 xBY3 xBY4 xBY5 xBY6 xBY7 xBY8 xBY9 xBY10 lBY xBT0 xBT1 xBT2 xBT3 xBT4 xBT5 xBT6 xBT7 xBT8 xBT9 xBT10 lBT y0_ y1_ y2_ y3_ y4_ y5_ y6_ lBW
                obtain ⟨W15, hW⟩ : ∃ ww, ww = W13.setRow g #[.int .i64 y.w.book, .int .i64 y.w.cust, .int .i64 y.w.dead, .int .i64 y.w.u0, .int .i64 y.w.u1, .int .i64 y.w.u2, .int .i64 y.w.price, .int .i64 y.ph, .int .i64 y.st, .int .i64 y.rs, .int .i64 y.si] := ⟨_, rfl⟩
                rw [← hW]
                have CS : Hid (W15.heap[g]? = some (.cells #[.int .i64 y.w.book, .int .i64 y.w.cust, .int .i64 y.w.dead, .int .i64 y.w.u0, .int .i64 y.w.u1, .int .i64 y.w.u2, .int .i64 y.w.price, .int .i64 y.ph, .int .i64 y.st, .int .i64 y.rs, .int .i64 y.si] 26 (0, 0))) := by rw [hW]; exact setRow_heap _ _ _ _ _ _ BS.out
                replace BT : Hid (W15.heap[gw]? = some (.cells #[.int .i64 s.w.book, .int .i64 s.w.cust, .int .i64 s.w.dead, .int .i64 s.w.u0, .int .i64 s.w.u1, .int .i64 s.w.u2, .int .i64 s.w.price, .int .i64 s.ph, .int .i64 s.st, .int .i64 s.rs, .int .i64 s.si] 26 (0, 0))) := by rw [hW]; exact (setRow_other _ _ _ _ (by have := ogw.out; omega)).trans BT.out
                have k15 : Hid (Below g wb W15) := by rw [hW]; exact k14.out.trans (setRow_below _ (Nat.le_refl _))
                clear hW BS
                go_wp2_with fail
                go_meet
                case rel => exact ⟨y, nn, a, b, r, rfl, by have := hz.out; omega, by have := hz.out; omega, rfl, rfl, rfl, EN.out, by have := hnum.out; omega, by have := hnum.out; omega, by have := hnum.out; omega, by have := hnum.out; omega, NX.out, CS.out, BT.out, k15.out⟩
              ·
                obtain ⟨he1, he2⟩ := Prod.mk.inj he
                have he3 := he1.symm
                clear he he1
                subst he3 he2
                have xBS0 : W9.cell? ⟨g, 0, none⟩ = some (.int .i64 s.w.book) := one_at BS.out
                have xBS1 : W9.cell? ⟨g, 1, none⟩ = some (.int .i64 s.w.cust) := one_at BS.out
                have xBS2 : W9.cell? ⟨g, 2, none⟩ = some (.int .i64 s.w.dead) := one_at BS.out
                have xBS3 : W9.cell? ⟨g, 3, none⟩ = some (.int .i64 s.w.u0) := one_at BS.out
                have xBS4 : W9.cell? ⟨g, 4, none⟩ = some (.int .i64 s.w.u1) := one_at BS.out
                have xBS5 : W9.cell? ⟨g, 5, none⟩ = some (.int .i64 s.w.u2) := one_at BS.out
                have xBS6 : W9.cell? ⟨g, 6, none⟩ = some (.int .i64 s.w.price) := one_at BS.out
                have xBS7 : W9.cell? ⟨g, 7, none⟩ = some (.int .i64 s.ph) := one_at BS.out
                have xBS8 : W9.cell? ⟨g, 8, none⟩ = some (.int .i64 s.st) := one_at BS.out
                have xBS9 : W9.cell? ⟨g, 9, none⟩ = some (.int .i64 s.rs) := one_at BS.out
                have xBS10 : W9.cell? ⟨g, 10, none⟩ = some (.int .i64 s.si) := one_at BS.out
                have lBS : g < W9.heap.size := lt_some BS.out
                go_wp2_with fail
                refine (N4q.out _ (by assumption)).mono ?_
                rintro e w11 ⟨rfl, h⟩
                clear xBS0 xBS1 xBS2 xBS3 xBS4 xBS5 xBS6 xBS7 xBS8 xBS9 xBS10 lBS
                replace BS := Lib.hid ((h.block _ (lt_some BS.out)).trans BS.out)
                replace BA := Lib.hid ((h.block _ (lt_some BA.out)).trans BA.out)
                replace BT := Lib.hid ((h.block _ (lt_some BT.out)).trans BT.out)
                have k12 : Hid (Below g wb w11) := k10.out.trans (h.mono (Nat.le_of_lt (Nat.lt_of_lt_of_le gb.out k10.out.size)))
                clear h
                go_upto_region 18 with fail
                obtain ⟨W13, hW⟩ : ∃ ww, ww = w11.alloc (.cells #[.int .i64 s.w.book, .int .i64 s.w.cust, .int .i64 s.w.dead, .int .i64 s.w.u0, .int .i64 s.w.u1, .int .i64 s.w.u2, .int .i64 s.w.price, .int .i64 s.ph, .int .i64 s.st, .int .i64 s.rs, .int .i64 s.si] 26) := ⟨_, rfl⟩
                rw [← hW]
                have h : Below w11.heap.size w11 W13 := by rw [hW]; exact (Below.refl _ _).alloc (Nat.le_refl _) _
                have BY : Hid (W13.heap[w11.heap.size]? = some (.cells #[.int .i64 s.w.book, .int .i64 s.w.cust, .int .i64 s.w.dead, .int .i64 s.w.u0, .int .i64 s.w.u1, .int .i64 s.w.u2, .int .i64 s.w.price, .int .i64 s.ph, .int .i64 s.st, .int .i64 s.rs, .int .i64 s.si] 26 (0, 0))) := by rw [hW]; exact heap_alloc_new _ _
                clear hW
                replace BS := Lib.hid ((h.block _ (lt_some BS.out)).trans BS.out)
                replace BA := Lib.hid ((h.block _ (lt_some BA.out)).trans BA.out)
                replace BT := Lib.hid ((h.block _ (lt_some BT.out)).trans BT.out)
                have k14 : Hid (Below g wb W13) := k12.out.trans (h.mono (Nat.le_of_lt (Nat.lt_of_lt_of_le gb.out k12.out.size)))
                clear h
                have xBY0 : W13.cell? ⟨w11.heap.size, 0, none⟩ = some (.int .i64 s.w.book) := one_at BY.out
                have xBY1 : W13.cell? ⟨w11.heap.size, 1, none⟩ = some (.int .i64 s.w.cust) := one_at BY.out
                have xBY2 : W13.cell? ⟨w11.heap.size, 2, none⟩ = some (.int .i64 s.w.dead) := one_at BY.out
                have xBY3 : W13.cell? ⟨w11.heap.size, 3, none⟩ = some (.int .i64 s.w.u0) := one_at BY.out
                have xBY4 : W13.cell? ⟨w11.heap.size, 4, none⟩ = some (.int .i64 s.w.u1) := one_at BY.out
                have xBY5 : W13.cell? ⟨w11.heap.size, 5, none⟩ = some (.int .i64 s.w.u2) := one_at BY.out
                have xBY6 : W13.cell? ⟨w11.heap.size, 6, none⟩ = some (.int .i64 s.w.price) := one_at BY.out
                have xBY7 : W13.cell? ⟨w11.heap.size, 7, none⟩ = some (.int .i64 s.ph) := one_at BY.out
                have xBY8 : W13.cell? ⟨w11.heap.size, 8, none⟩ = some (.int .i64 s.st) := one_at BY.out
                have xBY9 : W13.cell? ⟨w11.heap.size, 9, none⟩ = some (.int .i64 s.rs) := one_at BY.out
                have xBY10 : W13.cell? ⟨w11.heap.size, 10, none⟩ = some (.int .i64 s.si) := one_at BY.out
                have lBY : w11.heap.size < W13.heap.size := lt_some BY.out
                have xBT0 : W13.cell? ⟨gw, 0, none⟩ = some (.int .i64 s.w.book) := one_at BT.out
                have xBT1 : W13.cell? ⟨gw, 1, none⟩ = some (.int .i64 s.w.cust) := one_at BT.out
                have xBT2 : W13.cell? ⟨gw, 2, none⟩ = some (.int .i64 s.w.dead) := one_at BT.out
                have xBT3 : W13.cell? ⟨gw, 3, none⟩ = some (.int .i64 s.w.u0) := one_at BT.out
                have xBT4 : W13.cell? ⟨gw, 4, none⟩ = some (.int .i64 s.w.u1) := one_at BT.out
                have xBT5 : W13.cell? ⟨gw, 5, none⟩ = some (.int .i64 s.w.u2) := one_at BT.out
                have xBT6 : W13.cell? ⟨gw, 6, none⟩ = some (.int .i64 s.w.price) := one_at BT.out
                have xBT7 : W13.cell? ⟨gw, 7, none⟩ = some (.int .i64 s.ph) := one_at BT.out
                have xBT8 : W13.cell? ⟨gw, 8, none⟩ = some (.int .i64 s.st) := one_at BT.out
                have xBT9 : W13.cell? ⟨gw, 9, none⟩ = some (.int .i64 s.rs) := one_at BT.out
                have xBT10 : W13.cell? ⟨gw, 10, none⟩ = some (.int .i64 s.si) := one_at BT.out
                have lBT : gw < W13.heap.size := lt_some BT.out
                obtain ⟨y0_, y1_, y2_, y3_, y4_, y5_, y6_⟩ := (KW.out _ k14.out).cells
                have lBW : w.heap.size < W13.heap.size := (KW.out _ k14.out).lt
                by_cases hp : s.ph = 1
                case neg =>
                  have p1 : (s.ph == 1) = false := beq_eq_false_iff_ne.2 hp
                  clear hp hno
                  go_wp2_with (refine wpList_store_row rfl 26 (.tmp 5) (.tmp 105) rfl g #[.int .i64 s.w.book, .int .i64 s.w.cust, .int .i64 s.w.dead, .int .i64 s.w.u0, .int .i64 s.w.u1, .int .i64 s.w.u2, .int .i64 s.w.price, .int .i64 s.ph, .int .i64 s.st, .int .i64 s.rs, .int .i64 s.si] rfl rfl 26 _ BS.out sag_size rfl (by simp [Value.oneCell']) ?_)
                  clear xBY0 xBY1 xBY2 xBY3 xBY4 xBY5 xBY6 xBY7 xBY8 xBY9 xBY10 lBY xBT0 xBT1 xBT2 xBT3 xBT4 xBT5 xBT6 xBT7 xBT8 xBT9 xBT10 lBT y0_ y1_ y2_ y3_ y4_ y5_ y6_ lBW
                  obtain ⟨W15, hW⟩ : ∃ ww, ww = W13.setRow g #[.int .i64 s.w.book, .int .i64 s.w.cust, .int .i64 s.w.dead, .int .i64 s.w.u0, .int .i64 s.w.u1, .int .i64 s.w.u2, .int .i64 s.w.price, .int .i64 s.ph, .int .i64 s.st, .int .i64 s.rs, .int .i64 s.si] := ⟨_, rfl⟩
                  rw [← hW]
                  have CS : Hid (W15.heap[g]? = some (.cells #[.int .i64 s.w.book, .int .i64 s.w.cust, .int .i64 s.w.dead, .int .i64 s.w.u0, .int .i64 s.w.u1, .int .i64 s.w.u2, .int .i64 s.w.price, .int .i64 s.ph, .int .i64 s.st, .int .i64 s.rs, .int .i64 s.si] 26 (0, 0))) := by rw [hW]; exact setRow_heap _ _ _ _ _ _ BS.out
                  replace BT : Hid (W15.heap[gw]? = some (.cells #[.int .i64 s.w.book, .int .i64 s.w.cust, .int .i64 s.w.dead, .int .i64 s.w.u0, .int .i64 s.w.u1, .int .i64 s.w.u2, .int .i64 s.w.price, .int .i64 s.ph, .int .i64 s.st, .int .i64 s.rs, .int .i64 s.si] 26 (0, 0))) := by rw [hW]; exact (setRow_other _ _ _ _ (by have := ogw.out; omega)).trans BT.out
                  have k15 : Hid (Below g wb W15) := by rw [hW]; exact k14.out.trans (setRow_below _ (Nat.le_refl _))
                  clear hW BS
                  go_wp2_with fail
                  go_meet
                  case rel => exact ⟨s, nn, a, b, r, rfl, by have := hz.out; omega, by have := hz.out; omega, rfl, rfl, rfl, hE.out, by have := hnum.out; omega, by have := hnum.out; omega, by have := hnum.out; omega, by have := hnum.out; omega, (Nx.refl _), CS.out, BT.out, k15.out⟩
                have p1 : (s.ph == 1) = true := by rw [hp]; rfl
                by_cases hd : 0 < x.dead
                case neg =>
                  clear hp hno
                  go_wp2_with (refine wpList_store_row rfl 26 (.tmp 5) (.tmp 105) rfl g #[.int .i64 s.w.book, .int .i64 s.w.cust, .int .i64 s.w.dead, .int .i64 s.w.u0, .int .i64 s.w.u1, .int .i64 s.w.u2, .int .i64 s.w.price, .int .i64 s.ph, .int .i64 s.st, .int .i64 s.rs, .int .i64 s.si] rfl rfl 26 _ BS.out sag_size rfl (by simp [Value.oneCell']) ?_)
                  clear xBY0 xBY1 xBY2 xBY3 xBY4 xBY5 xBY6 xBY7 xBY8 xBY9 xBY10 lBY xBT0 xBT1 xBT2 xBT3 xBT4 xBT5 xBT6 xBT7 xBT8 xBT9 xBT10 lBT y0_ y1_ y2_ y3_ y4_ y5_ y6_ lBW
                  obtain ⟨W15, hW⟩ : ∃ ww, ww = W13.setRow g #[.int .i64 s.w.book, .int .i64 s.w.cust, .int .i64 s.w.dead, .int .i64 s.w.u0, .int .i64 s.w.u1, .int .i64 s.w.u2, .int .i64 s.w.price, .int .i64 s.ph, .int .i64 s.st, .int .i64 s.rs, .int .i64 s.si] := ⟨_, rfl⟩
                  rw [← hW]
                  have CS : Hid (W15.heap[g]? = some (.cells #[.int .i64 s.w.book, .int .i64 s.w.cust, .int .i64 s.w.dead, .int .i64 s.w.u0, .int .i64 s.w.u1, .int .i64 s.w.u2, .int .i64 s.w.price, .int .i64 s.ph, .int .i64 s.st, .int .i64 s.rs, .int .i64 s.si] 26 (0, 0))) := by rw [hW]; exact setRow_heap _ _ _ _ _ _ BS.out
                  replace BT : Hid (W15.heap[gw]? = some (.cells #[.int .i64 s.w.book, .int .i64 s.w.cust, .int .i64 s.w.dead, .int .i64 s.w.u0, .int .i64 s.w.u1, .int .i64 s.w.u2, .int .i64 s.w.price, .int .i64 s.ph, .int .i64 s.st, .int .i64 s.rs, .int .i64 s.si] 26 (0, 0))) := by rw [hW]; exact (setRow_other _ _ _ _ (by have := ogw.out; omega)).trans BT.out
                  have k15 : Hid (Below g wb W15) := by rw [hW]; exact k14.out.trans (setRow_below _ (Nat.le_refl _))
                  clear hW BS
                  go_wp2_with fail
                  go_meet
                  case rel => exact ⟨s, nn, a, b, r, rfl, by have := hz.out; omega, by have := hz.out; omega, rfl, rfl, rfl, hE.out, by have := hnum.out; omega, by have := hnum.out; omega, by have := hnum.out; omega, by have := hnum.out; omega, (Nx.refl _), CS.out, BT.out, k15.out⟩
                have hn : ¬ x.dead ≤ nn := fun h => hno ⟨hp, hd, h⟩
                clear hp hno
                go_wp2_with (refine wpList_store_row rfl 26 (.tmp 5) (.tmp 105) rfl g #[.int .i64 s.w.book, .int .i64 s.w.cust, .int .i64 s.w.dead, .int .i64 s.w.u0, .int .i64 s.w.u1, .int .i64 s.w.u2, .int .i64 s.w.price, .int .i64 s.ph, .int .i64 s.st, .int .i64 s.rs, .int .i64 s.si] rfl rfl 26 _ BS.out sag_size rfl (by simp [Value.oneCell']) ?_)
                clear xBY0 xBY1 xBY2 xBY3 xBY4 xBY5 xBY6 xBY7 xBY8 xBY9 xBY10 lBY xBT0 xBT1 xBT2 xBT3 xBT4 xBT5 xBT6 xBT7 xBT8 xBT9 xBT10 lBT y0_ y1_ y2_ y3_ y4_ y5_ y6_ lBW
                obtain ⟨W15, hW⟩ : ∃ ww, ww = W13.setRow g #[.int .i64 s.w.book, .int .i64 s.w.cust, .int .i64 s.w.dead, .int .i64 s.w.u0, .int .i64 s.w.u1, .int .i64 s.w.u2, .int .i64 s.w.price, .int .i64 s.ph, .int .i64 s.st, .int .i64 s.rs, .int .i64 s.si] := ⟨_, rfl⟩
                rw [← hW]
                have CS : Hid (W15.heap[g]? = some (.cells #[.int .i64 s.w.book, .int .i64 s.w.cust, .int .i64 s.w.dead, .int .i64 s.w.u0, .int .i64 s.w.u1, .int .i64 s.w.u2, .int .i64 s.w.price, .int .i64 s.ph, .int .i64 s.st, .int .i64 s.rs, .int .i64 s.si] 26 (0, 0))) := by rw [hW]; exact setRow_heap _ _ _ _ _ _ BS.out
                replace BT : Hid (W15.heap[gw]? = some (.cells #[.int .i64 s.w.book, .int .i64 s.w.cust, .int .i64 s.w.dead, .int .i64 s.w.u0, .int .i64 s.w.u1, .int .i64 s.w.u2, .int .i64 s.w.price, .int .i64 s.ph, .int .i64 s.st, .int .i64 s.rs, .int .i64 s.si] 26 (0, 0))) := by rw [hW]; exact (setRow_other _ _ _ _ (by have := ogw.out; omega)).trans BT.out
                have k15 : Hid (Below g wb W15) := by rw [hW]; exact k14.out.trans (setRow_below _ (Nat.le_refl _))
                clear hW BS
                go_wp2_with fail
                go_meet
                case rel => exact ⟨s, nn, a, b, r, rfl, by have := hz.out; omega, by have := hz.out; omega, rfl, rfl, rfl, hE.out, by have := hnum.out; omega, by have := hnum.out; omega, by have := hnum.out; omega, by have := hnum.out; omega, (Nx.refl _), CS.out, BT.out, k15.out⟩
          case rest =>
            clear D2 R1 C1 L1 Z1 N2a N2b N2c N3s N4s BS BA BT hok BK e0 e1 la
            obtain ⟨t, n2, a2, b2, r2, rfl, m0, m1, rfl, rfl, rfl, hE2, c0, c1, c2, c3, NX, CS, CT, kc0⟩ := hcut
            have kc : Hid (Below g wb wc) := kc0
            have BS : Hid (wc.heap[g]? = some (.cells #[.int .i64 t.w.book, .int .i64 t.w.cust, .int .i64 t.w.dead, .int .i64 t.w.u0, .int .i64 t.w.u1, .int .i64 t.w.u2, .int .i64 t.w.price, .int .i64 t.ph, .int .i64 t.st, .int .i64 t.rs, .int .i64 t.si] 26 (0, 0))) := CS
            have BT : Hid (wc.heap[gw]? = some (.cells #[.int .i64 s.w.book, .int .i64 s.w.cust, .int .i64 s.w.dead, .int .i64 s.w.u0, .int .i64 s.w.u1, .int .i64 s.w.u2, .int .i64 s.w.price, .int .i64 s.ph, .int .i64 s.st, .int .i64 s.rs, .int .i64 s.si] 26 (0, 0))) := CT
            have hm2 : Hid ((0 ≤ n2 ∧ n2 ≤ 10 * (k : Int) + 10) ∧ 0 ≤ a2 ∧ a2 ≤ (k : Int) + 1 ∧ 0 ≤ b2 ∧ b2 ≤ (k : Int) + 1) := ⟨⟨m0, m1⟩, c0, c1, c2, c3⟩
            clear kc0 CS CT m0 m1 c0 c1 c2 c3 n0 n1 a0 a1 b0 b1 hk60
            have htw := hE2.w
            have hts : t.si = 0 := hE2.si
            have hE3 := Lib.hid hE2
            clear hE2
            have hph : s.ph = 1 ∨ s.ph = 2 ∨ s.ph = 3 ∨ s.ph = 4 ∨ s.ph = 5 := by obtain ⟨-, -, h⟩ := smay_true hE.out.may; omega
            have EWt : ∀ w' : World, (Op.equalIn 10000 24 (.agg #[.int .i64 t.w.book, .int .i64 t.w.cust, .int .i64 t.w.dead, .int .i64 t.w.u0, .int .i64 t.w.u1, .int .i64 t.w.u2, .int .i64 t.w.price]) (.agg #[.int .i64 x.book, .int .i64 x.cust, .int .i64 x.dead, .int .i64 x.u0, .int .i64 x.u1, .int .i64 x.u2, .int .i64 x.price])).run Tryd.prog w' = .ok true w' := fun w' => by have := eq_wan10 w' t.w x; rw [decide_eq_true htw] at this; exact this
            replace EWt := Lib.hid EWt
            replace hts := Lib.hid hts
            replace NX := Lib.hid NX
            clear htw EW
            rcases hph with hp | hp | hp | hp | hp
            ·
              as_aux_lemma =>
                have ov1 : ov = false := by rw [← hov.out]; unfold sover; rw [hE.out.may, hp]; rfl
                subst ov1
                have p2 : (s.ph == 2) = false := by rw [hp]; rfl
                have p3 : (s.ph == 3) = false := by rw [hp]; rfl
                clear ES hp hov NX
                have xBS0 : wc.cell? ⟨g, 0, none⟩ = some (.int .i64 t.w.book) := one_at BS.out
                have xBS1 : wc.cell? ⟨g, 1, none⟩ = some (.int .i64 t.w.cust) := one_at BS.out
                have xBS2 : wc.cell? ⟨g, 2, none⟩ = some (.int .i64 t.w.dead) := one_at BS.out
                have xBS3 : wc.cell? ⟨g, 3, none⟩ = some (.int .i64 t.w.u0) := one_at BS.out
                have xBS4 : wc.cell? ⟨g, 4, none⟩ = some (.int .i64 t.w.u1) := one_at BS.out
                have xBS5 : wc.cell? ⟨g, 5, none⟩ = some (.int .i64 t.w.u2) := one_at BS.out
                have xBS6 : wc.cell? ⟨g, 6, none⟩ = some (.int .i64 t.w.price) := one_at BS.out
                have xBS7 : wc.cell? ⟨g, 7, none⟩ = some (.int .i64 t.ph) := one_at BS.out
                have xBS8 : wc.cell? ⟨g, 8, none⟩ = some (.int .i64 t.st) := one_at BS.out
                have xBS9 : wc.cell? ⟨g, 9, none⟩ = some (.int .i64 t.rs) := one_at BS.out
                have xBS10 : wc.cell? ⟨g, 10, none⟩ = some (.int .i64 t.si) := one_at BS.out
                have lBS : g < wc.heap.size := lt_some BS.out
                have xBT0 : wc.cell? ⟨gw, 0, none⟩ = some (.int .i64 s.w.book) := one_at BT.out
                have xBT1 : wc.cell? ⟨gw, 1, none⟩ = some (.int .i64 s.w.cust) := one_at BT.out
                have xBT2 : wc.cell? ⟨gw, 2, none⟩ = some (.int .i64 s.w.dead) := one_at BT.out
                have xBT3 : wc.cell? ⟨gw, 3, none⟩ = some (.int .i64 s.w.u0) := one_at BT.out
                have xBT4 : wc.cell? ⟨gw, 4, none⟩ = some (.int .i64 s.w.u1) := one_at BT.out
                have xBT5 : wc.cell? ⟨gw, 5, none⟩ = some (.int .i64 s.w.u2) := one_at BT.out
                have xBT6 : wc.cell? ⟨gw, 6, none⟩ = some (.int .i64 s.w.price) := one_at BT.out
                have xBT7 : wc.cell? ⟨gw, 7, none⟩ = some (.int .i64 s.ph) := one_at BT.out
                have xBT8 : wc.cell? ⟨gw, 8, none⟩ = some (.int .i64 s.st) := one_at BT.out
                have xBT9 : wc.cell? ⟨gw, 9, none⟩ = some (.int .i64 s.rs) := one_at BT.out
                have xBT10 : wc.cell? ⟨gw, 10, none⟩ = some (.int .i64 s.si) := one_at BT.out
                have lBT : gw < wc.heap.size := lt_some BT.out
                obtain ⟨y0_, y1_, y2_, y3_, y4_, y5_, y6_⟩ := (KW.out _ kc.out).cells
                have lBW : w.heap.size < wc.heap.size := (KW.out _ kc.out).lt
                replace EWt := EWt.out
                replace hts := hts.out
                go_wp2_with fail
                refine (N5s.out _ (by assumption)).mono ?_
                rintro e w1 ⟨rfl, h⟩
                clear xBS0 xBS1 xBS2 xBS3 xBS4 xBS5 xBS6 xBS7 xBS8 xBS9 xBS10 lBS xBT0 xBT1 xBT2 xBT3 xBT4 xBT5 xBT6 xBT7 xBT8 xBT9 xBT10 lBT y0_ y1_ y2_ y3_ y4_ y5_ y6_ lBW
                replace BS := Lib.hid ((h.block _ (lt_some BS.out)).trans BS.out)
                replace BT := Lib.hid ((h.block _ (lt_some BT.out)).trans BT.out)
                have k2 : Hid (Below g wb w1) := kc.out.trans (h.mono (Nat.le_of_lt (Nat.lt_of_lt_of_le gb.out kc.out.size)))
                clear h
                have xBS0 : w1.cell? ⟨g, 0, none⟩ = some (.int .i64 t.w.book) := one_at BS.out
                have xBS1 : w1.cell? ⟨g, 1, none⟩ = some (.int .i64 t.w.cust) := one_at BS.out
                have xBS2 : w1.cell? ⟨g, 2, none⟩ = some (.int .i64 t.w.dead) := one_at BS.out
                have xBS3 : w1.cell? ⟨g, 3, none⟩ = some (.int .i64 t.w.u0) := one_at BS.out
                have xBS4 : w1.cell? ⟨g, 4, none⟩ = some (.int .i64 t.w.u1) := one_at BS.out
                have xBS5 : w1.cell? ⟨g, 5, none⟩ = some (.int .i64 t.w.u2) := one_at BS.out
                have xBS6 : w1.cell? ⟨g, 6, none⟩ = some (.int .i64 t.w.price) := one_at BS.out
                have xBS7 : w1.cell? ⟨g, 7, none⟩ = some (.int .i64 t.ph) := one_at BS.out
                have xBS8 : w1.cell? ⟨g, 8, none⟩ = some (.int .i64 t.st) := one_at BS.out
                have xBS9 : w1.cell? ⟨g, 9, none⟩ = some (.int .i64 t.rs) := one_at BS.out
                have xBS10 : w1.cell? ⟨g, 10, none⟩ = some (.int .i64 t.si) := one_at BS.out
                have lBS : g < w1.heap.size := lt_some BS.out
                have xBT0 : w1.cell? ⟨gw, 0, none⟩ = some (.int .i64 s.w.book) := one_at BT.out
                have xBT1 : w1.cell? ⟨gw, 1, none⟩ = some (.int .i64 s.w.cust) := one_at BT.out
                have xBT2 : w1.cell? ⟨gw, 2, none⟩ = some (.int .i64 s.w.dead) := one_at BT.out
                have xBT3 : w1.cell? ⟨gw, 3, none⟩ = some (.int .i64 s.w.u0) := one_at BT.out
                have xBT4 : w1.cell? ⟨gw, 4, none⟩ = some (.int .i64 s.w.u1) := one_at BT.out
                have xBT5 : w1.cell? ⟨gw, 5, none⟩ = some (.int .i64 s.w.u2) := one_at BT.out
                have xBT6 : w1.cell? ⟨gw, 6, none⟩ = some (.int .i64 s.w.price) := one_at BT.out
                have xBT7 : w1.cell? ⟨gw, 7, none⟩ = some (.int .i64 s.ph) := one_at BT.out
                have xBT8 : w1.cell? ⟨gw, 8, none⟩ = some (.int .i64 s.st) := one_at BT.out
                have xBT9 : w1.cell? ⟨gw, 9, none⟩ = some (.int .i64 s.rs) := one_at BT.out
                have xBT10 : w1.cell? ⟨gw, 10, none⟩ = some (.int .i64 s.si) := one_at BT.out
                have lBT : gw < w1.heap.size := lt_some BT.out
                go_wp2_with fail
                go_roundw
                case rel => exact ⟨k + 1, t, n2, a2, b2, r2, by simp, by have := i0.out; omega, rfl, by have := hm2.out; omega, by have := hm2.out; omega, rfl, rfl, rfl, hE3.out, by have := hm2.out; omega, by have := hm2.out; omega, by have := hm2.out; omega, by have := hm2.out; omega, BS.out, k2.out⟩
                case measure => simp [intOf]; have := i0.out; omega
            ·
              as_aux_lemma =>
                have ov1 : ov = false := by rw [← hov.out]; unfold sover; rw [hE.out.may, hp]; rfl
                subst ov1
                have p2 : (s.ph == 2) = true := by rw [hp]; rfl
                have p3 : (s.ph == 3) = false := by rw [hp]; rfl
                have hq := NX.out.com hp
                clear ES hp hov NX
                rcases hq with hq | hq
                ·
                  have q2 : (t.ph == 2) = true := by rw [hq]; rfl
                  have q4 : (t.ph == 4) = false := by rw [hq]; rfl
                  have q5 : (t.ph != 2) = false := by simp [bne, q2]
                  have q6 : (t.ph != 4) = true := by simp [bne, q4]
                  clear hq
                  have xBS0 : wc.cell? ⟨g, 0, none⟩ = some (.int .i64 t.w.book) := one_at BS.out
                  have xBS1 : wc.cell? ⟨g, 1, none⟩ = some (.int .i64 t.w.cust) := one_at BS.out
                  have xBS2 : wc.cell? ⟨g, 2, none⟩ = some (.int .i64 t.w.dead) := one_at BS.out
                  have xBS3 : wc.cell? ⟨g, 3, none⟩ = some (.int .i64 t.w.u0) := one_at BS.out
                  have xBS4 : wc.cell? ⟨g, 4, none⟩ = some (.int .i64 t.w.u1) := one_at BS.out
                  have xBS5 : wc.cell? ⟨g, 5, none⟩ = some (.int .i64 t.w.u2) := one_at BS.out
                  have xBS6 : wc.cell? ⟨g, 6, none⟩ = some (.int .i64 t.w.price) := one_at BS.out
                  have xBS7 : wc.cell? ⟨g, 7, none⟩ = some (.int .i64 t.ph) := one_at BS.out
                  have xBS8 : wc.cell? ⟨g, 8, none⟩ = some (.int .i64 t.st) := one_at BS.out
                  have xBS9 : wc.cell? ⟨g, 9, none⟩ = some (.int .i64 t.rs) := one_at BS.out
                  have xBS10 : wc.cell? ⟨g, 10, none⟩ = some (.int .i64 t.si) := one_at BS.out
                  have lBS : g < wc.heap.size := lt_some BS.out
                  have xBT0 : wc.cell? ⟨gw, 0, none⟩ = some (.int .i64 s.w.book) := one_at BT.out
                  have xBT1 : wc.cell? ⟨gw, 1, none⟩ = some (.int .i64 s.w.cust) := one_at BT.out
                  have xBT2 : wc.cell? ⟨gw, 2, none⟩ = some (.int .i64 s.w.dead) := one_at BT.out
                  have xBT3 : wc.cell? ⟨gw, 3, none⟩ = some (.int .i64 s.w.u0) := one_at BT.out
                  have xBT4 : wc.cell? ⟨gw, 4, none⟩ = some (.int .i64 s.w.u1) := one_at BT.out
                  have xBT5 : wc.cell? ⟨gw, 5, none⟩ = some (.int .i64 s.w.u2) := one_at BT.out
                  have xBT6 : wc.cell? ⟨gw, 6, none⟩ = some (.int .i64 s.w.price) := one_at BT.out
                  have xBT7 : wc.cell? ⟨gw, 7, none⟩ = some (.int .i64 s.ph) := one_at BT.out
                  have xBT8 : wc.cell? ⟨gw, 8, none⟩ = some (.int .i64 s.st) := one_at BT.out
                  have xBT9 : wc.cell? ⟨gw, 9, none⟩ = some (.int .i64 s.rs) := one_at BT.out
                  have xBT10 : wc.cell? ⟨gw, 10, none⟩ = some (.int .i64 s.si) := one_at BT.out
                  have lBT : gw < wc.heap.size := lt_some BT.out
                  obtain ⟨y0_, y1_, y2_, y3_, y4_, y5_, y6_⟩ := (KW.out _ kc.out).cells
                  have lBW : w.heap.size < wc.heap.size := (KW.out _ kc.out).lt
                  replace EWt := EWt.out
                  replace hts := hts.out
                  go_wp2_with fail
                  refine (N5s.out _ (by assumption)).mono ?_
                  rintro e w1 ⟨rfl, h⟩
                  clear xBS0 xBS1 xBS2 xBS3 xBS4 xBS5 xBS6 xBS7 xBS8 xBS9 xBS10 lBS xBT0 xBT1 xBT2 xBT3 xBT4 xBT5 xBT6 xBT7 xBT8 xBT9 xBT10 lBT y0_ y1_ y2_ y3_ y4_ y5_ y6_ lBW
                  replace BS := Lib.hid ((h.block _ (lt_some BS.out)).trans BS.out)
                  replace BT := Lib.hid ((h.block _ (lt_some BT.out)).trans BT.out)
                  have k2 : Hid (Below g wb w1) := kc.out.trans (h.mono (Nat.le_of_lt (Nat.lt_of_lt_of_le gb.out kc.out.size)))
                  clear h
                  have xBS0 : w1.cell? ⟨g, 0, none⟩ = some (.int .i64 t.w.book) := one_at BS.out
                  have xBS1 : w1.cell? ⟨g, 1, none⟩ = some (.int .i64 t.w.cust) := one_at BS.out
                  have xBS2 : w1.cell? ⟨g, 2, none⟩ = some (.int .i64 t.w.dead) := one_at BS.out
                  have xBS3 : w1.cell? ⟨g, 3, none⟩ = some (.int .i64 t.w.u0) := one_at BS.out
                  have xBS4 : w1.cell? ⟨g, 4, none⟩ = some (.int .i64 t.w.u1) := one_at BS.out
                  have xBS5 : w1.cell? ⟨g, 5, none⟩ = some (.int .i64 t.w.u2) := one_at BS.out
                  have xBS6 : w1.cell? ⟨g, 6, none⟩ = some (.int .i64 t.w.price) := one_at BS.out
                  have xBS7 : w1.cell? ⟨g, 7, none⟩ = some (.int .i64 t.ph) := one_at BS.out
                  have xBS8 : w1.cell? ⟨g, 8, none⟩ = some (.int .i64 t.st) := one_at BS.out
                  have xBS9 : w1.cell? ⟨g, 9, none⟩ = some (.int .i64 t.rs) := one_at BS.out
                  have xBS10 : w1.cell? ⟨g, 10, none⟩ = some (.int .i64 t.si) := one_at BS.out
                  have lBS : g < w1.heap.size := lt_some BS.out
                  have xBT0 : w1.cell? ⟨gw, 0, none⟩ = some (.int .i64 s.w.book) := one_at BT.out
                  have xBT1 : w1.cell? ⟨gw, 1, none⟩ = some (.int .i64 s.w.cust) := one_at BT.out
                  have xBT2 : w1.cell? ⟨gw, 2, none⟩ = some (.int .i64 s.w.dead) := one_at BT.out
                  have xBT3 : w1.cell? ⟨gw, 3, none⟩ = some (.int .i64 s.w.u0) := one_at BT.out
                  have xBT4 : w1.cell? ⟨gw, 4, none⟩ = some (.int .i64 s.w.u1) := one_at BT.out
                  have xBT5 : w1.cell? ⟨gw, 5, none⟩ = some (.int .i64 s.w.u2) := one_at BT.out
                  have xBT6 : w1.cell? ⟨gw, 6, none⟩ = some (.int .i64 s.w.price) := one_at BT.out
                  have xBT7 : w1.cell? ⟨gw, 7, none⟩ = some (.int .i64 s.ph) := one_at BT.out
                  have xBT8 : w1.cell? ⟨gw, 8, none⟩ = some (.int .i64 s.st) := one_at BT.out
                  have xBT9 : w1.cell? ⟨gw, 9, none⟩ = some (.int .i64 s.rs) := one_at BT.out
                  have xBT10 : w1.cell? ⟨gw, 10, none⟩ = some (.int .i64 s.si) := one_at BT.out
                  have lBT : gw < w1.heap.size := lt_some BT.out
                  go_wp2_with fail
                  go_roundw
                  case rel => exact ⟨k + 1, t, n2, a2, b2, r2, by simp, by have := i0.out; omega, rfl, by have := hm2.out; omega, by have := hm2.out; omega, rfl, rfl, rfl, hE3.out, by have := hm2.out; omega, by have := hm2.out; omega, by have := hm2.out; omega, by have := hm2.out; omega, BS.out, k2.out⟩
                  case measure => simp [intOf]; have := i0.out; omega
                ·
                  have q2 : (t.ph == 2) = false := by rw [hq]; rfl
                  have q4 : (t.ph == 4) = true := by rw [hq]; rfl
                  have q5 : (t.ph != 2) = true := by simp [bne, q2]
                  have q6 : (t.ph != 4) = false := by simp [bne, q4]
                  clear hq
                  have xBS0 : wc.cell? ⟨g, 0, none⟩ = some (.int .i64 t.w.book) := one_at BS.out
                  have xBS1 : wc.cell? ⟨g, 1, none⟩ = some (.int .i64 t.w.cust) := one_at BS.out
                  have xBS2 : wc.cell? ⟨g, 2, none⟩ = some (.int .i64 t.w.dead) := one_at BS.out
                  have xBS3 : wc.cell? ⟨g, 3, none⟩ = some (.int .i64 t.w.u0) := one_at BS.out
                  have xBS4 : wc.cell? ⟨g, 4, none⟩ = some (.int .i64 t.w.u1) := one_at BS.out
                  have xBS5 : wc.cell? ⟨g, 5, none⟩ = some (.int .i64 t.w.u2) := one_at BS.out
                  have xBS6 : wc.cell? ⟨g, 6, none⟩ = some (.int .i64 t.w.price) := one_at BS.out
                  have xBS7 : wc.cell? ⟨g, 7, none⟩ = some (.int .i64 t.ph) := one_at BS.out
                  have xBS8 : wc.cell? ⟨g, 8, none⟩ = some (.int .i64 t.st) := one_at BS.out
                  have xBS9 : wc.cell? ⟨g, 9, none⟩ = some (.int .i64 t.rs) := one_at BS.out
                  have xBS10 : wc.cell? ⟨g, 10, none⟩ = some (.int .i64 t.si) := one_at BS.out
                  have lBS : g < wc.heap.size := lt_some BS.out
                  have xBT0 : wc.cell? ⟨gw, 0, none⟩ = some (.int .i64 s.w.book) := one_at BT.out
                  have xBT1 : wc.cell? ⟨gw, 1, none⟩ = some (.int .i64 s.w.cust) := one_at BT.out
                  have xBT2 : wc.cell? ⟨gw, 2, none⟩ = some (.int .i64 s.w.dead) := one_at BT.out
                  have xBT3 : wc.cell? ⟨gw, 3, none⟩ = some (.int .i64 s.w.u0) := one_at BT.out
                  have xBT4 : wc.cell? ⟨gw, 4, none⟩ = some (.int .i64 s.w.u1) := one_at BT.out
                  have xBT5 : wc.cell? ⟨gw, 5, none⟩ = some (.int .i64 s.w.u2) := one_at BT.out
                  have xBT6 : wc.cell? ⟨gw, 6, none⟩ = some (.int .i64 s.w.price) := one_at BT.out
                  have xBT7 : wc.cell? ⟨gw, 7, none⟩ = some (.int .i64 s.ph) := one_at BT.out
                  have xBT8 : wc.cell? ⟨gw, 8, none⟩ = some (.int .i64 s.st) := one_at BT.out
                  have xBT9 : wc.cell? ⟨gw, 9, none⟩ = some (.int .i64 s.rs) := one_at BT.out
                  have xBT10 : wc.cell? ⟨gw, 10, none⟩ = some (.int .i64 s.si) := one_at BT.out
                  have lBT : gw < wc.heap.size := lt_some BT.out
                  obtain ⟨y0_, y1_, y2_, y3_, y4_, y5_, y6_⟩ := (KW.out _ kc.out).cells
                  have lBW : w.heap.size < wc.heap.size := (KW.out _ kc.out).lt
                  replace EWt := EWt.out
                  replace hts := hts.out
                  go_wp2_with fail
                  refine (N5s.out _ (by assumption)).mono ?_
                  rintro e w1 ⟨rfl, h⟩
                  clear xBS0 xBS1 xBS2 xBS3 xBS4 xBS5 xBS6 xBS7 xBS8 xBS9 xBS10 lBS xBT0 xBT1 xBT2 xBT3 xBT4 xBT5 xBT6 xBT7 xBT8 xBT9 xBT10 lBT y0_ y1_ y2_ y3_ y4_ y5_ y6_ lBW
                  replace BS := Lib.hid ((h.block _ (lt_some BS.out)).trans BS.out)
                  replace BT := Lib.hid ((h.block _ (lt_some BT.out)).trans BT.out)
                  have k2 : Hid (Below g wb w1) := kc.out.trans (h.mono (Nat.le_of_lt (Nat.lt_of_lt_of_le gb.out kc.out.size)))
                  clear h
                  have xBS0 : w1.cell? ⟨g, 0, none⟩ = some (.int .i64 t.w.book) := one_at BS.out
                  have xBS1 : w1.cell? ⟨g, 1, none⟩ = some (.int .i64 t.w.cust) := one_at BS.out
                  have xBS2 : w1.cell? ⟨g, 2, none⟩ = some (.int .i64 t.w.dead) := one_at BS.out
                  have xBS3 : w1.cell? ⟨g, 3, none⟩ = some (.int .i64 t.w.u0) := one_at BS.out
                  have xBS4 : w1.cell? ⟨g, 4, none⟩ = some (.int .i64 t.w.u1) := one_at BS.out
                  have xBS5 : w1.cell? ⟨g, 5, none⟩ = some (.int .i64 t.w.u2) := one_at BS.out
                  have xBS6 : w1.cell? ⟨g, 6, none⟩ = some (.int .i64 t.w.price) := one_at BS.out
                  have xBS7 : w1.cell? ⟨g, 7, none⟩ = some (.int .i64 t.ph) := one_at BS.out
                  have xBS8 : w1.cell? ⟨g, 8, none⟩ = some (.int .i64 t.st) := one_at BS.out
                  have xBS9 : w1.cell? ⟨g, 9, none⟩ = some (.int .i64 t.rs) := one_at BS.out
                  have xBS10 : w1.cell? ⟨g, 10, none⟩ = some (.int .i64 t.si) := one_at BS.out
                  have lBS : g < w1.heap.size := lt_some BS.out
                  have xBT0 : w1.cell? ⟨gw, 0, none⟩ = some (.int .i64 s.w.book) := one_at BT.out
                  have xBT1 : w1.cell? ⟨gw, 1, none⟩ = some (.int .i64 s.w.cust) := one_at BT.out
                  have xBT2 : w1.cell? ⟨gw, 2, none⟩ = some (.int .i64 s.w.dead) := one_at BT.out
                  have xBT3 : w1.cell? ⟨gw, 3, none⟩ = some (.int .i64 s.w.u0) := one_at BT.out
                  have xBT4 : w1.cell? ⟨gw, 4, none⟩ = some (.int .i64 s.w.u1) := one_at BT.out
                  have xBT5 : w1.cell? ⟨gw, 5, none⟩ = some (.int .i64 s.w.u2) := one_at BT.out
                  have xBT6 : w1.cell? ⟨gw, 6, none⟩ = some (.int .i64 s.w.price) := one_at BT.out
                  have xBT7 : w1.cell? ⟨gw, 7, none⟩ = some (.int .i64 s.ph) := one_at BT.out
                  have xBT8 : w1.cell? ⟨gw, 8, none⟩ = some (.int .i64 s.st) := one_at BT.out
                  have xBT9 : w1.cell? ⟨gw, 9, none⟩ = some (.int .i64 s.rs) := one_at BT.out
                  have xBT10 : w1.cell? ⟨gw, 10, none⟩ = some (.int .i64 s.si) := one_at BT.out
                  have lBT : gw < w1.heap.size := lt_some BT.out
                  go_wp2_with fail
                  go_roundw
                  case rel => exact ⟨k + 1, t, n2, a2, b2, r2, by simp, by have := i0.out; omega, rfl, by have := hm2.out; omega, by have := hm2.out; omega, rfl, rfl, rfl, hE3.out, by have := hm2.out; omega, by have := hm2.out; omega, by have := hm2.out; omega, by have := hm2.out; omega, BS.out, k2.out⟩
                  case measure => simp [intOf]; have := i0.out; omega
            ·
              as_aux_lemma =>
                have ov1 : ov = false := by rw [← hov.out]; unfold sover; rw [hE.out.may, hp]; rfl
                subst ov1
                have p2 : (s.ph == 2) = false := by rw [hp]; rfl
                have p3 : (s.ph == 3) = true := by rw [hp]; rfl
                have hq : (t.rs == s.rs) = true := by rw [NX.out.bk hp]; simp
                clear ES hp hov NX
                have xBS0 : wc.cell? ⟨g, 0, none⟩ = some (.int .i64 t.w.book) := one_at BS.out
                have xBS1 : wc.cell? ⟨g, 1, none⟩ = some (.int .i64 t.w.cust) := one_at BS.out
                have xBS2 : wc.cell? ⟨g, 2, none⟩ = some (.int .i64 t.w.dead) := one_at BS.out
                have xBS3 : wc.cell? ⟨g, 3, none⟩ = some (.int .i64 t.w.u0) := one_at BS.out
                have xBS4 : wc.cell? ⟨g, 4, none⟩ = some (.int .i64 t.w.u1) := one_at BS.out
                have xBS5 : wc.cell? ⟨g, 5, none⟩ = some (.int .i64 t.w.u2) := one_at BS.out
                have xBS6 : wc.cell? ⟨g, 6, none⟩ = some (.int .i64 t.w.price) := one_at BS.out
                have xBS7 : wc.cell? ⟨g, 7, none⟩ = some (.int .i64 t.ph) := one_at BS.out
                have xBS8 : wc.cell? ⟨g, 8, none⟩ = some (.int .i64 t.st) := one_at BS.out
                have xBS9 : wc.cell? ⟨g, 9, none⟩ = some (.int .i64 t.rs) := one_at BS.out
                have xBS10 : wc.cell? ⟨g, 10, none⟩ = some (.int .i64 t.si) := one_at BS.out
                have lBS : g < wc.heap.size := lt_some BS.out
                have xBT0 : wc.cell? ⟨gw, 0, none⟩ = some (.int .i64 s.w.book) := one_at BT.out
                have xBT1 : wc.cell? ⟨gw, 1, none⟩ = some (.int .i64 s.w.cust) := one_at BT.out
                have xBT2 : wc.cell? ⟨gw, 2, none⟩ = some (.int .i64 s.w.dead) := one_at BT.out
                have xBT3 : wc.cell? ⟨gw, 3, none⟩ = some (.int .i64 s.w.u0) := one_at BT.out
                have xBT4 : wc.cell? ⟨gw, 4, none⟩ = some (.int .i64 s.w.u1) := one_at BT.out
                have xBT5 : wc.cell? ⟨gw, 5, none⟩ = some (.int .i64 s.w.u2) := one_at BT.out
                have xBT6 : wc.cell? ⟨gw, 6, none⟩ = some (.int .i64 s.w.price) := one_at BT.out
                have xBT7 : wc.cell? ⟨gw, 7, none⟩ = some (.int .i64 s.ph) := one_at BT.out
                have xBT8 : wc.cell? ⟨gw, 8, none⟩ = some (.int .i64 s.st) := one_at BT.out
                have xBT9 : wc.cell? ⟨gw, 9, none⟩ = some (.int .i64 s.rs) := one_at BT.out
                have xBT10 : wc.cell? ⟨gw, 10, none⟩ = some (.int .i64 s.si) := one_at BT.out
                have lBT : gw < wc.heap.size := lt_some BT.out
                obtain ⟨y0_, y1_, y2_, y3_, y4_, y5_, y6_⟩ := (KW.out _ kc.out).cells
                have lBW : w.heap.size < wc.heap.size := (KW.out _ kc.out).lt
                replace EWt := EWt.out
                replace hts := hts.out
                go_wp2_with fail
                refine (N5s.out _ (by assumption)).mono ?_
                rintro e w1 ⟨rfl, h⟩
                clear xBS0 xBS1 xBS2 xBS3 xBS4 xBS5 xBS6 xBS7 xBS8 xBS9 xBS10 lBS xBT0 xBT1 xBT2 xBT3 xBT4 xBT5 xBT6 xBT7 xBT8 xBT9 xBT10 lBT y0_ y1_ y2_ y3_ y4_ y5_ y6_ lBW
                replace BS := Lib.hid ((h.block _ (lt_some BS.out)).trans BS.out)
                replace BT := Lib.hid ((h.block _ (lt_some BT.out)).trans BT.out)
                have k2 : Hid (Below g wb w1) := kc.out.trans (h.mono (Nat.le_of_lt (Nat.lt_of_lt_of_le gb.out kc.out.size)))
                clear h
                have xBS0 : w1.cell? ⟨g, 0, none⟩ = some (.int .i64 t.w.book) := one_at BS.out
                have xBS1 : w1.cell? ⟨g, 1, none⟩ = some (.int .i64 t.w.cust) := one_at BS.out
                have xBS2 : w1.cell? ⟨g, 2, none⟩ = some (.int .i64 t.w.dead) := one_at BS.out
                have xBS3 : w1.cell? ⟨g, 3, none⟩ = some (.int .i64 t.w.u0) := one_at BS.out
                have xBS4 : w1.cell? ⟨g, 4, none⟩ = some (.int .i64 t.w.u1) := one_at BS.out
                have xBS5 : w1.cell? ⟨g, 5, none⟩ = some (.int .i64 t.w.u2) := one_at BS.out
                have xBS6 : w1.cell? ⟨g, 6, none⟩ = some (.int .i64 t.w.price) := one_at BS.out
                have xBS7 : w1.cell? ⟨g, 7, none⟩ = some (.int .i64 t.ph) := one_at BS.out
                have xBS8 : w1.cell? ⟨g, 8, none⟩ = some (.int .i64 t.st) := one_at BS.out
                have xBS9 : w1.cell? ⟨g, 9, none⟩ = some (.int .i64 t.rs) := one_at BS.out
                have xBS10 : w1.cell? ⟨g, 10, none⟩ = some (.int .i64 t.si) := one_at BS.out
                have lBS : g < w1.heap.size := lt_some BS.out
                have xBT0 : w1.cell? ⟨gw, 0, none⟩ = some (.int .i64 s.w.book) := one_at BT.out
                have xBT1 : w1.cell? ⟨gw, 1, none⟩ = some (.int .i64 s.w.cust) := one_at BT.out
                have xBT2 : w1.cell? ⟨gw, 2, none⟩ = some (.int .i64 s.w.dead) := one_at BT.out
                have xBT3 : w1.cell? ⟨gw, 3, none⟩ = some (.int .i64 s.w.u0) := one_at BT.out
                have xBT4 : w1.cell? ⟨gw, 4, none⟩ = some (.int .i64 s.w.u1) := one_at BT.out
                have xBT5 : w1.cell? ⟨gw, 5, none⟩ = some (.int .i64 s.w.u2) := one_at BT.out
                have xBT6 : w1.cell? ⟨gw, 6, none⟩ = some (.int .i64 s.w.price) := one_at BT.out
                have xBT7 : w1.cell? ⟨gw, 7, none⟩ = some (.int .i64 s.ph) := one_at BT.out
                have xBT8 : w1.cell? ⟨gw, 8, none⟩ = some (.int .i64 s.st) := one_at BT.out
                have xBT9 : w1.cell? ⟨gw, 9, none⟩ = some (.int .i64 s.rs) := one_at BT.out
                have xBT10 : w1.cell? ⟨gw, 10, none⟩ = some (.int .i64 s.si) := one_at BT.out
                have lBT : gw < w1.heap.size := lt_some BT.out
                go_wp2_with fail
                go_roundw
                case rel => exact ⟨k + 1, t, n2, a2, b2, r2, by simp, by have := i0.out; omega, rfl, by have := hm2.out; omega, by have := hm2.out; omega, rfl, rfl, rfl, hE3.out, by have := hm2.out; omega, by have := hm2.out; omega, by have := hm2.out; omega, by have := hm2.out; omega, BS.out, k2.out⟩
                case measure => simp [intOf]; have := i0.out; omega
            ·
              as_aux_lemma =>
                have ov1 : ov = true := by rw [← hov.out]; unfold sover; rw [hE.out.may, hp]; rfl
                subst ov1
                have ht : t = s := NX.out.over (by omega)
                subst ht
                have ESt := ES.out t
                replace N5s := N5s.out
                rw [hts.out] at ESt N5s
                replace N5s := Lib.hid N5s
                have p2 : (t.ph == 2) = false := by rw [hp]; rfl
                have p3 : (t.ph == 3) = false := by rw [hp]; rfl
                clear ES hp hov NX
                have xBS0 : wc.cell? ⟨g, 0, none⟩ = some (.int .i64 t.w.book) := one_at BS.out
                have xBS1 : wc.cell? ⟨g, 1, none⟩ = some (.int .i64 t.w.cust) := one_at BS.out
                have xBS2 : wc.cell? ⟨g, 2, none⟩ = some (.int .i64 t.w.dead) := one_at BS.out
                have xBS3 : wc.cell? ⟨g, 3, none⟩ = some (.int .i64 t.w.u0) := one_at BS.out
                have xBS4 : wc.cell? ⟨g, 4, none⟩ = some (.int .i64 t.w.u1) := one_at BS.out
                have xBS5 : wc.cell? ⟨g, 5, none⟩ = some (.int .i64 t.w.u2) := one_at BS.out
                have xBS6 : wc.cell? ⟨g, 6, none⟩ = some (.int .i64 t.w.price) := one_at BS.out
                have xBS7 : wc.cell? ⟨g, 7, none⟩ = some (.int .i64 t.ph) := one_at BS.out
                have xBS8 : wc.cell? ⟨g, 8, none⟩ = some (.int .i64 t.st) := one_at BS.out
                have xBS9 : wc.cell? ⟨g, 9, none⟩ = some (.int .i64 t.rs) := one_at BS.out
                have xBS10 : wc.cell? ⟨g, 10, none⟩ = some (.int .i64 t.si) := one_at BS.out
                have lBS : g < wc.heap.size := lt_some BS.out
                have xBT0 : wc.cell? ⟨gw, 0, none⟩ = some (.int .i64 t.w.book) := one_at BT.out
                have xBT1 : wc.cell? ⟨gw, 1, none⟩ = some (.int .i64 t.w.cust) := one_at BT.out
                have xBT2 : wc.cell? ⟨gw, 2, none⟩ = some (.int .i64 t.w.dead) := one_at BT.out
                have xBT3 : wc.cell? ⟨gw, 3, none⟩ = some (.int .i64 t.w.u0) := one_at BT.out
                have xBT4 : wc.cell? ⟨gw, 4, none⟩ = some (.int .i64 t.w.u1) := one_at BT.out
                have xBT5 : wc.cell? ⟨gw, 5, none⟩ = some (.int .i64 t.w.u2) := one_at BT.out
                have xBT6 : wc.cell? ⟨gw, 6, none⟩ = some (.int .i64 t.w.price) := one_at BT.out
                have xBT7 : wc.cell? ⟨gw, 7, none⟩ = some (.int .i64 t.ph) := one_at BT.out
                have xBT8 : wc.cell? ⟨gw, 8, none⟩ = some (.int .i64 t.st) := one_at BT.out
                have xBT9 : wc.cell? ⟨gw, 9, none⟩ = some (.int .i64 t.rs) := one_at BT.out
                have xBT10 : wc.cell? ⟨gw, 10, none⟩ = some (.int .i64 t.si) := one_at BT.out
                have lBT : gw < wc.heap.size := lt_some BT.out
                obtain ⟨y0_, y1_, y2_, y3_, y4_, y5_, y6_⟩ := (KW.out _ kc.out).cells
                have lBW : w.heap.size < wc.heap.size := (KW.out _ kc.out).lt
                replace EWt := EWt.out
                replace hts := hts.out
                go_wp2_with fail
                refine (N5s.out _ (by assumption)).mono ?_
                rintro e w1 ⟨rfl, h⟩
                clear xBS0 xBS1 xBS2 xBS3 xBS4 xBS5 xBS6 xBS7 xBS8 xBS9 xBS10 lBS xBT0 xBT1 xBT2 xBT3 xBT4 xBT5 xBT6 xBT7 xBT8 xBT9 xBT10 lBT y0_ y1_ y2_ y3_ y4_ y5_ y6_ lBW
                replace BS := Lib.hid ((h.block _ (lt_some BS.out)).trans BS.out)
                replace BT := Lib.hid ((h.block _ (lt_some BT.out)).trans BT.out)
                have k2 : Hid (Below g wb w1) := kc.out.trans (h.mono (Nat.le_of_lt (Nat.lt_of_lt_of_le gb.out kc.out.size)))
                clear h
                have xBS0 : w1.cell? ⟨g, 0, none⟩ = some (.int .i64 t.w.book) := one_at BS.out
                have xBS1 : w1.cell? ⟨g, 1, none⟩ = some (.int .i64 t.w.cust) := one_at BS.out
                have xBS2 : w1.cell? ⟨g, 2, none⟩ = some (.int .i64 t.w.dead) := one_at BS.out
                have xBS3 : w1.cell? ⟨g, 3, none⟩ = some (.int .i64 t.w.u0) := one_at BS.out
                have xBS4 : w1.cell? ⟨g, 4, none⟩ = some (.int .i64 t.w.u1) := one_at BS.out
                have xBS5 : w1.cell? ⟨g, 5, none⟩ = some (.int .i64 t.w.u2) := one_at BS.out
                have xBS6 : w1.cell? ⟨g, 6, none⟩ = some (.int .i64 t.w.price) := one_at BS.out
                have xBS7 : w1.cell? ⟨g, 7, none⟩ = some (.int .i64 t.ph) := one_at BS.out
                have xBS8 : w1.cell? ⟨g, 8, none⟩ = some (.int .i64 t.st) := one_at BS.out
                have xBS9 : w1.cell? ⟨g, 9, none⟩ = some (.int .i64 t.rs) := one_at BS.out
                have xBS10 : w1.cell? ⟨g, 10, none⟩ = some (.int .i64 t.si) := one_at BS.out
                have lBS : g < w1.heap.size := lt_some BS.out
                have xBT0 : w1.cell? ⟨gw, 0, none⟩ = some (.int .i64 t.w.book) := one_at BT.out
                have xBT1 : w1.cell? ⟨gw, 1, none⟩ = some (.int .i64 t.w.cust) := one_at BT.out
                have xBT2 : w1.cell? ⟨gw, 2, none⟩ = some (.int .i64 t.w.dead) := one_at BT.out
                have xBT3 : w1.cell? ⟨gw, 3, none⟩ = some (.int .i64 t.w.u0) := one_at BT.out
                have xBT4 : w1.cell? ⟨gw, 4, none⟩ = some (.int .i64 t.w.u1) := one_at BT.out
                have xBT5 : w1.cell? ⟨gw, 5, none⟩ = some (.int .i64 t.w.u2) := one_at BT.out
                have xBT6 : w1.cell? ⟨gw, 6, none⟩ = some (.int .i64 t.w.price) := one_at BT.out
                have xBT7 : w1.cell? ⟨gw, 7, none⟩ = some (.int .i64 t.ph) := one_at BT.out
                have xBT8 : w1.cell? ⟨gw, 8, none⟩ = some (.int .i64 t.st) := one_at BT.out
                have xBT9 : w1.cell? ⟨gw, 9, none⟩ = some (.int .i64 t.rs) := one_at BT.out
                have xBT10 : w1.cell? ⟨gw, 10, none⟩ = some (.int .i64 t.si) := one_at BT.out
                have lBT : gw < w1.heap.size := lt_some BT.out
                go_wp2_with fail
                go_roundw
                case rel => exact ⟨k + 1, t, n2, a2, b2, r2, by simp, by have := i0.out; omega, rfl, by have := hm2.out; omega, by have := hm2.out; omega, rfl, rfl, rfl, hE3.out, by have := hm2.out; omega, by have := hm2.out; omega, by have := hm2.out; omega, by have := hm2.out; omega, BS.out, k2.out⟩
                case measure => simp [intOf]; have := i0.out; omega
            ·
              as_aux_lemma =>
                have ov1 : ov = true := by rw [← hov.out]; unfold sover; rw [hE.out.may, hp]; rfl
                subst ov1
                have ht : t = s := NX.out.over (by omega)
                subst ht
                have ESt := ES.out t
                replace N5s := N5s.out
                rw [hts.out] at ESt N5s
                replace N5s := Lib.hid N5s
                have p2 : (t.ph == 2) = false := by rw [hp]; rfl
                have p3 : (t.ph == 3) = false := by rw [hp]; rfl
                clear ES hp hov NX
                have xBS0 : wc.cell? ⟨g, 0, none⟩ = some (.int .i64 t.w.book) := one_at BS.out
                have xBS1 : wc.cell? ⟨g, 1, none⟩ = some (.int .i64 t.w.cust) := one_at BS.out
                have xBS2 : wc.cell? ⟨g, 2, none⟩ = some (.int .i64 t.w.dead) := one_at BS.out
                have xBS3 : wc.cell? ⟨g, 3, none⟩ = some (.int .i64 t.w.u0) := one_at BS.out
                have xBS4 : wc.cell? ⟨g, 4, none⟩ = some (.int .i64 t.w.u1) := one_at BS.out
                have xBS5 : wc.cell? ⟨g, 5, none⟩ = some (.int .i64 t.w.u2) := one_at BS.out
                have xBS6 : wc.cell? ⟨g, 6, none⟩ = some (.int .i64 t.w.price) := one_at BS.out
                have xBS7 : wc.cell? ⟨g, 7, none⟩ = some (.int .i64 t.ph) := one_at BS.out
                have xBS8 : wc.cell? ⟨g, 8, none⟩ = some (.int .i64 t.st) := one_at BS.out
                have xBS9 : wc.cell? ⟨g, 9, none⟩ = some (.int .i64 t.rs) := one_at BS.out
                have xBS10 : wc.cell? ⟨g, 10, none⟩ = some (.int .i64 t.si) := one_at BS.out
                have lBS : g < wc.heap.size := lt_some BS.out
                have xBT0 : wc.cell? ⟨gw, 0, none⟩ = some (.int .i64 t.w.book) := one_at BT.out
                have xBT1 : wc.cell? ⟨gw, 1, none⟩ = some (.int .i64 t.w.cust) := one_at BT.out
                have xBT2 : wc.cell? ⟨gw, 2, none⟩ = some (.int .i64 t.w.dead) := one_at BT.out
                have xBT3 : wc.cell? ⟨gw, 3, none⟩ = some (.int .i64 t.w.u0) := one_at BT.out
                have xBT4 : wc.cell? ⟨gw, 4, none⟩ = some (.int .i64 t.w.u1) := one_at BT.out
                have xBT5 : wc.cell? ⟨gw, 5, none⟩ = some (.int .i64 t.w.u2) := one_at BT.out
                have xBT6 : wc.cell? ⟨gw, 6, none⟩ = some (.int .i64 t.w.price) := one_at BT.out
                have xBT7 : wc.cell? ⟨gw, 7, none⟩ = some (.int .i64 t.ph) := one_at BT.out
                have xBT8 : wc.cell? ⟨gw, 8, none⟩ = some (.int .i64 t.st) := one_at BT.out
                have xBT9 : wc.cell? ⟨gw, 9, none⟩ = some (.int .i64 t.rs) := one_at BT.out
                have xBT10 : wc.cell? ⟨gw, 10, none⟩ = some (.int .i64 t.si) := one_at BT.out
                have lBT : gw < wc.heap.size := lt_some BT.out
                obtain ⟨y0_, y1_, y2_, y3_, y4_, y5_, y6_⟩ := (KW.out _ kc.out).cells
                have lBW : w.heap.size < wc.heap.size := (KW.out _ kc.out).lt
                replace EWt := EWt.out
                replace hts := hts.out
                go_wp2_with fail
                refine (N5s.out _ (by assumption)).mono ?_
                rintro e w1 ⟨rfl, h⟩
                clear xBS0 xBS1 xBS2 xBS3 xBS4 xBS5 xBS6 xBS7 xBS8 xBS9 xBS10 lBS xBT0 xBT1 xBT2 xBT3 xBT4 xBT5 xBT6 xBT7 xBT8 xBT9 xBT10 lBT y0_ y1_ y2_ y3_ y4_ y5_ y6_ lBW
                replace BS := Lib.hid ((h.block _ (lt_some BS.out)).trans BS.out)
                replace BT := Lib.hid ((h.block _ (lt_some BT.out)).trans BT.out)
                have k2 : Hid (Below g wb w1) := kc.out.trans (h.mono (Nat.le_of_lt (Nat.lt_of_lt_of_le gb.out kc.out.size)))
                clear h
                have xBS0 : w1.cell? ⟨g, 0, none⟩ = some (.int .i64 t.w.book) := one_at BS.out
                have xBS1 : w1.cell? ⟨g, 1, none⟩ = some (.int .i64 t.w.cust) := one_at BS.out
                have xBS2 : w1.cell? ⟨g, 2, none⟩ = some (.int .i64 t.w.dead) := one_at BS.out
                have xBS3 : w1.cell? ⟨g, 3, none⟩ = some (.int .i64 t.w.u0) := one_at BS.out
                have xBS4 : w1.cell? ⟨g, 4, none⟩ = some (.int .i64 t.w.u1) := one_at BS.out
                have xBS5 : w1.cell? ⟨g, 5, none⟩ = some (.int .i64 t.w.u2) := one_at BS.out
                have xBS6 : w1.cell? ⟨g, 6, none⟩ = some (.int .i64 t.w.price) := one_at BS.out
                have xBS7 : w1.cell? ⟨g, 7, none⟩ = some (.int .i64 t.ph) := one_at BS.out
                have xBS8 : w1.cell? ⟨g, 8, none⟩ = some (.int .i64 t.st) := one_at BS.out
                have xBS9 : w1.cell? ⟨g, 9, none⟩ = some (.int .i64 t.rs) := one_at BS.out
                have xBS10 : w1.cell? ⟨g, 10, none⟩ = some (.int .i64 t.si) := one_at BS.out
                have lBS : g < w1.heap.size := lt_some BS.out
                have xBT0 : w1.cell? ⟨gw, 0, none⟩ = some (.int .i64 t.w.book) := one_at BT.out
                have xBT1 : w1.cell? ⟨gw, 1, none⟩ = some (.int .i64 t.w.cust) := one_at BT.out
                have xBT2 : w1.cell? ⟨gw, 2, none⟩ = some (.int .i64 t.w.dead) := one_at BT.out
                have xBT3 : w1.cell? ⟨gw, 3, none⟩ = some (.int .i64 t.w.u0) := one_at BT.out
                have xBT4 : w1.cell? ⟨gw, 4, none⟩ = some (.int .i64 t.w.u1) := one_at BT.out
                have xBT5 : w1.cell? ⟨gw, 5, none⟩ = some (.int .i64 t.w.u2) := one_at BT.out
                have xBT6 : w1.cell? ⟨gw, 6, none⟩ = some (.int .i64 t.w.price) := one_at BT.out
                have xBT7 : w1.cell? ⟨gw, 7, none⟩ = some (.int .i64 t.ph) := one_at BT.out
                have xBT8 : w1.cell? ⟨gw, 8, none⟩ = some (.int .i64 t.st) := one_at BT.out
                have xBT9 : w1.cell? ⟨gw, 9, none⟩ = some (.int .i64 t.rs) := one_at BT.out
                have xBT10 : w1.cell? ⟨gw, 10, none⟩ = some (.int .i64 t.si) := one_at BT.out
                have lBT : gw < w1.heap.size := lt_some BT.out
                go_wp2_with fail
                go_roundw
                case rel => exact ⟨k + 1, t, n2, a2, b2, r2, by simp, by have := i0.out; omega, rfl, by have := hm2.out; omega, by have := hm2.out; omega, rfl, rfl, rfl, hE3.out, by have := hm2.out; omega, by have := hm2.out; omega, by have := hm2.out; omega, by have := hm2.out; omega, BS.out, k2.out⟩
                case measure => simp [intOf]; have := i0.out; omega
        | false =>
          clear N1 N2 N3 N4 N5 N6 EW ES KE LN hbb hk
          have CB : Hid (∀ w', Below wr.heap.size wr w' → BoxW w' w.heap.size x) := fun w' h => KW.out w' (k3.out.trans (h.mono (Nat.le_trans (Nat.le_of_lt gb.out) k3.out.size)))
          have F1 : Hid (∀ w', Below wr.heap.size wr w' → Calls Tryd.prog 32 #[.agg #[.int .i64 x.book, .int .i64 x.cust, .int .i64 x.dead, .int .i64 x.u0, .int .i64 x.u1, .int .i64 x.u2, .int .i64 x.price]] w' fun e w'' => (∃ A c, e = .returned (.slice A (fwd x).length c)) ∧ Below wr.heap.size wr w'') := fun w' h => (fwd_any w' x).mono fun e w'' ⟨v, h1, h2, h3⟩ => by
            obtain ⟨A, c, rfl, -⟩ := rt_form h2
            exact ⟨⟨A, c, h1⟩, h.trans (h3.mono h.size)⟩
          have F2 : Hid (∀ w', Below wr.heap.size wr w' → Calls Tryd.prog 33 #[.agg #[.int .i64 x.book, .int .i64 x.cust, .int .i64 x.dead, .int .i64 x.u0, .int .i64 x.u1, .int .i64 x.u2, .int .i64 x.price]] w' fun e w'' => (∃ A c, e = .returned (.slice A (bck x).length c)) ∧ Below wr.heap.size wr w'') := fun w' h => (bck_any w' x).mono fun e w'' ⟨v, h1, h2, h3⟩ => by
            obtain ⟨A, c, rfl, -⟩ := rt_form h2
            exact ⟨⟨A, c, h1⟩, h.trans (h3.mono h.size)⟩
          go_upto_region 49 with fail
          refine ge49 _ _ _ _ _ _ _ _ _ _ _ _ _ _ _ _ _ _ _ _ _ _ _ _ _ _ _ _ _ _ _ _ _ _ _ _ _ _ _ _ _ _ _ _ _ _ _ _ _ _ _ _ _ _ _ _ _ _ _ _ _ _ _ _ _ _ _ _ _ _ _ _ _ _ _ _ _ _ _ _ _ _ _ _ _ _ _ _ _ _ _ _ _ _ _ _ _ _ _ _ _ _ _ _ _ _ _ _ _ _ _ _ _ _ _ _ _ _ _ _ _ _ _ _ _ _ _ _ _ _ _ _ _ _ _ _ _ _ _ _ _ _ _ _ _ _ _ _ _ _ _ _ _ _ _ _ _ _ _ _ _ _ _ _ _ _ _ _ _ _ _ _ _ _ _ _ _ _ _ _ _ _ _ _ _ _ _ _ _ _ _ _ _ _ _ _ _ _ _ _ _ _ _ _ _ _ _ _ _ _ _ _ _ _ _ _ _ _ _ _ _ _ _ _ _ _ _ _ _ _ _ _ _ _ _ _ _ _ _ _ _ _ _ _ _ _ _ _ _ _ _ _ _ _ _ _ _ _ _ _ _ _ _ _ _ _ _ _ _ _ _ _ _ _ _ _ wr w.heap.size (fwd x).length (bck x).length x CB F1 F2 _ (fun _ _ d _ _ h => by cases d <;> exact h) (fun _ _ _ _ _ _ wl hb => ?_)
          replace BS : Hid (wl.heap[g]? = some (.cells #[.int .i64 s.w.book, .int .i64 s.w.cust, .int .i64 s.w.dead, .int .i64 s.w.u0, .int .i64 s.w.u1, .int .i64 s.w.u2, .int .i64 s.w.price, .int .i64 s.ph, .int .i64 s.st, .int .i64 s.rs, .int .i64 s.si] 26 (0, 0))) := (hb.block _ (lt_some BS.out)).trans BS.out
          have kl : Hid (Below g wb wl) := k3.out.trans (hb.mono (Nat.le_trans (Nat.le_of_lt gb.out) k3.out.size))
          clear hb CB F1 F2 KW
          have TDl : Hid (∀ w', Hid (Below g wb w') → Calls Tryd.prog 26 #[] w' fun e w'' => e = .returned (.bool true) ∧ Below w'.heap.size w' w'') := fun w' h => TD.out w' (Lib.hid (kb.out.trans (h.out.mono (Nat.le_of_lt gl.out))))
          have hE1 := hE.out
          obtain ⟨hw, hsi, hmay, f1, f2, f3, f5⟩ := hE1
          have sh := Go.Proofs.YtakicogelkdofaaDoor.Sn.shape hw hsi hmay
          clear hE TD
          rcases sh with ⟨i, hi⟩ | _ | ⟨i, q, hi, hr⟩ | _ | ⟨q, hr⟩
          ·
            as_aux_lemma =>
              replace BS : Hid (wl.heap[g]? = some (.cells #[.int .i64 x.book, .int .i64 x.cust, .int .i64 x.dead, .int .i64 x.u0, .int .i64 x.u1, .int .i64 x.u2, .int .i64 x.price, .int .i64 1, .int .i64 (i : Int), .int .i64 0, .int .i64 0] 26 (0, 0))) := BS.out
              have N7s := fun w' h => N7.out w' h ⟨x, 1, (i : Int), 0, 0⟩
              rw [show stells ⟨x, 1, (i : Int), 0, 0⟩ = 2 by unfold stells; rw [if_pos hmay, if_neg (by simp), if_neg (by simp)]] at N7s
              simp only at N7s
              replace N7s := Lib.hid N7s
              clear N7 hw hsi hmay f1 f2 f3 f5 hi
              have xBS0 : wl.cell? ⟨g, 0, none⟩ = some (.int .i64 x.book) := one_at BS.out
              have xBS1 : wl.cell? ⟨g, 1, none⟩ = some (.int .i64 x.cust) := one_at BS.out
              have xBS2 : wl.cell? ⟨g, 2, none⟩ = some (.int .i64 x.dead) := one_at BS.out
              have xBS3 : wl.cell? ⟨g, 3, none⟩ = some (.int .i64 x.u0) := one_at BS.out
              have xBS4 : wl.cell? ⟨g, 4, none⟩ = some (.int .i64 x.u1) := one_at BS.out
              have xBS5 : wl.cell? ⟨g, 5, none⟩ = some (.int .i64 x.u2) := one_at BS.out
              have xBS6 : wl.cell? ⟨g, 6, none⟩ = some (.int .i64 x.price) := one_at BS.out
              have xBS7 : wl.cell? ⟨g, 7, none⟩ = some (.int .i64 1) := one_at BS.out
              have xBS8 : wl.cell? ⟨g, 8, none⟩ = some (.int .i64 (i : Int)) := one_at BS.out
              have xBS9 : wl.cell? ⟨g, 9, none⟩ = some (.int .i64 0) := one_at BS.out
              have xBS10 : wl.cell? ⟨g, 10, none⟩ = some (.int .i64 0) := one_at BS.out
              have lBS : g < wl.heap.size := lt_some BS.out
              go_wp2_with fail
              refine (TDl.out _ (by assumption)).mono ?_
              rintro e w1 ⟨rfl, h⟩
              clear xBS0 xBS1 xBS2 xBS3 xBS4 xBS5 xBS6 xBS7 xBS8 xBS9 xBS10 lBS
              replace BS := Lib.hid ((h.block _ (lt_some BS.out)).trans BS.out)
              have k2 : Hid (Below g wb w1) := kl.out.trans (h.mono (Nat.le_of_lt (Nat.lt_of_lt_of_le gb.out kl.out.size)))
              clear h
              have xBS0 : w1.cell? ⟨g, 0, none⟩ = some (.int .i64 x.book) := one_at BS.out
              have xBS1 : w1.cell? ⟨g, 1, none⟩ = some (.int .i64 x.cust) := one_at BS.out
              have xBS2 : w1.cell? ⟨g, 2, none⟩ = some (.int .i64 x.dead) := one_at BS.out
              have xBS3 : w1.cell? ⟨g, 3, none⟩ = some (.int .i64 x.u0) := one_at BS.out
              have xBS4 : w1.cell? ⟨g, 4, none⟩ = some (.int .i64 x.u1) := one_at BS.out
              have xBS5 : w1.cell? ⟨g, 5, none⟩ = some (.int .i64 x.u2) := one_at BS.out
              have xBS6 : w1.cell? ⟨g, 6, none⟩ = some (.int .i64 x.price) := one_at BS.out
              have xBS7 : w1.cell? ⟨g, 7, none⟩ = some (.int .i64 1) := one_at BS.out
              have xBS8 : w1.cell? ⟨g, 8, none⟩ = some (.int .i64 (i : Int)) := one_at BS.out
              have xBS9 : w1.cell? ⟨g, 9, none⟩ = some (.int .i64 0) := one_at BS.out
              have xBS10 : w1.cell? ⟨g, 10, none⟩ = some (.int .i64 0) := one_at BS.out
              have lBS : g < w1.heap.size := lt_some BS.out
              go_wp2_with fail
              refine (N7s.out _ (by assumption)).mono ?_
              rintro e w3 ⟨rfl, h⟩
              clear xBS0 xBS1 xBS2 xBS3 xBS4 xBS5 xBS6 xBS7 xBS8 xBS9 xBS10 lBS
              replace BS := Lib.hid ((h.block _ (lt_some BS.out)).trans BS.out)
              have k4 : Hid (Below g wb w3) := k2.out.trans (h.mono (Nat.le_of_lt (Nat.lt_of_lt_of_le gb.out k2.out.size)))
              clear h
              clear N7s TDl
              go_wp2_with fail
              go_ret
              exact ⟨rfl, kb.out.trans (k4.out.mono (Nat.le_of_lt gl.out))⟩
          ·
            as_aux_lemma =>
              replace BS : Hid (wl.heap[g]? = some (.cells #[.int .i64 x.book, .int .i64 x.cust, .int .i64 x.dead, .int .i64 x.u0, .int .i64 x.u1, .int .i64 x.u2, .int .i64 x.price, .int .i64 2, .int .i64 0, .int .i64 0, .int .i64 0] 26 (0, 0))) := BS.out
              obtain ⟨g1, g2, -⟩ := f2 (by simp)
              subst g2
              have g3 : (a == ((fwd x).length : Int)) = true := by rw [g1]; simp
              clear g1 N7 hw hsi hmay f1 f2 f3 f5
              have xBS0 : wl.cell? ⟨g, 0, none⟩ = some (.int .i64 x.book) := one_at BS.out
              have xBS1 : wl.cell? ⟨g, 1, none⟩ = some (.int .i64 x.cust) := one_at BS.out
              have xBS2 : wl.cell? ⟨g, 2, none⟩ = some (.int .i64 x.dead) := one_at BS.out
              have xBS3 : wl.cell? ⟨g, 3, none⟩ = some (.int .i64 x.u0) := one_at BS.out
              have xBS4 : wl.cell? ⟨g, 4, none⟩ = some (.int .i64 x.u1) := one_at BS.out
              have xBS5 : wl.cell? ⟨g, 5, none⟩ = some (.int .i64 x.u2) := one_at BS.out
              have xBS6 : wl.cell? ⟨g, 6, none⟩ = some (.int .i64 x.price) := one_at BS.out
              have xBS7 : wl.cell? ⟨g, 7, none⟩ = some (.int .i64 2) := one_at BS.out
              have xBS8 : wl.cell? ⟨g, 8, none⟩ = some (.int .i64 0) := one_at BS.out
              have xBS9 : wl.cell? ⟨g, 9, none⟩ = some (.int .i64 0) := one_at BS.out
              have xBS10 : wl.cell? ⟨g, 10, none⟩ = some (.int .i64 0) := one_at BS.out
              have lBS : g < wl.heap.size := lt_some BS.out
              go_wp2_with fail
              refine (TDl.out _ (by assumption)).mono ?_
              rintro e w1 ⟨rfl, h⟩
              clear xBS0 xBS1 xBS2 xBS3 xBS4 xBS5 xBS6 xBS7 xBS8 xBS9 xBS10 lBS
              replace BS := Lib.hid ((h.block _ (lt_some BS.out)).trans BS.out)
              have k2 : Hid (Below g wb w1) := kl.out.trans (h.mono (Nat.le_of_lt (Nat.lt_of_lt_of_le gb.out kl.out.size)))
              clear h
              have xBS0 : w1.cell? ⟨g, 0, none⟩ = some (.int .i64 x.book) := one_at BS.out
              have xBS1 : w1.cell? ⟨g, 1, none⟩ = some (.int .i64 x.cust) := one_at BS.out
              have xBS2 : w1.cell? ⟨g, 2, none⟩ = some (.int .i64 x.dead) := one_at BS.out
              have xBS3 : w1.cell? ⟨g, 3, none⟩ = some (.int .i64 x.u0) := one_at BS.out
              have xBS4 : w1.cell? ⟨g, 4, none⟩ = some (.int .i64 x.u1) := one_at BS.out
              have xBS5 : w1.cell? ⟨g, 5, none⟩ = some (.int .i64 x.u2) := one_at BS.out
              have xBS6 : w1.cell? ⟨g, 6, none⟩ = some (.int .i64 x.price) := one_at BS.out
              have xBS7 : w1.cell? ⟨g, 7, none⟩ = some (.int .i64 2) := one_at BS.out
              have xBS8 : w1.cell? ⟨g, 8, none⟩ = some (.int .i64 0) := one_at BS.out
              have xBS9 : w1.cell? ⟨g, 9, none⟩ = some (.int .i64 0) := one_at BS.out
              have xBS10 : w1.cell? ⟨g, 10, none⟩ = some (.int .i64 0) := one_at BS.out
              have lBS : g < w1.heap.size := lt_some BS.out
              go_wp2_with fail
              go_ret
              exact ⟨rfl, kb.out.trans (k2.out.mono (Nat.le_of_lt gl.out))⟩
          ·
            as_aux_lemma =>
              replace BS : Hid (wl.heap[g]? = some (.cells #[.int .i64 x.book, .int .i64 x.cust, .int .i64 x.dead, .int .i64 x.u0, .int .i64 x.u1, .int .i64 x.u2, .int .i64 x.price, .int .i64 3, .int .i64 (i : Int), .int .i64 q, .int .i64 0] 26 (0, 0))) := BS.out
              have N7s := fun w' h => N7.out w' h ⟨x, 3, (i : Int), q, 0⟩
              rw [show stells ⟨x, 3, (i : Int), q, 0⟩ = 2 by unfold stells; rw [if_pos hmay, if_neg (by simp), if_neg (by simp)]] at N7s
              simp only at N7s
              replace N7s := Lib.hid N7s
              clear N7 hw hsi hmay f1 f2 f3 f5 hi hr
              have xBS0 : wl.cell? ⟨g, 0, none⟩ = some (.int .i64 x.book) := one_at BS.out
              have xBS1 : wl.cell? ⟨g, 1, none⟩ = some (.int .i64 x.cust) := one_at BS.out
              have xBS2 : wl.cell? ⟨g, 2, none⟩ = some (.int .i64 x.dead) := one_at BS.out
              have xBS3 : wl.cell? ⟨g, 3, none⟩ = some (.int .i64 x.u0) := one_at BS.out
              have xBS4 : wl.cell? ⟨g, 4, none⟩ = some (.int .i64 x.u1) := one_at BS.out
              have xBS5 : wl.cell? ⟨g, 5, none⟩ = some (.int .i64 x.u2) := one_at BS.out
              have xBS6 : wl.cell? ⟨g, 6, none⟩ = some (.int .i64 x.price) := one_at BS.out
              have xBS7 : wl.cell? ⟨g, 7, none⟩ = some (.int .i64 3) := one_at BS.out
              have xBS8 : wl.cell? ⟨g, 8, none⟩ = some (.int .i64 (i : Int)) := one_at BS.out
              have xBS9 : wl.cell? ⟨g, 9, none⟩ = some (.int .i64 q) := one_at BS.out
              have xBS10 : wl.cell? ⟨g, 10, none⟩ = some (.int .i64 0) := one_at BS.out
              have lBS : g < wl.heap.size := lt_some BS.out
              go_wp2_with fail
              refine (TDl.out _ (by assumption)).mono ?_
              rintro e w1 ⟨rfl, h⟩
              clear xBS0 xBS1 xBS2 xBS3 xBS4 xBS5 xBS6 xBS7 xBS8 xBS9 xBS10 lBS
              replace BS := Lib.hid ((h.block _ (lt_some BS.out)).trans BS.out)
              have k2 : Hid (Below g wb w1) := kl.out.trans (h.mono (Nat.le_of_lt (Nat.lt_of_lt_of_le gb.out kl.out.size)))
              clear h
              have xBS0 : w1.cell? ⟨g, 0, none⟩ = some (.int .i64 x.book) := one_at BS.out
              have xBS1 : w1.cell? ⟨g, 1, none⟩ = some (.int .i64 x.cust) := one_at BS.out
              have xBS2 : w1.cell? ⟨g, 2, none⟩ = some (.int .i64 x.dead) := one_at BS.out
              have xBS3 : w1.cell? ⟨g, 3, none⟩ = some (.int .i64 x.u0) := one_at BS.out
              have xBS4 : w1.cell? ⟨g, 4, none⟩ = some (.int .i64 x.u1) := one_at BS.out
              have xBS5 : w1.cell? ⟨g, 5, none⟩ = some (.int .i64 x.u2) := one_at BS.out
              have xBS6 : w1.cell? ⟨g, 6, none⟩ = some (.int .i64 x.price) := one_at BS.out
              have xBS7 : w1.cell? ⟨g, 7, none⟩ = some (.int .i64 3) := one_at BS.out
              have xBS8 : w1.cell? ⟨g, 8, none⟩ = some (.int .i64 (i : Int)) := one_at BS.out
              have xBS9 : w1.cell? ⟨g, 9, none⟩ = some (.int .i64 q) := one_at BS.out
              have xBS10 : w1.cell? ⟨g, 10, none⟩ = some (.int .i64 0) := one_at BS.out
              have lBS : g < w1.heap.size := lt_some BS.out
              go_wp2_with fail
              refine (N7s.out _ (by assumption)).mono ?_
              rintro e w3 ⟨rfl, h⟩
              clear xBS0 xBS1 xBS2 xBS3 xBS4 xBS5 xBS6 xBS7 xBS8 xBS9 xBS10 lBS
              replace BS := Lib.hid ((h.block _ (lt_some BS.out)).trans BS.out)
              have k4 : Hid (Below g wb w3) := k2.out.trans (h.mono (Nat.le_of_lt (Nat.lt_of_lt_of_le gb.out k2.out.size)))
              clear h
              clear N7s TDl
              go_wp2_with fail
              go_ret
              exact ⟨rfl, kb.out.trans (k4.out.mono (Nat.le_of_lt gl.out))⟩
          ·
            as_aux_lemma =>
              replace BS : Hid (wl.heap[g]? = some (.cells #[.int .i64 x.book, .int .i64 x.cust, .int .i64 x.dead, .int .i64 x.u0, .int .i64 x.u1, .int .i64 x.u2, .int .i64 x.price, .int .i64 4, .int .i64 0, .int .i64 0, .int .i64 0] 26 (0, 0))) := BS.out
              obtain ⟨g1, g2, -⟩ := f2 (by simp)
              subst g2
              have g3 : (a == ((fwd x).length : Int)) = true := by rw [g1]; simp
              clear g1 N7 hw hsi hmay f1 f2 f3 f5
              have xBS0 : wl.cell? ⟨g, 0, none⟩ = some (.int .i64 x.book) := one_at BS.out
              have xBS1 : wl.cell? ⟨g, 1, none⟩ = some (.int .i64 x.cust) := one_at BS.out
              have xBS2 : wl.cell? ⟨g, 2, none⟩ = some (.int .i64 x.dead) := one_at BS.out
              have xBS3 : wl.cell? ⟨g, 3, none⟩ = some (.int .i64 x.u0) := one_at BS.out
              have xBS4 : wl.cell? ⟨g, 4, none⟩ = some (.int .i64 x.u1) := one_at BS.out
              have xBS5 : wl.cell? ⟨g, 5, none⟩ = some (.int .i64 x.u2) := one_at BS.out
              have xBS6 : wl.cell? ⟨g, 6, none⟩ = some (.int .i64 x.price) := one_at BS.out
              have xBS7 : wl.cell? ⟨g, 7, none⟩ = some (.int .i64 4) := one_at BS.out
              have xBS8 : wl.cell? ⟨g, 8, none⟩ = some (.int .i64 0) := one_at BS.out
              have xBS9 : wl.cell? ⟨g, 9, none⟩ = some (.int .i64 0) := one_at BS.out
              have xBS10 : wl.cell? ⟨g, 10, none⟩ = some (.int .i64 0) := one_at BS.out
              have lBS : g < wl.heap.size := lt_some BS.out
              go_wp2_with fail
              refine (TDl.out _ (by assumption)).mono ?_
              rintro e w1 ⟨rfl, h⟩
              clear xBS0 xBS1 xBS2 xBS3 xBS4 xBS5 xBS6 xBS7 xBS8 xBS9 xBS10 lBS
              replace BS := Lib.hid ((h.block _ (lt_some BS.out)).trans BS.out)
              have k2 : Hid (Below g wb w1) := kl.out.trans (h.mono (Nat.le_of_lt (Nat.lt_of_lt_of_le gb.out kl.out.size)))
              clear h
              have xBS0 : w1.cell? ⟨g, 0, none⟩ = some (.int .i64 x.book) := one_at BS.out
              have xBS1 : w1.cell? ⟨g, 1, none⟩ = some (.int .i64 x.cust) := one_at BS.out
              have xBS2 : w1.cell? ⟨g, 2, none⟩ = some (.int .i64 x.dead) := one_at BS.out
              have xBS3 : w1.cell? ⟨g, 3, none⟩ = some (.int .i64 x.u0) := one_at BS.out
              have xBS4 : w1.cell? ⟨g, 4, none⟩ = some (.int .i64 x.u1) := one_at BS.out
              have xBS5 : w1.cell? ⟨g, 5, none⟩ = some (.int .i64 x.u2) := one_at BS.out
              have xBS6 : w1.cell? ⟨g, 6, none⟩ = some (.int .i64 x.price) := one_at BS.out
              have xBS7 : w1.cell? ⟨g, 7, none⟩ = some (.int .i64 4) := one_at BS.out
              have xBS8 : w1.cell? ⟨g, 8, none⟩ = some (.int .i64 0) := one_at BS.out
              have xBS9 : w1.cell? ⟨g, 9, none⟩ = some (.int .i64 0) := one_at BS.out
              have xBS10 : w1.cell? ⟨g, 10, none⟩ = some (.int .i64 0) := one_at BS.out
              have lBS : g < w1.heap.size := lt_some BS.out
              go_wp2_with fail
              go_ret
              exact ⟨rfl, kb.out.trans (k2.out.mono (Nat.le_of_lt gl.out))⟩
          ·
            as_aux_lemma =>
              replace BS : Hid (wl.heap[g]? = some (.cells #[.int .i64 x.book, .int .i64 x.cust, .int .i64 x.dead, .int .i64 x.u0, .int .i64 x.u1, .int .i64 x.u2, .int .i64 x.price, .int .i64 5, .int .i64 0, .int .i64 q, .int .i64 0] 26 (0, 0))) := BS.out
              obtain ⟨g1, g2⟩ := f5 rfl
              have g3 : (b == ((bck x).length : Int)) = true := by rw [g1]; simp
              have g4 : (q == 0) = false := beq_eq_false_iff_ne.2 g2
              have g5 : (q != 0) = true := by simp [bne, g4]
              have g6 : ¬ q = 0 := g2
              clear g1 g2 N7 hw hsi hmay f1 f2 f3 f5 hr
              have xBS0 : wl.cell? ⟨g, 0, none⟩ = some (.int .i64 x.book) := one_at BS.out
              have xBS1 : wl.cell? ⟨g, 1, none⟩ = some (.int .i64 x.cust) := one_at BS.out
              have xBS2 : wl.cell? ⟨g, 2, none⟩ = some (.int .i64 x.dead) := one_at BS.out
              have xBS3 : wl.cell? ⟨g, 3, none⟩ = some (.int .i64 x.u0) := one_at BS.out
              have xBS4 : wl.cell? ⟨g, 4, none⟩ = some (.int .i64 x.u1) := one_at BS.out
              have xBS5 : wl.cell? ⟨g, 5, none⟩ = some (.int .i64 x.u2) := one_at BS.out
              have xBS6 : wl.cell? ⟨g, 6, none⟩ = some (.int .i64 x.price) := one_at BS.out
              have xBS7 : wl.cell? ⟨g, 7, none⟩ = some (.int .i64 5) := one_at BS.out
              have xBS8 : wl.cell? ⟨g, 8, none⟩ = some (.int .i64 0) := one_at BS.out
              have xBS9 : wl.cell? ⟨g, 9, none⟩ = some (.int .i64 q) := one_at BS.out
              have xBS10 : wl.cell? ⟨g, 10, none⟩ = some (.int .i64 0) := one_at BS.out
              have lBS : g < wl.heap.size := lt_some BS.out
              go_wp2_with fail
              refine (TDl.out _ (by assumption)).mono ?_
              rintro e w1 ⟨rfl, h⟩
              clear xBS0 xBS1 xBS2 xBS3 xBS4 xBS5 xBS6 xBS7 xBS8 xBS9 xBS10 lBS
              replace BS := Lib.hid ((h.block _ (lt_some BS.out)).trans BS.out)
              have k2 : Hid (Below g wb w1) := kl.out.trans (h.mono (Nat.le_of_lt (Nat.lt_of_lt_of_le gb.out kl.out.size)))
              clear h
              have xBS0 : w1.cell? ⟨g, 0, none⟩ = some (.int .i64 x.book) := one_at BS.out
              have xBS1 : w1.cell? ⟨g, 1, none⟩ = some (.int .i64 x.cust) := one_at BS.out
              have xBS2 : w1.cell? ⟨g, 2, none⟩ = some (.int .i64 x.dead) := one_at BS.out
              have xBS3 : w1.cell? ⟨g, 3, none⟩ = some (.int .i64 x.u0) := one_at BS.out
              have xBS4 : w1.cell? ⟨g, 4, none⟩ = some (.int .i64 x.u1) := one_at BS.out
              have xBS5 : w1.cell? ⟨g, 5, none⟩ = some (.int .i64 x.u2) := one_at BS.out
              have xBS6 : w1.cell? ⟨g, 6, none⟩ = some (.int .i64 x.price) := one_at BS.out
              have xBS7 : w1.cell? ⟨g, 7, none⟩ = some (.int .i64 5) := one_at BS.out
              have xBS8 : w1.cell? ⟨g, 8, none⟩ = some (.int .i64 0) := one_at BS.out
              have xBS9 : w1.cell? ⟨g, 9, none⟩ = some (.int .i64 q) := one_at BS.out
              have xBS10 : w1.cell? ⟨g, 10, none⟩ = some (.int .i64 0) := one_at BS.out
              have lBS : g < w1.heap.size := lt_some BS.out
              go_wp2_with fail
              go_ret
              exact ⟨rfl, kb.out.trans (k2.out.mono (Nat.le_of_lt gl.out))⟩
end Go.Proofs.YtakicogelkdofaaDoor.sagaEnds
