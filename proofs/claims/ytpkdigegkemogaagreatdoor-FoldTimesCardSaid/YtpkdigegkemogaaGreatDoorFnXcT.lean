/- Parts of the claim: FnL, FnN -/
import Derived.Test.YtpkdigegkemogaaGreatDoorFnXbT
import Derived.Test.YtpkdigegkemogaaGreatDoorFnXaT
import Derived.Test.YtpkdigegkemogaaGreatDoorReXaT
import Derived.Test.YtpkdigegkemogaaGreatDoorSgQXbT
namespace Go.Proofs.YtpkdigegkemogaaGreatDoor
set_option maxRecDepth 100000
open Go.RowKit
open Go.Proofs.YtpkdigegkemogaaGreatDoor.Pk (one_at one_free one_set lt_some)
namespace Fs
open Sg (Sag sz smay sgv sgc Tab BoxS snew snext sans scan slate eq_sag con qnew_any qnext_any qans_any qcan_any qlate_any)
open Re (Rec rcc rcv BoxR rmay wpList_rload wpList_rload_g)
open Pl (Stp spv wanv)
open Wt (Wan)

def bgn (s : Sag) : Bool := decide ((snew s.w s.si).2 = 0) && decide (s = (snew s.w s.si).1)
def flw (s : Sag) (r : Rec) : Bool := ((sans s (snext s).1 1).2 && decide ((sans s (snext s).1 1).1 = r.sg)) || (((sans s (snext s).1 2).2 && decide ((sans s (snext s).1 2).1 = r.sg)) || (((scan s).2 && decide ((scan s).1 = r.sg)) || ((slate s r.now).2 && decide ((slate s r.now).1 = r.sg))))
def tks (f : F) (r : Rec) : Bool := decide (r.kd = 3) && (match f r.sg.w.book with
  | some s => flw s r
  | none => bgn r.sg)
theorem saga_info : (Tryz.prog.info? 57).map (fun i => i.size) = some 11 := by kernel_rfl
theorem run_sload_at (w : World) (a : Addr) (s : Sag) (h : ∀ (j : Nat) (v : Value), (sgc s).toList[j]? = some v → w.cell? (a.add j) = some v) : (Instr.loadAt 57 (.pointer (some a))).run Tryz.prog w = .ok (sgv s) w := by
  have hl := run_loadCells_list (P := Tryz.prog) w a (sgc s).toList h
  obtain ⟨i, hq, hs⟩ : ∃ i, Tryz.prog.info? 57 = some i ∧ i.size = 11 := by
    have := saga_info
    cases hi : Tryz.prog.info? 57 with
    | none => rw [hi] at this; cases this
    | some i => rw [hi] at this; exact ⟨i, rfl, by simpa using this⟩
  have hagg : (isAgg 57).run Tryz.prog w = .ok true w := by
    unfold isAgg
    rw [Sem.run_bind, run_underlying Tryz.underlying57 w]
    rfl
  rw [show (sgc s).toList.length = 11 from rfl] at hl
  simp [Instr.loadAt, Instr.sureAddr, loadVar, Sem.run_bind, hagg, sizeOf, typeInfo, hq, hs, hl]
section
variable {ops : Array Oper} {rest : List Oper} {o : Oper} {a : Act} {w : World} {Q : Exit → Act → World → Prop}
theorem wpList_sload_g (x : Operand) (ho : o.op = .load 57 x) (hw : Region.wanted o (yielded ops a.tmps) = true) (p : Addr) (hx : a.eval x = .pointer (some p)) (s : Sag) (h : ∀ (j : Nat) (v : Value), (sgc s).toList[j]? = some v → w.cell? (p.add j) = some v)
    (hk : wpList Tryz.prog ops Q rest (a.put o.dst (sgv s)) w) : wpList Tryz.prog ops Q (o :: rest) a w :=
  BigFrame.wpList_want hw fun K hK => by
    unfold Oper.wp execOp
    simp only [ho, hx, Sem.run_bind, Sem.run_pure, Result.andThen_ok, run_sload_at w p s h]
    exact hK _ _ hk
theorem wpList_seql_g (x y : Operand) (ho : o.op = .binOp .eql 57 x y 57) (hw : Region.wanted o (yielded ops a.tmps) = true) (s t : Sag) (b : Bool) (hb : b = decide (s = t)) (hx : a.eval x = sgv s) (hy : a.eval y = sgv t)
    (hk : wpList Tryz.prog ops Q rest (a.put o.dst (.bool b)) w) : wpList Tryz.prog ops Q (o :: rest) a w :=
  BigFrame.wpList_want hw fun K hK => by
    have EQ := eq_sag w s t
    rw [← hb] at EQ
    have EG := run_eqGuard_agg (P := Tryz.prog) (w := w) .eql 57 x y (sgc s) (sgc t) Tryz.eqGuardType57
    unfold Oper.wp execOp
    simp only [ho, hx, hy, Sem.run_bind, Sem.run_pure, Result.andThen_ok, EG, run_eql_struct, EQ]
    exact hK _ _ hk
end
theorem boxs_at {w : World} {p : Nat} {s : Sag} (B : BoxS w p s) (j : Nat) (v : Value) (hj : (sgc s).toList[j]? = some v) : w.cell? (Addr.add ⟨p, 0, none⟩ j) = some v := by
  rw [St.add0, one_at B]
  simpa using hj
theorem boxr_at {w : World} {g : Nat} {r : Rec} (B : BoxR w g r) (j : Nat) (v : Value) (hj : (sgc r.sg).toList[j]? = some v) : w.cell? (Addr.add ⟨g, 8, none⟩ j) = some v := by
  rw [Addr.add_lit, one_at B]
  match j, hj with
  | 0, hj | 1, hj | 2, hj | 3, hj | 4, hj | 5, hj | 6, hj | 7, hj | 8, hj | 9, hj | 10, hj => exact hj
set_option maxHeartbeats 1600000 in
theorem begins_any (w : World) (_t : Tab w) (s : Sag) : Calls Tryz.prog 68 #[sgv s] w fun e w' => e = .returned (.bool (bgn s)) ∧ Below w.heap.size w w' := by
  obtain ⟨w0, e0⟩ : ∃ z, z = w.alloc (.cells (sgc s) 57) := ⟨_, rfl⟩
  have be0 : Hid (Below w.heap.size w w0) := by rw [e0]; exact (Below.refl _ w).alloc (Nat.le_refl _) _
  have B0 : Hid (BoxS w0 w.heap.size s) := by rw [e0]; exact heap_alloc_new _ _
  have NW := qnew_any w0 s.w s.si
  have F : Hid (bgn s = bgn s) := rfl
  clear F
  unfold bgn
  obtain ⟨⟨x, n⟩, hy⟩ : ∃ y, y = snew s.w s.si := ⟨_, rfl⟩
  rw [← hy] at NW ⊢
  clear hy
  simp only at NW ⊢
  obtain ⟨b, hb⟩ : ∃ b, b = decide (s = x) := ⟨_, rfl⟩
  obtain ⟨z, hz⟩ : ∃ z, z = decide (n = 0) := ⟨_, rfl⟩
  rw [← hb, ← hz]
  have gb : (n == 0) = z := by rw [hz]; rfl
  replace hb := Lib.hid hb
  clear hz
  unfold wanv at NW
  unfold sgv sgc at *
  replace NW := Lib.hid NW
  replace e0 := Lib.hid e0
  obtain ⟨c0, c1, c2, c3, c4, c5, c6, c7, c8, c9, c10⟩ := B0.out.cells
  go_enter Tryz.func68, Tryz.ntmps68
  go_upto_region 1 with fail
  rw [← e0.out]
  go_wp2_with fail
  refine NW.out.mono ?_
  rintro e w1 ⟨rfl, h⟩
  have be1 : Hid (Below w.heap.size w w1) := be0.out.trans (h.mono be0.out.size)
  have B1 : Hid (BoxS w1 w.heap.size s) := (h.block _ B0.out.lt).trans B0.out
  have lk := B0.out.lt
  have hs := h.size
  clear h NW e0 be0 B0 c0 c1 c2 c3 c4 c5 c6 c7 c8 c9 c10
  go_upto_region 2 with fail
  obtain ⟨w2, e2⟩ : ∃ z, z = w1.alloc (.cells #[.int .i64 x.w.book, .int .i64 x.w.cust, .int .i64 x.w.dead, .int .i64 x.w.u0, .int .i64 x.w.u1, .int .i64 x.w.u2, .int .i64 x.w.price, .int .i64 x.ph, .int .i64 x.st, .int .i64 x.rs, .int .i64 x.si] 57) := ⟨_, rfl⟩
  rw [← e2]
  have h2 : Below w1.heap.size w1 w2 := by rw [e2]; exact (Below.refl _ w1).alloc (Nat.le_refl _) _
  have X2 : Hid (BoxS w2 w1.heap.size x) := by rw [e2]; exact heap_alloc_new _ _
  have B2 : Hid (BoxS w2 w.heap.size s) := (h2.block _ (lt_some B1.out)).trans B1.out
  have be2 : Hid (Below w.heap.size w w2) := be1.out.trans (h2.mono be1.out.size)
  clear e2 h2 B1 be1 lk hs
  cases z with
  | false =>
    go_wp2
    go_ret
    exact ⟨rfl, be2.out⟩
  | true =>
    go_wp2_with (first | (refine wpList_sload_g (.tmp 1) rfl rfl ⟨w.heap.size, 0, none⟩ rfl s (boxs_at B2.out) ?_) | (refine wpList_sload_g (.tmp 3) rfl rfl ⟨w1.heap.size, 0, none⟩ rfl x (boxs_at X2.out) ?_) | (refine wpList_seql_g (.tmp 16) (.tmp 17) rfl rfl s x b hb.out rfl rfl ?_))
    go_ret
    exact ⟨rfl, be2.out⟩

set_option maxHeartbeats 1600000 in
theorem clo_any (w : World) (g : Nat) (x : Sag) (ok : Bool) (r : Rec) (B : BoxR w g r) : Calls Tryz.prog 98 #[sgv x, .bool ok, .pointer (some ⟨g, 0, none⟩)] w fun e w' => e = .returned (.bool (ok && decide (x = r.sg))) ∧ Below w.heap.size w w' := by
  obtain ⟨w0, e0⟩ : ∃ z, z = w.alloc (.cells (sgc x) 57) := ⟨_, rfl⟩
  have be0 : Hid (Below w.heap.size w w0) := by rw [e0]; exact (Below.refl _ w).alloc (Nat.le_refl _) _
  have B0 : Hid (BoxS w0 w.heap.size x) := by rw [e0]; exact heap_alloc_new _ _
  have R0 : Hid (BoxR w0 g r) := B.below be0.out
  obtain ⟨b, hb⟩ : ∃ b, b = decide (x = r.sg) := ⟨_, rfl⟩
  rw [← hb]
  replace hb := Lib.hid hb
  clear B
  unfold sgv sgc at *
  replace e0 := Lib.hid e0
  go_enter Tryz.func98, Tryz.ntmps98
  go_upto_region 1 with fail
  rw [← e0.out]
  clear e0
  cases ok with
  | false =>
    go_wp2
    go_ret
    exact ⟨rfl, be0.out⟩
  | true =>
    go_wp2_with (first | (refine wpList_sload_g (.tmp 3) rfl rfl ⟨w.heap.size, 0, none⟩ rfl x (boxs_at B0.out) ?_) | (refine wpList_sload_g (.tmp 9) rfl rfl ⟨g, 8, none⟩ rfl r.sg (boxr_at R0.out) ?_) | (refine wpList_seql_g (.tmp 8) (.tmp 10) rfl rfl x r.sg b hb.out rfl rfl ?_))
    go_ret
    exact ⟨rfl, be0.out⟩
structure Uw (w wr : World) (p q g : Nat) (s : Sag) (a : Stp) (r : Rec) : Prop where
  be : Below w.heap.size w wr
  bs : BoxS wr p s
  ba : wr.heap[q]? = some (.cells #[.int .i64 a.node, .int .i64 a.op.kind, .int .i64 a.op.book, .int .i64 a.op.units, .int .i64 a.op.cust, .int .i64 a.op.amount] 181 (0, 0))
  br : BoxR wr g r
theorem Uw.below {w wr w' : World} {p q g : Nat} {s : Sag} {a : Stp} {r : Rec} (U : Uw w wr p q g s a r) (h : Below wr.heap.size wr w') : Uw w w' p q g s a r :=
  ⟨U.be.trans (h.mono U.be.size), (h.block _ (lt_some U.bs)).trans U.bs, (h.block _ (lt_some U.ba)).trans U.ba, U.br.below h⟩
set_option maxHeartbeats 6400000 in
theorem follows_any (w : World) (t : Tab w) (s : Sag) (r : Rec) : Calls Tryz.prog 67 #[sgv s, rcv r] w fun e w' => e = .returned (.bool (flw s r)) ∧ Below w.heap.size w w' := by
  obtain ⟨w0, e0⟩ : ∃ z, z = (w.alloc (.cells (sgc s) 57)).alloc (.cells (rcc r) 64) := ⟨_, rfl⟩
  have be0 : Hid (Below w.heap.size w w0) := by rw [e0]; exact ((Below.refl _ w).alloc (Nat.le_refl _) _).alloc (by simp) _
  have BS : Hid (BoxS w0 w.heap.size s) := by rw [e0]; exact heap_alloc2_old _ _ _
  have BR : Hid (BoxR w0 (w.heap.size + 1) r) := by
    have := heap_alloc_new (w.alloc (.cells (sgc s) 57)) (.cells (rcc r) 64)
    rw [show (w.alloc (.cells (sgc s) 57)).heap.size = w.heap.size + 1 by simp] at this
    rw [e0]
    exact this
  have N1 := con t fun w' t => qnext_any w' t s
  have N2 := con t fun w' t => qans_any w' t s (snext s).1 1
  have N3 := con t fun w' t => qans_any w' t s (snext s).1 2
  have N4 := con t fun w' t => qcan_any w' t s
  have N5 := con t fun w' t => qlate_any w' t s r.now
  unfold flw
  generalize snext s = y at *
  obtain ⟨a, nb⟩ := y
  simp only at N1 N2 N3 ⊢
  generalize sans s a 1 = y1 at *
  generalize sans s a 2 = y2 at *
  generalize scan s = y3 at *
  generalize slate s r.now = y4 at *
  obtain ⟨x1, b1⟩ := y1
  obtain ⟨x2, b2⟩ := y2
  obtain ⟨x3, b3⟩ := y3
  obtain ⟨x4, b4⟩ := y4
  simp only at N2 N3 N4 N5 ⊢
  obtain ⟨g, hg⟩ : ∃ g, g = w.heap.size + 1 := ⟨_, rfl⟩
  rw [← hg] at BR
  have K1 : ∀ w', BoxR w' g r → _ := fun w' B => clo_any w' g x1 b1 r B
  have K2 : ∀ w', BoxR w' g r → _ := fun w' B => clo_any w' g x2 b2 r B
  have K3 : ∀ w', BoxR w' g r → _ := fun w' B => clo_any w' g x3 b3 r B
  have K4 : ∀ w', BoxR w' g r → _ := fun w' B => clo_any w' g x4 b4 r B
  generalize (b1 && decide (x1 = r.sg)) = k1 at *
  generalize (b2 && decide (x2 = r.sg)) = k2 at *
  generalize (b3 && decide (x3 = r.sg)) = k3 at *
  generalize (b4 && decide (x4 = r.sg)) = k4 at *
  unfold spv at *
  replace N1 := Lib.hid N1
  replace N2 := Lib.hid N2
  replace N3 := Lib.hid N3
  replace N4 := Lib.hid N4
  replace N5 := Lib.hid N5
  replace K1 := Lib.hid K1
  replace K2 := Lib.hid K2
  replace K3 := Lib.hid K3
  replace K4 := Lib.hid K4
  replace e0 := Lib.hid e0
  replace hg := Lib.hid hg
  clear t
  unfold rcv
  go_enter Tryz.func67, Tryz.ntmps67
  go_upto_region 1 with fail
  have e0' := e0.out
  unfold sgc rcc at e0'
  rw [← e0', ← hg.out]
  clear e0' e0 hg
  go_wp2_with (refine wpList_sload_g (.tmp 2) rfl rfl ⟨w.heap.size, 0, none⟩ rfl s (boxs_at BS.out) ?_)
  refine (N1.out _ (by assumption)).mono ?_
  rintro e w1 ⟨rfl, h⟩
  have B1 : Hid (BoxS w1 w.heap.size s) := (h.block _ (lt_some BS.out)).trans BS.out
  have R1 : Hid (BoxR w1 g r) := BR.out.below h
  have be1 : Hid (Below w.heap.size w w1) := be0.out.trans (h.mono be0.out.size)
  clear h BS BR be0 N1
  go_upto_region 3 with fail
  obtain ⟨w2, e2⟩ : ∃ z, z = w1.alloc (.cells #[.int .i64 a.node, .int .i64 a.op.kind, .int .i64 a.op.book, .int .i64 a.op.units, .int .i64 a.op.cust, .int .i64 a.op.amount] 181) := ⟨_, rfl⟩
  rw [← e2]
  have h2 : Below w1.heap.size w1 w2 := by rw [e2]; exact (Below.refl _ w1).alloc (Nat.le_refl _) _
  obtain ⟨q, hq⟩ : ∃ q, q = w1.heap.size := ⟨_, rfl⟩
  have U0 : Hid (Uw w w2 w.heap.size q g s a r) := ⟨be1.out.trans (h2.mono be1.out.size), (h2.block _ (lt_some B1.out)).trans B1.out, by rw [e2, hq]; exact heap_alloc_new _ _, R1.out.below h2⟩
  rw [← hq]
  have bb : Hid (Below w.heap.size w w2) := U0.out.be
  clear e2 h2 hq B1 R1 be1
  have d0 : _ = some _ := one_at (i := 0) U0.out.ba
  have d1 : _ = some _ := one_at (i := 1) U0.out.ba
  have d2 : _ = some _ := one_at (i := 2) U0.out.ba
  have d3 : _ = some _ := one_at (i := 3) U0.out.ba
  have d4 : _ = some _ := one_at (i := 4) U0.out.ba
  have d5 : _ = some _ := one_at (i := 5) U0.out.ba
  have c11 := U0.out.br.cells.c1
  have lk := lt_some U0.out.bs
  have lk2 := lt_some U0.out.ba
  have lk3 := lt_some U0.out.br
  go_wp2_with (refine wpList_sload_g (.tmp 2) rfl rfl ⟨w.heap.size, 0, none⟩ rfl s (boxs_at U0.out.bs) ?_)
  refine (N2.out _ (by assumption)).mono ?_
  rintro e w3 ⟨rfl, h⟩
  have U3 := Lib.hid (U0.out.below h)
  have bb : Hid (Below w.heap.size w w3) := U3.out.be
  clear h U0 N2  d0 d1 d2 d3 d4 d5 c11 lk lk2 lk3
  go_wp2_with fail
  refine (K1.out _ U3.out.br).mono ?_
  rintro e w4 ⟨rfl, h⟩
  have U4 := Lib.hid (U3.out.below h)
  have bb : Hid (Below w.heap.size w w4) := U4.out.be
  clear h U3 K1
  cases k1 with
  | true =>
    go_wp2
    go_ret
    exact ⟨rfl, bb.out⟩
  | false =>
    have d0 : _ = some _ := one_at (i := 0) U4.out.ba
    have d1 : _ = some _ := one_at (i := 1) U4.out.ba
    have d2 : _ = some _ := one_at (i := 2) U4.out.ba
    have d3 : _ = some _ := one_at (i := 3) U4.out.ba
    have d4 : _ = some _ := one_at (i := 4) U4.out.ba
    have d5 : _ = some _ := one_at (i := 5) U4.out.ba
    have c11 := U4.out.br.cells.c1
    have lk := lt_some U4.out.bs
    have lk2 := lt_some U4.out.ba
    have lk3 := lt_some U4.out.br
    go_wp2_with (refine wpList_sload_g (.tmp 2) rfl rfl ⟨w.heap.size, 0, none⟩ rfl s (boxs_at U4.out.bs) ?_)
    refine (N3.out _ (by assumption)).mono ?_
    rintro e w5 ⟨rfl, h⟩
    have U5 := Lib.hid (U4.out.below h)
    have bb : Hid (Below w.heap.size w w5) := U5.out.be
    clear h U4 N3  d0 d1 d2 d3 d4 d5 c11 lk lk2 lk3
    go_wp2_with fail
    refine (K2.out _ U5.out.br).mono ?_
    rintro e w6 ⟨rfl, h⟩
    have U6 := Lib.hid (U5.out.below h)
    have bb : Hid (Below w.heap.size w w6) := U6.out.be
    clear h U5 K2
    cases k2 with
    | true =>
      go_wp2
      go_ret
      exact ⟨rfl, bb.out⟩
    | false =>
      have d0 : _ = some _ := one_at (i := 0) U6.out.ba
      have d1 : _ = some _ := one_at (i := 1) U6.out.ba
      have d2 : _ = some _ := one_at (i := 2) U6.out.ba
      have d3 : _ = some _ := one_at (i := 3) U6.out.ba
      have d4 : _ = some _ := one_at (i := 4) U6.out.ba
      have d5 : _ = some _ := one_at (i := 5) U6.out.ba
      have c11 := U6.out.br.cells.c1
      have lk := lt_some U6.out.bs
      have lk2 := lt_some U6.out.ba
      have lk3 := lt_some U6.out.br
      go_wp2_with (refine wpList_sload_g (.tmp 2) rfl rfl ⟨w.heap.size, 0, none⟩ rfl s (boxs_at U6.out.bs) ?_)
      refine (N4.out _ (by assumption)).mono ?_
      rintro e w7 ⟨rfl, h⟩
      have U7 := Lib.hid (U6.out.below h)
      have bb : Hid (Below w.heap.size w w7) := U7.out.be
      clear h U6 N4  d0 d1 d2 d3 d4 d5 c11 lk lk2 lk3
      go_wp2_with fail
      refine (K3.out _ U7.out.br).mono ?_
      rintro e w8 ⟨rfl, h⟩
      have U8 := Lib.hid (U7.out.below h)
      have bb : Hid (Below w.heap.size w w8) := U8.out.be
      clear h U7 K3
      cases k3 with
      | true =>
        go_wp2
        go_ret
        exact ⟨rfl, bb.out⟩
      | false =>
        have d0 : _ = some _ := one_at (i := 0) U8.out.ba
        have d1 : _ = some _ := one_at (i := 1) U8.out.ba
        have d2 : _ = some _ := one_at (i := 2) U8.out.ba
        have d3 : _ = some _ := one_at (i := 3) U8.out.ba
        have d4 : _ = some _ := one_at (i := 4) U8.out.ba
        have d5 : _ = some _ := one_at (i := 5) U8.out.ba
        have c11 := U8.out.br.cells.c1
        have lk := lt_some U8.out.bs
        have lk2 := lt_some U8.out.ba
        have lk3 := lt_some U8.out.br
        go_wp2_with (refine wpList_sload_g (.tmp 2) rfl rfl ⟨w.heap.size, 0, none⟩ rfl s (boxs_at U8.out.bs) ?_)
        refine (N5.out _ (by assumption)).mono ?_
        rintro e w9 ⟨rfl, h⟩
        have U9 := Lib.hid (U8.out.below h)
        have bb : Hid (Below w.heap.size w w9) := U9.out.be
        clear h U8 N5  d0 d1 d2 d3 d4 d5 c11 lk lk2 lk3
        go_wp2_with fail
        refine (K4.out _ U9.out.br).mono ?_
        rintro e w10 ⟨rfl, h⟩
        have U10 := Lib.hid (U9.out.below h)
        have bb : Hid (Below w.heap.size w w10) := U10.out.be
        clear h U9 K4
        go_wp2
        go_ret
        exact ⟨rfl, bb.out⟩
end Fs
end Go.Proofs.YtpkdigegkemogaaGreatDoor
namespace Go.Proofs.YtpkdigegkemogaaGreatDoor
set_option maxRecDepth 100000
open Go.RowKit
open Go.Proofs.YtpkdigegkemogaaGreatDoor.Pk (one_at one_free one_set lt_some)
namespace Fs
open Sg (Sag sz smay sgv sgc Tab BoxS)
open Re (Rec rcc rcv BoxR rmay rmay_cases wpList_rload wpList_rload_g)
open St (Kq)

theorem book_in {s : Sag} (h : smay s = true) : 1 ≤ s.w.book ∧ s.w.book ≤ 200 := by
  unfold smay Wt.may at h
  simp only [Bool.and_eq_true] at h
  have h1 := h.1.1
  unfold Wt.inR at h1
  simp only [decide_eq_true_eq] at h1
  omega
theorem tks_no {f : F} {r : Rec} (h : r.kd ≠ 3) : tks f r = false := by unfold tks; rw [decide_eq_false h]; rfl
theorem tks_some {f : F} {r : Rec} {s : Sag} (h : r.kd = 3) (e : f r.sg.w.book = some s) : tks f r = flw s r := by unfold tks; rw [decide_eq_true h, e]; rfl
theorem tks_none {f : F} {r : Rec} (h : r.kd = 3) (e : f r.sg.w.book = none) : tks f r = bgn r.sg := by unfold tks; rw [decide_eq_true h, e]; rfl
def put (f : F) (r : Rec) : F := if tks f r = true then upd f r.sg.w.book r.sg else f
theorem kd_3 {r : Rec} (h : rmay r = true) (k : r.kd = 3) : smay r.sg = true := by
  rcases rmay_cases h with h | h | h
  · omega
  · omega
  · exact h.2.2.2
theorem Ok.put {f : F} {r : Rec} (O : Ok f) (h : rmay r = true) : Ok (put f r) := by
  unfold Fs.put
  split
  · rename_i ht
    have k : r.kd = 3 := by
      by_cases k : r.kd = 3
      · exact k
      · rw [tks_no k] at ht; cases ht
    have := book_in (kd_3 h k)
    exact O.upd this.1 this.2 (kd_3 h k)
  · exact O
set_option maxHeartbeats 3200000 in
theorem take_any (w : World) (t : Tab w) (m : Nat) (f : F) (M : Map w m f) (r : Rec) (hr : rmay r = true) : Calls Tryz.prog 37 #[.map (some m), rcv r] w fun e w' => e = .returned (.bool (tks f r)) ∧ Map w' m (put f r) ∧ Kq (fun g => g = m) w w' := by
  obtain ⟨w0, e0⟩ : ∃ z, z = w.alloc (.cells (rcc r) 64) := ⟨_, rfl⟩
  have be0 : Hid (Below w.heap.size w w0) := by rw [e0]; exact (Below.refl _ w).alloc (Nat.le_refl _) _
  have B0 : Hid (BoxR w0 w.heap.size r) := by rw [e0]; exact heap_alloc_new _ _
  have M0 := Lib.hid (M.below be0.out)
  have T0 := t.below be0.out
  have ml : Hid (m < w.heap.size) := M.lt
  replace e0 := Lib.hid e0
  clear M t
  by_cases k : r.kd = 3
  · have hs := kd_3 hr k
    have hb := book_in hs
    cases hf : f r.sg.w.book with
    | none =>
      have PT : Hid (put f r = if bgn r.sg = true then upd f r.sg.w.book r.sg else f) := by unfold Hid put; rw [tks_none k hf]
      rw [tks_none k hf]
      have LO := M0.out.look_ok (k := r.sg.w.book) ⟨by omega, by omega⟩
      have eg : get f r.sg.w.book = sz := by unfold get; rw [hf]; rfl
      rw [eg, hf] at LO
      have NB : ∀ w', Hid (Below w0.heap.size w0 w') → _ := Sg.con T0 fun w' t => begins_any w' t r.sg
      generalize bgn r.sg = b at *
      rw [PT.out]
      simp only [Option.isSome] at LO
      unfold sz at LO
      replace hb := Lib.hid hb
      replace NB := Lib.hid NB
      clear hf eg hs hr PT T0
      unfold rcv
      go_enter Tryz.func37, Tryz.ntmps37
      go_upto_region 1 with fail
      have e0' := e0.out
      unfold rcc at e0'
      rw [← e0']
      clear e0' e0
      have c0 := B0.out.cells.c0
      rw [k] at c0
      have c8 := B0.out.cells.c8
      have lk := B0.out.lt
      clear k
      go_upto_region 5 with fail
      obtain ⟨w2, e2⟩ : ∃ z, z = w0.alloc (.cells #[.int .i64 0, .int .i64 0, .int .i64 0, .int .i64 0, .int .i64 0, .int .i64 0, .int .i64 0, .int .i64 0, .int .i64 0, .int .i64 0, .int .i64 0] 57) := ⟨_, rfl⟩
      rw [← e2]
      have h2 : Below w0.heap.size w0 w2 := by rw [e2]; exact (Below.refl _ _).alloc (Nat.le_refl _) _
      have B2 := Lib.hid (B0.out.below h2)
      have M2 := Lib.hid (M0.out.below h2)
      have bb : Hid (Below w0.heap.size w0 w2) := h2
      clear e2 h2 B0 M0 c0 c8 lk LO
      have lk := B2.out.lt
      go_wp2_with (refine wpList_sload_g (.tmp 32) rfl rfl ⟨w.heap.size, 8, none⟩ rfl r.sg (boxr_at B2.out) ?_)
      refine (NB.out _ bb).mono ?_
      rintro e w3 ⟨rfl, h⟩
      have B3 := Lib.hid (B2.out.below h)
      have M3 := Lib.hid (M2.out.below h)
      have be3 : Hid (Below w.heap.size w w3) := be0.out.trans ((bb.out.trans (h.mono bb.out.size)).mono be0.out.size)
      clear h B2 M2 bb be0 NB lk
      have lk := B3.out.lt
      cases b with
      | false =>
        go_wp2
        go_ret
        exact ⟨rfl, M3.out, Kq.of_below be3.out⟩
      | true =>
        obtain ⟨w4, hrun, hM4, g4⟩ := M3.out.put r.sg hb.out.1 hb.out.2
        replace hM4 := Lib.hid hM4
        replace g4 := Lib.hid g4
        unfold sgv sgc at hrun
        go_wp2_with (refine wpList_sload_g (.tmp 40) rfl rfl ⟨w.heap.size, 8, none⟩ rfl r.sg (boxr_at B3.out) ?_)
        go_ret
        exact ⟨rfl, hM4.out, (Kq.of_below be3.out).trans (Kq.of_grown g4.out fun g e => by injection e with e; exact .inl e.symm)⟩
    | some s =>
      have PT : Hid (put f r = if flw s r = true then upd f r.sg.w.book r.sg else f) := by unfold Hid put; rw [tks_some k hf]
      rw [tks_some k hf]
      have LO := M0.out.look_ok (k := r.sg.w.book) ⟨by omega, by omega⟩
      have eg : get f r.sg.w.book = s := by unfold get; rw [hf]; rfl
      rw [eg, hf] at LO
      have NB : ∀ w', Hid (Below w0.heap.size w0 w') → _ := Sg.con T0 fun w' t => follows_any w' t s r
      generalize flw s r = b at *
      rw [PT.out]
      simp only [Option.isSome] at LO
      unfold sgv sgc at LO
      replace hb := Lib.hid hb
      replace NB := Lib.hid NB
      clear hf eg hs hr PT T0
      unfold rcv
      go_enter Tryz.func37, Tryz.ntmps37
      go_upto_region 1 with fail
      have e0' := e0.out
      unfold rcc at e0'
      rw [← e0']
      clear e0' e0
      have c0 := B0.out.cells.c0
      rw [k] at c0
      have c8 := B0.out.cells.c8
      have lk := B0.out.lt
      clear k
      go_upto_region 5 with fail
      obtain ⟨w2, e2⟩ : ∃ z, z = w0.alloc (.cells #[.int .i64 s.w.book, .int .i64 s.w.cust, .int .i64 s.w.dead, .int .i64 s.w.u0, .int .i64 s.w.u1, .int .i64 s.w.u2, .int .i64 s.w.price, .int .i64 s.ph, .int .i64 s.st, .int .i64 s.rs, .int .i64 s.si] 57) := ⟨_, rfl⟩
      rw [← e2]
      have h2 : Below w0.heap.size w0 w2 := by rw [e2]; exact (Below.refl _ _).alloc (Nat.le_refl _) _
      have S2 : Hid (BoxS w2 w0.heap.size s) := by rw [e2]; exact heap_alloc_new _ _
      have B2 := Lib.hid (B0.out.below h2)
      have M2 := Lib.hid (M0.out.below h2)
      have bb : Hid (Below w0.heap.size w0 w2) := h2
      clear e2 h2 B0 M0 c0 c8 lk LO
      go_wp2_with (first | (refine wpList_sload_g (.tmp 6) rfl rfl ⟨w0.heap.size, 0, none⟩ rfl s (boxs_at S2.out) ?_) | (refine wpList_rload_g (.tmp 3) rfl rfl w.heap.size rfl r B2.out ?_))
      refine (NB.out _ bb).mono ?_
      rintro e w3 ⟨rfl, h⟩
      have B3 := Lib.hid (B2.out.below h)
      have M3 := Lib.hid (M2.out.below h)
      have be3 : Hid (Below w.heap.size w w3) := be0.out.trans ((bb.out.trans (h.mono bb.out.size)).mono be0.out.size)
      clear h B2 M2 bb be0 NB S2
      have lk := B3.out.lt
      cases b with
      | false =>
        go_wp2
        go_ret
        exact ⟨rfl, M3.out, Kq.of_below be3.out⟩
      | true =>
        obtain ⟨w4, hrun, hM4, g4⟩ := M3.out.put r.sg hb.out.1 hb.out.2
        replace hM4 := Lib.hid hM4
        replace g4 := Lib.hid g4
        unfold sgv sgc at hrun
        go_wp2_with (refine wpList_sload_g (.tmp 40) rfl rfl ⟨w.heap.size, 8, none⟩ rfl r.sg (boxr_at B3.out) ?_)
        go_ret
        exact ⟨rfl, hM4.out, (Kq.of_below be3.out).trans (Kq.of_grown g4.out fun g e => by injection e with e; exact .inl e.symm)⟩
  · rw [tks_no k]
    have PT : Hid (put f r = f) := by unfold Hid put; rw [tks_no k]; rfl
    rw [PT.out]
    have gb : (r.kd != 3) = true := by simp [k]
    clear PT hr T0 ml
    unfold rcv
    go_enter Tryz.func37, Tryz.ntmps37
    go_upto_region 1 with fail
    have e0' := e0.out
    unfold rcc at e0'
    rw [← e0']
    clear e0' e0
    have c0 := B0.out.cells.c0
    have lk := B0.out.lt
    clear k
    go_wp2
    go_ret
    exact ⟨rfl, M0.out, Kq.of_below be0.out⟩
end Fs
end Go.Proofs.YtpkdigegkemogaaGreatDoor
