/- Which sagas may be, what they ask, what they turn into (SagaAsks). -/
import Derived.Test.YtakicogelkdofaaDoorSgW
import Derived.LoopTactic
namespace Go.Proofs.YtakicogelkdofaaDoor.sagaAsks
set_option maxRecDepth 100000
open Go.RowKit
open Go.Proofs.YtakicogelkdofaaDoor.Pk (one_at one_free one_set lt_some)
open Go.Proofs.YtakicogelkdofaaDoor.Sg
open Go.Proofs.YtakicogelkdofaaDoor.Wt (Wan may Opn mayOp)
open Go.Proofs.YtakicogelkdofaaDoor.Pl (Stp fwd bck cap z0 wanv spv)

theorem over_ph {s : Sag} (h : smay s = true) : sover s = decide (4 ≤ s.ph) := by
  obtain ⟨-, -, hc⟩ := smay_true h
  unfold sover
  rw [h]
  rcases hc with ⟨hp, -⟩ | ⟨hp, -⟩ | ⟨hp, -⟩ | ⟨hp, -⟩ | ⟨hp, -⟩ <;> rw [hp] <;> rfl
set_option maxHeartbeats 25600000 in
theorem walk (P : Prg) (w : World) (ht : Tab w) (s : Sag) (a : Stp) (n now : Int) : Calls Tryd.prog 3 #[sgv s, spv a, .int .i64 n, .int .i64 now] w fun e w' => e = .returned (.bool true) ∧ Below w.heap.size w w' := by
  have TD := con ht fun w' t => told_any P w' t
  have N1 := con ht fun w' t => P.next w' t s
  have R1 := fun w => rnext_any w s
  have M1 := con ht fun w' t => P.may w' t s
  have M2 := fun w => rsmay_any w s
  have PR := fun w a => pair_any w a
  have T1 := con ht fun w' t => P.tells w' t s
  have T2 := fun w => rtells_any w s
  have O1 := con ht fun w' t => P.over w' t s
  have A1 := con ht fun w' t => P.ans w' t s a n
  have A2 := fun w => rans_any w s a n
  have A3 := con ht fun w' t => P.ans w' t s (snext s).1 n
  have A4 := fun w => rans_any w s (snext s).1 n
  have C1 := con ht fun w' t => P.can w' t s
  have C2 := fun w => rcan_any w s
  have L1 := con ht fun w' t => P.late w' t s now
  have L2 := fun w => rlate_any w s now
  have Z1 := con ht fun w' t => P.new w' t s.w now
  have Z2 := fun w => rnew_any w s.w now
  have OV : smay s = true → sover s = decide (4 ≤ s.ph) := over_ph
  have OW : smay s = false → sover s = false := fun h => by unfold sover; rw [h]; rfl
  generalize (snext s).1 = nx at *
  generalize (snext s).2 = ok at *
  generalize smay s = my at *
  generalize sover s = ov at *
  generalize stells s = tl at *
  generalize (sans s a n).1 = ya at *
  generalize (sans s a n).2 = pa at *
  generalize (sans s nx n).1 = yn at *
  generalize (sans s nx n).2 = pn at *
  generalize (scan s).1 = yc at *
  generalize (scan s).2 = pc at *
  generalize (slate s now).1 = yl at *
  generalize (slate s now).2 = pl at *
  generalize (snew s.w now).1 = yz at *
  generalize (snew s.w now).2 = ez at *
  have EN := fun w => eq_rask w nx nx
  have Ea := fun w => eq_sag w ya ya
  have En := fun w => eq_sag w yn yn
  have Ec := fun w => eq_sag w yc yc
  have El := fun w => eq_sag w yl yl
  have Ez := fun w => eq_sag w yz yz
  rw [decide_eq_true rfl] at EN Ea En Ec El Ez
  unfold wanv at Z1 Z2
  unfold sgv sgc at *
  unfold spv at *
  obtain ⟨W0, hW0⟩ : ∃ W0, W0 = (w.alloc (.cells #[.int .i64 s.w.book, .int .i64 s.w.cust, .int .i64 s.w.dead, .int .i64 s.w.u0, .int .i64 s.w.u1, .int .i64 s.w.u2, .int .i64 s.w.price, .int .i64 s.ph, .int .i64 s.st, .int .i64 s.rs, .int .i64 s.si] 26)).alloc (.cells #[.int .i64 a.node, .int .i64 a.op.kind, .int .i64 a.op.book, .int .i64 a.op.units, .int .i64 a.op.cust, .int .i64 a.op.amount] 30) := ⟨_, rfl⟩
  have BS : Hid (W0.heap[w.heap.size]? = some (.cells #[.int .i64 s.w.book, .int .i64 s.w.cust, .int .i64 s.w.dead, .int .i64 s.w.u0, .int .i64 s.w.u1, .int .i64 s.w.u2, .int .i64 s.w.price, .int .i64 s.ph, .int .i64 s.st, .int .i64 s.rs, .int .i64 s.si] 26 (0, 0))) := by rw [hW0]; exact heap_alloc2_old _ _ _
  have BA : Hid (W0.heap[w.heap.size + 1]? = some (.cells #[.int .i64 a.node, .int .i64 a.op.kind, .int .i64 a.op.book, .int .i64 a.op.units, .int .i64 a.op.cust, .int .i64 a.op.amount] 30 (0, 0))) := by
    have := heap_alloc_new (w.alloc (.cells #[.int .i64 s.w.book, .int .i64 s.w.cust, .int .i64 s.w.dead, .int .i64 s.w.u0, .int .i64 s.w.u1, .int .i64 s.w.u2, .int .i64 s.w.price, .int .i64 s.ph, .int .i64 s.st, .int .i64 s.rs, .int .i64 s.si] 26)) (.cells #[.int .i64 a.node, .int .i64 a.op.kind, .int .i64 a.op.book, .int .i64 a.op.units, .int .i64 a.op.cust, .int .i64 a.op.amount] 30)
    rw [show (w.alloc (.cells #[.int .i64 s.w.book, .int .i64 s.w.cust, .int .i64 s.w.dead, .int .i64 s.w.u0, .int .i64 s.w.u1, .int .i64 s.w.u2, .int .i64 s.w.price, .int .i64 s.ph, .int .i64 s.st, .int .i64 s.rs, .int .i64 s.si] 26)).heap.size = w.heap.size + 1 by simp] at this
    rw [hW0]
    exact this
  have b0 : Hid (Below w.heap.size w W0) := by rw [hW0]; exact ((Below.refl _ w).alloc (Nat.le_refl _) _).alloc (by simp) _
  replace hW0 := Lib.hid hW0
  replace N1 := Lib.hid N1
  replace R1 := Lib.hid R1
  replace M1 := Lib.hid M1
  replace M2 := Lib.hid M2
  replace PR := Lib.hid PR
  replace T1 := Lib.hid T1
  replace T2 := Lib.hid T2
  replace O1 := Lib.hid O1
  replace A1 := Lib.hid A1
  replace A2 := Lib.hid A2
  replace A3 := Lib.hid A3
  replace A4 := Lib.hid A4
  replace C1 := Lib.hid C1
  replace C2 := Lib.hid C2
  replace L1 := Lib.hid L1
  replace L2 := Lib.hid L2
  replace Z1 := Lib.hid Z1
  replace Z2 := Lib.hid Z2
  replace OV := Lib.hid OV
  replace OW := Lib.hid OW
  replace EN := Lib.hid EN
  replace Ea := Lib.hid Ea
  replace En := Lib.hid En
  replace Ec := Lib.hid Ec
  replace El := Lib.hid El
  replace Ez := Lib.hid Ez
  replace TD := Lib.hid TD
  go_enter Tryd.func3, Tryd.ntmps3
  go_wp2_with fail
  rw [← hW0.out]
  refine (N1.out _ (by assumption)).mono ?_
  rintro e w1 ⟨rfl, h⟩
  replace BS := Lib.hid ((h.block _ (lt_some BS.out)).trans BS.out)
  replace BA := Lib.hid ((h.block _ (lt_some BA.out)).trans BA.out)
  have b2 : Hid (Below w.heap.size w w1) := b0.out.trans (h.mono b0.out.size)
  clear h
  go_upto_region 2 with fail
  obtain ⟨W3, hW⟩ : ∃ x, x = w1.alloc (.cells #[.int .i64 nx.node, .int .i64 nx.op.kind, .int .i64 nx.op.book, .int .i64 nx.op.units, .int .i64 nx.op.cust, .int .i64 nx.op.amount] 30) := ⟨_, rfl⟩
  rw [← hW]
  have h : Below w1.heap.size w1 W3 := by rw [hW]; exact (Below.refl _ _).alloc (Nat.le_refl _) _
  have BN : Hid (W3.heap[w1.heap.size]? = some (.cells #[.int .i64 nx.node, .int .i64 nx.op.kind, .int .i64 nx.op.book, .int .i64 nx.op.units, .int .i64 nx.op.cust, .int .i64 nx.op.amount] 30 (0, 0))) := by rw [hW]; exact heap_alloc_new _ _
  clear hW
  replace BS := Lib.hid ((h.block _ (lt_some BS.out)).trans BS.out)
  replace BA := Lib.hid ((h.block _ (lt_some BA.out)).trans BA.out)
  have b4 : Hid (Below w.heap.size w W3) := b2.out.trans (h.mono b2.out.size)
  clear h
  have xBS0 : W3.cell? ⟨w.heap.size, 0, none⟩ = some (.int .i64 s.w.book) := one_at BS.out
  have xBS1 : W3.cell? ⟨w.heap.size, 1, none⟩ = some (.int .i64 s.w.cust) := one_at BS.out
  have xBS2 : W3.cell? ⟨w.heap.size, 2, none⟩ = some (.int .i64 s.w.dead) := one_at BS.out
  have xBS3 : W3.cell? ⟨w.heap.size, 3, none⟩ = some (.int .i64 s.w.u0) := one_at BS.out
  have xBS4 : W3.cell? ⟨w.heap.size, 4, none⟩ = some (.int .i64 s.w.u1) := one_at BS.out
  have xBS5 : W3.cell? ⟨w.heap.size, 5, none⟩ = some (.int .i64 s.w.u2) := one_at BS.out
  have xBS6 : W3.cell? ⟨w.heap.size, 6, none⟩ = some (.int .i64 s.w.price) := one_at BS.out
  have xBS7 : W3.cell? ⟨w.heap.size, 7, none⟩ = some (.int .i64 s.ph) := one_at BS.out
  have xBS8 : W3.cell? ⟨w.heap.size, 8, none⟩ = some (.int .i64 s.st) := one_at BS.out
  have xBS9 : W3.cell? ⟨w.heap.size, 9, none⟩ = some (.int .i64 s.rs) := one_at BS.out
  have xBS10 : W3.cell? ⟨w.heap.size, 10, none⟩ = some (.int .i64 s.si) := one_at BS.out
  have lBS : w.heap.size < W3.heap.size := lt_some BS.out
  go_wp2_with fail
  refine (R1.out _).mono ?_
  rintro e w5 ⟨rfl, h⟩
  clear xBS0 xBS1 xBS2 xBS3 xBS4 xBS5 xBS6 xBS7 xBS8 xBS9 xBS10 lBS
  replace BS := Lib.hid ((h.block _ (lt_some BS.out)).trans BS.out)
  replace BA := Lib.hid ((h.block _ (lt_some BA.out)).trans BA.out)
  replace BN := Lib.hid ((h.block _ (lt_some BN.out)).trans BN.out)
  have b6 : Hid (Below w.heap.size w w5) := b4.out.trans (h.mono b4.out.size)
  clear h
  go_upto_region 3 with fail
  obtain ⟨W7, hW⟩ : ∃ x, x = w5.alloc (.cells #[.int .i64 nx.node, .int .i64 nx.op.kind, .int .i64 nx.op.book, .int .i64 nx.op.units, .int .i64 nx.op.cust, .int .i64 nx.op.amount] 33) := ⟨_, rfl⟩
  rw [← hW]
  have h : Below w5.heap.size w5 W7 := by rw [hW]; exact (Below.refl _ _).alloc (Nat.le_refl _) _
  have BR : Hid (W7.heap[w5.heap.size]? = some (.cells #[.int .i64 nx.node, .int .i64 nx.op.kind, .int .i64 nx.op.book, .int .i64 nx.op.units, .int .i64 nx.op.cust, .int .i64 nx.op.amount] 33 (0, 0))) := by rw [hW]; exact heap_alloc_new _ _
  clear hW
  replace BS := Lib.hid ((h.block _ (lt_some BS.out)).trans BS.out)
  replace BA := Lib.hid ((h.block _ (lt_some BA.out)).trans BA.out)
  replace BN := Lib.hid ((h.block _ (lt_some BN.out)).trans BN.out)
  have b8 : Hid (Below w.heap.size w W7) := b6.out.trans (h.mono b6.out.size)
  clear h
  have CS3 : Hid (∀ w', Below W7.heap.size W7 w' → CellS w' w.heap.size s) := fun w' h => BoxS.cells (s := s) ((h.block _ (lt_some BS.out)).trans BS.out)
  have CA3 : Hid (∀ w', Below W7.heap.size W7 w' → w'.heap[w1.heap.size]? = _) := fun w' h => (h.block _ (lt_some BN.out)).trans BN.out
  have CR3 : Hid (∀ w', Below W7.heap.size W7 w' → w'.heap[w5.heap.size]? = _) := fun w' h => (h.block _ (lt_some BR.out)).trans BR.out
  have F1 : Hid (∀ w', Below W7.heap.size W7 w' → Calls Tryd.prog 12 #[.agg #[.int .i64 s.w.book, .int .i64 s.w.cust, .int .i64 s.w.dead, .int .i64 s.w.u0, .int .i64 s.w.u1, .int .i64 s.w.u2, .int .i64 s.w.price, .int .i64 s.ph, .int .i64 s.st, .int .i64 s.rs, .int .i64 s.si]] w' fun e w'' => e = .returned (.bool my) ∧ Below W7.heap.size W7 w'') := fun w' h => (M1.out w' (b8.out.trans (h.mono b8.out.size))).mono fun _ _ ⟨e1, e2⟩ => ⟨e1, h.trans (e2.mono h.size)⟩
  have F2 : Hid (∀ w', Below W7.heap.size W7 w' → Calls Tryd.prog 13 #[.agg #[.int .i64 s.w.book, .int .i64 s.w.cust, .int .i64 s.w.dead, .int .i64 s.w.u0, .int .i64 s.w.u1, .int .i64 s.w.u2, .int .i64 s.w.price, .int .i64 s.ph, .int .i64 s.st, .int .i64 s.rs, .int .i64 s.si]] w' fun e w'' => e = .returned (.bool my) ∧ Below W7.heap.size W7 w'') := fun w' h => (M2.out w').mono fun _ _ ⟨e1, e2⟩ => ⟨e1, h.trans (e2.mono h.size)⟩
  have F3 : Hid (∀ w', Below W7.heap.size W7 w' → Calls Tryd.prog 14 #[.agg #[.int .i64 nx.node, .int .i64 nx.op.kind, .int .i64 nx.op.book, .int .i64 nx.op.units, .int .i64 nx.op.cust, .int .i64 nx.op.amount]] w' fun e w'' => e = .returned (.agg #[.int .i64 nx.node, .int .i64 nx.op.kind, .int .i64 nx.op.book, .int .i64 nx.op.units, .int .i64 nx.op.cust, .int .i64 nx.op.amount]) ∧ Below W7.heap.size W7 w'') := fun w' h => (PR.out w' nx).mono fun _ _ ⟨e1, e2⟩ => ⟨e1, h.trans (e2.mono h.size)⟩
  have F4 : Hid (∀ w', Below W7.heap.size W7 w' → Calls Tryd.prog 15 #[.agg #[.int .i64 s.w.book, .int .i64 s.w.cust, .int .i64 s.w.dead, .int .i64 s.w.u0, .int .i64 s.w.u1, .int .i64 s.w.u2, .int .i64 s.w.price, .int .i64 s.ph, .int .i64 s.st, .int .i64 s.rs, .int .i64 s.si]] w' fun e w'' => e = .returned (.int .i64 tl) ∧ Below W7.heap.size W7 w'') := fun w' h => (T1.out w' (b8.out.trans (h.mono b8.out.size))).mono fun _ _ ⟨e1, e2⟩ => ⟨e1, h.trans (e2.mono h.size)⟩
  have F5 : Hid (∀ w', Below W7.heap.size W7 w' → Calls Tryd.prog 16 #[.agg #[.int .i64 s.w.book, .int .i64 s.w.cust, .int .i64 s.w.dead, .int .i64 s.w.u0, .int .i64 s.w.u1, .int .i64 s.w.u2, .int .i64 s.w.price, .int .i64 s.ph, .int .i64 s.st, .int .i64 s.rs, .int .i64 s.si]] w' fun e w'' => e = .returned (.int .i64 tl) ∧ Below W7.heap.size W7 w'') := fun w' h => (T2.out w').mono fun _ _ ⟨e1, e2⟩ => ⟨e1, h.trans (e2.mono h.size)⟩
  have F6 : Hid (∀ w', Below W7.heap.size W7 w' → Calls Tryd.prog 17 #[.agg #[.int .i64 s.w.book, .int .i64 s.w.cust, .int .i64 s.w.dead, .int .i64 s.w.u0, .int .i64 s.w.u1, .int .i64 s.w.u2, .int .i64 s.w.price, .int .i64 s.ph, .int .i64 s.st, .int .i64 s.rs, .int .i64 s.si]] w' fun e w'' => e = .returned (.bool ov) ∧ Below W7.heap.size W7 w'') := fun w' h => (O1.out w' (b8.out.trans (h.mono b8.out.size))).mono fun _ _ ⟨e1, e2⟩ => ⟨e1, h.trans (e2.mono h.size)⟩
  go_cut [75] from 41 to 75 (fun s75 wx => s75 = .bool false ∧ Below W7.heap.size W7 wx)
  case first =>
    cases my with
    | false =>
      have e := OW.out rfl
      subst e
      refine ga3n _ _ _ _ _ _ _ _ _ _ _ _ _ _ _ _ _ _ _ _ _ _ _ _ _ _ _ _ _ _ _ _ _ _ _ _ _ _ _ _ _ _ _ _ _ _ _ _ _ _ _ _ _ _ _ _ _ _ _ _ _ _ _ _ _ _ _ _ _ _ _ _ _ _ _ _ _ _ _ _ _ _ _ _ _ _ _ _ _ _ _ _ _ _ _ _ _ _ _ _ _ _ _ _ _ _ _ _ _ _ _ _ _ _ _ _ _ _ _ _ _ _ _ _ _ _ _ _ _ _ _ _ _ _ _ _ _ _ _ _ _ _ _ _ _ _ _ _ _ _ _ _ _ _ _ _ _ _ _ _ _ _ _ _ _ _ _ _ _ W7 w.heap.size w1.heap.size w5.heap.size s nx ok tl CS3 CA3 CR3 F1 F2 F3 F4 F5 F6 EN.out _ (fun _ _ d _ _ h => by cases d <;> exact h) (fun _ _ _ _ _ _ _ _ _ _ _ _ _ _ _ _ _ _ _ _ _ _ _ _ _ _ _ _ _ _ _ _ _ _ w3 hb => ?_)
      replace hb := Lib.hid hb
      go_wp2_with fail
      go_meet
      exact ⟨rfl, hb.out⟩
    | true =>
      have e := OV.out rfl
      subst e
      refine ga3y _ _ _ _ _ _ _ _ _ _ _ _ _ _ _ _ _ _ _ _ _ _ _ _ _ _ _ _ _ _ _ _ _ _ _ _ _ _ _ _ _ _ _ _ _ _ _ _ _ _ _ _ _ _ _ _ _ _ _ _ _ _ _ _ _ _ _ _ _ _ _ _ _ _ _ _ _ _ _ _ _ _ _ _ _ _ _ _ _ _ _ _ _ _ _ _ _ _ _ _ _ _ _ _ _ _ _ _ _ _ _ _ _ _ _ _ _ _ _ _ _ _ _ _ _ _ _ _ _ _ _ _ _ _ _ _ _ _ _ _ _ _ _ _ _ _ _ _ _ _ _ _ _ _ _ _ _ _ _ _ _ _ _ _ _ _ _ _ _ W7 w.heap.size w1.heap.size w5.heap.size s nx ok tl CS3 CA3 CR3 F1 F2 F3 F4 F5 F6 EN.out _ (fun _ _ d _ _ h => by cases d <;> exact h) (fun _ _ _ _ _ _ _ _ _ _ _ _ _ _ _ _ _ _ _ _ _ _ _ _ _ _ _ _ _ _ _ _ _ _ w3 hb => ?_)
      replace hb := Lib.hid hb
      go_wp2_with fail
      go_meet
      exact ⟨rfl, hb.out⟩
  case rest =>
    obtain ⟨rfl, h⟩ := hcut
    replace BS := Lib.hid ((h.block _ (lt_some BS.out)).trans BS.out)
    replace BA := Lib.hid ((h.block _ (lt_some BA.out)).trans BA.out)
    replace BN := Lib.hid ((h.block _ (lt_some BN.out)).trans BN.out)
    replace BR := Lib.hid ((h.block _ (lt_some BR.out)).trans BR.out)
    have b9 : Hid (Below w.heap.size w wc) := b8.out.trans (h.mono b8.out.size)
    clear h F1 F2 F3 F4 F5 F6 CS3 CA3 CR3 M1 M2 T1 T2 O1 OV OW EN N1 R1
    go_wp2_with fail
    refine wp_loop_rounds 3 ?_
    rw [rounds_succ]
    have xBA0 : wc.cell? ⟨w.heap.size + 1, 0, none⟩ = some (.int .i64 a.node) := one_at BA.out
    have xBA1 : wc.cell? ⟨w.heap.size + 1, 1, none⟩ = some (.int .i64 a.op.kind) := one_at BA.out
    have xBA2 : wc.cell? ⟨w.heap.size + 1, 2, none⟩ = some (.int .i64 a.op.book) := one_at BA.out
    have xBA3 : wc.cell? ⟨w.heap.size + 1, 3, none⟩ = some (.int .i64 a.op.units) := one_at BA.out
    have xBA4 : wc.cell? ⟨w.heap.size + 1, 4, none⟩ = some (.int .i64 a.op.cust) := one_at BA.out
    have xBA5 : wc.cell? ⟨w.heap.size + 1, 5, none⟩ = some (.int .i64 a.op.amount) := one_at BA.out
    have lBA : w.heap.size + 1 < wc.heap.size := lt_some BA.out
    go_upto_region 9 with fail
    obtain ⟨W10, hW⟩ : ∃ x, x = wc.alloc (.cells #[.int .i64 a.node, .int .i64 a.op.kind, .int .i64 a.op.book, .int .i64 a.op.units, .int .i64 a.op.cust, .int .i64 a.op.amount] 30) := ⟨_, rfl⟩
    rw [← hW]
    have h : Below wc.heap.size wc W10 := by rw [hW]; exact (Below.refl _ _).alloc (Nat.le_refl _) _
    have Ba : Hid (W10.heap[wc.heap.size]? = some (.cells #[.int .i64 a.node, .int .i64 a.op.kind, .int .i64 a.op.book, .int .i64 a.op.units, .int .i64 a.op.cust, .int .i64 a.op.amount] 30 (0, 0))) := by rw [hW]; exact heap_alloc_new _ _
    clear hW
    replace BS := Lib.hid ((h.block _ (lt_some BS.out)).trans BS.out)
    replace BA := Lib.hid ((h.block _ (lt_some BA.out)).trans BA.out)
    replace BN := Lib.hid ((h.block _ (lt_some BN.out)).trans BN.out)
    replace BR := Lib.hid ((h.block _ (lt_some BR.out)).trans BR.out)
    have b11 : Hid (Below w.heap.size w W10) := b9.out.trans (h.mono b9.out.size)
    clear h
    clear xBA0 xBA1 xBA2 xBA3 xBA4 xBA5 lBA
    have xBS0 : W10.cell? ⟨w.heap.size, 0, none⟩ = some (.int .i64 s.w.book) := one_at BS.out
    have xBS1 : W10.cell? ⟨w.heap.size, 1, none⟩ = some (.int .i64 s.w.cust) := one_at BS.out
    have xBS2 : W10.cell? ⟨w.heap.size, 2, none⟩ = some (.int .i64 s.w.dead) := one_at BS.out
    have xBS3 : W10.cell? ⟨w.heap.size, 3, none⟩ = some (.int .i64 s.w.u0) := one_at BS.out
    have xBS4 : W10.cell? ⟨w.heap.size, 4, none⟩ = some (.int .i64 s.w.u1) := one_at BS.out
    have xBS5 : W10.cell? ⟨w.heap.size, 5, none⟩ = some (.int .i64 s.w.u2) := one_at BS.out
    have xBS6 : W10.cell? ⟨w.heap.size, 6, none⟩ = some (.int .i64 s.w.price) := one_at BS.out
    have xBS7 : W10.cell? ⟨w.heap.size, 7, none⟩ = some (.int .i64 s.ph) := one_at BS.out
    have xBS8 : W10.cell? ⟨w.heap.size, 8, none⟩ = some (.int .i64 s.st) := one_at BS.out
    have xBS9 : W10.cell? ⟨w.heap.size, 9, none⟩ = some (.int .i64 s.rs) := one_at BS.out
    have xBS10 : W10.cell? ⟨w.heap.size, 10, none⟩ = some (.int .i64 s.si) := one_at BS.out
    have lBS : w.heap.size < W10.heap.size := lt_some BS.out
    have xBa0 : W10.cell? ⟨wc.heap.size, 0, none⟩ = some (.int .i64 a.node) := one_at Ba.out
    have xBa1 : W10.cell? ⟨wc.heap.size, 1, none⟩ = some (.int .i64 a.op.kind) := one_at Ba.out
    have xBa2 : W10.cell? ⟨wc.heap.size, 2, none⟩ = some (.int .i64 a.op.book) := one_at Ba.out
    have xBa3 : W10.cell? ⟨wc.heap.size, 3, none⟩ = some (.int .i64 a.op.units) := one_at Ba.out
    have xBa4 : W10.cell? ⟨wc.heap.size, 4, none⟩ = some (.int .i64 a.op.cust) := one_at Ba.out
    have xBa5 : W10.cell? ⟨wc.heap.size, 5, none⟩ = some (.int .i64 a.op.amount) := one_at Ba.out
    have lBa : wc.heap.size < W10.heap.size := lt_some Ba.out
    go_wp2_with fail
    refine (A1.out _ (by assumption)).mono ?_
    rintro e w12 ⟨rfl, h⟩
    clear xBS0 xBS1 xBS2 xBS3 xBS4 xBS5 xBS6 xBS7 xBS8 xBS9 xBS10 lBS xBa0 xBa1 xBa2 xBa3 xBa4 xBa5 lBa
    replace BS := Lib.hid ((h.block _ (lt_some BS.out)).trans BS.out)
    replace BA := Lib.hid ((h.block _ (lt_some BA.out)).trans BA.out)
    replace BN := Lib.hid ((h.block _ (lt_some BN.out)).trans BN.out)
    replace BR := Lib.hid ((h.block _ (lt_some BR.out)).trans BR.out)
    replace Ba := Lib.hid ((h.block _ (lt_some Ba.out)).trans Ba.out)
    have b13 : Hid (Below w.heap.size w w12) := b11.out.trans (h.mono b11.out.size)
    clear h
    go_upto_region 12 with fail
    obtain ⟨W14, hW⟩ : ∃ x, x = w12.alloc (.cells #[.int .i64 ya.w.book, .int .i64 ya.w.cust, .int .i64 ya.w.dead, .int .i64 ya.w.u0, .int .i64 ya.w.u1, .int .i64 ya.w.u2, .int .i64 ya.w.price, .int .i64 ya.ph, .int .i64 ya.st, .int .i64 ya.rs, .int .i64 ya.si] 26) := ⟨_, rfl⟩
    rw [← hW]
    have h : Below w12.heap.size w12 W14 := by rw [hW]; exact (Below.refl _ _).alloc (Nat.le_refl _) _
    have BY : Hid (W14.heap[w12.heap.size]? = some (.cells #[.int .i64 ya.w.book, .int .i64 ya.w.cust, .int .i64 ya.w.dead, .int .i64 ya.w.u0, .int .i64 ya.w.u1, .int .i64 ya.w.u2, .int .i64 ya.w.price, .int .i64 ya.ph, .int .i64 ya.st, .int .i64 ya.rs, .int .i64 ya.si] 26 (0, 0))) := by rw [hW]; exact heap_alloc_new _ _
    clear hW
    replace BS := Lib.hid ((h.block _ (lt_some BS.out)).trans BS.out)
    replace BA := Lib.hid ((h.block _ (lt_some BA.out)).trans BA.out)
    replace BN := Lib.hid ((h.block _ (lt_some BN.out)).trans BN.out)
    replace BR := Lib.hid ((h.block _ (lt_some BR.out)).trans BR.out)
    replace Ba := Lib.hid ((h.block _ (lt_some Ba.out)).trans Ba.out)
    have b15 : Hid (Below w.heap.size w W14) := b13.out.trans (h.mono b13.out.size)
    clear h
    have CSx : Hid (∀ w', Below W14.heap.size W14 w' → CellS w' w.heap.size s) := fun w' h => BoxS.cells (s := s) ((h.block _ (lt_some BS.out)).trans BS.out)
    have CAx : Hid (∀ w', Below W14.heap.size W14 w' → w'.heap[wc.heap.size]? = _) := fun w' h => (h.block _ (lt_some Ba.out)).trans Ba.out
    have G1 : Hid (∀ w', Below W14.heap.size W14 w' → Calls Tryd.prog 14 #[.agg #[.int .i64 a.node, .int .i64 a.op.kind, .int .i64 a.op.book, .int .i64 a.op.units, .int .i64 a.op.cust, .int .i64 a.op.amount]] w' fun e w'' => e = .returned (.agg #[.int .i64 a.node, .int .i64 a.op.kind, .int .i64 a.op.book, .int .i64 a.op.units, .int .i64 a.op.cust, .int .i64 a.op.amount]) ∧ Below W14.heap.size W14 w'' ∧ Below w'.heap.size w' w'') := fun w' h => (PR.out w' a).mono fun _ _ ⟨e1, e2⟩ => ⟨e1, h.trans (e2.mono h.size), e2⟩
    have G2 : Hid (∀ w', Below W14.heap.size W14 w' → Calls Tryd.prog 19 #[.agg #[.int .i64 s.w.book, .int .i64 s.w.cust, .int .i64 s.w.dead, .int .i64 s.w.u0, .int .i64 s.w.u1, .int .i64 s.w.u2, .int .i64 s.w.price, .int .i64 s.ph, .int .i64 s.st, .int .i64 s.rs, .int .i64 s.si], .agg #[.int .i64 a.node, .int .i64 a.op.kind, .int .i64 a.op.book, .int .i64 a.op.units, .int .i64 a.op.cust, .int .i64 a.op.amount], .int .i64 n] w' fun e w'' => e = .returned (.tuple #[.agg #[.int .i64 ya.w.book, .int .i64 ya.w.cust, .int .i64 ya.w.dead, .int .i64 ya.w.u0, .int .i64 ya.w.u1, .int .i64 ya.w.u2, .int .i64 ya.w.price, .int .i64 ya.ph, .int .i64 ya.st, .int .i64 ya.rs, .int .i64 ya.si], .bool pa]) ∧ Below W14.heap.size W14 w'' ∧ Below w'.heap.size w' w'') := fun w' h => (A2.out w').mono fun _ _ ⟨e1, e2⟩ => ⟨e1, h.trans (e2.mono h.size), e2⟩
    refine ga12 _ _ _ _ _ _ _ _ _ _ _ _ _ _ _ _ _ _ _ _ _ _ _ _ _ _ _ _ _ _ _ _ _ _ _ _ _ _ _ _ _ _ _ _ _ _ _ _ _ _ _ _ _ _ _ _ _ _ _ _ _ _ _ _ _ _ _ _ _ _ _ _ _ _ _ _ _ _ _ _ _ _ _ _ _ _ _ _ _ _ _ _ _ _ _ _ _ _ _ _ _ _ _ _ _ _ _ _ _ _ _ _ _ _ _ _ _ _ _ _ _ _ _ _ _ _ _ _ _ _ _ _ _ _ _ _ _ _ _ _ _ _ _ _ _ _ _ _ _ _ _ _ _ _ _ _ _ _ _ _ _ _ _ _ _ _ _ _ _ _ _ W14 w.heap.size wc.heap.size n s ya a pa CSx CAx G1 G2 _ (fun _ _ d _ _ h => by cases d <;> exact h) (fun _ _ _ _ _ _ _ _ gBYr w16 BYr h => ?_)
    replace BYr := Lib.hid BYr
    clear CSx CAx G1 G2
    replace BS := Lib.hid ((h.block _ (lt_some BS.out)).trans BS.out)
    replace BA := Lib.hid ((h.block _ (lt_some BA.out)).trans BA.out)
    replace BN := Lib.hid ((h.block _ (lt_some BN.out)).trans BN.out)
    replace BR := Lib.hid ((h.block _ (lt_some BR.out)).trans BR.out)
    replace Ba := Lib.hid ((h.block _ (lt_some Ba.out)).trans Ba.out)
    replace BY := Lib.hid ((h.block _ (lt_some BY.out)).trans BY.out)
    have b17 : Hid (Below w.heap.size w w16) := b15.out.trans (h.mono b15.out.size)
    clear h
    replace Ea := Ea.out
    have xBY0 : w16.cell? ⟨w12.heap.size, 0, none⟩ = some (.int .i64 ya.w.book) := one_at BY.out
    have xBY1 : w16.cell? ⟨w12.heap.size, 1, none⟩ = some (.int .i64 ya.w.cust) := one_at BY.out
    have xBY2 : w16.cell? ⟨w12.heap.size, 2, none⟩ = some (.int .i64 ya.w.dead) := one_at BY.out
    have xBY3 : w16.cell? ⟨w12.heap.size, 3, none⟩ = some (.int .i64 ya.w.u0) := one_at BY.out
    have xBY4 : w16.cell? ⟨w12.heap.size, 4, none⟩ = some (.int .i64 ya.w.u1) := one_at BY.out
    have xBY5 : w16.cell? ⟨w12.heap.size, 5, none⟩ = some (.int .i64 ya.w.u2) := one_at BY.out
    have xBY6 : w16.cell? ⟨w12.heap.size, 6, none⟩ = some (.int .i64 ya.w.price) := one_at BY.out
    have xBY7 : w16.cell? ⟨w12.heap.size, 7, none⟩ = some (.int .i64 ya.ph) := one_at BY.out
    have xBY8 : w16.cell? ⟨w12.heap.size, 8, none⟩ = some (.int .i64 ya.st) := one_at BY.out
    have xBY9 : w16.cell? ⟨w12.heap.size, 9, none⟩ = some (.int .i64 ya.rs) := one_at BY.out
    have xBY10 : w16.cell? ⟨w12.heap.size, 10, none⟩ = some (.int .i64 ya.si) := one_at BY.out
    have lBY : w12.heap.size < w16.heap.size := lt_some BY.out
    have xBYr0 : w16.cell? ⟨gBYr, 0, none⟩ = some (.int .i64 ya.w.book) := one_at BYr.out
    have xBYr1 : w16.cell? ⟨gBYr, 1, none⟩ = some (.int .i64 ya.w.cust) := one_at BYr.out
    have xBYr2 : w16.cell? ⟨gBYr, 2, none⟩ = some (.int .i64 ya.w.dead) := one_at BYr.out
    have xBYr3 : w16.cell? ⟨gBYr, 3, none⟩ = some (.int .i64 ya.w.u0) := one_at BYr.out
    have xBYr4 : w16.cell? ⟨gBYr, 4, none⟩ = some (.int .i64 ya.w.u1) := one_at BYr.out
    have xBYr5 : w16.cell? ⟨gBYr, 5, none⟩ = some (.int .i64 ya.w.u2) := one_at BYr.out
    have xBYr6 : w16.cell? ⟨gBYr, 6, none⟩ = some (.int .i64 ya.w.price) := one_at BYr.out
    have xBYr7 : w16.cell? ⟨gBYr, 7, none⟩ = some (.int .i64 ya.ph) := one_at BYr.out
    have xBYr8 : w16.cell? ⟨gBYr, 8, none⟩ = some (.int .i64 ya.st) := one_at BYr.out
    have xBYr9 : w16.cell? ⟨gBYr, 9, none⟩ = some (.int .i64 ya.rs) := one_at BYr.out
    have xBYr10 : w16.cell? ⟨gBYr, 10, none⟩ = some (.int .i64 ya.si) := one_at BYr.out
    have lBYr : gBYr < w16.heap.size := lt_some BYr.out
    go_wp2_with fail
    rw [rounds_succ]
    clear Ea
    clear xBY0 xBY1 xBY2 xBY3 xBY4 xBY5 xBY6 xBY7 xBY8 xBY9 xBY10 lBY xBYr0 xBYr1 xBYr2 xBYr3 xBYr4 xBYr5 xBYr6 xBYr7 xBYr8 xBYr9 xBYr10 lBYr
    have xBA0 : w16.cell? ⟨w.heap.size + 1, 0, none⟩ = some (.int .i64 a.node) := one_at BA.out
    have xBA1 : w16.cell? ⟨w.heap.size + 1, 1, none⟩ = some (.int .i64 a.op.kind) := one_at BA.out
    have xBA2 : w16.cell? ⟨w.heap.size + 1, 2, none⟩ = some (.int .i64 a.op.book) := one_at BA.out
    have xBA3 : w16.cell? ⟨w.heap.size + 1, 3, none⟩ = some (.int .i64 a.op.units) := one_at BA.out
    have xBA4 : w16.cell? ⟨w.heap.size + 1, 4, none⟩ = some (.int .i64 a.op.cust) := one_at BA.out
    have xBA5 : w16.cell? ⟨w.heap.size + 1, 5, none⟩ = some (.int .i64 a.op.amount) := one_at BA.out
    have lBA : w.heap.size + 1 < w16.heap.size := lt_some BA.out
    have xBN0 : w16.cell? ⟨w1.heap.size, 0, none⟩ = some (.int .i64 nx.node) := one_at BN.out
    have xBN1 : w16.cell? ⟨w1.heap.size, 1, none⟩ = some (.int .i64 nx.op.kind) := one_at BN.out
    have xBN2 : w16.cell? ⟨w1.heap.size, 2, none⟩ = some (.int .i64 nx.op.book) := one_at BN.out
    have xBN3 : w16.cell? ⟨w1.heap.size, 3, none⟩ = some (.int .i64 nx.op.units) := one_at BN.out
    have xBN4 : w16.cell? ⟨w1.heap.size, 4, none⟩ = some (.int .i64 nx.op.cust) := one_at BN.out
    have xBN5 : w16.cell? ⟨w1.heap.size, 5, none⟩ = some (.int .i64 nx.op.amount) := one_at BN.out
    have lBN : w1.heap.size < w16.heap.size := lt_some BN.out
    go_upto_region 11 with fail
    obtain ⟨W18, hW⟩ : ∃ x, x = w16.alloc (.cells #[.int .i64 nx.node, .int .i64 nx.op.kind, .int .i64 nx.op.book, .int .i64 nx.op.units, .int .i64 nx.op.cust, .int .i64 nx.op.amount] 30) := ⟨_, rfl⟩
    rw [← hW]
    have h : Below w16.heap.size w16 W18 := by rw [hW]; exact (Below.refl _ _).alloc (Nat.le_refl _) _
    have Bb : Hid (W18.heap[w16.heap.size]? = some (.cells #[.int .i64 nx.node, .int .i64 nx.op.kind, .int .i64 nx.op.book, .int .i64 nx.op.units, .int .i64 nx.op.cust, .int .i64 nx.op.amount] 30 (0, 0))) := by rw [hW]; exact heap_alloc_new _ _
    clear hW
    replace BS := Lib.hid ((h.block _ (lt_some BS.out)).trans BS.out)
    replace BA := Lib.hid ((h.block _ (lt_some BA.out)).trans BA.out)
    replace BN := Lib.hid ((h.block _ (lt_some BN.out)).trans BN.out)
    replace BR := Lib.hid ((h.block _ (lt_some BR.out)).trans BR.out)
    replace Ba := Lib.hid ((h.block _ (lt_some Ba.out)).trans Ba.out)
    replace BY := Lib.hid ((h.block _ (lt_some BY.out)).trans BY.out)
    replace BYr := Lib.hid ((h.block _ (lt_some BYr.out)).trans BYr.out)
    have b19 : Hid (Below w.heap.size w W18) := b17.out.trans (h.mono b17.out.size)
    clear h
    clear xBA0 xBA1 xBA2 xBA3 xBA4 xBA5 lBA xBN0 xBN1 xBN2 xBN3 xBN4 xBN5 lBN
    have xBS0 : W18.cell? ⟨w.heap.size, 0, none⟩ = some (.int .i64 s.w.book) := one_at BS.out
    have xBS1 : W18.cell? ⟨w.heap.size, 1, none⟩ = some (.int .i64 s.w.cust) := one_at BS.out
    have xBS2 : W18.cell? ⟨w.heap.size, 2, none⟩ = some (.int .i64 s.w.dead) := one_at BS.out
    have xBS3 : W18.cell? ⟨w.heap.size, 3, none⟩ = some (.int .i64 s.w.u0) := one_at BS.out
    have xBS4 : W18.cell? ⟨w.heap.size, 4, none⟩ = some (.int .i64 s.w.u1) := one_at BS.out
    have xBS5 : W18.cell? ⟨w.heap.size, 5, none⟩ = some (.int .i64 s.w.u2) := one_at BS.out
    have xBS6 : W18.cell? ⟨w.heap.size, 6, none⟩ = some (.int .i64 s.w.price) := one_at BS.out
    have xBS7 : W18.cell? ⟨w.heap.size, 7, none⟩ = some (.int .i64 s.ph) := one_at BS.out
    have xBS8 : W18.cell? ⟨w.heap.size, 8, none⟩ = some (.int .i64 s.st) := one_at BS.out
    have xBS9 : W18.cell? ⟨w.heap.size, 9, none⟩ = some (.int .i64 s.rs) := one_at BS.out
    have xBS10 : W18.cell? ⟨w.heap.size, 10, none⟩ = some (.int .i64 s.si) := one_at BS.out
    have lBS : w.heap.size < W18.heap.size := lt_some BS.out
    have xBb0 : W18.cell? ⟨w16.heap.size, 0, none⟩ = some (.int .i64 nx.node) := one_at Bb.out
    have xBb1 : W18.cell? ⟨w16.heap.size, 1, none⟩ = some (.int .i64 nx.op.kind) := one_at Bb.out
    have xBb2 : W18.cell? ⟨w16.heap.size, 2, none⟩ = some (.int .i64 nx.op.book) := one_at Bb.out
    have xBb3 : W18.cell? ⟨w16.heap.size, 3, none⟩ = some (.int .i64 nx.op.units) := one_at Bb.out
    have xBb4 : W18.cell? ⟨w16.heap.size, 4, none⟩ = some (.int .i64 nx.op.cust) := one_at Bb.out
    have xBb5 : W18.cell? ⟨w16.heap.size, 5, none⟩ = some (.int .i64 nx.op.amount) := one_at Bb.out
    have lBb : w16.heap.size < W18.heap.size := lt_some Bb.out
    go_wp2_with fail
    refine (A3.out _ (by assumption)).mono ?_
    rintro e w20 ⟨rfl, h⟩
    clear xBS0 xBS1 xBS2 xBS3 xBS4 xBS5 xBS6 xBS7 xBS8 xBS9 xBS10 lBS xBb0 xBb1 xBb2 xBb3 xBb4 xBb5 lBb
    replace BS := Lib.hid ((h.block _ (lt_some BS.out)).trans BS.out)
    replace BA := Lib.hid ((h.block _ (lt_some BA.out)).trans BA.out)
    replace BN := Lib.hid ((h.block _ (lt_some BN.out)).trans BN.out)
    replace BR := Lib.hid ((h.block _ (lt_some BR.out)).trans BR.out)
    replace Ba := Lib.hid ((h.block _ (lt_some Ba.out)).trans Ba.out)
    replace BY := Lib.hid ((h.block _ (lt_some BY.out)).trans BY.out)
    replace BYr := Lib.hid ((h.block _ (lt_some BYr.out)).trans BYr.out)
    replace Bb := Lib.hid ((h.block _ (lt_some Bb.out)).trans Bb.out)
    have b21 : Hid (Below w.heap.size w w20) := b19.out.trans (h.mono b19.out.size)
    clear h
    go_upto_region 12 with fail
    obtain ⟨W22, hW⟩ : ∃ x, x = w20.alloc (.cells #[.int .i64 yn.w.book, .int .i64 yn.w.cust, .int .i64 yn.w.dead, .int .i64 yn.w.u0, .int .i64 yn.w.u1, .int .i64 yn.w.u2, .int .i64 yn.w.price, .int .i64 yn.ph, .int .i64 yn.st, .int .i64 yn.rs, .int .i64 yn.si] 26) := ⟨_, rfl⟩
    rw [← hW]
    have h : Below w20.heap.size w20 W22 := by rw [hW]; exact (Below.refl _ _).alloc (Nat.le_refl _) _
    have BX : Hid (W22.heap[w20.heap.size]? = some (.cells #[.int .i64 yn.w.book, .int .i64 yn.w.cust, .int .i64 yn.w.dead, .int .i64 yn.w.u0, .int .i64 yn.w.u1, .int .i64 yn.w.u2, .int .i64 yn.w.price, .int .i64 yn.ph, .int .i64 yn.st, .int .i64 yn.rs, .int .i64 yn.si] 26 (0, 0))) := by rw [hW]; exact heap_alloc_new _ _
    clear hW
    replace BS := Lib.hid ((h.block _ (lt_some BS.out)).trans BS.out)
    replace BA := Lib.hid ((h.block _ (lt_some BA.out)).trans BA.out)
    replace BN := Lib.hid ((h.block _ (lt_some BN.out)).trans BN.out)
    replace BR := Lib.hid ((h.block _ (lt_some BR.out)).trans BR.out)
    replace Ba := Lib.hid ((h.block _ (lt_some Ba.out)).trans Ba.out)
    replace BY := Lib.hid ((h.block _ (lt_some BY.out)).trans BY.out)
    replace BYr := Lib.hid ((h.block _ (lt_some BYr.out)).trans BYr.out)
    replace Bb := Lib.hid ((h.block _ (lt_some Bb.out)).trans Bb.out)
    have b23 : Hid (Below w.heap.size w W22) := b21.out.trans (h.mono b21.out.size)
    clear h
    have CSx : Hid (∀ w', Below W22.heap.size W22 w' → CellS w' w.heap.size s) := fun w' h => BoxS.cells (s := s) ((h.block _ (lt_some BS.out)).trans BS.out)
    have CAx : Hid (∀ w', Below W22.heap.size W22 w' → w'.heap[w16.heap.size]? = _) := fun w' h => (h.block _ (lt_some Bb.out)).trans Bb.out
    have G1 : Hid (∀ w', Below W22.heap.size W22 w' → Calls Tryd.prog 14 #[.agg #[.int .i64 nx.node, .int .i64 nx.op.kind, .int .i64 nx.op.book, .int .i64 nx.op.units, .int .i64 nx.op.cust, .int .i64 nx.op.amount]] w' fun e w'' => e = .returned (.agg #[.int .i64 nx.node, .int .i64 nx.op.kind, .int .i64 nx.op.book, .int .i64 nx.op.units, .int .i64 nx.op.cust, .int .i64 nx.op.amount]) ∧ Below W22.heap.size W22 w'' ∧ Below w'.heap.size w' w'') := fun w' h => (PR.out w' nx).mono fun _ _ ⟨e1, e2⟩ => ⟨e1, h.trans (e2.mono h.size), e2⟩
    have G2 : Hid (∀ w', Below W22.heap.size W22 w' → Calls Tryd.prog 19 #[.agg #[.int .i64 s.w.book, .int .i64 s.w.cust, .int .i64 s.w.dead, .int .i64 s.w.u0, .int .i64 s.w.u1, .int .i64 s.w.u2, .int .i64 s.w.price, .int .i64 s.ph, .int .i64 s.st, .int .i64 s.rs, .int .i64 s.si], .agg #[.int .i64 nx.node, .int .i64 nx.op.kind, .int .i64 nx.op.book, .int .i64 nx.op.units, .int .i64 nx.op.cust, .int .i64 nx.op.amount], .int .i64 n] w' fun e w'' => e = .returned (.tuple #[.agg #[.int .i64 yn.w.book, .int .i64 yn.w.cust, .int .i64 yn.w.dead, .int .i64 yn.w.u0, .int .i64 yn.w.u1, .int .i64 yn.w.u2, .int .i64 yn.w.price, .int .i64 yn.ph, .int .i64 yn.st, .int .i64 yn.rs, .int .i64 yn.si], .bool pn]) ∧ Below W22.heap.size W22 w'' ∧ Below w'.heap.size w' w'') := fun w' h => (A4.out w').mono fun _ _ ⟨e1, e2⟩ => ⟨e1, h.trans (e2.mono h.size), e2⟩
    refine ga12 _ _ _ _ _ _ _ _ _ _ _ _ _ _ _ _ _ _ _ _ _ _ _ _ _ _ _ _ _ _ _ _ _ _ _ _ _ _ _ _ _ _ _ _ _ _ _ _ _ _ _ _ _ _ _ _ _ _ _ _ _ _ _ _ _ _ _ _ _ _ _ _ _ _ _ _ _ _ _ _ _ _ _ _ _ _ _ _ _ _ _ _ _ _ _ _ _ _ _ _ _ _ _ _ _ _ _ _ _ _ _ _ _ _ _ _ _ _ _ _ _ _ _ _ _ _ _ _ _ _ _ _ _ _ _ _ _ _ _ _ _ _ _ _ _ _ _ _ _ _ _ _ _ _ _ _ _ _ _ _ _ _ _ _ _ _ _ _ _ _ _ W22 w.heap.size w16.heap.size n s yn nx pn CSx CAx G1 G2 _ (fun _ _ d _ _ h => by cases d <;> exact h) (fun _ _ _ _ _ _ _ _ gBXr w24 BXr h => ?_)
    replace BXr := Lib.hid BXr
    clear CSx CAx G1 G2
    replace BS := Lib.hid ((h.block _ (lt_some BS.out)).trans BS.out)
    replace BA := Lib.hid ((h.block _ (lt_some BA.out)).trans BA.out)
    replace BN := Lib.hid ((h.block _ (lt_some BN.out)).trans BN.out)
    replace BR := Lib.hid ((h.block _ (lt_some BR.out)).trans BR.out)
    replace Ba := Lib.hid ((h.block _ (lt_some Ba.out)).trans Ba.out)
    replace BY := Lib.hid ((h.block _ (lt_some BY.out)).trans BY.out)
    replace BYr := Lib.hid ((h.block _ (lt_some BYr.out)).trans BYr.out)
    replace Bb := Lib.hid ((h.block _ (lt_some Bb.out)).trans Bb.out)
    replace BX := Lib.hid ((h.block _ (lt_some BX.out)).trans BX.out)
    have b25 : Hid (Below w.heap.size w w24) := b23.out.trans (h.mono b23.out.size)
    clear h
    replace En := En.out
    have xBX0 : w24.cell? ⟨w20.heap.size, 0, none⟩ = some (.int .i64 yn.w.book) := one_at BX.out
    have xBX1 : w24.cell? ⟨w20.heap.size, 1, none⟩ = some (.int .i64 yn.w.cust) := one_at BX.out
    have xBX2 : w24.cell? ⟨w20.heap.size, 2, none⟩ = some (.int .i64 yn.w.dead) := one_at BX.out
    have xBX3 : w24.cell? ⟨w20.heap.size, 3, none⟩ = some (.int .i64 yn.w.u0) := one_at BX.out
    have xBX4 : w24.cell? ⟨w20.heap.size, 4, none⟩ = some (.int .i64 yn.w.u1) := one_at BX.out
    have xBX5 : w24.cell? ⟨w20.heap.size, 5, none⟩ = some (.int .i64 yn.w.u2) := one_at BX.out
    have xBX6 : w24.cell? ⟨w20.heap.size, 6, none⟩ = some (.int .i64 yn.w.price) := one_at BX.out
    have xBX7 : w24.cell? ⟨w20.heap.size, 7, none⟩ = some (.int .i64 yn.ph) := one_at BX.out
    have xBX8 : w24.cell? ⟨w20.heap.size, 8, none⟩ = some (.int .i64 yn.st) := one_at BX.out
    have xBX9 : w24.cell? ⟨w20.heap.size, 9, none⟩ = some (.int .i64 yn.rs) := one_at BX.out
    have xBX10 : w24.cell? ⟨w20.heap.size, 10, none⟩ = some (.int .i64 yn.si) := one_at BX.out
    have lBX : w20.heap.size < w24.heap.size := lt_some BX.out
    have xBXr0 : w24.cell? ⟨gBXr, 0, none⟩ = some (.int .i64 yn.w.book) := one_at BXr.out
    have xBXr1 : w24.cell? ⟨gBXr, 1, none⟩ = some (.int .i64 yn.w.cust) := one_at BXr.out
    have xBXr2 : w24.cell? ⟨gBXr, 2, none⟩ = some (.int .i64 yn.w.dead) := one_at BXr.out
    have xBXr3 : w24.cell? ⟨gBXr, 3, none⟩ = some (.int .i64 yn.w.u0) := one_at BXr.out
    have xBXr4 : w24.cell? ⟨gBXr, 4, none⟩ = some (.int .i64 yn.w.u1) := one_at BXr.out
    have xBXr5 : w24.cell? ⟨gBXr, 5, none⟩ = some (.int .i64 yn.w.u2) := one_at BXr.out
    have xBXr6 : w24.cell? ⟨gBXr, 6, none⟩ = some (.int .i64 yn.w.price) := one_at BXr.out
    have xBXr7 : w24.cell? ⟨gBXr, 7, none⟩ = some (.int .i64 yn.ph) := one_at BXr.out
    have xBXr8 : w24.cell? ⟨gBXr, 8, none⟩ = some (.int .i64 yn.st) := one_at BXr.out
    have xBXr9 : w24.cell? ⟨gBXr, 9, none⟩ = some (.int .i64 yn.rs) := one_at BXr.out
    have xBXr10 : w24.cell? ⟨gBXr, 10, none⟩ = some (.int .i64 yn.si) := one_at BXr.out
    have lBXr : gBXr < w24.heap.size := lt_some BXr.out
    go_wp2_with fail
    rw [rounds_succ]
    clear En A1 A2 A3 A4 PR
    clear xBX0 xBX1 xBX2 xBX3 xBX4 xBX5 xBX6 xBX7 xBX8 xBX9 xBX10 lBX xBXr0 xBXr1 xBXr2 xBXr3 xBXr4 xBXr5 xBXr6 xBXr7 xBXr8 xBXr9 xBXr10 lBXr
    have xBS0 : w24.cell? ⟨w.heap.size, 0, none⟩ = some (.int .i64 s.w.book) := one_at BS.out
    have xBS1 : w24.cell? ⟨w.heap.size, 1, none⟩ = some (.int .i64 s.w.cust) := one_at BS.out
    have xBS2 : w24.cell? ⟨w.heap.size, 2, none⟩ = some (.int .i64 s.w.dead) := one_at BS.out
    have xBS3 : w24.cell? ⟨w.heap.size, 3, none⟩ = some (.int .i64 s.w.u0) := one_at BS.out
    have xBS4 : w24.cell? ⟨w.heap.size, 4, none⟩ = some (.int .i64 s.w.u1) := one_at BS.out
    have xBS5 : w24.cell? ⟨w.heap.size, 5, none⟩ = some (.int .i64 s.w.u2) := one_at BS.out
    have xBS6 : w24.cell? ⟨w.heap.size, 6, none⟩ = some (.int .i64 s.w.price) := one_at BS.out
    have xBS7 : w24.cell? ⟨w.heap.size, 7, none⟩ = some (.int .i64 s.ph) := one_at BS.out
    have xBS8 : w24.cell? ⟨w.heap.size, 8, none⟩ = some (.int .i64 s.st) := one_at BS.out
    have xBS9 : w24.cell? ⟨w.heap.size, 9, none⟩ = some (.int .i64 s.rs) := one_at BS.out
    have xBS10 : w24.cell? ⟨w.heap.size, 10, none⟩ = some (.int .i64 s.si) := one_at BS.out
    have lBS : w.heap.size < w24.heap.size := lt_some BS.out
    go_wp2_with fail
    refine (C1.out _ (by assumption)).mono ?_
    rintro e w26 ⟨rfl, h⟩
    clear xBS0 xBS1 xBS2 xBS3 xBS4 xBS5 xBS6 xBS7 xBS8 xBS9 xBS10 lBS
    replace BS := Lib.hid ((h.block _ (lt_some BS.out)).trans BS.out)
    replace BA := Lib.hid ((h.block _ (lt_some BA.out)).trans BA.out)
    replace BN := Lib.hid ((h.block _ (lt_some BN.out)).trans BN.out)
    replace BR := Lib.hid ((h.block _ (lt_some BR.out)).trans BR.out)
    replace Ba := Lib.hid ((h.block _ (lt_some Ba.out)).trans Ba.out)
    replace BY := Lib.hid ((h.block _ (lt_some BY.out)).trans BY.out)
    replace BYr := Lib.hid ((h.block _ (lt_some BYr.out)).trans BYr.out)
    replace Bb := Lib.hid ((h.block _ (lt_some Bb.out)).trans Bb.out)
    replace BX := Lib.hid ((h.block _ (lt_some BX.out)).trans BX.out)
    replace BXr := Lib.hid ((h.block _ (lt_some BXr.out)).trans BXr.out)
    have b27 : Hid (Below w.heap.size w w26) := b25.out.trans (h.mono b25.out.size)
    clear h
    go_upto_region 16 with fail
    obtain ⟨W28, hW⟩ : ∃ x, x = w26.alloc (.cells #[.int .i64 yc.w.book, .int .i64 yc.w.cust, .int .i64 yc.w.dead, .int .i64 yc.w.u0, .int .i64 yc.w.u1, .int .i64 yc.w.u2, .int .i64 yc.w.price, .int .i64 yc.ph, .int .i64 yc.st, .int .i64 yc.rs, .int .i64 yc.si] 26) := ⟨_, rfl⟩
    rw [← hW]
    have h : Below w26.heap.size w26 W28 := by rw [hW]; exact (Below.refl _ _).alloc (Nat.le_refl _) _
    have D1 : Hid (W28.heap[w26.heap.size]? = some (.cells #[.int .i64 yc.w.book, .int .i64 yc.w.cust, .int .i64 yc.w.dead, .int .i64 yc.w.u0, .int .i64 yc.w.u1, .int .i64 yc.w.u2, .int .i64 yc.w.price, .int .i64 yc.ph, .int .i64 yc.st, .int .i64 yc.rs, .int .i64 yc.si] 26 (0, 0))) := by rw [hW]; exact heap_alloc_new _ _
    clear hW
    replace BS := Lib.hid ((h.block _ (lt_some BS.out)).trans BS.out)
    replace BA := Lib.hid ((h.block _ (lt_some BA.out)).trans BA.out)
    replace BN := Lib.hid ((h.block _ (lt_some BN.out)).trans BN.out)
    replace BR := Lib.hid ((h.block _ (lt_some BR.out)).trans BR.out)
    replace Ba := Lib.hid ((h.block _ (lt_some Ba.out)).trans Ba.out)
    replace BY := Lib.hid ((h.block _ (lt_some BY.out)).trans BY.out)
    replace BYr := Lib.hid ((h.block _ (lt_some BYr.out)).trans BYr.out)
    replace Bb := Lib.hid ((h.block _ (lt_some Bb.out)).trans Bb.out)
    replace BX := Lib.hid ((h.block _ (lt_some BX.out)).trans BX.out)
    replace BXr := Lib.hid ((h.block _ (lt_some BXr.out)).trans BXr.out)
    have b29 : Hid (Below w.heap.size w W28) := b27.out.trans (h.mono b27.out.size)
    clear h
    have xBS0 : W28.cell? ⟨w.heap.size, 0, none⟩ = some (.int .i64 s.w.book) := one_at BS.out
    have xBS1 : W28.cell? ⟨w.heap.size, 1, none⟩ = some (.int .i64 s.w.cust) := one_at BS.out
    have xBS2 : W28.cell? ⟨w.heap.size, 2, none⟩ = some (.int .i64 s.w.dead) := one_at BS.out
    have xBS3 : W28.cell? ⟨w.heap.size, 3, none⟩ = some (.int .i64 s.w.u0) := one_at BS.out
    have xBS4 : W28.cell? ⟨w.heap.size, 4, none⟩ = some (.int .i64 s.w.u1) := one_at BS.out
    have xBS5 : W28.cell? ⟨w.heap.size, 5, none⟩ = some (.int .i64 s.w.u2) := one_at BS.out
    have xBS6 : W28.cell? ⟨w.heap.size, 6, none⟩ = some (.int .i64 s.w.price) := one_at BS.out
    have xBS7 : W28.cell? ⟨w.heap.size, 7, none⟩ = some (.int .i64 s.ph) := one_at BS.out
    have xBS8 : W28.cell? ⟨w.heap.size, 8, none⟩ = some (.int .i64 s.st) := one_at BS.out
    have xBS9 : W28.cell? ⟨w.heap.size, 9, none⟩ = some (.int .i64 s.rs) := one_at BS.out
    have xBS10 : W28.cell? ⟨w.heap.size, 10, none⟩ = some (.int .i64 s.si) := one_at BS.out
    have lBS : w.heap.size < W28.heap.size := lt_some BS.out
    go_wp2_with fail
    refine (C2.out _).mono ?_
    rintro e w30 ⟨rfl, h⟩
    clear xBS0 xBS1 xBS2 xBS3 xBS4 xBS5 xBS6 xBS7 xBS8 xBS9 xBS10 lBS
    replace BS := Lib.hid ((h.block _ (lt_some BS.out)).trans BS.out)
    replace BA := Lib.hid ((h.block _ (lt_some BA.out)).trans BA.out)
    replace BN := Lib.hid ((h.block _ (lt_some BN.out)).trans BN.out)
    replace BR := Lib.hid ((h.block _ (lt_some BR.out)).trans BR.out)
    replace Ba := Lib.hid ((h.block _ (lt_some Ba.out)).trans Ba.out)
    replace BY := Lib.hid ((h.block _ (lt_some BY.out)).trans BY.out)
    replace BYr := Lib.hid ((h.block _ (lt_some BYr.out)).trans BYr.out)
    replace Bb := Lib.hid ((h.block _ (lt_some Bb.out)).trans Bb.out)
    replace BX := Lib.hid ((h.block _ (lt_some BX.out)).trans BX.out)
    replace BXr := Lib.hid ((h.block _ (lt_some BXr.out)).trans BXr.out)
    replace D1 := Lib.hid ((h.block _ (lt_some D1.out)).trans D1.out)
    have b31 : Hid (Below w.heap.size w w30) := b29.out.trans (h.mono b29.out.size)
    clear h
    go_upto_region 17 with fail
    obtain ⟨W32, hW⟩ : ∃ x, x = w30.alloc (.cells #[.int .i64 yc.w.book, .int .i64 yc.w.cust, .int .i64 yc.w.dead, .int .i64 yc.w.u0, .int .i64 yc.w.u1, .int .i64 yc.w.u2, .int .i64 yc.w.price, .int .i64 yc.ph, .int .i64 yc.st, .int .i64 yc.rs, .int .i64 yc.si] 26) := ⟨_, rfl⟩
    rw [← hW]
    have h : Below w30.heap.size w30 W32 := by rw [hW]; exact (Below.refl _ _).alloc (Nat.le_refl _) _
    have D2 : Hid (W32.heap[w30.heap.size]? = some (.cells #[.int .i64 yc.w.book, .int .i64 yc.w.cust, .int .i64 yc.w.dead, .int .i64 yc.w.u0, .int .i64 yc.w.u1, .int .i64 yc.w.u2, .int .i64 yc.w.price, .int .i64 yc.ph, .int .i64 yc.st, .int .i64 yc.rs, .int .i64 yc.si] 26 (0, 0))) := by rw [hW]; exact heap_alloc_new _ _
    clear hW
    replace BS := Lib.hid ((h.block _ (lt_some BS.out)).trans BS.out)
    replace BA := Lib.hid ((h.block _ (lt_some BA.out)).trans BA.out)
    replace BN := Lib.hid ((h.block _ (lt_some BN.out)).trans BN.out)
    replace BR := Lib.hid ((h.block _ (lt_some BR.out)).trans BR.out)
    replace Ba := Lib.hid ((h.block _ (lt_some Ba.out)).trans Ba.out)
    replace BY := Lib.hid ((h.block _ (lt_some BY.out)).trans BY.out)
    replace BYr := Lib.hid ((h.block _ (lt_some BYr.out)).trans BYr.out)
    replace Bb := Lib.hid ((h.block _ (lt_some Bb.out)).trans Bb.out)
    replace BX := Lib.hid ((h.block _ (lt_some BX.out)).trans BX.out)
    replace BXr := Lib.hid ((h.block _ (lt_some BXr.out)).trans BXr.out)
    replace D1 := Lib.hid ((h.block _ (lt_some D1.out)).trans D1.out)
    have b33 : Hid (Below w.heap.size w W32) := b31.out.trans (h.mono b31.out.size)
    clear h
    have xBS0 : W32.cell? ⟨w.heap.size, 0, none⟩ = some (.int .i64 s.w.book) := one_at BS.out
    have xBS1 : W32.cell? ⟨w.heap.size, 1, none⟩ = some (.int .i64 s.w.cust) := one_at BS.out
    have xBS2 : W32.cell? ⟨w.heap.size, 2, none⟩ = some (.int .i64 s.w.dead) := one_at BS.out
    have xBS3 : W32.cell? ⟨w.heap.size, 3, none⟩ = some (.int .i64 s.w.u0) := one_at BS.out
    have xBS4 : W32.cell? ⟨w.heap.size, 4, none⟩ = some (.int .i64 s.w.u1) := one_at BS.out
    have xBS5 : W32.cell? ⟨w.heap.size, 5, none⟩ = some (.int .i64 s.w.u2) := one_at BS.out
    have xBS6 : W32.cell? ⟨w.heap.size, 6, none⟩ = some (.int .i64 s.w.price) := one_at BS.out
    have xBS7 : W32.cell? ⟨w.heap.size, 7, none⟩ = some (.int .i64 s.ph) := one_at BS.out
    have xBS8 : W32.cell? ⟨w.heap.size, 8, none⟩ = some (.int .i64 s.st) := one_at BS.out
    have xBS9 : W32.cell? ⟨w.heap.size, 9, none⟩ = some (.int .i64 s.rs) := one_at BS.out
    have xBS10 : W32.cell? ⟨w.heap.size, 10, none⟩ = some (.int .i64 s.si) := one_at BS.out
    have lBS : w.heap.size < W32.heap.size := lt_some BS.out
    go_wp2_with fail
    refine (L1.out _ (by assumption)).mono ?_
    rintro e w34 ⟨rfl, h⟩
    clear xBS0 xBS1 xBS2 xBS3 xBS4 xBS5 xBS6 xBS7 xBS8 xBS9 xBS10 lBS
    replace BS := Lib.hid ((h.block _ (lt_some BS.out)).trans BS.out)
    replace BA := Lib.hid ((h.block _ (lt_some BA.out)).trans BA.out)
    replace BN := Lib.hid ((h.block _ (lt_some BN.out)).trans BN.out)
    replace BR := Lib.hid ((h.block _ (lt_some BR.out)).trans BR.out)
    replace Ba := Lib.hid ((h.block _ (lt_some Ba.out)).trans Ba.out)
    replace BY := Lib.hid ((h.block _ (lt_some BY.out)).trans BY.out)
    replace BYr := Lib.hid ((h.block _ (lt_some BYr.out)).trans BYr.out)
    replace Bb := Lib.hid ((h.block _ (lt_some Bb.out)).trans Bb.out)
    replace BX := Lib.hid ((h.block _ (lt_some BX.out)).trans BX.out)
    replace BXr := Lib.hid ((h.block _ (lt_some BXr.out)).trans BXr.out)
    replace D1 := Lib.hid ((h.block _ (lt_some D1.out)).trans D1.out)
    replace D2 := Lib.hid ((h.block _ (lt_some D2.out)).trans D2.out)
    have b35 : Hid (Below w.heap.size w w34) := b33.out.trans (h.mono b33.out.size)
    clear h
    go_upto_region 18 with fail
    obtain ⟨W36, hW⟩ : ∃ x, x = w34.alloc (.cells #[.int .i64 yl.w.book, .int .i64 yl.w.cust, .int .i64 yl.w.dead, .int .i64 yl.w.u0, .int .i64 yl.w.u1, .int .i64 yl.w.u2, .int .i64 yl.w.price, .int .i64 yl.ph, .int .i64 yl.st, .int .i64 yl.rs, .int .i64 yl.si] 26) := ⟨_, rfl⟩
    rw [← hW]
    have h : Below w34.heap.size w34 W36 := by rw [hW]; exact (Below.refl _ _).alloc (Nat.le_refl _) _
    have D3 : Hid (W36.heap[w34.heap.size]? = some (.cells #[.int .i64 yl.w.book, .int .i64 yl.w.cust, .int .i64 yl.w.dead, .int .i64 yl.w.u0, .int .i64 yl.w.u1, .int .i64 yl.w.u2, .int .i64 yl.w.price, .int .i64 yl.ph, .int .i64 yl.st, .int .i64 yl.rs, .int .i64 yl.si] 26 (0, 0))) := by rw [hW]; exact heap_alloc_new _ _
    clear hW
    replace BS := Lib.hid ((h.block _ (lt_some BS.out)).trans BS.out)
    replace BA := Lib.hid ((h.block _ (lt_some BA.out)).trans BA.out)
    replace BN := Lib.hid ((h.block _ (lt_some BN.out)).trans BN.out)
    replace BR := Lib.hid ((h.block _ (lt_some BR.out)).trans BR.out)
    replace Ba := Lib.hid ((h.block _ (lt_some Ba.out)).trans Ba.out)
    replace BY := Lib.hid ((h.block _ (lt_some BY.out)).trans BY.out)
    replace BYr := Lib.hid ((h.block _ (lt_some BYr.out)).trans BYr.out)
    replace Bb := Lib.hid ((h.block _ (lt_some Bb.out)).trans Bb.out)
    replace BX := Lib.hid ((h.block _ (lt_some BX.out)).trans BX.out)
    replace BXr := Lib.hid ((h.block _ (lt_some BXr.out)).trans BXr.out)
    replace D1 := Lib.hid ((h.block _ (lt_some D1.out)).trans D1.out)
    replace D2 := Lib.hid ((h.block _ (lt_some D2.out)).trans D2.out)
    have b37 : Hid (Below w.heap.size w W36) := b35.out.trans (h.mono b35.out.size)
    clear h
    have xBS0 : W36.cell? ⟨w.heap.size, 0, none⟩ = some (.int .i64 s.w.book) := one_at BS.out
    have xBS1 : W36.cell? ⟨w.heap.size, 1, none⟩ = some (.int .i64 s.w.cust) := one_at BS.out
    have xBS2 : W36.cell? ⟨w.heap.size, 2, none⟩ = some (.int .i64 s.w.dead) := one_at BS.out
    have xBS3 : W36.cell? ⟨w.heap.size, 3, none⟩ = some (.int .i64 s.w.u0) := one_at BS.out
    have xBS4 : W36.cell? ⟨w.heap.size, 4, none⟩ = some (.int .i64 s.w.u1) := one_at BS.out
    have xBS5 : W36.cell? ⟨w.heap.size, 5, none⟩ = some (.int .i64 s.w.u2) := one_at BS.out
    have xBS6 : W36.cell? ⟨w.heap.size, 6, none⟩ = some (.int .i64 s.w.price) := one_at BS.out
    have xBS7 : W36.cell? ⟨w.heap.size, 7, none⟩ = some (.int .i64 s.ph) := one_at BS.out
    have xBS8 : W36.cell? ⟨w.heap.size, 8, none⟩ = some (.int .i64 s.st) := one_at BS.out
    have xBS9 : W36.cell? ⟨w.heap.size, 9, none⟩ = some (.int .i64 s.rs) := one_at BS.out
    have xBS10 : W36.cell? ⟨w.heap.size, 10, none⟩ = some (.int .i64 s.si) := one_at BS.out
    have lBS : w.heap.size < W36.heap.size := lt_some BS.out
    go_wp2_with fail
    refine (L2.out _).mono ?_
    rintro e w38 ⟨rfl, h⟩
    clear xBS0 xBS1 xBS2 xBS3 xBS4 xBS5 xBS6 xBS7 xBS8 xBS9 xBS10 lBS
    replace BS := Lib.hid ((h.block _ (lt_some BS.out)).trans BS.out)
    replace BA := Lib.hid ((h.block _ (lt_some BA.out)).trans BA.out)
    replace BN := Lib.hid ((h.block _ (lt_some BN.out)).trans BN.out)
    replace BR := Lib.hid ((h.block _ (lt_some BR.out)).trans BR.out)
    replace Ba := Lib.hid ((h.block _ (lt_some Ba.out)).trans Ba.out)
    replace BY := Lib.hid ((h.block _ (lt_some BY.out)).trans BY.out)
    replace BYr := Lib.hid ((h.block _ (lt_some BYr.out)).trans BYr.out)
    replace Bb := Lib.hid ((h.block _ (lt_some Bb.out)).trans Bb.out)
    replace BX := Lib.hid ((h.block _ (lt_some BX.out)).trans BX.out)
    replace BXr := Lib.hid ((h.block _ (lt_some BXr.out)).trans BXr.out)
    replace D1 := Lib.hid ((h.block _ (lt_some D1.out)).trans D1.out)
    replace D2 := Lib.hid ((h.block _ (lt_some D2.out)).trans D2.out)
    replace D3 := Lib.hid ((h.block _ (lt_some D3.out)).trans D3.out)
    have b39 : Hid (Below w.heap.size w w38) := b37.out.trans (h.mono b37.out.size)
    clear h
    go_upto_region 19 with fail
    obtain ⟨W40, hW⟩ : ∃ x, x = w38.alloc (.cells #[.int .i64 yl.w.book, .int .i64 yl.w.cust, .int .i64 yl.w.dead, .int .i64 yl.w.u0, .int .i64 yl.w.u1, .int .i64 yl.w.u2, .int .i64 yl.w.price, .int .i64 yl.ph, .int .i64 yl.st, .int .i64 yl.rs, .int .i64 yl.si] 26) := ⟨_, rfl⟩
    rw [← hW]
    have h : Below w38.heap.size w38 W40 := by rw [hW]; exact (Below.refl _ _).alloc (Nat.le_refl _) _
    have D4 : Hid (W40.heap[w38.heap.size]? = some (.cells #[.int .i64 yl.w.book, .int .i64 yl.w.cust, .int .i64 yl.w.dead, .int .i64 yl.w.u0, .int .i64 yl.w.u1, .int .i64 yl.w.u2, .int .i64 yl.w.price, .int .i64 yl.ph, .int .i64 yl.st, .int .i64 yl.rs, .int .i64 yl.si] 26 (0, 0))) := by rw [hW]; exact heap_alloc_new _ _
    clear hW
    replace BS := Lib.hid ((h.block _ (lt_some BS.out)).trans BS.out)
    replace BA := Lib.hid ((h.block _ (lt_some BA.out)).trans BA.out)
    replace BN := Lib.hid ((h.block _ (lt_some BN.out)).trans BN.out)
    replace BR := Lib.hid ((h.block _ (lt_some BR.out)).trans BR.out)
    replace Ba := Lib.hid ((h.block _ (lt_some Ba.out)).trans Ba.out)
    replace BY := Lib.hid ((h.block _ (lt_some BY.out)).trans BY.out)
    replace BYr := Lib.hid ((h.block _ (lt_some BYr.out)).trans BYr.out)
    replace Bb := Lib.hid ((h.block _ (lt_some Bb.out)).trans Bb.out)
    replace BX := Lib.hid ((h.block _ (lt_some BX.out)).trans BX.out)
    replace BXr := Lib.hid ((h.block _ (lt_some BXr.out)).trans BXr.out)
    replace D1 := Lib.hid ((h.block _ (lt_some D1.out)).trans D1.out)
    replace D2 := Lib.hid ((h.block _ (lt_some D2.out)).trans D2.out)
    replace D3 := Lib.hid ((h.block _ (lt_some D3.out)).trans D3.out)
    have b41 : Hid (Below w.heap.size w W40) := b39.out.trans (h.mono b39.out.size)
    clear h
    have xBS0 : W40.cell? ⟨w.heap.size, 0, none⟩ = some (.int .i64 s.w.book) := one_at BS.out
    have xBS1 : W40.cell? ⟨w.heap.size, 1, none⟩ = some (.int .i64 s.w.cust) := one_at BS.out
    have xBS2 : W40.cell? ⟨w.heap.size, 2, none⟩ = some (.int .i64 s.w.dead) := one_at BS.out
    have xBS3 : W40.cell? ⟨w.heap.size, 3, none⟩ = some (.int .i64 s.w.u0) := one_at BS.out
    have xBS4 : W40.cell? ⟨w.heap.size, 4, none⟩ = some (.int .i64 s.w.u1) := one_at BS.out
    have xBS5 : W40.cell? ⟨w.heap.size, 5, none⟩ = some (.int .i64 s.w.u2) := one_at BS.out
    have xBS6 : W40.cell? ⟨w.heap.size, 6, none⟩ = some (.int .i64 s.w.price) := one_at BS.out
    have xBS7 : W40.cell? ⟨w.heap.size, 7, none⟩ = some (.int .i64 s.ph) := one_at BS.out
    have xBS8 : W40.cell? ⟨w.heap.size, 8, none⟩ = some (.int .i64 s.st) := one_at BS.out
    have xBS9 : W40.cell? ⟨w.heap.size, 9, none⟩ = some (.int .i64 s.rs) := one_at BS.out
    have xBS10 : W40.cell? ⟨w.heap.size, 10, none⟩ = some (.int .i64 s.si) := one_at BS.out
    have lBS : w.heap.size < W40.heap.size := lt_some BS.out
    go_wp2_with fail
    refine (Z1.out _ (by assumption)).mono ?_
    rintro e w42 ⟨rfl, h⟩
    clear xBS0 xBS1 xBS2 xBS3 xBS4 xBS5 xBS6 xBS7 xBS8 xBS9 xBS10 lBS
    replace BS := Lib.hid ((h.block _ (lt_some BS.out)).trans BS.out)
    replace BA := Lib.hid ((h.block _ (lt_some BA.out)).trans BA.out)
    replace BN := Lib.hid ((h.block _ (lt_some BN.out)).trans BN.out)
    replace BR := Lib.hid ((h.block _ (lt_some BR.out)).trans BR.out)
    replace Ba := Lib.hid ((h.block _ (lt_some Ba.out)).trans Ba.out)
    replace BY := Lib.hid ((h.block _ (lt_some BY.out)).trans BY.out)
    replace BYr := Lib.hid ((h.block _ (lt_some BYr.out)).trans BYr.out)
    replace Bb := Lib.hid ((h.block _ (lt_some Bb.out)).trans Bb.out)
    replace BX := Lib.hid ((h.block _ (lt_some BX.out)).trans BX.out)
    replace BXr := Lib.hid ((h.block _ (lt_some BXr.out)).trans BXr.out)
    replace D1 := Lib.hid ((h.block _ (lt_some D1.out)).trans D1.out)
    replace D2 := Lib.hid ((h.block _ (lt_some D2.out)).trans D2.out)
    replace D3 := Lib.hid ((h.block _ (lt_some D3.out)).trans D3.out)
    replace D4 := Lib.hid ((h.block _ (lt_some D4.out)).trans D4.out)
    have b43 : Hid (Below w.heap.size w w42) := b41.out.trans (h.mono b41.out.size)
    clear h
    go_upto_region 20 with fail
    obtain ⟨W44, hW⟩ : ∃ x, x = w42.alloc (.cells #[.int .i64 yz.w.book, .int .i64 yz.w.cust, .int .i64 yz.w.dead, .int .i64 yz.w.u0, .int .i64 yz.w.u1, .int .i64 yz.w.u2, .int .i64 yz.w.price, .int .i64 yz.ph, .int .i64 yz.st, .int .i64 yz.rs, .int .i64 yz.si] 26) := ⟨_, rfl⟩
    rw [← hW]
    have h : Below w42.heap.size w42 W44 := by rw [hW]; exact (Below.refl _ _).alloc (Nat.le_refl _) _
    have D5 : Hid (W44.heap[w42.heap.size]? = some (.cells #[.int .i64 yz.w.book, .int .i64 yz.w.cust, .int .i64 yz.w.dead, .int .i64 yz.w.u0, .int .i64 yz.w.u1, .int .i64 yz.w.u2, .int .i64 yz.w.price, .int .i64 yz.ph, .int .i64 yz.st, .int .i64 yz.rs, .int .i64 yz.si] 26 (0, 0))) := by rw [hW]; exact heap_alloc_new _ _
    clear hW
    replace BS := Lib.hid ((h.block _ (lt_some BS.out)).trans BS.out)
    replace BA := Lib.hid ((h.block _ (lt_some BA.out)).trans BA.out)
    replace BN := Lib.hid ((h.block _ (lt_some BN.out)).trans BN.out)
    replace BR := Lib.hid ((h.block _ (lt_some BR.out)).trans BR.out)
    replace Ba := Lib.hid ((h.block _ (lt_some Ba.out)).trans Ba.out)
    replace BY := Lib.hid ((h.block _ (lt_some BY.out)).trans BY.out)
    replace BYr := Lib.hid ((h.block _ (lt_some BYr.out)).trans BYr.out)
    replace Bb := Lib.hid ((h.block _ (lt_some Bb.out)).trans Bb.out)
    replace BX := Lib.hid ((h.block _ (lt_some BX.out)).trans BX.out)
    replace BXr := Lib.hid ((h.block _ (lt_some BXr.out)).trans BXr.out)
    replace D1 := Lib.hid ((h.block _ (lt_some D1.out)).trans D1.out)
    replace D2 := Lib.hid ((h.block _ (lt_some D2.out)).trans D2.out)
    replace D3 := Lib.hid ((h.block _ (lt_some D3.out)).trans D3.out)
    replace D4 := Lib.hid ((h.block _ (lt_some D4.out)).trans D4.out)
    have b45 : Hid (Below w.heap.size w W44) := b43.out.trans (h.mono b43.out.size)
    clear h
    have xBS0 : W44.cell? ⟨w.heap.size, 0, none⟩ = some (.int .i64 s.w.book) := one_at BS.out
    have xBS1 : W44.cell? ⟨w.heap.size, 1, none⟩ = some (.int .i64 s.w.cust) := one_at BS.out
    have xBS2 : W44.cell? ⟨w.heap.size, 2, none⟩ = some (.int .i64 s.w.dead) := one_at BS.out
    have xBS3 : W44.cell? ⟨w.heap.size, 3, none⟩ = some (.int .i64 s.w.u0) := one_at BS.out
    have xBS4 : W44.cell? ⟨w.heap.size, 4, none⟩ = some (.int .i64 s.w.u1) := one_at BS.out
    have xBS5 : W44.cell? ⟨w.heap.size, 5, none⟩ = some (.int .i64 s.w.u2) := one_at BS.out
    have xBS6 : W44.cell? ⟨w.heap.size, 6, none⟩ = some (.int .i64 s.w.price) := one_at BS.out
    have xBS7 : W44.cell? ⟨w.heap.size, 7, none⟩ = some (.int .i64 s.ph) := one_at BS.out
    have xBS8 : W44.cell? ⟨w.heap.size, 8, none⟩ = some (.int .i64 s.st) := one_at BS.out
    have xBS9 : W44.cell? ⟨w.heap.size, 9, none⟩ = some (.int .i64 s.rs) := one_at BS.out
    have xBS10 : W44.cell? ⟨w.heap.size, 10, none⟩ = some (.int .i64 s.si) := one_at BS.out
    have lBS : w.heap.size < W44.heap.size := lt_some BS.out
    go_wp2_with fail
    refine (Z2.out _).mono ?_
    rintro e w46 ⟨rfl, h⟩
    clear xBS0 xBS1 xBS2 xBS3 xBS4 xBS5 xBS6 xBS7 xBS8 xBS9 xBS10 lBS
    replace BS := Lib.hid ((h.block _ (lt_some BS.out)).trans BS.out)
    replace BA := Lib.hid ((h.block _ (lt_some BA.out)).trans BA.out)
    replace BN := Lib.hid ((h.block _ (lt_some BN.out)).trans BN.out)
    replace BR := Lib.hid ((h.block _ (lt_some BR.out)).trans BR.out)
    replace Ba := Lib.hid ((h.block _ (lt_some Ba.out)).trans Ba.out)
    replace BY := Lib.hid ((h.block _ (lt_some BY.out)).trans BY.out)
    replace BYr := Lib.hid ((h.block _ (lt_some BYr.out)).trans BYr.out)
    replace Bb := Lib.hid ((h.block _ (lt_some Bb.out)).trans Bb.out)
    replace BX := Lib.hid ((h.block _ (lt_some BX.out)).trans BX.out)
    replace BXr := Lib.hid ((h.block _ (lt_some BXr.out)).trans BXr.out)
    replace D1 := Lib.hid ((h.block _ (lt_some D1.out)).trans D1.out)
    replace D2 := Lib.hid ((h.block _ (lt_some D2.out)).trans D2.out)
    replace D3 := Lib.hid ((h.block _ (lt_some D3.out)).trans D3.out)
    replace D4 := Lib.hid ((h.block _ (lt_some D4.out)).trans D4.out)
    replace D5 := Lib.hid ((h.block _ (lt_some D5.out)).trans D5.out)
    have b47 : Hid (Below w.heap.size w w46) := b45.out.trans (h.mono b45.out.size)
    clear h
    go_upto_region 21 with fail
    obtain ⟨W48, hW⟩ : ∃ x, x = w46.alloc (.cells #[.int .i64 yz.w.book, .int .i64 yz.w.cust, .int .i64 yz.w.dead, .int .i64 yz.w.u0, .int .i64 yz.w.u1, .int .i64 yz.w.u2, .int .i64 yz.w.price, .int .i64 yz.ph, .int .i64 yz.st, .int .i64 yz.rs, .int .i64 yz.si] 26) := ⟨_, rfl⟩
    rw [← hW]
    have h : Below w46.heap.size w46 W48 := by rw [hW]; exact (Below.refl _ _).alloc (Nat.le_refl _) _
    have D6 : Hid (W48.heap[w46.heap.size]? = some (.cells #[.int .i64 yz.w.book, .int .i64 yz.w.cust, .int .i64 yz.w.dead, .int .i64 yz.w.u0, .int .i64 yz.w.u1, .int .i64 yz.w.u2, .int .i64 yz.w.price, .int .i64 yz.ph, .int .i64 yz.st, .int .i64 yz.rs, .int .i64 yz.si] 26 (0, 0))) := by rw [hW]; exact heap_alloc_new _ _
    clear hW
    replace BS := Lib.hid ((h.block _ (lt_some BS.out)).trans BS.out)
    replace BA := Lib.hid ((h.block _ (lt_some BA.out)).trans BA.out)
    replace BN := Lib.hid ((h.block _ (lt_some BN.out)).trans BN.out)
    replace BR := Lib.hid ((h.block _ (lt_some BR.out)).trans BR.out)
    replace Ba := Lib.hid ((h.block _ (lt_some Ba.out)).trans Ba.out)
    replace BY := Lib.hid ((h.block _ (lt_some BY.out)).trans BY.out)
    replace BYr := Lib.hid ((h.block _ (lt_some BYr.out)).trans BYr.out)
    replace Bb := Lib.hid ((h.block _ (lt_some Bb.out)).trans Bb.out)
    replace BX := Lib.hid ((h.block _ (lt_some BX.out)).trans BX.out)
    replace BXr := Lib.hid ((h.block _ (lt_some BXr.out)).trans BXr.out)
    replace D1 := Lib.hid ((h.block _ (lt_some D1.out)).trans D1.out)
    replace D2 := Lib.hid ((h.block _ (lt_some D2.out)).trans D2.out)
    replace D3 := Lib.hid ((h.block _ (lt_some D3.out)).trans D3.out)
    replace D4 := Lib.hid ((h.block _ (lt_some D4.out)).trans D4.out)
    replace D5 := Lib.hid ((h.block _ (lt_some D5.out)).trans D5.out)
    have b49 : Hid (Below w.heap.size w W48) := b47.out.trans (h.mono b47.out.size)
    clear h
    go_wp2_with fail
    refine (TD.out _ (by assumption)).mono ?_
    rintro e w50 ⟨rfl, h⟩
    replace BS := Lib.hid ((h.block _ (lt_some BS.out)).trans BS.out)
    replace BA := Lib.hid ((h.block _ (lt_some BA.out)).trans BA.out)
    replace BN := Lib.hid ((h.block _ (lt_some BN.out)).trans BN.out)
    replace BR := Lib.hid ((h.block _ (lt_some BR.out)).trans BR.out)
    replace Ba := Lib.hid ((h.block _ (lt_some Ba.out)).trans Ba.out)
    replace BY := Lib.hid ((h.block _ (lt_some BY.out)).trans BY.out)
    replace BYr := Lib.hid ((h.block _ (lt_some BYr.out)).trans BYr.out)
    replace Bb := Lib.hid ((h.block _ (lt_some Bb.out)).trans Bb.out)
    replace BX := Lib.hid ((h.block _ (lt_some BX.out)).trans BX.out)
    replace BXr := Lib.hid ((h.block _ (lt_some BXr.out)).trans BXr.out)
    replace D1 := Lib.hid ((h.block _ (lt_some D1.out)).trans D1.out)
    replace D2 := Lib.hid ((h.block _ (lt_some D2.out)).trans D2.out)
    replace D3 := Lib.hid ((h.block _ (lt_some D3.out)).trans D3.out)
    replace D4 := Lib.hid ((h.block _ (lt_some D4.out)).trans D4.out)
    replace D5 := Lib.hid ((h.block _ (lt_some D5.out)).trans D5.out)
    replace D6 := Lib.hid ((h.block _ (lt_some D6.out)).trans D6.out)
    have b51 : Hid (Below w.heap.size w w50) := b49.out.trans (h.mono b49.out.size)
    clear h
    clear C1 C2 L1 L2 Z1 Z2 TD
    replace Ec := Ec.out
    replace El := El.out
    replace Ez := Ez.out
    have xD10 : w50.cell? ⟨w26.heap.size, 0, none⟩ = some (.int .i64 yc.w.book) := one_at D1.out
    have xD11 : w50.cell? ⟨w26.heap.size, 1, none⟩ = some (.int .i64 yc.w.cust) := one_at D1.out
    have xD12 : w50.cell? ⟨w26.heap.size, 2, none⟩ = some (.int .i64 yc.w.dead) := one_at D1.out
    have xD13 : w50.cell? ⟨w26.heap.size, 3, none⟩ = some (.int .i64 yc.w.u0) := one_at D1.out
    have xD14 : w50.cell? ⟨w26.heap.size, 4, none⟩ = some (.int .i64 yc.w.u1) := one_at D1.out
    have xD15 : w50.cell? ⟨w26.heap.size, 5, none⟩ = some (.int .i64 yc.w.u2) := one_at D1.out
    have xD16 : w50.cell? ⟨w26.heap.size, 6, none⟩ = some (.int .i64 yc.w.price) := one_at D1.out
    have xD17 : w50.cell? ⟨w26.heap.size, 7, none⟩ = some (.int .i64 yc.ph) := one_at D1.out
    have xD18 : w50.cell? ⟨w26.heap.size, 8, none⟩ = some (.int .i64 yc.st) := one_at D1.out
    have xD19 : w50.cell? ⟨w26.heap.size, 9, none⟩ = some (.int .i64 yc.rs) := one_at D1.out
    have xD110 : w50.cell? ⟨w26.heap.size, 10, none⟩ = some (.int .i64 yc.si) := one_at D1.out
    have lD1 : w26.heap.size < w50.heap.size := lt_some D1.out
    have xD20 : w50.cell? ⟨w30.heap.size, 0, none⟩ = some (.int .i64 yc.w.book) := one_at D2.out
    have xD21 : w50.cell? ⟨w30.heap.size, 1, none⟩ = some (.int .i64 yc.w.cust) := one_at D2.out
    have xD22 : w50.cell? ⟨w30.heap.size, 2, none⟩ = some (.int .i64 yc.w.dead) := one_at D2.out
    have xD23 : w50.cell? ⟨w30.heap.size, 3, none⟩ = some (.int .i64 yc.w.u0) := one_at D2.out
    have xD24 : w50.cell? ⟨w30.heap.size, 4, none⟩ = some (.int .i64 yc.w.u1) := one_at D2.out
    have xD25 : w50.cell? ⟨w30.heap.size, 5, none⟩ = some (.int .i64 yc.w.u2) := one_at D2.out
    have xD26 : w50.cell? ⟨w30.heap.size, 6, none⟩ = some (.int .i64 yc.w.price) := one_at D2.out
    have xD27 : w50.cell? ⟨w30.heap.size, 7, none⟩ = some (.int .i64 yc.ph) := one_at D2.out
    have xD28 : w50.cell? ⟨w30.heap.size, 8, none⟩ = some (.int .i64 yc.st) := one_at D2.out
    have xD29 : w50.cell? ⟨w30.heap.size, 9, none⟩ = some (.int .i64 yc.rs) := one_at D2.out
    have xD210 : w50.cell? ⟨w30.heap.size, 10, none⟩ = some (.int .i64 yc.si) := one_at D2.out
    have lD2 : w30.heap.size < w50.heap.size := lt_some D2.out
    have xD30 : w50.cell? ⟨w34.heap.size, 0, none⟩ = some (.int .i64 yl.w.book) := one_at D3.out
    have xD31 : w50.cell? ⟨w34.heap.size, 1, none⟩ = some (.int .i64 yl.w.cust) := one_at D3.out
    have xD32 : w50.cell? ⟨w34.heap.size, 2, none⟩ = some (.int .i64 yl.w.dead) := one_at D3.out
    have xD33 : w50.cell? ⟨w34.heap.size, 3, none⟩ = some (.int .i64 yl.w.u0) := one_at D3.out
    have xD34 : w50.cell? ⟨w34.heap.size, 4, none⟩ = some (.int .i64 yl.w.u1) := one_at D3.out
    have xD35 : w50.cell? ⟨w34.heap.size, 5, none⟩ = some (.int .i64 yl.w.u2) := one_at D3.out
    have xD36 : w50.cell? ⟨w34.heap.size, 6, none⟩ = some (.int .i64 yl.w.price) := one_at D3.out
    have xD37 : w50.cell? ⟨w34.heap.size, 7, none⟩ = some (.int .i64 yl.ph) := one_at D3.out
    have xD38 : w50.cell? ⟨w34.heap.size, 8, none⟩ = some (.int .i64 yl.st) := one_at D3.out
    have xD39 : w50.cell? ⟨w34.heap.size, 9, none⟩ = some (.int .i64 yl.rs) := one_at D3.out
    have xD310 : w50.cell? ⟨w34.heap.size, 10, none⟩ = some (.int .i64 yl.si) := one_at D3.out
    have lD3 : w34.heap.size < w50.heap.size := lt_some D3.out
    have xD40 : w50.cell? ⟨w38.heap.size, 0, none⟩ = some (.int .i64 yl.w.book) := one_at D4.out
    have xD41 : w50.cell? ⟨w38.heap.size, 1, none⟩ = some (.int .i64 yl.w.cust) := one_at D4.out
    have xD42 : w50.cell? ⟨w38.heap.size, 2, none⟩ = some (.int .i64 yl.w.dead) := one_at D4.out
    have xD43 : w50.cell? ⟨w38.heap.size, 3, none⟩ = some (.int .i64 yl.w.u0) := one_at D4.out
    have xD44 : w50.cell? ⟨w38.heap.size, 4, none⟩ = some (.int .i64 yl.w.u1) := one_at D4.out
    have xD45 : w50.cell? ⟨w38.heap.size, 5, none⟩ = some (.int .i64 yl.w.u2) := one_at D4.out
    have xD46 : w50.cell? ⟨w38.heap.size, 6, none⟩ = some (.int .i64 yl.w.price) := one_at D4.out
    have xD47 : w50.cell? ⟨w38.heap.size, 7, none⟩ = some (.int .i64 yl.ph) := one_at D4.out
    have xD48 : w50.cell? ⟨w38.heap.size, 8, none⟩ = some (.int .i64 yl.st) := one_at D4.out
    have xD49 : w50.cell? ⟨w38.heap.size, 9, none⟩ = some (.int .i64 yl.rs) := one_at D4.out
    have xD410 : w50.cell? ⟨w38.heap.size, 10, none⟩ = some (.int .i64 yl.si) := one_at D4.out
    have lD4 : w38.heap.size < w50.heap.size := lt_some D4.out
    have xD50 : w50.cell? ⟨w42.heap.size, 0, none⟩ = some (.int .i64 yz.w.book) := one_at D5.out
    have xD51 : w50.cell? ⟨w42.heap.size, 1, none⟩ = some (.int .i64 yz.w.cust) := one_at D5.out
    have xD52 : w50.cell? ⟨w42.heap.size, 2, none⟩ = some (.int .i64 yz.w.dead) := one_at D5.out
    have xD53 : w50.cell? ⟨w42.heap.size, 3, none⟩ = some (.int .i64 yz.w.u0) := one_at D5.out
    have xD54 : w50.cell? ⟨w42.heap.size, 4, none⟩ = some (.int .i64 yz.w.u1) := one_at D5.out
    have xD55 : w50.cell? ⟨w42.heap.size, 5, none⟩ = some (.int .i64 yz.w.u2) := one_at D5.out
    have xD56 : w50.cell? ⟨w42.heap.size, 6, none⟩ = some (.int .i64 yz.w.price) := one_at D5.out
    have xD57 : w50.cell? ⟨w42.heap.size, 7, none⟩ = some (.int .i64 yz.ph) := one_at D5.out
    have xD58 : w50.cell? ⟨w42.heap.size, 8, none⟩ = some (.int .i64 yz.st) := one_at D5.out
    have xD59 : w50.cell? ⟨w42.heap.size, 9, none⟩ = some (.int .i64 yz.rs) := one_at D5.out
    have xD510 : w50.cell? ⟨w42.heap.size, 10, none⟩ = some (.int .i64 yz.si) := one_at D5.out
    have lD5 : w42.heap.size < w50.heap.size := lt_some D5.out
    have xD60 : w50.cell? ⟨w46.heap.size, 0, none⟩ = some (.int .i64 yz.w.book) := one_at D6.out
    have xD61 : w50.cell? ⟨w46.heap.size, 1, none⟩ = some (.int .i64 yz.w.cust) := one_at D6.out
    have xD62 : w50.cell? ⟨w46.heap.size, 2, none⟩ = some (.int .i64 yz.w.dead) := one_at D6.out
    have xD63 : w50.cell? ⟨w46.heap.size, 3, none⟩ = some (.int .i64 yz.w.u0) := one_at D6.out
    have xD64 : w50.cell? ⟨w46.heap.size, 4, none⟩ = some (.int .i64 yz.w.u1) := one_at D6.out
    have xD65 : w50.cell? ⟨w46.heap.size, 5, none⟩ = some (.int .i64 yz.w.u2) := one_at D6.out
    have xD66 : w50.cell? ⟨w46.heap.size, 6, none⟩ = some (.int .i64 yz.w.price) := one_at D6.out
    have xD67 : w50.cell? ⟨w46.heap.size, 7, none⟩ = some (.int .i64 yz.ph) := one_at D6.out
    have xD68 : w50.cell? ⟨w46.heap.size, 8, none⟩ = some (.int .i64 yz.st) := one_at D6.out
    have xD69 : w50.cell? ⟨w46.heap.size, 9, none⟩ = some (.int .i64 yz.rs) := one_at D6.out
    have xD610 : w50.cell? ⟨w46.heap.size, 10, none⟩ = some (.int .i64 yz.si) := one_at D6.out
    have lD6 : w46.heap.size < w50.heap.size := lt_some D6.out
    go_wp2_with fail
    go_ret
    exact ⟨rfl, b51.out⟩
end Go.Proofs.YtakicogelkdofaaDoor.sagaAsks
