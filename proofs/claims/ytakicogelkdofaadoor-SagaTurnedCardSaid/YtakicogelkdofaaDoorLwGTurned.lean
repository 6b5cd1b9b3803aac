/- What may not be asks nothing and tells nothing (SagaTurned). -/
import Derived.Test.YtakicogelkdofaaDoorSgT
namespace Go.Proofs.YtakicogelkdofaaDoor.sagaTurned
set_option maxRecDepth 100000
open Go.RowKit
open Go.Proofs.YtakicogelkdofaaDoor.Pk (one_at one_free one_set lt_some)
open Go.Proofs.YtakicogelkdofaaDoor.Sg
open Go.Proofs.YtakicogelkdofaaDoor.Wt (Wan may Opn mayOp)
open Go.Proofs.YtakicogelkdofaaDoor.Pl (Stp fwd bck cap z0 wanv spv)

theorem scan_no {s : Sag} (h : smay s = false) : scan s = (s, false) := by unfold scan; rw [if_neg (by rw [h]; simp)]
theorem slate_no {s : Sag} {now : Int} (h : smay s = false) : slate s now = (s, false) := by unfold slate; rw [if_neg (by rw [h]; simp)]
theorem sans_no {s : Sag} {a : Stp} {n : Int} (h : smay s = false) : sans s a n = (s, false) := by unfold sans; rw [snext_no h, if_neg (by simp)]
theorem sover_no {s : Sag} (h : smay s = false) : sover s = false := by unfold sover; rw [h]; rfl
theorem stells_no {s : Sag} (h : smay s = false) : stells s = 0 := by unfold stells; rw [if_neg (by rw [h]; simp)]
set_option maxHeartbeats 12800000 in
theorem walk (P : Prg) (w : World) (ht : Tab w) (s : Sag) (a : Stp) (n now : Int) : Calls Tryd.prog 9 #[sgv s, spv a, .int .i64 n, .int .i64 now] w fun e w' => e = .returned (.bool true) ∧ Below w.heap.size w w' := by
  have TD := con ht fun w' t => told_any P w' t
  have N1 := con ht fun w' t => P.may w' t s
  have N2 := con ht fun w' t => P.next w' t s
  have N3 := con ht fun w' t => P.ans w' t s a n
  have N4 := con ht fun w' t => P.can w' t s
  have N5 := con ht fun w' t => P.late w' t s now
  have N6 := con ht fun w' t => P.putN w' t s
  have N7 := con ht fun w' t => P.over w' t s
  have N8 := con ht fun w' t => P.tells w' t s
  have E1 := fun w => eq_sag w s s
  rw [decide_eq_true rfl] at E1
  obtain ⟨W0, hW0⟩ : ∃ W0, W0 = (w.alloc (.cells #[.int .i64 s.w.book, .int .i64 s.w.cust, .int .i64 s.w.dead, .int .i64 s.w.u0, .int .i64 s.w.u1, .int .i64 s.w.u2, .int .i64 s.w.price, .int .i64 s.ph, .int .i64 s.st, .int .i64 s.rs, .int .i64 s.si] 26)).alloc (.cells #[.int .i64 a.node, .int .i64 a.op.kind, .int .i64 a.op.book, .int .i64 a.op.units, .int .i64 a.op.cust, .int .i64 a.op.amount] 30) := ⟨_, rfl⟩
  have BS : Hid (W0.heap[w.heap.size]? = some (.cells #[.int .i64 s.w.book, .int .i64 s.w.cust, .int .i64 s.w.dead, .int .i64 s.w.u0, .int .i64 s.w.u1, .int .i64 s.w.u2, .int .i64 s.w.price, .int .i64 s.ph, .int .i64 s.st, .int .i64 s.rs, .int .i64 s.si] 26 (0, 0))) := by rw [hW0]; exact heap_alloc2_old _ _ _
  have BA : Hid (W0.heap[w.heap.size + 1]? = some (.cells #[.int .i64 a.node, .int .i64 a.op.kind, .int .i64 a.op.book, .int .i64 a.op.units, .int .i64 a.op.cust, .int .i64 a.op.amount] 30 (0, 0))) := by
    have := heap_alloc_new (w.alloc (.cells #[.int .i64 s.w.book, .int .i64 s.w.cust, .int .i64 s.w.dead, .int .i64 s.w.u0, .int .i64 s.w.u1, .int .i64 s.w.u2, .int .i64 s.w.price, .int .i64 s.ph, .int .i64 s.st, .int .i64 s.rs, .int .i64 s.si] 26)) (.cells #[.int .i64 a.node, .int .i64 a.op.kind, .int .i64 a.op.book, .int .i64 a.op.units, .int .i64 a.op.cust, .int .i64 a.op.amount] 30)
    rw [show (w.alloc (.cells #[.int .i64 s.w.book, .int .i64 s.w.cust, .int .i64 s.w.dead, .int .i64 s.w.u0, .int .i64 s.w.u1, .int .i64 s.w.u2, .int .i64 s.w.price, .int .i64 s.ph, .int .i64 s.st, .int .i64 s.rs, .int .i64 s.si] 26)).heap.size = w.heap.size + 1 by simp] at this
    rw [hW0]
    exact this
  have b0 : Hid (Below w.heap.size w W0) := by rw [hW0]; exact ((Below.refl _ w).alloc (Nat.le_refl _) _).alloc (by simp) _
  replace hW0 := Lib.hid hW0
  cases hm : smay s with
  | true =>
    rw [hm] at N1
    unfold sgv sgc at *
    unfold spv at *
    replace N1 := Lib.hid N1
    replace TD := Lib.hid TD
    clear N2 N3 N4 N5 N6 N7 N8 E1 hm
    go_enter Tryd.func9, Tryd.ntmps9
    go_wp2_with fail
    rw [← hW0.out]
    refine (N1.out _ (by assumption)).mono ?_
    rintro e w1 ⟨rfl, h⟩
    have b1 : Hid (Below w.heap.size w w1) := b0.out.trans (h.mono b0.out.size)
    clear h hW0 BS BA b0 N1
    go_wp2_with fail
    refine (TD.out _ (by assumption)).mono ?_
    rintro e w2 ⟨rfl, h⟩
    have b2 : Hid (Below w.heap.size w w2) := b1.out.trans (h.mono b1.out.size)
    clear h b1 TD
    go_wp2_with fail
    go_ret
    exact ⟨rfl, b2.out⟩
  | false =>
    rw [hm] at N1
    rw [snext_no hm] at N2
    rw [sans_no hm] at N3
    rw [scan_no hm] at N4
    rw [slate_no hm] at N5
    replace N6 := fun (w' : World) (b : Hid (Below w.heap.size w w')) => N6 w' b hm
    rw [sover_no hm] at N7
    rw [stells_no hm] at N8
    unfold z0 at N2
    unfold sgv sgc at *
    unfold spv at *
    simp only at *
    clear hm
    replace N1 := Lib.hid N1
    replace N2 := Lib.hid N2
    replace N3 := Lib.hid N3
    replace N4 := Lib.hid N4
    replace N5 := Lib.hid N5
    replace N6 := Lib.hid N6
    replace N7 := Lib.hid N7
    replace N8 := Lib.hid N8
    replace TD := Lib.hid TD
    replace E1 := Lib.hid E1
    go_enter Tryd.func9, Tryd.ntmps9
    go_wp2_with fail
    rw [← hW0.out]
    refine (N1.out _ (by assumption)).mono ?_
    rintro e w1 ⟨rfl, h⟩
    replace BS := Lib.hid ((h.block _ (lt_some BS.out)).trans BS.out)
    replace BA := Lib.hid ((h.block _ (lt_some BA.out)).trans BA.out)
    have b2 : Hid (Below w.heap.size w w1) := b0.out.trans (h.mono b0.out.size)
    clear h
    have xBS0 : w1.cell? ⟨w.heap.size, 0, none⟩ = some (.int .i64 s.w.book) := one_at BS.out
    have xBS1 : w1.cell? ⟨w.heap.size, 1, none⟩ = some (.int .i64 s.w.cust) := one_at BS.out
    have xBS2 : w1.cell? ⟨w.heap.size, 2, none⟩ = some (.int .i64 s.w.dead) := one_at BS.out
    have xBS3 : w1.cell? ⟨w.heap.size, 3, none⟩ = some (.int .i64 s.w.u0) := one_at BS.out
    have xBS4 : w1.cell? ⟨w.heap.size, 4, none⟩ = some (.int .i64 s.w.u1) := one_at BS.out
    have xBS5 : w1.cell? ⟨w.heap.size, 5, none⟩ = some (.int .i64 s.w.u2) := one_at BS.out
    have xBS6 : w1.cell? ⟨w.heap.size, 6, none⟩ = some (.int .i64 s.w.price) := one_at BS.out
    have xBS7 : w1.cell? ⟨w.heap.size, 7, none⟩ = some (.int .i64 s.ph) := one_at BS.out
    have xBS8 : w1.cell? ⟨w.heap.size, 8, none⟩ = some (.int .i64 s.st) := one_at BS.out
    have xBS9 : w1.cell? ⟨w.heap.size, 9, none⟩ = some (.int .i64 s.rs) := one_at BS.out
    have xBS10 : w1.cell? ⟨w.heap.size, 10, none⟩ = some (.int .i64 s.si) := one_at BS.out
    have lBS : w.heap.size < w1.heap.size := lt_some BS.out
    go_wp2_with fail
    refine (N2.out _ (by assumption)).mono ?_
    rintro e w3 ⟨rfl, h⟩
    clear xBS0 xBS1 xBS2 xBS3 xBS4 xBS5 xBS6 xBS7 xBS8 xBS9 xBS10 lBS
    replace BS := Lib.hid ((h.block _ (lt_some BS.out)).trans BS.out)
    replace BA := Lib.hid ((h.block _ (lt_some BA.out)).trans BA.out)
    have b4 : Hid (Below w.heap.size w w3) := b2.out.trans (h.mono b2.out.size)
    clear h
    go_upto_region 4 with fail
    obtain ⟨Wz, hW⟩ : ∃ x, x = w3.alloc (.cells #[.int .i64 0, .int .i64 0, .int .i64 0, .int .i64 0, .int .i64 0, .int .i64 0] 30) := ⟨_, rfl⟩
    rw [← hW]
    have h : Below w3.heap.size w3 Wz := by rw [hW]; exact (Below.refl _ _).alloc (Nat.le_refl _) _
    clear hW
    replace BS := Lib.hid ((h.block _ (lt_some BS.out)).trans BS.out)
    replace BA := Lib.hid ((h.block _ (lt_some BA.out)).trans BA.out)
    have b5 : Hid (Below w.heap.size w Wz) := b4.out.trans (h.mono b4.out.size)
    clear h
    have xBS0 : Wz.cell? ⟨w.heap.size, 0, none⟩ = some (.int .i64 s.w.book) := one_at BS.out
    have xBS1 : Wz.cell? ⟨w.heap.size, 1, none⟩ = some (.int .i64 s.w.cust) := one_at BS.out
    have xBS2 : Wz.cell? ⟨w.heap.size, 2, none⟩ = some (.int .i64 s.w.dead) := one_at BS.out
    have xBS3 : Wz.cell? ⟨w.heap.size, 3, none⟩ = some (.int .i64 s.w.u0) := one_at BS.out
    have xBS4 : Wz.cell? ⟨w.heap.size, 4, none⟩ = some (.int .i64 s.w.u1) := one_at BS.out
    have xBS5 : Wz.cell? ⟨w.heap.size, 5, none⟩ = some (.int .i64 s.w.u2) := one_at BS.out
    have xBS6 : Wz.cell? ⟨w.heap.size, 6, none⟩ = some (.int .i64 s.w.price) := one_at BS.out
    have xBS7 : Wz.cell? ⟨w.heap.size, 7, none⟩ = some (.int .i64 s.ph) := one_at BS.out
    have xBS8 : Wz.cell? ⟨w.heap.size, 8, none⟩ = some (.int .i64 s.st) := one_at BS.out
    have xBS9 : Wz.cell? ⟨w.heap.size, 9, none⟩ = some (.int .i64 s.rs) := one_at BS.out
    have xBS10 : Wz.cell? ⟨w.heap.size, 10, none⟩ = some (.int .i64 s.si) := one_at BS.out
    have lBS : w.heap.size < Wz.heap.size := lt_some BS.out
    have xBA0 : Wz.cell? ⟨w.heap.size + 1, 0, none⟩ = some (.int .i64 a.node) := one_at BA.out
    have xBA1 : Wz.cell? ⟨w.heap.size + 1, 1, none⟩ = some (.int .i64 a.op.kind) := one_at BA.out
    have xBA2 : Wz.cell? ⟨w.heap.size + 1, 2, none⟩ = some (.int .i64 a.op.book) := one_at BA.out
    have xBA3 : Wz.cell? ⟨w.heap.size + 1, 3, none⟩ = some (.int .i64 a.op.units) := one_at BA.out
    have xBA4 : Wz.cell? ⟨w.heap.size + 1, 4, none⟩ = some (.int .i64 a.op.cust) := one_at BA.out
    have xBA5 : Wz.cell? ⟨w.heap.size + 1, 5, none⟩ = some (.int .i64 a.op.amount) := one_at BA.out
    have lBA : w.heap.size + 1 < Wz.heap.size := lt_some BA.out
    go_wp2_with fail
    refine (N3.out _ (by assumption)).mono ?_
    rintro e w6 ⟨rfl, h⟩
    clear xBS0 xBS1 xBS2 xBS3 xBS4 xBS5 xBS6 xBS7 xBS8 xBS9 xBS10 lBS xBA0 xBA1 xBA2 xBA3 xBA4 xBA5 lBA
    replace BS := Lib.hid ((h.block _ (lt_some BS.out)).trans BS.out)
    replace BA := Lib.hid ((h.block _ (lt_some BA.out)).trans BA.out)
    have b7 : Hid (Below w.heap.size w w6) := b5.out.trans (h.mono b5.out.size)
    clear h
    go_upto_region 5 with fail
    obtain ⟨W8, hW⟩ : ∃ x, x = w6.alloc (.cells #[.int .i64 s.w.book, .int .i64 s.w.cust, .int .i64 s.w.dead, .int .i64 s.w.u0, .int .i64 s.w.u1, .int .i64 s.w.u2, .int .i64 s.w.price, .int .i64 s.ph, .int .i64 s.st, .int .i64 s.rs, .int .i64 s.si] 26) := ⟨_, rfl⟩
    rw [← hW]
    have h : Below w6.heap.size w6 W8 := by rw [hW]; exact (Below.refl _ _).alloc (Nat.le_refl _) _
    have BX : Hid (W8.heap[w6.heap.size]? = some (.cells #[.int .i64 s.w.book, .int .i64 s.w.cust, .int .i64 s.w.dead, .int .i64 s.w.u0, .int .i64 s.w.u1, .int .i64 s.w.u2, .int .i64 s.w.price, .int .i64 s.ph, .int .i64 s.st, .int .i64 s.rs, .int .i64 s.si] 26 (0, 0))) := by rw [hW]; exact heap_alloc_new _ _
    clear hW
    replace BS := Lib.hid ((h.block _ (lt_some BS.out)).trans BS.out)
    replace BA := Lib.hid ((h.block _ (lt_some BA.out)).trans BA.out)
    have b9 : Hid (Below w.heap.size w W8) := b7.out.trans (h.mono b7.out.size)
    clear h
    have xBS0 : W8.cell? ⟨w.heap.size, 0, none⟩ = some (.int .i64 s.w.book) := one_at BS.out
    have xBS1 : W8.cell? ⟨w.heap.size, 1, none⟩ = some (.int .i64 s.w.cust) := one_at BS.out
    have xBS2 : W8.cell? ⟨w.heap.size, 2, none⟩ = some (.int .i64 s.w.dead) := one_at BS.out
    have xBS3 : W8.cell? ⟨w.heap.size, 3, none⟩ = some (.int .i64 s.w.u0) := one_at BS.out
    have xBS4 : W8.cell? ⟨w.heap.size, 4, none⟩ = some (.int .i64 s.w.u1) := one_at BS.out
    have xBS5 : W8.cell? ⟨w.heap.size, 5, none⟩ = some (.int .i64 s.w.u2) := one_at BS.out
    have xBS6 : W8.cell? ⟨w.heap.size, 6, none⟩ = some (.int .i64 s.w.price) := one_at BS.out
    have xBS7 : W8.cell? ⟨w.heap.size, 7, none⟩ = some (.int .i64 s.ph) := one_at BS.out
    have xBS8 : W8.cell? ⟨w.heap.size, 8, none⟩ = some (.int .i64 s.st) := one_at BS.out
    have xBS9 : W8.cell? ⟨w.heap.size, 9, none⟩ = some (.int .i64 s.rs) := one_at BS.out
    have xBS10 : W8.cell? ⟨w.heap.size, 10, none⟩ = some (.int .i64 s.si) := one_at BS.out
    have lBS : w.heap.size < W8.heap.size := lt_some BS.out
    go_wp2_with fail
    refine (N4.out _ (by assumption)).mono ?_
    rintro e w10 ⟨rfl, h⟩
    clear xBS0 xBS1 xBS2 xBS3 xBS4 xBS5 xBS6 xBS7 xBS8 xBS9 xBS10 lBS
    replace BS := Lib.hid ((h.block _ (lt_some BS.out)).trans BS.out)
    replace BA := Lib.hid ((h.block _ (lt_some BA.out)).trans BA.out)
    replace BX := Lib.hid ((h.block _ (lt_some BX.out)).trans BX.out)
    have b11 : Hid (Below w.heap.size w w10) := b9.out.trans (h.mono b9.out.size)
    clear h
    go_upto_region 6 with fail
    obtain ⟨W12, hW⟩ : ∃ x, x = w10.alloc (.cells #[.int .i64 s.w.book, .int .i64 s.w.cust, .int .i64 s.w.dead, .int .i64 s.w.u0, .int .i64 s.w.u1, .int .i64 s.w.u2, .int .i64 s.w.price, .int .i64 s.ph, .int .i64 s.st, .int .i64 s.rs, .int .i64 s.si] 26) := ⟨_, rfl⟩
    rw [← hW]
    have h : Below w10.heap.size w10 W12 := by rw [hW]; exact (Below.refl _ _).alloc (Nat.le_refl _) _
    have BY : Hid (W12.heap[w10.heap.size]? = some (.cells #[.int .i64 s.w.book, .int .i64 s.w.cust, .int .i64 s.w.dead, .int .i64 s.w.u0, .int .i64 s.w.u1, .int .i64 s.w.u2, .int .i64 s.w.price, .int .i64 s.ph, .int .i64 s.st, .int .i64 s.rs, .int .i64 s.si] 26 (0, 0))) := by rw [hW]; exact heap_alloc_new _ _
    clear hW
    replace BS := Lib.hid ((h.block _ (lt_some BS.out)).trans BS.out)
    replace BA := Lib.hid ((h.block _ (lt_some BA.out)).trans BA.out)
    replace BX := Lib.hid ((h.block _ (lt_some BX.out)).trans BX.out)
    have b13 : Hid (Below w.heap.size w W12) := b11.out.trans (h.mono b11.out.size)
    clear h
    have xBS0 : W12.cell? ⟨w.heap.size, 0, none⟩ = some (.int .i64 s.w.book) := one_at BS.out
    have xBS1 : W12.cell? ⟨w.heap.size, 1, none⟩ = some (.int .i64 s.w.cust) := one_at BS.out
    have xBS2 : W12.cell? ⟨w.heap.size, 2, none⟩ = some (.int .i64 s.w.dead) := one_at BS.out
    have xBS3 : W12.cell? ⟨w.heap.size, 3, none⟩ = some (.int .i64 s.w.u0) := one_at BS.out
    have xBS4 : W12.cell? ⟨w.heap.size, 4, none⟩ = some (.int .i64 s.w.u1) := one_at BS.out
    have xBS5 : W12.cell? ⟨w.heap.size, 5, none⟩ = some (.int .i64 s.w.u2) := one_at BS.out
    have xBS6 : W12.cell? ⟨w.heap.size, 6, none⟩ = some (.int .i64 s.w.price) := one_at BS.out
    have xBS7 : W12.cell? ⟨w.heap.size, 7, none⟩ = some (.int .i64 s.ph) := one_at BS.out
    have xBS8 : W12.cell? ⟨w.heap.size, 8, none⟩ = some (.int .i64 s.st) := one_at BS.out
    have xBS9 : W12.cell? ⟨w.heap.size, 9, none⟩ = some (.int .i64 s.rs) := one_at BS.out
    have xBS10 : W12.cell? ⟨w.heap.size, 10, none⟩ = some (.int .i64 s.si) := one_at BS.out
    have lBS : w.heap.size < W12.heap.size := lt_some BS.out
    go_wp2_with fail
    refine (N5.out _ (by assumption)).mono ?_
    rintro e w14 ⟨rfl, h⟩
    clear xBS0 xBS1 xBS2 xBS3 xBS4 xBS5 xBS6 xBS7 xBS8 xBS9 xBS10 lBS
    replace BS := Lib.hid ((h.block _ (lt_some BS.out)).trans BS.out)
    replace BA := Lib.hid ((h.block _ (lt_some BA.out)).trans BA.out)
    replace BX := Lib.hid ((h.block _ (lt_some BX.out)).trans BX.out)
    replace BY := Lib.hid ((h.block _ (lt_some BY.out)).trans BY.out)
    have b15 : Hid (Below w.heap.size w w14) := b13.out.trans (h.mono b13.out.size)
    clear h
    go_upto_region 7 with fail
    obtain ⟨W16, hW⟩ : ∃ x, x = w14.alloc (.cells #[.int .i64 s.w.book, .int .i64 s.w.cust, .int .i64 s.w.dead, .int .i64 s.w.u0, .int .i64 s.w.u1, .int .i64 s.w.u2, .int .i64 s.w.price, .int .i64 s.ph, .int .i64 s.st, .int .i64 s.rs, .int .i64 s.si] 26) := ⟨_, rfl⟩
    rw [← hW]
    have h : Below w14.heap.size w14 W16 := by rw [hW]; exact (Below.refl _ _).alloc (Nat.le_refl _) _
    have BZ : Hid (W16.heap[w14.heap.size]? = some (.cells #[.int .i64 s.w.book, .int .i64 s.w.cust, .int .i64 s.w.dead, .int .i64 s.w.u0, .int .i64 s.w.u1, .int .i64 s.w.u2, .int .i64 s.w.price, .int .i64 s.ph, .int .i64 s.st, .int .i64 s.rs, .int .i64 s.si] 26 (0, 0))) := by rw [hW]; exact heap_alloc_new _ _
    clear hW
    replace BS := Lib.hid ((h.block _ (lt_some BS.out)).trans BS.out)
    replace BA := Lib.hid ((h.block _ (lt_some BA.out)).trans BA.out)
    replace BX := Lib.hid ((h.block _ (lt_some BX.out)).trans BX.out)
    replace BY := Lib.hid ((h.block _ (lt_some BY.out)).trans BY.out)
    have b17 : Hid (Below w.heap.size w W16) := b15.out.trans (h.mono b15.out.size)
    clear h
    have xBS0 : W16.cell? ⟨w.heap.size, 0, none⟩ = some (.int .i64 s.w.book) := one_at BS.out
    have xBS1 : W16.cell? ⟨w.heap.size, 1, none⟩ = some (.int .i64 s.w.cust) := one_at BS.out
    have xBS2 : W16.cell? ⟨w.heap.size, 2, none⟩ = some (.int .i64 s.w.dead) := one_at BS.out
    have xBS3 : W16.cell? ⟨w.heap.size, 3, none⟩ = some (.int .i64 s.w.u0) := one_at BS.out
    have xBS4 : W16.cell? ⟨w.heap.size, 4, none⟩ = some (.int .i64 s.w.u1) := one_at BS.out
    have xBS5 : W16.cell? ⟨w.heap.size, 5, none⟩ = some (.int .i64 s.w.u2) := one_at BS.out
    have xBS6 : W16.cell? ⟨w.heap.size, 6, none⟩ = some (.int .i64 s.w.price) := one_at BS.out
    have xBS7 : W16.cell? ⟨w.heap.size, 7, none⟩ = some (.int .i64 s.ph) := one_at BS.out
    have xBS8 : W16.cell? ⟨w.heap.size, 8, none⟩ = some (.int .i64 s.st) := one_at BS.out
    have xBS9 : W16.cell? ⟨w.heap.size, 9, none⟩ = some (.int .i64 s.rs) := one_at BS.out
    have xBS10 : W16.cell? ⟨w.heap.size, 10, none⟩ = some (.int .i64 s.si) := one_at BS.out
    have lBS : w.heap.size < W16.heap.size := lt_some BS.out
    go_wp2_with fail
    refine (N6.out _ (by assumption)).mono ?_
    rintro e w18 ⟨⟨A, c, rfl⟩, h⟩
    clear xBS0 xBS1 xBS2 xBS3 xBS4 xBS5 xBS6 xBS7 xBS8 xBS9 xBS10 lBS
    replace BS := Lib.hid ((h.block _ (lt_some BS.out)).trans BS.out)
    replace BA := Lib.hid ((h.block _ (lt_some BA.out)).trans BA.out)
    replace BX := Lib.hid ((h.block _ (lt_some BX.out)).trans BX.out)
    replace BY := Lib.hid ((h.block _ (lt_some BY.out)).trans BY.out)
    replace BZ := Lib.hid ((h.block _ (lt_some BZ.out)).trans BZ.out)
    have b19 : Hid (Below w.heap.size w w18) := b17.out.trans (h.mono b17.out.size)
    clear h
    go_wp2_with fail
    refine (TD.out _ (by assumption)).mono ?_
    rintro e w20 ⟨rfl, h⟩
    replace BS := Lib.hid ((h.block _ (lt_some BS.out)).trans BS.out)
    replace BA := Lib.hid ((h.block _ (lt_some BA.out)).trans BA.out)
    replace BX := Lib.hid ((h.block _ (lt_some BX.out)).trans BX.out)
    replace BY := Lib.hid ((h.block _ (lt_some BY.out)).trans BY.out)
    replace BZ := Lib.hid ((h.block _ (lt_some BZ.out)).trans BZ.out)
    have b21 : Hid (Below w.heap.size w w20) := b19.out.trans (h.mono b19.out.size)
    clear h
    replace E1 := E1.out
    have xBS0 : w20.cell? ⟨w.heap.size, 0, none⟩ = some (.int .i64 s.w.book) := one_at BS.out
    have xBS1 : w20.cell? ⟨w.heap.size, 1, none⟩ = some (.int .i64 s.w.cust) := one_at BS.out
    have xBS2 : w20.cell? ⟨w.heap.size, 2, none⟩ = some (.int .i64 s.w.dead) := one_at BS.out
    have xBS3 : w20.cell? ⟨w.heap.size, 3, none⟩ = some (.int .i64 s.w.u0) := one_at BS.out
    have xBS4 : w20.cell? ⟨w.heap.size, 4, none⟩ = some (.int .i64 s.w.u1) := one_at BS.out
    have xBS5 : w20.cell? ⟨w.heap.size, 5, none⟩ = some (.int .i64 s.w.u2) := one_at BS.out
    have xBS6 : w20.cell? ⟨w.heap.size, 6, none⟩ = some (.int .i64 s.w.price) := one_at BS.out
    have xBS7 : w20.cell? ⟨w.heap.size, 7, none⟩ = some (.int .i64 s.ph) := one_at BS.out
    have xBS8 : w20.cell? ⟨w.heap.size, 8, none⟩ = some (.int .i64 s.st) := one_at BS.out
    have xBS9 : w20.cell? ⟨w.heap.size, 9, none⟩ = some (.int .i64 s.rs) := one_at BS.out
    have xBS10 : w20.cell? ⟨w.heap.size, 10, none⟩ = some (.int .i64 s.si) := one_at BS.out
    have lBS : w.heap.size < w20.heap.size := lt_some BS.out
    have xBX0 : w20.cell? ⟨w6.heap.size, 0, none⟩ = some (.int .i64 s.w.book) := one_at BX.out
    have xBX1 : w20.cell? ⟨w6.heap.size, 1, none⟩ = some (.int .i64 s.w.cust) := one_at BX.out
    have xBX2 : w20.cell? ⟨w6.heap.size, 2, none⟩ = some (.int .i64 s.w.dead) := one_at BX.out
    have xBX3 : w20.cell? ⟨w6.heap.size, 3, none⟩ = some (.int .i64 s.w.u0) := one_at BX.out
    have xBX4 : w20.cell? ⟨w6.heap.size, 4, none⟩ = some (.int .i64 s.w.u1) := one_at BX.out
    have xBX5 : w20.cell? ⟨w6.heap.size, 5, none⟩ = some (.int .i64 s.w.u2) := one_at BX.out
    have xBX6 : w20.cell? ⟨w6.heap.size, 6, none⟩ = some (.int .i64 s.w.price) := one_at BX.out
    have xBX7 : w20.cell? ⟨w6.heap.size, 7, none⟩ = some (.int .i64 s.ph) := one_at BX.out
    have xBX8 : w20.cell? ⟨w6.heap.size, 8, none⟩ = some (.int .i64 s.st) := one_at BX.out
    have xBX9 : w20.cell? ⟨w6.heap.size, 9, none⟩ = some (.int .i64 s.rs) := one_at BX.out
    have xBX10 : w20.cell? ⟨w6.heap.size, 10, none⟩ = some (.int .i64 s.si) := one_at BX.out
    have lBX : w6.heap.size < w20.heap.size := lt_some BX.out
    have xBY0 : w20.cell? ⟨w10.heap.size, 0, none⟩ = some (.int .i64 s.w.book) := one_at BY.out
    have xBY1 : w20.cell? ⟨w10.heap.size, 1, none⟩ = some (.int .i64 s.w.cust) := one_at BY.out
    have xBY2 : w20.cell? ⟨w10.heap.size, 2, none⟩ = some (.int .i64 s.w.dead) := one_at BY.out
    have xBY3 : w20.cell? ⟨w10.heap.size, 3, none⟩ = some (.int .i64 s.w.u0) := one_at BY.out
    have xBY4 : w20.cell? ⟨w10.heap.size, 4, none⟩ = some (.int .i64 s.w.u1) := one_at BY.out
    have xBY5 : w20.cell? ⟨w10.heap.size, 5, none⟩ = some (.int .i64 s.w.u2) := one_at BY.out
    have xBY6 : w20.cell? ⟨w10.heap.size, 6, none⟩ = some (.int .i64 s.w.price) := one_at BY.out
    have xBY7 : w20.cell? ⟨w10.heap.size, 7, none⟩ = some (.int .i64 s.ph) := one_at BY.out
    have xBY8 : w20.cell? ⟨w10.heap.size, 8, none⟩ = some (.int .i64 s.st) := one_at BY.out
    have xBY9 : w20.cell? ⟨w10.heap.size, 9, none⟩ = some (.int .i64 s.rs) := one_at BY.out
    have xBY10 : w20.cell? ⟨w10.heap.size, 10, none⟩ = some (.int .i64 s.si) := one_at BY.out
    have lBY : w10.heap.size < w20.heap.size := lt_some BY.out
    have xBZ0 : w20.cell? ⟨w14.heap.size, 0, none⟩ = some (.int .i64 s.w.book) := one_at BZ.out
    have xBZ1 : w20.cell? ⟨w14.heap.size, 1, none⟩ = some (.int .i64 s.w.cust) := one_at BZ.out
    have xBZ2 : w20.cell? ⟨w14.heap.size, 2, none⟩ = some (.int .i64 s.w.dead) := one_at BZ.out
    have xBZ3 : w20.cell? ⟨w14.heap.size, 3, none⟩ = some (.int .i64 s.w.u0) := one_at BZ.out
    have xBZ4 : w20.cell? ⟨w14.heap.size, 4, none⟩ = some (.int .i64 s.w.u1) := one_at BZ.out
    have xBZ5 : w20.cell? ⟨w14.heap.size, 5, none⟩ = some (.int .i64 s.w.u2) := one_at BZ.out
    have xBZ6 : w20.cell? ⟨w14.heap.size, 6, none⟩ = some (.int .i64 s.w.price) := one_at BZ.out
    have xBZ7 : w20.cell? ⟨w14.heap.size, 7, none⟩ = some (.int .i64 s.ph) := one_at BZ.out
    have xBZ8 : w20.cell? ⟨w14.heap.size, 8, none⟩ = some (.int .i64 s.st) := one_at BZ.out
    have xBZ9 : w20.cell? ⟨w14.heap.size, 9, none⟩ = some (.int .i64 s.rs) := one_at BZ.out
    have xBZ10 : w20.cell? ⟨w14.heap.size, 10, none⟩ = some (.int .i64 s.si) := one_at BZ.out
    have lBZ : w14.heap.size < w20.heap.size := lt_some BZ.out
    go_wp2_with fail
    refine (N7.out _ (by assumption)).mono ?_
    rintro e w22 ⟨rfl, h⟩
    clear xBS0 xBS1 xBS2 xBS3 xBS4 xBS5 xBS6 xBS7 xBS8 xBS9 xBS10 lBS xBX0 xBX1 xBX2 xBX3 xBX4 xBX5 xBX6 xBX7 xBX8 xBX9 xBX10 lBX xBY0 xBY1 xBY2 xBY3 xBY4 xBY5 xBY6 xBY7 xBY8 xBY9 xBY10 lBY xBZ0 xBZ1 xBZ2 xBZ3 xBZ4 xBZ5 xBZ6 xBZ7 xBZ8 xBZ9 xBZ10 lBZ
    replace BS := Lib.hid ((h.block _ (lt_some BS.out)).trans BS.out)
    replace BA := Lib.hid ((h.block _ (lt_some BA.out)).trans BA.out)
    replace BX := Lib.hid ((h.block _ (lt_some BX.out)).trans BX.out)
    replace BY := Lib.hid ((h.block _ (lt_some BY.out)).trans BY.out)
    replace BZ := Lib.hid ((h.block _ (lt_some BZ.out)).trans BZ.out)
    have b23 : Hid (Below w.heap.size w w22) := b21.out.trans (h.mono b21.out.size)
    clear h
    clear E1
    have xBS0 : w22.cell? ⟨w.heap.size, 0, none⟩ = some (.int .i64 s.w.book) := one_at BS.out
    have xBS1 : w22.cell? ⟨w.heap.size, 1, none⟩ = some (.int .i64 s.w.cust) := one_at BS.out
    have xBS2 : w22.cell? ⟨w.heap.size, 2, none⟩ = some (.int .i64 s.w.dead) := one_at BS.out
    have xBS3 : w22.cell? ⟨w.heap.size, 3, none⟩ = some (.int .i64 s.w.u0) := one_at BS.out
    have xBS4 : w22.cell? ⟨w.heap.size, 4, none⟩ = some (.int .i64 s.w.u1) := one_at BS.out
    have xBS5 : w22.cell? ⟨w.heap.size, 5, none⟩ = some (.int .i64 s.w.u2) := one_at BS.out
    have xBS6 : w22.cell? ⟨w.heap.size, 6, none⟩ = some (.int .i64 s.w.price) := one_at BS.out
    have xBS7 : w22.cell? ⟨w.heap.size, 7, none⟩ = some (.int .i64 s.ph) := one_at BS.out
    have xBS8 : w22.cell? ⟨w.heap.size, 8, none⟩ = some (.int .i64 s.st) := one_at BS.out
    have xBS9 : w22.cell? ⟨w.heap.size, 9, none⟩ = some (.int .i64 s.rs) := one_at BS.out
    have xBS10 : w22.cell? ⟨w.heap.size, 10, none⟩ = some (.int .i64 s.si) := one_at BS.out
    have lBS : w.heap.size < w22.heap.size := lt_some BS.out
    go_wp2_with fail
    refine (N8.out _ (by assumption)).mono ?_
    rintro e w24 ⟨rfl, h⟩
    clear xBS0 xBS1 xBS2 xBS3 xBS4 xBS5 xBS6 xBS7 xBS8 xBS9 xBS10 lBS
    replace BS := Lib.hid ((h.block _ (lt_some BS.out)).trans BS.out)
    replace BA := Lib.hid ((h.block _ (lt_some BA.out)).trans BA.out)
    replace BX := Lib.hid ((h.block _ (lt_some BX.out)).trans BX.out)
    replace BY := Lib.hid ((h.block _ (lt_some BY.out)).trans BY.out)
    replace BZ := Lib.hid ((h.block _ (lt_some BZ.out)).trans BZ.out)
    have b25 : Hid (Below w.heap.size w w24) := b23.out.trans (h.mono b23.out.size)
    clear h
    clear N1 N2 N3 N4 N5 N6 N7 N8 TD
    go_wp2_with fail
    go_ret
    exact ⟨rfl, b25.out⟩
end Go.Proofs.YtakicogelkdofaaDoor.sagaTurned
