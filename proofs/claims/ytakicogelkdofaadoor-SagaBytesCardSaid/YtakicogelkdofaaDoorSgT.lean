/- told: what the program tells of a few. -/
import Derived.Test.YtakicogelkdofaaDoorSgP
namespace Go.Proofs.YtakicogelkdofaaDoor
set_option maxRecDepth 100000
open Go.RowKit
open Go.Proofs.YtakicogelkdofaaDoor.Pk (one_at one_free one_set lt_some)
namespace Sg
open Wt (Wan may Opn mayOp)
open Pl (Stp fwd bck cap z0 wanv spv)

set_option maxHeartbeats 12800000 in
theorem told_any (P : Prg) (w : World) (ht : Tab w) : Calls Tryd.prog 26 #[] w fun e w' => e = .returned (.bool true) ∧ Below w.heap.size w w' := by
  have N1 := con ht fun w' t => P.new w' t tw 7
  have N2 := con ht fun w' t => P.next w' t t0
  have N3 := con ht fun w' t => P.ans w' t t0 ta 1
  have N4 := con ht fun w' t => P.ans w' t t1 ta 1
  have N5 := con ht fun w' t => P.late w' t t1 12
  have N6 := con ht fun w' t => P.can w' t t2
  have N7 := con ht fun w' t => P.new w' t wz 7
  have N8 := con ht fun w' t => P.tells w' t t2
  have N9 := con ht fun w' t => P.over w' t t2
  have NA := con ht fun w' t => P.may w' t t0
  rw [k_new] at N1
  rw [k_next] at N2
  rw [k_ans] at N3
  rw [k_ans2] at N4
  rw [k_late] at N5
  rw [k_can] at N6
  rw [k_newz] at N7
  rw [k_tells] at N8
  rw [k_over] at N9
  rw [k_may] at NA
  have q1 : t1.st = 1 := rfl
  have q2 : t2.ph = 3 := rfl
  have q3 : t2.rs = 3 := rfl
  have q4 : ta.op.kind = 1 := rfl
  have E1 := fun w => eq_sag w t1 t1
  have E2 := fun w => eq_sag w t2 t2
  rw [decide_eq_true rfl] at E1 E2
  unfold wanv tw at N1
  unfold wanv wz at N7
  simp only at N1 N2 N3 N4 N5 N6 N7 N8 N9 NA
  generalize t0 = s0 at *
  generalize t1 = s1 at *
  generalize t2 = s2 at *
  generalize ta = a at *
  generalize sz = sy at *
  unfold sgv sgc at *
  unfold spv at *
  clear ht
  replace N1 := Lib.hid N1
  replace N2 := Lib.hid N2
  replace N3 := Lib.hid N3
  replace N4 := Lib.hid N4
  replace N5 := Lib.hid N5
  replace N6 := Lib.hid N6
  replace N7 := Lib.hid N7
  replace N8 := Lib.hid N8
  replace N9 := Lib.hid N9
  replace NA := Lib.hid NA
  replace q1 := Lib.hid q1
  replace q2 := Lib.hid q2
  replace q3 := Lib.hid q3
  replace q4 := Lib.hid q4
  replace E1 := Lib.hid E1
  replace E2 := Lib.hid E2
  obtain ⟨W0, hW0⟩ : ∃ W0, W0 = w.alloc (.cells #[.int .i64 1, .int .i64 0, .int .i64 5, .int .i64 1, .int .i64 0, .int .i64 0, .int .i64 0] 24) := ⟨_, rfl⟩
  have b0 : Hid (Below w.heap.size w W0) := by rw [hW0]; exact (Below.refl _ w).alloc (Nat.le_refl _) _
  replace hW0 := Lib.hid hW0
  go_enter Tryd.func26, Tryd.ntmps26
  go_wp2_with fail
  rw [← hW0.out]
  refine (N1.out _ (by assumption)).mono ?_
  rintro e w1 ⟨rfl, h⟩
  have b2 : Hid (Below w.heap.size w w1) := b0.out.trans (h.mono b0.out.size)
  clear h
  go_upto_region 3 with fail
  obtain ⟨W3, hW⟩ : ∃ x, x = w1.alloc (.cells #[.int .i64 s0.w.book, .int .i64 s0.w.cust, .int .i64 s0.w.dead, .int .i64 s0.w.u0, .int .i64 s0.w.u1, .int .i64 s0.w.u2, .int .i64 s0.w.price, .int .i64 s0.ph, .int .i64 s0.st, .int .i64 s0.rs, .int .i64 s0.si] 26) := ⟨_, rfl⟩
  rw [← hW]
  have h : Below w1.heap.size w1 W3 := by rw [hW]; exact (Below.refl _ _).alloc (Nat.le_refl _) _
  have B2 : Hid (W3.heap[w1.heap.size]? = some (.cells #[.int .i64 s0.w.book, .int .i64 s0.w.cust, .int .i64 s0.w.dead, .int .i64 s0.w.u0, .int .i64 s0.w.u1, .int .i64 s0.w.u2, .int .i64 s0.w.price, .int .i64 s0.ph, .int .i64 s0.st, .int .i64 s0.rs, .int .i64 s0.si] 26 (0, 0))) := by rw [hW]; exact heap_alloc_new _ _
  clear hW
  have b4 : Hid (Below w.heap.size w W3) := b2.out.trans (h.mono b2.out.size)
  clear h
  have xB20 : W3.cell? ⟨w1.heap.size, 0, none⟩ = some (.int .i64 s0.w.book) := one_at B2.out
  have xB21 : W3.cell? ⟨w1.heap.size, 1, none⟩ = some (.int .i64 s0.w.cust) := one_at B2.out
  have xB22 : W3.cell? ⟨w1.heap.size, 2, none⟩ = some (.int .i64 s0.w.dead) := one_at B2.out
  have xB23 : W3.cell? ⟨w1.heap.size, 3, none⟩ = some (.int .i64 s0.w.u0) := one_at B2.out
  have xB24 : W3.cell? ⟨w1.heap.size, 4, none⟩ = some (.int .i64 s0.w.u1) := one_at B2.out
  have xB25 : W3.cell? ⟨w1.heap.size, 5, none⟩ = some (.int .i64 s0.w.u2) := one_at B2.out
  have xB26 : W3.cell? ⟨w1.heap.size, 6, none⟩ = some (.int .i64 s0.w.price) := one_at B2.out
  have xB27 : W3.cell? ⟨w1.heap.size, 7, none⟩ = some (.int .i64 s0.ph) := one_at B2.out
  have xB28 : W3.cell? ⟨w1.heap.size, 8, none⟩ = some (.int .i64 s0.st) := one_at B2.out
  have xB29 : W3.cell? ⟨w1.heap.size, 9, none⟩ = some (.int .i64 s0.rs) := one_at B2.out
  have xB210 : W3.cell? ⟨w1.heap.size, 10, none⟩ = some (.int .i64 s0.si) := one_at B2.out
  have lB2 : w1.heap.size < W3.heap.size := lt_some B2.out
  go_wp2_with fail
  refine (N2.out _ (by assumption)).mono ?_
  rintro e w5 ⟨rfl, h⟩
  clear xB20 xB21 xB22 xB23 xB24 xB25 xB26 xB27 xB28 xB29 xB210 lB2
  replace B2 := Lib.hid ((h.block _ (lt_some B2.out)).trans B2.out)
  have b6 : Hid (Below w.heap.size w w5) := b4.out.trans (h.mono b4.out.size)
  clear h
  go_upto_region 4 with fail
  obtain ⟨W7, hW⟩ : ∃ x, x = w5.alloc (.cells #[.int .i64 a.node, .int .i64 a.op.kind, .int .i64 a.op.book, .int .i64 a.op.units, .int .i64 a.op.cust, .int .i64 a.op.amount] 30) := ⟨_, rfl⟩
  rw [← hW]
  have h : Below w5.heap.size w5 W7 := by rw [hW]; exact (Below.refl _ _).alloc (Nat.le_refl _) _
  have B4 : Hid (W7.heap[w5.heap.size]? = some (.cells #[.int .i64 a.node, .int .i64 a.op.kind, .int .i64 a.op.book, .int .i64 a.op.units, .int .i64 a.op.cust, .int .i64 a.op.amount] 30 (0, 0))) := by rw [hW]; exact heap_alloc_new _ _
  clear hW
  replace B2 := Lib.hid ((h.block _ (lt_some B2.out)).trans B2.out)
  have b8 : Hid (Below w.heap.size w W7) := b6.out.trans (h.mono b6.out.size)
  clear h
  have xB20 : W7.cell? ⟨w1.heap.size, 0, none⟩ = some (.int .i64 s0.w.book) := one_at B2.out
  have xB21 : W7.cell? ⟨w1.heap.size, 1, none⟩ = some (.int .i64 s0.w.cust) := one_at B2.out
  have xB22 : W7.cell? ⟨w1.heap.size, 2, none⟩ = some (.int .i64 s0.w.dead) := one_at B2.out
  have xB23 : W7.cell? ⟨w1.heap.size, 3, none⟩ = some (.int .i64 s0.w.u0) := one_at B2.out
  have xB24 : W7.cell? ⟨w1.heap.size, 4, none⟩ = some (.int .i64 s0.w.u1) := one_at B2.out
  have xB25 : W7.cell? ⟨w1.heap.size, 5, none⟩ = some (.int .i64 s0.w.u2) := one_at B2.out
  have xB26 : W7.cell? ⟨w1.heap.size, 6, none⟩ = some (.int .i64 s0.w.price) := one_at B2.out
  have xB27 : W7.cell? ⟨w1.heap.size, 7, none⟩ = some (.int .i64 s0.ph) := one_at B2.out
  have xB28 : W7.cell? ⟨w1.heap.size, 8, none⟩ = some (.int .i64 s0.st) := one_at B2.out
  have xB29 : W7.cell? ⟨w1.heap.size, 9, none⟩ = some (.int .i64 s0.rs) := one_at B2.out
  have xB210 : W7.cell? ⟨w1.heap.size, 10, none⟩ = some (.int .i64 s0.si) := one_at B2.out
  have lB2 : w1.heap.size < W7.heap.size := lt_some B2.out
  have xB40 : W7.cell? ⟨w5.heap.size, 0, none⟩ = some (.int .i64 a.node) := one_at B4.out
  have xB41 : W7.cell? ⟨w5.heap.size, 1, none⟩ = some (.int .i64 a.op.kind) := one_at B4.out
  have xB42 : W7.cell? ⟨w5.heap.size, 2, none⟩ = some (.int .i64 a.op.book) := one_at B4.out
  have xB43 : W7.cell? ⟨w5.heap.size, 3, none⟩ = some (.int .i64 a.op.units) := one_at B4.out
  have xB44 : W7.cell? ⟨w5.heap.size, 4, none⟩ = some (.int .i64 a.op.cust) := one_at B4.out
  have xB45 : W7.cell? ⟨w5.heap.size, 5, none⟩ = some (.int .i64 a.op.amount) := one_at B4.out
  have lB4 : w5.heap.size < W7.heap.size := lt_some B4.out
  go_wp2_with fail
  refine (N3.out _ (by assumption)).mono ?_
  rintro e w9 ⟨rfl, h⟩
  clear xB20 xB21 xB22 xB23 xB24 xB25 xB26 xB27 xB28 xB29 xB210 lB2 xB40 xB41 xB42 xB43 xB44 xB45 lB4
  replace B2 := Lib.hid ((h.block _ (lt_some B2.out)).trans B2.out)
  replace B4 := Lib.hid ((h.block _ (lt_some B4.out)).trans B4.out)
  have b10 : Hid (Below w.heap.size w w9) := b8.out.trans (h.mono b8.out.size)
  clear h
  go_upto_region 5 with fail
  obtain ⟨W11, hW⟩ : ∃ x, x = w9.alloc (.cells #[.int .i64 s1.w.book, .int .i64 s1.w.cust, .int .i64 s1.w.dead, .int .i64 s1.w.u0, .int .i64 s1.w.u1, .int .i64 s1.w.u2, .int .i64 s1.w.price, .int .i64 s1.ph, .int .i64 s1.st, .int .i64 s1.rs, .int .i64 s1.si] 26) := ⟨_, rfl⟩
  rw [← hW]
  have h : Below w9.heap.size w9 W11 := by rw [hW]; exact (Below.refl _ _).alloc (Nat.le_refl _) _
  have B6 : Hid (W11.heap[w9.heap.size]? = some (.cells #[.int .i64 s1.w.book, .int .i64 s1.w.cust, .int .i64 s1.w.dead, .int .i64 s1.w.u0, .int .i64 s1.w.u1, .int .i64 s1.w.u2, .int .i64 s1.w.price, .int .i64 s1.ph, .int .i64 s1.st, .int .i64 s1.rs, .int .i64 s1.si] 26 (0, 0))) := by rw [hW]; exact heap_alloc_new _ _
  clear hW
  replace B2 := Lib.hid ((h.block _ (lt_some B2.out)).trans B2.out)
  replace B4 := Lib.hid ((h.block _ (lt_some B4.out)).trans B4.out)
  have b12 : Hid (Below w.heap.size w W11) := b10.out.trans (h.mono b10.out.size)
  clear h
  have xB40 : W11.cell? ⟨w5.heap.size, 0, none⟩ = some (.int .i64 a.node) := one_at B4.out
  have xB41 : W11.cell? ⟨w5.heap.size, 1, none⟩ = some (.int .i64 a.op.kind) := one_at B4.out
  have xB42 : W11.cell? ⟨w5.heap.size, 2, none⟩ = some (.int .i64 a.op.book) := one_at B4.out
  have xB43 : W11.cell? ⟨w5.heap.size, 3, none⟩ = some (.int .i64 a.op.units) := one_at B4.out
  have xB44 : W11.cell? ⟨w5.heap.size, 4, none⟩ = some (.int .i64 a.op.cust) := one_at B4.out
  have xB45 : W11.cell? ⟨w5.heap.size, 5, none⟩ = some (.int .i64 a.op.amount) := one_at B4.out
  have lB4 : w5.heap.size < W11.heap.size := lt_some B4.out
  have xB60 : W11.cell? ⟨w9.heap.size, 0, none⟩ = some (.int .i64 s1.w.book) := one_at B6.out
  have xB61 : W11.cell? ⟨w9.heap.size, 1, none⟩ = some (.int .i64 s1.w.cust) := one_at B6.out
  have xB62 : W11.cell? ⟨w9.heap.size, 2, none⟩ = some (.int .i64 s1.w.dead) := one_at B6.out
  have xB63 : W11.cell? ⟨w9.heap.size, 3, none⟩ = some (.int .i64 s1.w.u0) := one_at B6.out
  have xB64 : W11.cell? ⟨w9.heap.size, 4, none⟩ = some (.int .i64 s1.w.u1) := one_at B6.out
  have xB65 : W11.cell? ⟨w9.heap.size, 5, none⟩ = some (.int .i64 s1.w.u2) := one_at B6.out
  have xB66 : W11.cell? ⟨w9.heap.size, 6, none⟩ = some (.int .i64 s1.w.price) := one_at B6.out
  have xB67 : W11.cell? ⟨w9.heap.size, 7, none⟩ = some (.int .i64 s1.ph) := one_at B6.out
  have xB68 : W11.cell? ⟨w9.heap.size, 8, none⟩ = some (.int .i64 s1.st) := one_at B6.out
  have xB69 : W11.cell? ⟨w9.heap.size, 9, none⟩ = some (.int .i64 s1.rs) := one_at B6.out
  have xB610 : W11.cell? ⟨w9.heap.size, 10, none⟩ = some (.int .i64 s1.si) := one_at B6.out
  have lB6 : w9.heap.size < W11.heap.size := lt_some B6.out
  go_wp2_with fail
  refine (N4.out _ (by assumption)).mono ?_
  rintro e w13 ⟨rfl, h⟩
  clear xB40 xB41 xB42 xB43 xB44 xB45 lB4 xB60 xB61 xB62 xB63 xB64 xB65 xB66 xB67 xB68 xB69 xB610 lB6
  replace B2 := Lib.hid ((h.block _ (lt_some B2.out)).trans B2.out)
  replace B4 := Lib.hid ((h.block _ (lt_some B4.out)).trans B4.out)
  replace B6 := Lib.hid ((h.block _ (lt_some B6.out)).trans B6.out)
  have b14 : Hid (Below w.heap.size w w13) := b12.out.trans (h.mono b12.out.size)
  clear h
  go_upto_region 6 with fail
  obtain ⟨W15, hW⟩ : ∃ x, x = w13.alloc (.cells #[.int .i64 s1.w.book, .int .i64 s1.w.cust, .int .i64 s1.w.dead, .int .i64 s1.w.u0, .int .i64 s1.w.u1, .int .i64 s1.w.u2, .int .i64 s1.w.price, .int .i64 s1.ph, .int .i64 s1.st, .int .i64 s1.rs, .int .i64 s1.si] 26) := ⟨_, rfl⟩
  rw [← hW]
  have h : Below w13.heap.size w13 W15 := by rw [hW]; exact (Below.refl _ _).alloc (Nat.le_refl _) _
  have B8 : Hid (W15.heap[w13.heap.size]? = some (.cells #[.int .i64 s1.w.book, .int .i64 s1.w.cust, .int .i64 s1.w.dead, .int .i64 s1.w.u0, .int .i64 s1.w.u1, .int .i64 s1.w.u2, .int .i64 s1.w.price, .int .i64 s1.ph, .int .i64 s1.st, .int .i64 s1.rs, .int .i64 s1.si] 26 (0, 0))) := by rw [hW]; exact heap_alloc_new _ _
  clear hW
  replace B2 := Lib.hid ((h.block _ (lt_some B2.out)).trans B2.out)
  replace B4 := Lib.hid ((h.block _ (lt_some B4.out)).trans B4.out)
  replace B6 := Lib.hid ((h.block _ (lt_some B6.out)).trans B6.out)
  have b16 : Hid (Below w.heap.size w W15) := b14.out.trans (h.mono b14.out.size)
  clear h
  have xB60 : W15.cell? ⟨w9.heap.size, 0, none⟩ = some (.int .i64 s1.w.book) := one_at B6.out
  have xB61 : W15.cell? ⟨w9.heap.size, 1, none⟩ = some (.int .i64 s1.w.cust) := one_at B6.out
  have xB62 : W15.cell? ⟨w9.heap.size, 2, none⟩ = some (.int .i64 s1.w.dead) := one_at B6.out
  have xB63 : W15.cell? ⟨w9.heap.size, 3, none⟩ = some (.int .i64 s1.w.u0) := one_at B6.out
  have xB64 : W15.cell? ⟨w9.heap.size, 4, none⟩ = some (.int .i64 s1.w.u1) := one_at B6.out
  have xB65 : W15.cell? ⟨w9.heap.size, 5, none⟩ = some (.int .i64 s1.w.u2) := one_at B6.out
  have xB66 : W15.cell? ⟨w9.heap.size, 6, none⟩ = some (.int .i64 s1.w.price) := one_at B6.out
  have xB67 : W15.cell? ⟨w9.heap.size, 7, none⟩ = some (.int .i64 s1.ph) := one_at B6.out
  have xB68 : W15.cell? ⟨w9.heap.size, 8, none⟩ = some (.int .i64 s1.st) := one_at B6.out
  have xB69 : W15.cell? ⟨w9.heap.size, 9, none⟩ = some (.int .i64 s1.rs) := one_at B6.out
  have xB610 : W15.cell? ⟨w9.heap.size, 10, none⟩ = some (.int .i64 s1.si) := one_at B6.out
  have lB6 : w9.heap.size < W15.heap.size := lt_some B6.out
  go_wp2_with fail
  refine (N5.out _ (by assumption)).mono ?_
  rintro e w17 ⟨rfl, h⟩
  clear xB60 xB61 xB62 xB63 xB64 xB65 xB66 xB67 xB68 xB69 xB610 lB6
  replace B2 := Lib.hid ((h.block _ (lt_some B2.out)).trans B2.out)
  replace B4 := Lib.hid ((h.block _ (lt_some B4.out)).trans B4.out)
  replace B6 := Lib.hid ((h.block _ (lt_some B6.out)).trans B6.out)
  replace B8 := Lib.hid ((h.block _ (lt_some B8.out)).trans B8.out)
  have b18 : Hid (Below w.heap.size w w17) := b16.out.trans (h.mono b16.out.size)
  clear h
  go_upto_region 7 with fail
  obtain ⟨W19, hW⟩ : ∃ x, x = w17.alloc (.cells #[.int .i64 s2.w.book, .int .i64 s2.w.cust, .int .i64 s2.w.dead, .int .i64 s2.w.u0, .int .i64 s2.w.u1, .int .i64 s2.w.u2, .int .i64 s2.w.price, .int .i64 s2.ph, .int .i64 s2.st, .int .i64 s2.rs, .int .i64 s2.si] 26) := ⟨_, rfl⟩
  rw [← hW]
  have h : Below w17.heap.size w17 W19 := by rw [hW]; exact (Below.refl _ _).alloc (Nat.le_refl _) _
  have BA : Hid (W19.heap[w17.heap.size]? = some (.cells #[.int .i64 s2.w.book, .int .i64 s2.w.cust, .int .i64 s2.w.dead, .int .i64 s2.w.u0, .int .i64 s2.w.u1, .int .i64 s2.w.u2, .int .i64 s2.w.price, .int .i64 s2.ph, .int .i64 s2.st, .int .i64 s2.rs, .int .i64 s2.si] 26 (0, 0))) := by rw [hW]; exact heap_alloc_new _ _
  clear hW
  replace B2 := Lib.hid ((h.block _ (lt_some B2.out)).trans B2.out)
  replace B4 := Lib.hid ((h.block _ (lt_some B4.out)).trans B4.out)
  replace B6 := Lib.hid ((h.block _ (lt_some B6.out)).trans B6.out)
  replace B8 := Lib.hid ((h.block _ (lt_some B8.out)).trans B8.out)
  have b20 : Hid (Below w.heap.size w W19) := b18.out.trans (h.mono b18.out.size)
  clear h
  have xBA0 : W19.cell? ⟨w17.heap.size, 0, none⟩ = some (.int .i64 s2.w.book) := one_at BA.out
  have xBA1 : W19.cell? ⟨w17.heap.size, 1, none⟩ = some (.int .i64 s2.w.cust) := one_at BA.out
  have xBA2 : W19.cell? ⟨w17.heap.size, 2, none⟩ = some (.int .i64 s2.w.dead) := one_at BA.out
  have xBA3 : W19.cell? ⟨w17.heap.size, 3, none⟩ = some (.int .i64 s2.w.u0) := one_at BA.out
  have xBA4 : W19.cell? ⟨w17.heap.size, 4, none⟩ = some (.int .i64 s2.w.u1) := one_at BA.out
  have xBA5 : W19.cell? ⟨w17.heap.size, 5, none⟩ = some (.int .i64 s2.w.u2) := one_at BA.out
  have xBA6 : W19.cell? ⟨w17.heap.size, 6, none⟩ = some (.int .i64 s2.w.price) := one_at BA.out
  have xBA7 : W19.cell? ⟨w17.heap.size, 7, none⟩ = some (.int .i64 s2.ph) := one_at BA.out
  have xBA8 : W19.cell? ⟨w17.heap.size, 8, none⟩ = some (.int .i64 s2.st) := one_at BA.out
  have xBA9 : W19.cell? ⟨w17.heap.size, 9, none⟩ = some (.int .i64 s2.rs) := one_at BA.out
  have xBA10 : W19.cell? ⟨w17.heap.size, 10, none⟩ = some (.int .i64 s2.si) := one_at BA.out
  have lBA : w17.heap.size < W19.heap.size := lt_some BA.out
  go_wp2_with fail
  refine (N6.out _ (by assumption)).mono ?_
  rintro e w21 ⟨rfl, h⟩
  clear xBA0 xBA1 xBA2 xBA3 xBA4 xBA5 xBA6 xBA7 xBA8 xBA9 xBA10 lBA
  replace B2 := Lib.hid ((h.block _ (lt_some B2.out)).trans B2.out)
  replace B4 := Lib.hid ((h.block _ (lt_some B4.out)).trans B4.out)
  replace B6 := Lib.hid ((h.block _ (lt_some B6.out)).trans B6.out)
  replace B8 := Lib.hid ((h.block _ (lt_some B8.out)).trans B8.out)
  replace BA := Lib.hid ((h.block _ (lt_some BA.out)).trans BA.out)
  have b22 : Hid (Below w.heap.size w w21) := b20.out.trans (h.mono b20.out.size)
  clear h
  go_upto_region 8 with fail
  obtain ⟨W23, hW⟩ : ∃ x, x = w21.alloc (.cells #[.int .i64 s2.w.book, .int .i64 s2.w.cust, .int .i64 s2.w.dead, .int .i64 s2.w.u0, .int .i64 s2.w.u1, .int .i64 s2.w.u2, .int .i64 s2.w.price, .int .i64 s2.ph, .int .i64 s2.st, .int .i64 s2.rs, .int .i64 s2.si] 26) := ⟨_, rfl⟩
  rw [← hW]
  have h : Below w21.heap.size w21 W23 := by rw [hW]; exact (Below.refl _ _).alloc (Nat.le_refl _) _
  have BC : Hid (W23.heap[w21.heap.size]? = some (.cells #[.int .i64 s2.w.book, .int .i64 s2.w.cust, .int .i64 s2.w.dead, .int .i64 s2.w.u0, .int .i64 s2.w.u1, .int .i64 s2.w.u2, .int .i64 s2.w.price, .int .i64 s2.ph, .int .i64 s2.st, .int .i64 s2.rs, .int .i64 s2.si] 26 (0, 0))) := by rw [hW]; exact heap_alloc_new _ _
  clear hW
  replace B2 := Lib.hid ((h.block _ (lt_some B2.out)).trans B2.out)
  replace B4 := Lib.hid ((h.block _ (lt_some B4.out)).trans B4.out)
  replace B6 := Lib.hid ((h.block _ (lt_some B6.out)).trans B6.out)
  replace B8 := Lib.hid ((h.block _ (lt_some B8.out)).trans B8.out)
  replace BA := Lib.hid ((h.block _ (lt_some BA.out)).trans BA.out)
  have b24 : Hid (Below w.heap.size w W23) := b22.out.trans (h.mono b22.out.size)
  clear h
  go_wp2_with fail
  refine (N7.out _ (by assumption)).mono ?_
  rintro e w25 ⟨rfl, h⟩
  replace B2 := Lib.hid ((h.block _ (lt_some B2.out)).trans B2.out)
  replace B4 := Lib.hid ((h.block _ (lt_some B4.out)).trans B4.out)
  replace B6 := Lib.hid ((h.block _ (lt_some B6.out)).trans B6.out)
  replace B8 := Lib.hid ((h.block _ (lt_some B8.out)).trans B8.out)
  replace BA := Lib.hid ((h.block _ (lt_some BA.out)).trans BA.out)
  replace BC := Lib.hid ((h.block _ (lt_some BC.out)).trans BC.out)
  have b26 : Hid (Below w.heap.size w w25) := b24.out.trans (h.mono b24.out.size)
  clear h
  have g1 : (s1.st == 1) = true := by rw [q1.out]; rfl
  have g2 : (s2.ph == 3) = true := by rw [q2.out]; rfl
  have g3 : (s2.rs == 3) = true := by rw [q3.out]; rfl
  have g4 : (a.op.kind == 1) = true := by rw [q4.out]; rfl
  replace E1 := E1.out
  replace E2 := E2.out
  have xB20 : w25.cell? ⟨w1.heap.size, 0, none⟩ = some (.int .i64 s0.w.book) := one_at B2.out
  have xB21 : w25.cell? ⟨w1.heap.size, 1, none⟩ = some (.int .i64 s0.w.cust) := one_at B2.out
  have xB22 : w25.cell? ⟨w1.heap.size, 2, none⟩ = some (.int .i64 s0.w.dead) := one_at B2.out
  have xB23 : w25.cell? ⟨w1.heap.size, 3, none⟩ = some (.int .i64 s0.w.u0) := one_at B2.out
  have xB24 : w25.cell? ⟨w1.heap.size, 4, none⟩ = some (.int .i64 s0.w.u1) := one_at B2.out
  have xB25 : w25.cell? ⟨w1.heap.size, 5, none⟩ = some (.int .i64 s0.w.u2) := one_at B2.out
  have xB26 : w25.cell? ⟨w1.heap.size, 6, none⟩ = some (.int .i64 s0.w.price) := one_at B2.out
  have xB27 : w25.cell? ⟨w1.heap.size, 7, none⟩ = some (.int .i64 s0.ph) := one_at B2.out
  have xB28 : w25.cell? ⟨w1.heap.size, 8, none⟩ = some (.int .i64 s0.st) := one_at B2.out
  have xB29 : w25.cell? ⟨w1.heap.size, 9, none⟩ = some (.int .i64 s0.rs) := one_at B2.out
  have xB210 : w25.cell? ⟨w1.heap.size, 10, none⟩ = some (.int .i64 s0.si) := one_at B2.out
  have lB2 : w1.heap.size < w25.heap.size := lt_some B2.out
  have xB40 : w25.cell? ⟨w5.heap.size, 0, none⟩ = some (.int .i64 a.node) := one_at B4.out
  have xB41 : w25.cell? ⟨w5.heap.size, 1, none⟩ = some (.int .i64 a.op.kind) := one_at B4.out
  have xB42 : w25.cell? ⟨w5.heap.size, 2, none⟩ = some (.int .i64 a.op.book) := one_at B4.out
  have xB43 : w25.cell? ⟨w5.heap.size, 3, none⟩ = some (.int .i64 a.op.units) := one_at B4.out
  have xB44 : w25.cell? ⟨w5.heap.size, 4, none⟩ = some (.int .i64 a.op.cust) := one_at B4.out
  have xB45 : w25.cell? ⟨w5.heap.size, 5, none⟩ = some (.int .i64 a.op.amount) := one_at B4.out
  have lB4 : w5.heap.size < w25.heap.size := lt_some B4.out
  have xB60 : w25.cell? ⟨w9.heap.size, 0, none⟩ = some (.int .i64 s1.w.book) := one_at B6.out
  have xB61 : w25.cell? ⟨w9.heap.size, 1, none⟩ = some (.int .i64 s1.w.cust) := one_at B6.out
  have xB62 : w25.cell? ⟨w9.heap.size, 2, none⟩ = some (.int .i64 s1.w.dead) := one_at B6.out
  have xB63 : w25.cell? ⟨w9.heap.size, 3, none⟩ = some (.int .i64 s1.w.u0) := one_at B6.out
  have xB64 : w25.cell? ⟨w9.heap.size, 4, none⟩ = some (.int .i64 s1.w.u1) := one_at B6.out
  have xB65 : w25.cell? ⟨w9.heap.size, 5, none⟩ = some (.int .i64 s1.w.u2) := one_at B6.out
  have xB66 : w25.cell? ⟨w9.heap.size, 6, none⟩ = some (.int .i64 s1.w.price) := one_at B6.out
  have xB67 : w25.cell? ⟨w9.heap.size, 7, none⟩ = some (.int .i64 s1.ph) := one_at B6.out
  have xB68 : w25.cell? ⟨w9.heap.size, 8, none⟩ = some (.int .i64 s1.st) := one_at B6.out
  have xB69 : w25.cell? ⟨w9.heap.size, 9, none⟩ = some (.int .i64 s1.rs) := one_at B6.out
  have xB610 : w25.cell? ⟨w9.heap.size, 10, none⟩ = some (.int .i64 s1.si) := one_at B6.out
  have lB6 : w9.heap.size < w25.heap.size := lt_some B6.out
  have xB80 : w25.cell? ⟨w13.heap.size, 0, none⟩ = some (.int .i64 s1.w.book) := one_at B8.out
  have xB81 : w25.cell? ⟨w13.heap.size, 1, none⟩ = some (.int .i64 s1.w.cust) := one_at B8.out
  have xB82 : w25.cell? ⟨w13.heap.size, 2, none⟩ = some (.int .i64 s1.w.dead) := one_at B8.out
  have xB83 : w25.cell? ⟨w13.heap.size, 3, none⟩ = some (.int .i64 s1.w.u0) := one_at B8.out
  have xB84 : w25.cell? ⟨w13.heap.size, 4, none⟩ = some (.int .i64 s1.w.u1) := one_at B8.out
  have xB85 : w25.cell? ⟨w13.heap.size, 5, none⟩ = some (.int .i64 s1.w.u2) := one_at B8.out
  have xB86 : w25.cell? ⟨w13.heap.size, 6, none⟩ = some (.int .i64 s1.w.price) := one_at B8.out
  have xB87 : w25.cell? ⟨w13.heap.size, 7, none⟩ = some (.int .i64 s1.ph) := one_at B8.out
  have xB88 : w25.cell? ⟨w13.heap.size, 8, none⟩ = some (.int .i64 s1.st) := one_at B8.out
  have xB89 : w25.cell? ⟨w13.heap.size, 9, none⟩ = some (.int .i64 s1.rs) := one_at B8.out
  have xB810 : w25.cell? ⟨w13.heap.size, 10, none⟩ = some (.int .i64 s1.si) := one_at B8.out
  have lB8 : w13.heap.size < w25.heap.size := lt_some B8.out
  have xBA0 : w25.cell? ⟨w17.heap.size, 0, none⟩ = some (.int .i64 s2.w.book) := one_at BA.out
  have xBA1 : w25.cell? ⟨w17.heap.size, 1, none⟩ = some (.int .i64 s2.w.cust) := one_at BA.out
  have xBA2 : w25.cell? ⟨w17.heap.size, 2, none⟩ = some (.int .i64 s2.w.dead) := one_at BA.out
  have xBA3 : w25.cell? ⟨w17.heap.size, 3, none⟩ = some (.int .i64 s2.w.u0) := one_at BA.out
  have xBA4 : w25.cell? ⟨w17.heap.size, 4, none⟩ = some (.int .i64 s2.w.u1) := one_at BA.out
  have xBA5 : w25.cell? ⟨w17.heap.size, 5, none⟩ = some (.int .i64 s2.w.u2) := one_at BA.out
  have xBA6 : w25.cell? ⟨w17.heap.size, 6, none⟩ = some (.int .i64 s2.w.price) := one_at BA.out
  have xBA7 : w25.cell? ⟨w17.heap.size, 7, none⟩ = some (.int .i64 s2.ph) := one_at BA.out
  have xBA8 : w25.cell? ⟨w17.heap.size, 8, none⟩ = some (.int .i64 s2.st) := one_at BA.out
  have xBA9 : w25.cell? ⟨w17.heap.size, 9, none⟩ = some (.int .i64 s2.rs) := one_at BA.out
  have xBA10 : w25.cell? ⟨w17.heap.size, 10, none⟩ = some (.int .i64 s2.si) := one_at BA.out
  have lBA : w17.heap.size < w25.heap.size := lt_some BA.out
  have xBC0 : w25.cell? ⟨w21.heap.size, 0, none⟩ = some (.int .i64 s2.w.book) := one_at BC.out
  have xBC1 : w25.cell? ⟨w21.heap.size, 1, none⟩ = some (.int .i64 s2.w.cust) := one_at BC.out
  have xBC2 : w25.cell? ⟨w21.heap.size, 2, none⟩ = some (.int .i64 s2.w.dead) := one_at BC.out
  have xBC3 : w25.cell? ⟨w21.heap.size, 3, none⟩ = some (.int .i64 s2.w.u0) := one_at BC.out
  have xBC4 : w25.cell? ⟨w21.heap.size, 4, none⟩ = some (.int .i64 s2.w.u1) := one_at BC.out
  have xBC5 : w25.cell? ⟨w21.heap.size, 5, none⟩ = some (.int .i64 s2.w.u2) := one_at BC.out
  have xBC6 : w25.cell? ⟨w21.heap.size, 6, none⟩ = some (.int .i64 s2.w.price) := one_at BC.out
  have xBC7 : w25.cell? ⟨w21.heap.size, 7, none⟩ = some (.int .i64 s2.ph) := one_at BC.out
  have xBC8 : w25.cell? ⟨w21.heap.size, 8, none⟩ = some (.int .i64 s2.st) := one_at BC.out
  have xBC9 : w25.cell? ⟨w21.heap.size, 9, none⟩ = some (.int .i64 s2.rs) := one_at BC.out
  have xBC10 : w25.cell? ⟨w21.heap.size, 10, none⟩ = some (.int .i64 s2.si) := one_at BC.out
  have lBC : w21.heap.size < w25.heap.size := lt_some BC.out
  go_wp2_with fail
  obtain ⟨W27, hW⟩ : ∃ x, x = w25.alloc (.cells #[.int .i64 sy.w.book, .int .i64 sy.w.cust, .int .i64 sy.w.dead, .int .i64 sy.w.u0, .int .i64 sy.w.u1, .int .i64 sy.w.u2, .int .i64 sy.w.price, .int .i64 sy.ph, .int .i64 sy.st, .int .i64 sy.rs, .int .i64 sy.si] 26) := ⟨_, rfl⟩
  rw [← hW]
  have h : Below w25.heap.size w25 W27 := by rw [hW]; exact (Below.refl _ _).alloc (Nat.le_refl _) _
  have BE : Hid (W27.heap[w25.heap.size]? = some (.cells #[.int .i64 sy.w.book, .int .i64 sy.w.cust, .int .i64 sy.w.dead, .int .i64 sy.w.u0, .int .i64 sy.w.u1, .int .i64 sy.w.u2, .int .i64 sy.w.price, .int .i64 sy.ph, .int .i64 sy.st, .int .i64 sy.rs, .int .i64 sy.si] 26 (0, 0))) := by rw [hW]; exact heap_alloc_new _ _
  clear hW
  replace B2 := Lib.hid ((h.block _ (lt_some B2.out)).trans B2.out)
  replace B4 := Lib.hid ((h.block _ (lt_some B4.out)).trans B4.out)
  replace B6 := Lib.hid ((h.block _ (lt_some B6.out)).trans B6.out)
  replace B8 := Lib.hid ((h.block _ (lt_some B8.out)).trans B8.out)
  replace BA := Lib.hid ((h.block _ (lt_some BA.out)).trans BA.out)
  replace BC := Lib.hid ((h.block _ (lt_some BC.out)).trans BC.out)
  have b28 : Hid (Below w.heap.size w W27) := b26.out.trans (h.mono b26.out.size)
  clear h
  refine (N8.out _ (by assumption)).mono ?_
  rintro e w29 ⟨rfl, h⟩
  clear xB20 xB21 xB22 xB23 xB24 xB25 xB26 xB27 xB28 xB29 xB210 lB2 xB40 xB41 xB42 xB43 xB44 xB45 lB4 xB60 xB61 xB62 xB63 xB64 xB65 xB66 xB67 xB68 xB69 xB610 lB6 xB80 xB81 xB82 xB83 xB84 xB85 xB86 xB87 xB88 xB89 xB810 lB8 xBA0 xBA1 xBA2 xBA3 xBA4 xBA5 xBA6 xBA7 xBA8 xBA9 xBA10 lBA xBC0 xBC1 xBC2 xBC3 xBC4 xBC5 xBC6 xBC7 xBC8 xBC9 xBC10 lBC
  replace B2 := Lib.hid ((h.block _ (lt_some B2.out)).trans B2.out)
  replace B4 := Lib.hid ((h.block _ (lt_some B4.out)).trans B4.out)
  replace B6 := Lib.hid ((h.block _ (lt_some B6.out)).trans B6.out)
  replace B8 := Lib.hid ((h.block _ (lt_some B8.out)).trans B8.out)
  replace BA := Lib.hid ((h.block _ (lt_some BA.out)).trans BA.out)
  replace BC := Lib.hid ((h.block _ (lt_some BC.out)).trans BC.out)
  replace BE := Lib.hid ((h.block _ (lt_some BE.out)).trans BE.out)
  have b30 : Hid (Below w.heap.size w w29) := b28.out.trans (h.mono b28.out.size)
  clear h
  clear g1 g2 g3 g4 E1 E2
  have xBA0 : w29.cell? ⟨w17.heap.size, 0, none⟩ = some (.int .i64 s2.w.book) := one_at BA.out
  have xBA1 : w29.cell? ⟨w17.heap.size, 1, none⟩ = some (.int .i64 s2.w.cust) := one_at BA.out
  have xBA2 : w29.cell? ⟨w17.heap.size, 2, none⟩ = some (.int .i64 s2.w.dead) := one_at BA.out
  have xBA3 : w29.cell? ⟨w17.heap.size, 3, none⟩ = some (.int .i64 s2.w.u0) := one_at BA.out
  have xBA4 : w29.cell? ⟨w17.heap.size, 4, none⟩ = some (.int .i64 s2.w.u1) := one_at BA.out
  have xBA5 : w29.cell? ⟨w17.heap.size, 5, none⟩ = some (.int .i64 s2.w.u2) := one_at BA.out
  have xBA6 : w29.cell? ⟨w17.heap.size, 6, none⟩ = some (.int .i64 s2.w.price) := one_at BA.out
  have xBA7 : w29.cell? ⟨w17.heap.size, 7, none⟩ = some (.int .i64 s2.ph) := one_at BA.out
  have xBA8 : w29.cell? ⟨w17.heap.size, 8, none⟩ = some (.int .i64 s2.st) := one_at BA.out
  have xBA9 : w29.cell? ⟨w17.heap.size, 9, none⟩ = some (.int .i64 s2.rs) := one_at BA.out
  have xBA10 : w29.cell? ⟨w17.heap.size, 10, none⟩ = some (.int .i64 s2.si) := one_at BA.out
  have lBA : w17.heap.size < w29.heap.size := lt_some BA.out
  go_wp2_with fail
  refine (N9.out _ (by assumption)).mono ?_
  rintro e w31 ⟨rfl, h⟩
  clear xBA0 xBA1 xBA2 xBA3 xBA4 xBA5 xBA6 xBA7 xBA8 xBA9 xBA10 lBA
  replace B2 := Lib.hid ((h.block _ (lt_some B2.out)).trans B2.out)
  replace B4 := Lib.hid ((h.block _ (lt_some B4.out)).trans B4.out)
  replace B6 := Lib.hid ((h.block _ (lt_some B6.out)).trans B6.out)
  replace B8 := Lib.hid ((h.block _ (lt_some B8.out)).trans B8.out)
  replace BA := Lib.hid ((h.block _ (lt_some BA.out)).trans BA.out)
  replace BC := Lib.hid ((h.block _ (lt_some BC.out)).trans BC.out)
  replace BE := Lib.hid ((h.block _ (lt_some BE.out)).trans BE.out)
  have b32 : Hid (Below w.heap.size w w31) := b30.out.trans (h.mono b30.out.size)
  clear h
  have xB20 : w31.cell? ⟨w1.heap.size, 0, none⟩ = some (.int .i64 s0.w.book) := one_at B2.out
  have xB21 : w31.cell? ⟨w1.heap.size, 1, none⟩ = some (.int .i64 s0.w.cust) := one_at B2.out
  have xB22 : w31.cell? ⟨w1.heap.size, 2, none⟩ = some (.int .i64 s0.w.dead) := one_at B2.out
  have xB23 : w31.cell? ⟨w1.heap.size, 3, none⟩ = some (.int .i64 s0.w.u0) := one_at B2.out
  have xB24 : w31.cell? ⟨w1.heap.size, 4, none⟩ = some (.int .i64 s0.w.u1) := one_at B2.out
  have xB25 : w31.cell? ⟨w1.heap.size, 5, none⟩ = some (.int .i64 s0.w.u2) := one_at B2.out
  have xB26 : w31.cell? ⟨w1.heap.size, 6, none⟩ = some (.int .i64 s0.w.price) := one_at B2.out
  have xB27 : w31.cell? ⟨w1.heap.size, 7, none⟩ = some (.int .i64 s0.ph) := one_at B2.out
  have xB28 : w31.cell? ⟨w1.heap.size, 8, none⟩ = some (.int .i64 s0.st) := one_at B2.out
  have xB29 : w31.cell? ⟨w1.heap.size, 9, none⟩ = some (.int .i64 s0.rs) := one_at B2.out
  have xB210 : w31.cell? ⟨w1.heap.size, 10, none⟩ = some (.int .i64 s0.si) := one_at B2.out
  have lB2 : w1.heap.size < w31.heap.size := lt_some B2.out
  go_wp2_with fail
  refine (NA.out _ (by assumption)).mono ?_
  rintro e w33 ⟨rfl, h⟩
  clear xB20 xB21 xB22 xB23 xB24 xB25 xB26 xB27 xB28 xB29 xB210 lB2
  replace B2 := Lib.hid ((h.block _ (lt_some B2.out)).trans B2.out)
  replace B4 := Lib.hid ((h.block _ (lt_some B4.out)).trans B4.out)
  replace B6 := Lib.hid ((h.block _ (lt_some B6.out)).trans B6.out)
  replace B8 := Lib.hid ((h.block _ (lt_some B8.out)).trans B8.out)
  replace BA := Lib.hid ((h.block _ (lt_some BA.out)).trans BA.out)
  replace BC := Lib.hid ((h.block _ (lt_some BC.out)).trans BC.out)
  replace BE := Lib.hid ((h.block _ (lt_some BE.out)).trans BE.out)
  have b34 : Hid (Below w.heap.size w w33) := b32.out.trans (h.mono b32.out.size)
  clear h
  clear N1 N2 N3 N4 N5 N6 N7 N8 N9 NA
  go_wp2_with fail
  go_ret
  exact ⟨rfl, b34.out⟩
end Sg
end Go.Proofs.YtakicogelkdofaaDoor
