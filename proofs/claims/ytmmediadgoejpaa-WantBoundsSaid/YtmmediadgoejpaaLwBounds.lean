/- Proved: what lies just beyond each bound may not be (WantBounds), for any booking, any operation, any part. -/
import Derived.Test.YtmmediadgoejpaaWtO
import Derived.Deep.CutRange
namespace Go.Proofs.Ytmmediadgoejpaa.wantBounds
open Go.ChangeShapes Go.WideShapes Go.ChangeAt Go.WideElems Go.RowKit
open Go.Proofs.Ytmmediadgoejpaa.Pk Go.Proofs.Ytmmediadgoejpaa.Wt

theorem wn0 (x : Wan) : may ⟨0, x.cust, x.dead, x.u0, x.u1, x.u2, x.price⟩ = false := by unfold may inR mayU; simp
theorem on0 (o : Opn) : mayOp ⟨o.kind, 0, o.units, o.cust, o.amount⟩ = false := mayop_out (by simp only []; omega)
theorem wn1 (x : Wan) : may ⟨201, x.cust, x.dead, x.u0, x.u1, x.u2, x.price⟩ = false := by unfold may inR mayU; simp
theorem on1 (o : Opn) : mayOp ⟨o.kind, 201, o.units, o.cust, o.amount⟩ = false := mayop_out (by simp only []; omega)
theorem wn2 (x : Wan) : may ⟨x.book, 4, x.dead, x.u0, x.u1, x.u2, x.price⟩ = false := by unfold may inR mayU; simp
theorem on2 (o : Opn) : mayOp ⟨o.kind, o.book, o.units, 4, o.amount⟩ = false := by
  unfold mayOp inR
  split <;> (try split) <;> (try split) <;> simp <;> omega
theorem wn3 (x : Wan) : may ⟨x.book, (-1), x.dead, x.u0, x.u1, x.u2, x.price⟩ = false := by unfold may inR mayU; simp
theorem on3 (o : Opn) : mayOp ⟨o.kind, o.book, o.units, (-1), o.amount⟩ = false := by
  unfold mayOp inR
  split <;> (try split) <;> (try split) <;> simp <;> omega
theorem wn4 (x : Wan) : may ⟨x.book, x.cust, x.dead, x.u0, 1001, x.u2, x.price⟩ = false := by unfold may inR mayU; simp
theorem on4 (o : Opn) : mayOp ⟨o.kind, o.book, 1001, o.cust, o.amount⟩ = false := by
  unfold mayOp inR
  split <;> (try split) <;> (try split) <;> simp <;> omega
theorem wn5 (x : Wan) : may ⟨x.book, x.cust, x.dead, x.u0, x.u1, (-1), x.price⟩ = false := by unfold may inR mayU; simp
theorem on5 (o : Opn) : mayOp ⟨o.kind, o.book, (-1), o.cust, o.amount⟩ = false := by
  unfold mayOp inR
  split <;> (try split) <;> (try split) <;> simp <;> omega
theorem wn6 (x : Wan) : may ⟨x.book, x.cust, x.dead, x.u0, x.u1, x.u2, 1099511627777⟩ = false := by unfold may inR mayU; simp
theorem on6 (o : Opn) : mayOp ⟨o.kind, o.book, o.units, o.cust, 1099511627777⟩ = false := by
  unfold mayOp inR
  split <;> (try split) <;> (try split) <;> simp <;> omega
theorem wn7 (x : Wan) : may ⟨x.book, x.cust, x.dead, x.u0, x.u1, x.u2, (-1)⟩ = false := by unfold may inR mayU; simp
theorem on7 (o : Opn) : mayOp ⟨o.kind, o.book, o.units, o.cust, (-1)⟩ = false := by
  unfold mayOp inR
  split <;> (try split) <;> (try split) <;> simp <;> omega
theorem wn8 (x : Wan) : may ⟨x.book, x.cust, (-1), x.u0, x.u1, x.u2, x.price⟩ = false := by unfold may inR mayU; simp
theorem on8 (o : Opn) : mayOp ⟨7, o.book, o.units, o.cust, o.amount⟩ = false := mayop_out (by simp only []; omega)
theorem nounits (a b c : Int) : may ⟨a, b, 0, 0, 0, 0, c⟩ = false := by unfold may mayU; simp

/-- The two that are changed: they lie in p and q. -/
structure Two (w : World) (x : Wan) (o : Opn) (p q : Nat) (y : Wan) (z : Opn) (wx : World) : Prop where
  be : Below w.heap.size w wx
  bx : wx.heap[w.heap.size]? = some (.cells #[.int .i64 x.book, .int .i64 x.cust, .int .i64 x.dead, .int .i64 x.u0, .int .i64 x.u1, .int .i64 x.u2, .int .i64 x.price] 24 (0, 0))
  bo : wx.heap[w.heap.size + 1]? = some (.cells #[.int .i64 o.kind, .int .i64 o.book, .int .i64 o.units, .int .i64 o.cust, .int .i64 o.amount] 35 (0, 0))
  ne : p ≠ q
  lp : w.heap.size + 2 ≤ p
  lq : w.heap.size + 2 ≤ q
  hp : wx.heap[p]? = some (.cells #[.int .i64 y.book, .int .i64 y.cust, .int .i64 y.dead, .int .i64 y.u0, .int .i64 y.u1, .int .i64 y.u2, .int .i64 y.price] 24 (0, 0))
  hq : wx.heap[q]? = some (.cells #[.int .i64 z.kind, .int .i64 z.book, .int .i64 z.units, .int .i64 z.cust, .int .i64 z.amount] 35 (0, 0))
theorem two_set {w wx : World} {x y y' : Wan} {o z z' : Opn} {p q i j : Nat} {u v : Value} (h : Two w x o p q y z wx)
    (hy : #[.int .i64 y.book, .int .i64 y.cust, .int .i64 y.dead, .int .i64 y.u0, .int .i64 y.u1, .int .i64 y.u2, .int .i64 y.price].setIfInBounds i u = #[.int .i64 y'.book, .int .i64 y'.cust, .int .i64 y'.dead, .int .i64 y'.u0, .int .i64 y'.u1, .int .i64 y'.u2, .int .i64 y'.price]) (hz : #[.int .i64 z.kind, .int .i64 z.book, .int .i64 z.units, .int .i64 z.cust, .int .i64 z.amount].setIfInBounds j v = #[.int .i64 z'.kind, .int .i64 z'.book, .int .i64 z'.units, .int .i64 z'.cust, .int .i64 z'.amount]) : Two w x o p q y' z' ((wx.setCell ⟨p, i, none⟩ u).setCell ⟨q, j, none⟩ v) := by
  have e : ∀ k, k ≠ p → k ≠ q → ((wx.setCell ⟨p, i, none⟩ u).setCell ⟨q, j, none⟩ v).heap[k]? = wx.heap[k]? := fun k h1 h2 => (Below.heap_setCell _ ⟨q, j, none⟩ _ k h2).trans (Below.heap_setCell _ ⟨p, i, none⟩ _ k h1)
  have lp := h.lp
  have lq := h.lq
  have ne := h.ne
  refine ⟨(h.be.setCell (by show w.heap.size ≤ p; omega) _).setCell (by show w.heap.size ≤ q; omega) _, (e _ (by omega) (by omega)).trans h.bx, (e _ (by omega) (by omega)).trans h.bo, h.ne, h.lp, h.lq, ?_, ?_⟩
  · rw [Below.heap_setCell _ ⟨q, j, none⟩ _ p ne, one_set h.hp, hy]
  · rw [one_set ((Below.heap_setCell _ ⟨p, i, none⟩ _ q (by show q ≠ p; omega)).trans h.hq), hz]

theorem Two.drew {w wx : World} {x y : Wan} {o z : Opn} {p q : Nat} (h : Two w x o p q y z wx) : Two w x o p q y z wx.drew := ⟨⟨h.be.os, h.be.tape, h.be.output, h.be.size, h.be.block⟩, h.bx, h.bo, h.ne, h.lp, h.lq, h.hp, h.hq⟩

set_option maxHeartbeats 6400000 in
set_option maxRecDepth 100000 in
theorem walk (x : Wan) (o : Opn) (n : Int) (w : World) :
    Calls Try.prog 6 #[.agg #[.int .i64 x.book, .int .i64 x.cust, .int .i64 x.dead, .int .i64 x.u0, .int .i64 x.u1, .int .i64 x.u2, .int .i64 x.price], .agg #[.int .i64 o.kind, .int .i64 o.book, .int .i64 o.units, .int .i64 o.cust, .int .i64 o.amount], .int .i64 n] w fun e w' => e = .returned (.bool true) ∧ Below w.heap.size w w' := by
  have hbx : Hid (((w.alloc (.cells #[.int .i64 x.book, .int .i64 x.cust, .int .i64 x.dead, .int .i64 x.u0, .int .i64 x.u1, .int .i64 x.u2, .int .i64 x.price] 24)).alloc (.cells #[.int .i64 o.kind, .int .i64 o.book, .int .i64 o.units, .int .i64 o.cust, .int .i64 o.amount] 35)).heap[w.heap.size]? = some (.cells #[.int .i64 x.book, .int .i64 x.cust, .int .i64 x.dead, .int .i64 x.u0, .int .i64 x.u1, .int .i64 x.u2, .int .i64 x.price] 24 (0, 0))) := heap_alloc2_old _ _ _
  have hbo : Hid (((w.alloc (.cells #[.int .i64 x.book, .int .i64 x.cust, .int .i64 x.dead, .int .i64 x.u0, .int .i64 x.u1, .int .i64 x.u2, .int .i64 x.price] 24)).alloc (.cells #[.int .i64 o.kind, .int .i64 o.book, .int .i64 o.units, .int .i64 o.cust, .int .i64 o.amount] 35)).heap[w.heap.size + 1]? = some (.cells #[.int .i64 o.kind, .int .i64 o.book, .int .i64 o.units, .int .i64 o.cust, .int .i64 o.amount] 35 (0, 0))) := heap_alloc2_new _ _ _
  have be0 : Hid (Below w.heap.size w ((w.alloc (.cells #[.int .i64 x.book, .int .i64 x.cust, .int .i64 x.dead, .int .i64 x.u0, .int .i64 x.u1, .int .i64 x.u2, .int .i64 x.price] 24)).alloc (.cells #[.int .i64 o.kind, .int .i64 o.book, .int .i64 o.units, .int .i64 o.cust, .int .i64 o.amount] 35))) := ((Below.refl _ w).alloc (Nat.le_refl _) _).alloc (by simp) _
  have T1 : Hid (Two w x o (w.heap.size + 2) (w.heap.size + 3) x o ((((w.alloc (.cells #[.int .i64 x.book, .int .i64 x.cust, .int .i64 x.dead, .int .i64 x.u0, .int .i64 x.u1, .int .i64 x.u2, .int .i64 x.price] 24)).alloc (.cells #[.int .i64 o.kind, .int .i64 o.book, .int .i64 o.units, .int .i64 o.cust, .int .i64 o.amount] 35)).alloc (.cells #[.int .i64 x.book, .int .i64 x.cust, .int .i64 x.dead, .int .i64 x.u0, .int .i64 x.u1, .int .i64 x.u2, .int .i64 x.price] 24)).alloc (.cells #[.int .i64 o.kind, .int .i64 o.book, .int .i64 o.units, .int .i64 o.cust, .int .i64 o.amount] 35))) := by
    have l2 : ((w.alloc (.cells #[.int .i64 x.book, .int .i64 x.cust, .int .i64 x.dead, .int .i64 x.u0, .int .i64 x.u1, .int .i64 x.u2, .int .i64 x.price] 24)).alloc (.cells #[.int .i64 o.kind, .int .i64 o.book, .int .i64 o.units, .int .i64 o.cust, .int .i64 o.amount] 35)).heap.size = w.heap.size + 2 := by simp
    have h1 := heap_alloc2_old ((w.alloc (.cells #[.int .i64 x.book, .int .i64 x.cust, .int .i64 x.dead, .int .i64 x.u0, .int .i64 x.u1, .int .i64 x.u2, .int .i64 x.price] 24)).alloc (.cells #[.int .i64 o.kind, .int .i64 o.book, .int .i64 o.units, .int .i64 o.cust, .int .i64 o.amount] 35)) (.cells #[.int .i64 x.book, .int .i64 x.cust, .int .i64 x.dead, .int .i64 x.u0, .int .i64 x.u1, .int .i64 x.u2, .int .i64 x.price] 24) (.cells #[.int .i64 o.kind, .int .i64 o.book, .int .i64 o.units, .int .i64 o.cust, .int .i64 o.amount] 35)
    have h2 := heap_alloc2_new ((w.alloc (.cells #[.int .i64 x.book, .int .i64 x.cust, .int .i64 x.dead, .int .i64 x.u0, .int .i64 x.u1, .int .i64 x.u2, .int .i64 x.price] 24)).alloc (.cells #[.int .i64 o.kind, .int .i64 o.book, .int .i64 o.units, .int .i64 o.cust, .int .i64 o.amount] 35)) (.cells #[.int .i64 x.book, .int .i64 x.cust, .int .i64 x.dead, .int .i64 x.u0, .int .i64 x.u1, .int .i64 x.u2, .int .i64 x.price] 24) (.cells #[.int .i64 o.kind, .int .i64 o.book, .int .i64 o.units, .int .i64 o.cust, .int .i64 o.amount] 35)
    rw [l2] at h1 h2
    exact ⟨(be0.out.alloc be0.out.size _).alloc (by simp; omega) _, (stay1 (stay1 hbx _) _), (stay1 (stay1 hbo _) _), by omega, by omega, by omega, h1, h2⟩
  have T2 : Hid (Two w x o (w.heap.size + 3) (w.heap.size + 2) x o ((((w.alloc (.cells #[.int .i64 x.book, .int .i64 x.cust, .int .i64 x.dead, .int .i64 x.u0, .int .i64 x.u1, .int .i64 x.u2, .int .i64 x.price] 24)).alloc (.cells #[.int .i64 o.kind, .int .i64 o.book, .int .i64 o.units, .int .i64 o.cust, .int .i64 o.amount] 35)).alloc (.cells #[.int .i64 o.kind, .int .i64 o.book, .int .i64 o.units, .int .i64 o.cust, .int .i64 o.amount] 35)).alloc (.cells #[.int .i64 x.book, .int .i64 x.cust, .int .i64 x.dead, .int .i64 x.u0, .int .i64 x.u1, .int .i64 x.u2, .int .i64 x.price] 24))) := by
    have l2 : ((w.alloc (.cells #[.int .i64 x.book, .int .i64 x.cust, .int .i64 x.dead, .int .i64 x.u0, .int .i64 x.u1, .int .i64 x.u2, .int .i64 x.price] 24)).alloc (.cells #[.int .i64 o.kind, .int .i64 o.book, .int .i64 o.units, .int .i64 o.cust, .int .i64 o.amount] 35)).heap.size = w.heap.size + 2 := by simp
    have h1 := heap_alloc2_old ((w.alloc (.cells #[.int .i64 x.book, .int .i64 x.cust, .int .i64 x.dead, .int .i64 x.u0, .int .i64 x.u1, .int .i64 x.u2, .int .i64 x.price] 24)).alloc (.cells #[.int .i64 o.kind, .int .i64 o.book, .int .i64 o.units, .int .i64 o.cust, .int .i64 o.amount] 35)) (.cells #[.int .i64 o.kind, .int .i64 o.book, .int .i64 o.units, .int .i64 o.cust, .int .i64 o.amount] 35) (.cells #[.int .i64 x.book, .int .i64 x.cust, .int .i64 x.dead, .int .i64 x.u0, .int .i64 x.u1, .int .i64 x.u2, .int .i64 x.price] 24)
    have h2 := heap_alloc2_new ((w.alloc (.cells #[.int .i64 x.book, .int .i64 x.cust, .int .i64 x.dead, .int .i64 x.u0, .int .i64 x.u1, .int .i64 x.u2, .int .i64 x.price] 24)).alloc (.cells #[.int .i64 o.kind, .int .i64 o.book, .int .i64 o.units, .int .i64 o.cust, .int .i64 o.amount] 35)) (.cells #[.int .i64 o.kind, .int .i64 o.book, .int .i64 o.units, .int .i64 o.cust, .int .i64 o.amount] 35) (.cells #[.int .i64 x.book, .int .i64 x.cust, .int .i64 x.dead, .int .i64 x.u0, .int .i64 x.u1, .int .i64 x.u2, .int .i64 x.price] 24)
    rw [l2] at h1 h2
    exact ⟨(be0.out.alloc be0.out.size _).alloc (by simp; omega) _, (stay1 (stay1 hbx _) _), (stay1 (stay1 hbo _) _), by omega, by omega, by omega, h2, h1⟩
  go_enter Try.func6, Try.ntmps6
  go_upto_region 1 with fail
  go_cut [7, 8] from 9 to 10 (fun s7 s8 wx => ∃ p q, s7 = .pointer (some ⟨p, 0, none⟩) ∧ s8 = .pointer (some ⟨q, 0, none⟩) ∧ Two w x o p q x o wx)
  case first =>
    go_region
    all_goals
      go_wp2_with fail
      go_meet
      first
        | exact ⟨_, _, rfl, rfl, T1.out.drew⟩
        | exact ⟨_, _, rfl, rfl, T2.out.drew⟩
  obtain ⟨p, q, rfl, rfl, T⟩ := hcut
  clear T1 T2 be0 hbx hbo
  replace T := Lib.hid T
  have hne := T.out.ne
  go_upto_block 0 with fail
  generalize wrap64 ((IntKind.u64.wrap n).tmod 9) = z9
  go_cut [6] from 15 to 50 (fun s6 wx => s6 = .bool false ∧ ∃ y z, may y = false ∧ mayOp z = false ∧ Two w x o p q y z wx)
  case first =>
    have a0 : wc.cell? ⟨p, 0, none⟩ = some (.int .i64 x.book) := one_at T.out.hp
    have e0 : wc.frozen? ⟨p, 0, none⟩ = false := one_free T.out.hp
    have a1 : wc.cell? ⟨p, 1, none⟩ = some (.int .i64 x.cust) := one_at T.out.hp
    have e1 : wc.frozen? ⟨p, 1, none⟩ = false := one_free T.out.hp
    have a2 : wc.cell? ⟨p, 2, none⟩ = some (.int .i64 x.dead) := one_at T.out.hp
    have e2 : wc.frozen? ⟨p, 2, none⟩ = false := one_free T.out.hp
    have a3 : wc.cell? ⟨p, 3, none⟩ = some (.int .i64 x.u0) := one_at T.out.hp
    have e3 : wc.frozen? ⟨p, 3, none⟩ = false := one_free T.out.hp
    have a4 : wc.cell? ⟨p, 4, none⟩ = some (.int .i64 x.u1) := one_at T.out.hp
    have e4 : wc.frozen? ⟨p, 4, none⟩ = false := one_free T.out.hp
    have a5 : wc.cell? ⟨p, 5, none⟩ = some (.int .i64 x.u2) := one_at T.out.hp
    have e5 : wc.frozen? ⟨p, 5, none⟩ = false := one_free T.out.hp
    have a6 : wc.cell? ⟨p, 6, none⟩ = some (.int .i64 x.price) := one_at T.out.hp
    have e6 : wc.frozen? ⟨p, 6, none⟩ = false := one_free T.out.hp
    have b0 : wc.cell? ⟨q, 0, none⟩ = some (.int .i64 o.kind) := one_at T.out.hq
    have f0 : wc.frozen? ⟨q, 0, none⟩ = false := one_free T.out.hq
    have b1 : wc.cell? ⟨q, 1, none⟩ = some (.int .i64 o.book) := one_at T.out.hq
    have f1 : wc.frozen? ⟨q, 1, none⟩ = false := one_free T.out.hq
    have b2 : wc.cell? ⟨q, 2, none⟩ = some (.int .i64 o.units) := one_at T.out.hq
    have f2 : wc.frozen? ⟨q, 2, none⟩ = false := one_free T.out.hq
    have b3 : wc.cell? ⟨q, 3, none⟩ = some (.int .i64 o.cust) := one_at T.out.hq
    have f3 : wc.frozen? ⟨q, 3, none⟩ = false := one_free T.out.hq
    have b4 : wc.cell? ⟨q, 4, none⟩ = some (.int .i64 o.amount) := one_at T.out.hq
    have f4 : wc.frozen? ⟨q, 4, none⟩ = false := one_free T.out.hq
    go_wp2_with fail
    all_goals
      go_meet
      refine ⟨rfl, ?_⟩
      first
        | exact ⟨_, _, wn0 x, on0 o, two_set T.out rfl rfl⟩
        | exact ⟨_, _, wn1 x, on1 o, two_set T.out rfl rfl⟩
        | exact ⟨_, _, wn2 x, on2 o, two_set T.out rfl rfl⟩
        | exact ⟨_, _, wn3 x, on3 o, two_set T.out rfl rfl⟩
        | exact ⟨_, _, wn4 x, on4 o, two_set T.out rfl rfl⟩
        | exact ⟨_, _, wn5 x, on5 o, two_set T.out rfl rfl⟩
        | exact ⟨_, _, wn6 x, on6 o, two_set T.out rfl rfl⟩
        | exact ⟨_, _, wn7 x, on7 o, two_set T.out rfl rfl⟩
        | exact ⟨_, _, wn8 x, on8 o, two_set T.out rfl rfl⟩
  obtain ⟨rfl, y, z, hy, hz, T2⟩ := hcut
  obtain ⟨w1, hv⟩ : ∃ z, z = wc := ⟨_, rfl⟩
  subst hv
  have be1 : Hid _ := T2.be
  have hx1 : Hid _ := T2.bx
  have ho1 : Hid _ := T2.bo
  have hp1 : Hid _ := T2.hp
  have hq1 : Hid _ := T2.hq
  clear T T2 hne
  rcases Bool.eq_false_or_eq_true (may x) with hmx | hmx
  · rcases Bool.eq_false_or_eq_true (mayOp o) with hmo | hmo
    · go_wp2_with fail
      refine (told_any w1).mono ?_
      rintro e w2 ⟨rfl, b2⟩
      have be2 : Hid (Below w.heap.size w w2) := be1.out.trans (b2.mono be1.out.size)
      have hx2 := stay hx1 b2
      have ho2 := stay ho1 b2
      have hp2 := stay hp1 b2
      have hq2 := stay hq1 b2
      have chx2_0 : w2.cell? ⟨w.heap.size, 0, none⟩ = some (.int .i64 x.book) := one_at hx2.out
      have chx2_1 : w2.cell? ⟨w.heap.size, 1, none⟩ = some (.int .i64 x.cust) := one_at hx2.out
      have chx2_2 : w2.cell? ⟨w.heap.size, 2, none⟩ = some (.int .i64 x.dead) := one_at hx2.out
      have chx2_3 : w2.cell? ⟨w.heap.size, 3, none⟩ = some (.int .i64 x.u0) := one_at hx2.out
      have chx2_4 : w2.cell? ⟨w.heap.size, 4, none⟩ = some (.int .i64 x.u1) := one_at hx2.out
      have chx2_5 : w2.cell? ⟨w.heap.size, 5, none⟩ = some (.int .i64 x.u2) := one_at hx2.out
      have chx2_6 : w2.cell? ⟨w.heap.size, 6, none⟩ = some (.int .i64 x.price) := one_at hx2.out
      clear b2 be1 hx1 ho1 hp1 hq1
      go_wp2_with fail
      refine ((show Calls _ _ _ _ _ from by have M := may_any w2 x; rw [hmx] at M; exact M)).mono ?_
      rintro e w3 ⟨rfl, b3⟩
      have be3 : Hid (Below w.heap.size w w3) := be2.out.trans (b3.mono be2.out.size)
      have hx3 := stay hx2 b3
      have ho3 := stay ho2 b3
      have hp3 := stay hp2 b3
      have hq3 := stay hq2 b3
      have chp3_0 : w3.cell? ⟨p, 0, none⟩ = some (.int .i64 y.book) := one_at hp3.out
      have chp3_1 : w3.cell? ⟨p, 1, none⟩ = some (.int .i64 y.cust) := one_at hp3.out
      have chp3_2 : w3.cell? ⟨p, 2, none⟩ = some (.int .i64 y.dead) := one_at hp3.out
      have chp3_3 : w3.cell? ⟨p, 3, none⟩ = some (.int .i64 y.u0) := one_at hp3.out
      have chp3_4 : w3.cell? ⟨p, 4, none⟩ = some (.int .i64 y.u1) := one_at hp3.out
      have chp3_5 : w3.cell? ⟨p, 5, none⟩ = some (.int .i64 y.u2) := one_at hp3.out
      have chp3_6 : w3.cell? ⟨p, 6, none⟩ = some (.int .i64 y.price) := one_at hp3.out
      clear b3 be2 hx2 ho2 hp2 hq2
      go_wp2_with fail
      refine ((show Calls _ _ _ _ _ from by have M := may_any w3 y; rw [hy] at M; exact M)).mono ?_
      rintro e w4 ⟨rfl, b4⟩
      have be4 : Hid (Below w.heap.size w w4) := be3.out.trans (b4.mono be3.out.size)
      have hx4 := stay hx3 b4
      have ho4 := stay ho3 b4
      have hp4 := stay hp3 b4
      have hq4 := stay hq3 b4
      have cho4_0 : w4.cell? ⟨w.heap.size + 1, 0, none⟩ = some (.int .i64 o.kind) := one_at ho4.out
      have cho4_1 : w4.cell? ⟨w.heap.size + 1, 1, none⟩ = some (.int .i64 o.book) := one_at ho4.out
      have cho4_2 : w4.cell? ⟨w.heap.size + 1, 2, none⟩ = some (.int .i64 o.units) := one_at ho4.out
      have cho4_3 : w4.cell? ⟨w.heap.size + 1, 3, none⟩ = some (.int .i64 o.cust) := one_at ho4.out
      have cho4_4 : w4.cell? ⟨w.heap.size + 1, 4, none⟩ = some (.int .i64 o.amount) := one_at ho4.out
      clear b4 be3 hx3 ho3 hp3 hq3
      go_wp2_with fail
      refine ((show Calls _ _ _ _ _ from by have M := mayop_any w4 o; rw [hmo] at M; exact M)).mono ?_
      rintro e w5 ⟨rfl, b5⟩
      have be5 : Hid (Below w.heap.size w w5) := be4.out.trans (b5.mono be4.out.size)
      have hx5 := stay hx4 b5
      have ho5 := stay ho4 b5
      have hp5 := stay hp4 b5
      have hq5 := stay hq4 b5
      have chq5_0 : w5.cell? ⟨q, 0, none⟩ = some (.int .i64 z.kind) := one_at hq5.out
      have chq5_1 : w5.cell? ⟨q, 1, none⟩ = some (.int .i64 z.book) := one_at hq5.out
      have chq5_2 : w5.cell? ⟨q, 2, none⟩ = some (.int .i64 z.units) := one_at hq5.out
      have chq5_3 : w5.cell? ⟨q, 3, none⟩ = some (.int .i64 z.cust) := one_at hq5.out
      have chq5_4 : w5.cell? ⟨q, 4, none⟩ = some (.int .i64 z.amount) := one_at hq5.out
      clear b5 be4 hx4 ho4 hp4 hq4
      go_wp2_with fail
      refine ((show Calls _ _ _ _ _ from by have M := mayop_any w5 z; rw [hz] at M; exact M)).mono ?_
      rintro e w6 ⟨rfl, b6⟩
      have be6 : Hid (Below w.heap.size w w6) := be5.out.trans (b6.mono be5.out.size)
      have hx6 := stay hx5 b6
      have ho6 := stay ho5 b6
      have hp6 := stay hp5 b6
      have hq6 := stay hq5 b6
      have chx6_0 : w6.cell? ⟨w.heap.size, 0, none⟩ = some (.int .i64 x.book) := one_at hx6.out
      have chx6_1 : w6.cell? ⟨w.heap.size, 1, none⟩ = some (.int .i64 x.cust) := one_at hx6.out
      have chx6_6 : w6.cell? ⟨w.heap.size, 6, none⟩ = some (.int .i64 x.price) := one_at hx6.out
      clear b6 be5 hx5 ho5 hp5 hq5
      go_wp2_with fail
      refine ((show Calls _ _ _ _ _ from by have M := may_any w6 ⟨x.book, x.cust, 0, 0, 0, 0, x.price⟩; rw [nounits] at M; exact M)).mono ?_
      rintro e w7 ⟨rfl, b7⟩
      have be7 : Hid (Below w.heap.size w w7) := be6.out.trans (b7.mono be6.out.size)
      clear b7 be6
      go_wp2_with fail
      go_ret
      exact ⟨rfl, be7.out⟩
    · go_wp2_with fail
      refine (told_any w1).mono ?_
      rintro e w2 ⟨rfl, b2⟩
      have be2 : Hid (Below w.heap.size w w2) := be1.out.trans (b2.mono be1.out.size)
      have hx2 := stay hx1 b2
      have ho2 := stay ho1 b2
      have hp2 := stay hp1 b2
      have hq2 := stay hq1 b2
      have chx2_0 : w2.cell? ⟨w.heap.size, 0, none⟩ = some (.int .i64 x.book) := one_at hx2.out
      have chx2_1 : w2.cell? ⟨w.heap.size, 1, none⟩ = some (.int .i64 x.cust) := one_at hx2.out
      have chx2_2 : w2.cell? ⟨w.heap.size, 2, none⟩ = some (.int .i64 x.dead) := one_at hx2.out
      have chx2_3 : w2.cell? ⟨w.heap.size, 3, none⟩ = some (.int .i64 x.u0) := one_at hx2.out
      have chx2_4 : w2.cell? ⟨w.heap.size, 4, none⟩ = some (.int .i64 x.u1) := one_at hx2.out
      have chx2_5 : w2.cell? ⟨w.heap.size, 5, none⟩ = some (.int .i64 x.u2) := one_at hx2.out
      have chx2_6 : w2.cell? ⟨w.heap.size, 6, none⟩ = some (.int .i64 x.price) := one_at hx2.out
      clear b2 be1 hx1 ho1 hp1 hq1
      go_wp2_with fail
      refine ((show Calls _ _ _ _ _ from by have M := may_any w2 x; rw [hmx] at M; exact M)).mono ?_
      rintro e w3 ⟨rfl, b3⟩
      have be3 : Hid (Below w.heap.size w w3) := be2.out.trans (b3.mono be2.out.size)
      have hx3 := stay hx2 b3
      have ho3 := stay ho2 b3
      have hp3 := stay hp2 b3
      have hq3 := stay hq2 b3
      have chp3_0 : w3.cell? ⟨p, 0, none⟩ = some (.int .i64 y.book) := one_at hp3.out
      have chp3_1 : w3.cell? ⟨p, 1, none⟩ = some (.int .i64 y.cust) := one_at hp3.out
      have chp3_2 : w3.cell? ⟨p, 2, none⟩ = some (.int .i64 y.dead) := one_at hp3.out
      have chp3_3 : w3.cell? ⟨p, 3, none⟩ = some (.int .i64 y.u0) := one_at hp3.out
      have chp3_4 : w3.cell? ⟨p, 4, none⟩ = some (.int .i64 y.u1) := one_at hp3.out
      have chp3_5 : w3.cell? ⟨p, 5, none⟩ = some (.int .i64 y.u2) := one_at hp3.out
      have chp3_6 : w3.cell? ⟨p, 6, none⟩ = some (.int .i64 y.price) := one_at hp3.out
      clear b3 be2 hx2 ho2 hp2 hq2
      go_wp2_with fail
      refine ((show Calls _ _ _ _ _ from by have M := may_any w3 y; rw [hy] at M; exact M)).mono ?_
      rintro e w4 ⟨rfl, b4⟩
      have be4 : Hid (Below w.heap.size w w4) := be3.out.trans (b4.mono be3.out.size)
      have hx4 := stay hx3 b4
      have ho4 := stay ho3 b4
      have hp4 := stay hp3 b4
      have hq4 := stay hq3 b4
      have cho4_0 : w4.cell? ⟨w.heap.size + 1, 0, none⟩ = some (.int .i64 o.kind) := one_at ho4.out
      have cho4_1 : w4.cell? ⟨w.heap.size + 1, 1, none⟩ = some (.int .i64 o.book) := one_at ho4.out
      have cho4_2 : w4.cell? ⟨w.heap.size + 1, 2, none⟩ = some (.int .i64 o.units) := one_at ho4.out
      have cho4_3 : w4.cell? ⟨w.heap.size + 1, 3, none⟩ = some (.int .i64 o.cust) := one_at ho4.out
      have cho4_4 : w4.cell? ⟨w.heap.size + 1, 4, none⟩ = some (.int .i64 o.amount) := one_at ho4.out
      clear b4 be3 hx3 ho3 hp3 hq3
      go_wp2_with fail
      refine ((show Calls _ _ _ _ _ from by have M := mayop_any w4 o; rw [hmo] at M; exact M)).mono ?_
      rintro e w5 ⟨rfl, b5⟩
      have be5 : Hid (Below w.heap.size w w5) := be4.out.trans (b5.mono be4.out.size)
      have hx5 := stay hx4 b5
      have ho5 := stay ho4 b5
      have hp5 := stay hp4 b5
      have hq5 := stay hq4 b5
      have chx5_0 : w5.cell? ⟨w.heap.size, 0, none⟩ = some (.int .i64 x.book) := one_at hx5.out
      have chx5_1 : w5.cell? ⟨w.heap.size, 1, none⟩ = some (.int .i64 x.cust) := one_at hx5.out
      have chx5_6 : w5.cell? ⟨w.heap.size, 6, none⟩ = some (.int .i64 x.price) := one_at hx5.out
      clear b5 be4 hx4 ho4 hp4 hq4
      go_wp2_with fail
      refine ((show Calls _ _ _ _ _ from by have M := may_any w5 ⟨x.book, x.cust, 0, 0, 0, 0, x.price⟩; rw [nounits] at M; exact M)).mono ?_
      rintro e w6 ⟨rfl, b6⟩
      have be6 : Hid (Below w.heap.size w w6) := be5.out.trans (b6.mono be5.out.size)
      clear b6 be5
      go_wp2_with fail
      go_ret
      exact ⟨rfl, be6.out⟩
  · rcases Bool.eq_false_or_eq_true (mayOp o) with hmo | hmo
    · go_wp2_with fail
      refine (told_any w1).mono ?_
      rintro e w2 ⟨rfl, b2⟩
      have be2 : Hid (Below w.heap.size w w2) := be1.out.trans (b2.mono be1.out.size)
      have hx2 := stay hx1 b2
      have ho2 := stay ho1 b2
      have hp2 := stay hp1 b2
      have hq2 := stay hq1 b2
      have chx2_0 : w2.cell? ⟨w.heap.size, 0, none⟩ = some (.int .i64 x.book) := one_at hx2.out
      have chx2_1 : w2.cell? ⟨w.heap.size, 1, none⟩ = some (.int .i64 x.cust) := one_at hx2.out
      have chx2_2 : w2.cell? ⟨w.heap.size, 2, none⟩ = some (.int .i64 x.dead) := one_at hx2.out
      have chx2_3 : w2.cell? ⟨w.heap.size, 3, none⟩ = some (.int .i64 x.u0) := one_at hx2.out
      have chx2_4 : w2.cell? ⟨w.heap.size, 4, none⟩ = some (.int .i64 x.u1) := one_at hx2.out
      have chx2_5 : w2.cell? ⟨w.heap.size, 5, none⟩ = some (.int .i64 x.u2) := one_at hx2.out
      have chx2_6 : w2.cell? ⟨w.heap.size, 6, none⟩ = some (.int .i64 x.price) := one_at hx2.out
      clear b2 be1 hx1 ho1 hp1 hq1
      go_wp2_with fail
      refine ((show Calls _ _ _ _ _ from by have M := may_any w2 x; rw [hmx] at M; exact M)).mono ?_
      rintro e w3 ⟨rfl, b3⟩
      have be3 : Hid (Below w.heap.size w w3) := be2.out.trans (b3.mono be2.out.size)
      have hx3 := stay hx2 b3
      have ho3 := stay ho2 b3
      have hp3 := stay hp2 b3
      have hq3 := stay hq2 b3
      have cho3_0 : w3.cell? ⟨w.heap.size + 1, 0, none⟩ = some (.int .i64 o.kind) := one_at ho3.out
      have cho3_1 : w3.cell? ⟨w.heap.size + 1, 1, none⟩ = some (.int .i64 o.book) := one_at ho3.out
      have cho3_2 : w3.cell? ⟨w.heap.size + 1, 2, none⟩ = some (.int .i64 o.units) := one_at ho3.out
      have cho3_3 : w3.cell? ⟨w.heap.size + 1, 3, none⟩ = some (.int .i64 o.cust) := one_at ho3.out
      have cho3_4 : w3.cell? ⟨w.heap.size + 1, 4, none⟩ = some (.int .i64 o.amount) := one_at ho3.out
      clear b3 be2 hx2 ho2 hp2 hq2
      go_wp2_with fail
      refine ((show Calls _ _ _ _ _ from by have M := mayop_any w3 o; rw [hmo] at M; exact M)).mono ?_
      rintro e w4 ⟨rfl, b4⟩
      have be4 : Hid (Below w.heap.size w w4) := be3.out.trans (b4.mono be3.out.size)
      have hx4 := stay hx3 b4
      have ho4 := stay ho3 b4
      have hp4 := stay hp3 b4
      have hq4 := stay hq3 b4
      have chq4_0 : w4.cell? ⟨q, 0, none⟩ = some (.int .i64 z.kind) := one_at hq4.out
      have chq4_1 : w4.cell? ⟨q, 1, none⟩ = some (.int .i64 z.book) := one_at hq4.out
      have chq4_2 : w4.cell? ⟨q, 2, none⟩ = some (.int .i64 z.units) := one_at hq4.out
      have chq4_3 : w4.cell? ⟨q, 3, none⟩ = some (.int .i64 z.cust) := one_at hq4.out
      have chq4_4 : w4.cell? ⟨q, 4, none⟩ = some (.int .i64 z.amount) := one_at hq4.out
      clear b4 be3 hx3 ho3 hp3 hq3
      go_wp2_with fail
      refine ((show Calls _ _ _ _ _ from by have M := mayop_any w4 z; rw [hz] at M; exact M)).mono ?_
      rintro e w5 ⟨rfl, b5⟩
      have be5 : Hid (Below w.heap.size w w5) := be4.out.trans (b5.mono be4.out.size)
      have hx5 := stay hx4 b5
      have ho5 := stay ho4 b5
      have hp5 := stay hp4 b5
      have hq5 := stay hq4 b5
      have chx5_0 : w5.cell? ⟨w.heap.size, 0, none⟩ = some (.int .i64 x.book) := one_at hx5.out
      have chx5_1 : w5.cell? ⟨w.heap.size, 1, none⟩ = some (.int .i64 x.cust) := one_at hx5.out
      have chx5_6 : w5.cell? ⟨w.heap.size, 6, none⟩ = some (.int .i64 x.price) := one_at hx5.out
      clear b5 be4 hx4 ho4 hp4 hq4
      go_wp2_with fail
      refine ((show Calls _ _ _ _ _ from by have M := may_any w5 ⟨x.book, x.cust, 0, 0, 0, 0, x.price⟩; rw [nounits] at M; exact M)).mono ?_
      rintro e w6 ⟨rfl, b6⟩
      have be6 : Hid (Below w.heap.size w w6) := be5.out.trans (b6.mono be5.out.size)
      clear b6 be5
      go_wp2_with fail
      go_ret
      exact ⟨rfl, be6.out⟩
    · go_wp2_with fail
      refine (told_any w1).mono ?_
      rintro e w2 ⟨rfl, b2⟩
      have be2 : Hid (Below w.heap.size w w2) := be1.out.trans (b2.mono be1.out.size)
      have hx2 := stay hx1 b2
      have ho2 := stay ho1 b2
      have hp2 := stay hp1 b2
      have hq2 := stay hq1 b2
      have chx2_0 : w2.cell? ⟨w.heap.size, 0, none⟩ = some (.int .i64 x.book) := one_at hx2.out
      have chx2_1 : w2.cell? ⟨w.heap.size, 1, none⟩ = some (.int .i64 x.cust) := one_at hx2.out
      have chx2_2 : w2.cell? ⟨w.heap.size, 2, none⟩ = some (.int .i64 x.dead) := one_at hx2.out
      have chx2_3 : w2.cell? ⟨w.heap.size, 3, none⟩ = some (.int .i64 x.u0) := one_at hx2.out
      have chx2_4 : w2.cell? ⟨w.heap.size, 4, none⟩ = some (.int .i64 x.u1) := one_at hx2.out
      have chx2_5 : w2.cell? ⟨w.heap.size, 5, none⟩ = some (.int .i64 x.u2) := one_at hx2.out
      have chx2_6 : w2.cell? ⟨w.heap.size, 6, none⟩ = some (.int .i64 x.price) := one_at hx2.out
      clear b2 be1 hx1 ho1 hp1 hq1
      go_wp2_with fail
      refine ((show Calls _ _ _ _ _ from by have M := may_any w2 x; rw [hmx] at M; exact M)).mono ?_
      rintro e w3 ⟨rfl, b3⟩
      have be3 : Hid (Below w.heap.size w w3) := be2.out.trans (b3.mono be2.out.size)
      have hx3 := stay hx2 b3
      have ho3 := stay ho2 b3
      have hp3 := stay hp2 b3
      have hq3 := stay hq2 b3
      have cho3_0 : w3.cell? ⟨w.heap.size + 1, 0, none⟩ = some (.int .i64 o.kind) := one_at ho3.out
      have cho3_1 : w3.cell? ⟨w.heap.size + 1, 1, none⟩ = some (.int .i64 o.book) := one_at ho3.out
      have cho3_2 : w3.cell? ⟨w.heap.size + 1, 2, none⟩ = some (.int .i64 o.units) := one_at ho3.out
      have cho3_3 : w3.cell? ⟨w.heap.size + 1, 3, none⟩ = some (.int .i64 o.cust) := one_at ho3.out
      have cho3_4 : w3.cell? ⟨w.heap.size + 1, 4, none⟩ = some (.int .i64 o.amount) := one_at ho3.out
      clear b3 be2 hx2 ho2 hp2 hq2
      go_wp2_with fail
      refine ((show Calls _ _ _ _ _ from by have M := mayop_any w3 o; rw [hmo] at M; exact M)).mono ?_
      rintro e w4 ⟨rfl, b4⟩
      have be4 : Hid (Below w.heap.size w w4) := be3.out.trans (b4.mono be3.out.size)
      have hx4 := stay hx3 b4
      have ho4 := stay ho3 b4
      have hp4 := stay hp3 b4
      have hq4 := stay hq3 b4
      have chx4_0 : w4.cell? ⟨w.heap.size, 0, none⟩ = some (.int .i64 x.book) := one_at hx4.out
      have chx4_1 : w4.cell? ⟨w.heap.size, 1, none⟩ = some (.int .i64 x.cust) := one_at hx4.out
      have chx4_6 : w4.cell? ⟨w.heap.size, 6, none⟩ = some (.int .i64 x.price) := one_at hx4.out
      clear b4 be3 hx3 ho3 hp3 hq3
      go_wp2_with fail
      refine ((show Calls _ _ _ _ _ from by have M := may_any w4 ⟨x.book, x.cust, 0, 0, 0, 0, x.price⟩; rw [nounits] at M; exact M)).mono ?_
      rintro e w5 ⟨rfl, b5⟩
      have be5 : Hid (Below w.heap.size w w5) := be4.out.trans (b5.mono be4.out.size)
      clear b5 be4
      go_wp2_with fail
      go_ret
      exact ⟨rfl, be5.out⟩


/-! The row: every input. -/
set_option linter.unusedVariables false
set_option maxRecDepth 100000 in
theorem lifted (os : Os) (started : os.Started) (H : Type) (enc : TypeId × Value → H) :
    ReturnsInHanded {} Try.checked os 6 .any (Rows.wantBoundsSpec.pre6 enc Try.prog Try.f6 Rows.wantBoundsRow.domain false) (Rows.wantBoundsSpec.post enc Try.prog Try.f6 false true false false) := by
  refine returnsInHanded_of_change (C := Try.checked) own started (by kernel_rfl) Try.func6
    (ChangeSpec.witness6 (enc := enc) (C := Try.checked) false ⟨#[], #[.agg #[.int .i64 0, .int .i64 0, .int .i64 0, .int .i64 0, .int .i64 0, .int .i64 0, .int .i64 0], .agg #[.int .i64 0, .int .i64 0, .int .i64 0, .int .i64 0, .int .i64 0], .int .i64 0], []⟩ 8 (by kernel_rfl) (by kernel_rfl) (by kernel_rfl) (by kernel_rfl)) ?_
  intro W base args ds gs before hval0 hW _ _
  have hval : ∀ (j : Nat) t v, Try.f6.params[j]? = some t → args[j]? = some v → Value.okWide Try.prog W .any base t v := hval0
  have hW' := hW
  obtain ⟨p, q, hA0, hV, rfl, hfz, hnd⟩ := hW
  have hA : DataW.TrodAll enc Try.prog W 0 (fun _ => true) true Try.f6.params.toList args.toList ds p := hA0
  rw [Try.params6] at hA hval
  obtain ⟨v0, vs0, d0, ds0, p0, q0, hargs, rfl, rfl, h0, r0⟩ := trodAll_cons hA
  obtain ⟨v1, vs1, d1, ds1, p1, q1, rfl, rfl, rfl, h1, r1⟩ := trodAll_cons r0
  obtain ⟨v2, vs2, d2, ds2, p2, q2, rfl, rfl, rfl, h2, r2⟩ := trodAll_cons r1
  obtain ⟨rfl, rfl, rfl⟩ := trodAll_nil r2
  obtain rfl : args = #[v0, v1, v2] := by cases args; simp_all
  obtain ⟨rfl, rfl⟩ := trodVars_none hV
  obtain ⟨x0, rfl, w0⟩ := view_want (hval 0 24 v0 rfl rfl) h0
  obtain ⟨x1, rfl, w1⟩ := view_op (hval 1 35 v1 rfl rfl) h1
  obtain ⟨a2, rfl, rfl, rfl, w2⟩ := open_int Try.underlying3 (hval 2 3 v2 rfl rfl) h2
  clear hA0 hval0
  simp only [List.append_nil] at hW'
  refine (walk x0 x1 a2 W).mono fun e W' ⟨he, hb⟩ => ?_
  subst he
  exact ⟨_, rfl, post_below (pa := p0 ++ (p1 ++ ([] ++ []))) (pv := []) hW' (fun _ _ _ => (trodAll_cons_mk (shut_bool Try.underlying4 _) trodAll_mk0)) (fun sp hsp => (trodAll_cons_mk (Trod_stays laidOut (by kernel_rfl) (of_decide_eq_true (by kernel_rfl)) h0 (fun x hx => hb.same (hW'.lt x (by simp [hx]))) (fun x hx => hsp x (by simp [hx]))) (trodAll_cons_mk (Trod_stays laidOut (by kernel_rfl) (of_decide_eq_true (by kernel_rfl)) h1 (fun x hx => hb.same (hW'.lt x (by simp [hx]))) (fun x hx => hsp x (by simp [hx]))) (trodAll_cons_mk (shut_int Try.underlying3 w2) trodAll_mk0)))) (fun _ _ => rfl) (by simp)
    hb (ok_one (by kernel_rfl) rfl (okWide_bool_mk Try.underlying4 _))⟩

theorem proved : Rows.WantBoundsSaid :=
  OpenClaim.holds_of_wide 6 Try.f6 rfl rfl rfl rfl rfl rfl rfl ⟨rfl, rfl, rfl, rfl, rfl⟩ rfl rfl rfl rfl rfl (by kernel_rfl) Try.func6 (by kernel_rfl)
    (of_decide_eq_true (by kernel_rfl)) (by unfold Func.isWrapper; first | (rw [if_pos (by decide +kernel)]; kernel_rfl) | (rw [if_neg (by decide +kernel)]; exact ⟨rfl, rfl⟩))
    (fun os started H enc _ => lifted os started H enc)
#print axioms proved

end Go.Proofs.Ytmmediadgoejpaa.wantBounds
