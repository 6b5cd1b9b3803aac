/- Part of the claim: ReB -/
import Derived.Test.YtpkdigegkemogaaGreatDoorReXaT
import Derived.Test.YtpkdigegkemogaaGreatDoorSgXbT
namespace Go.Proofs.YtpkdigegkemogaaGreatDoor
set_option maxRecDepth 100000
open Go.RowKit
open Go.Proofs.YtpkdigegkemogaaGreatDoor.Pk (one_at one_free one_set lt_some)
namespace Re
open Go.Proofs.YtpkdigegkemogaaGreatDoor.Sg (Sag sz smay sgc sgv eq_sag rsmay_any)
open Wt (Wan Opn mayOp refmayop_any inR)

theorem rmay_out {r : Rec} (h : r.now < 0 ∨ 1099511627776 < r.now) : rmay r = false := by
  unfold rmay inR
  rw [decide_eq_false (by omega)]
  rfl
theorem rmay_in {r : Rec} (h0 : 0 ≤ r.now) (h1 : r.now ≤ 1099511627776) : rmay r =
    (if r.kd = 1 then mayOp r.op && (r.an == 1 || r.an == 2) && decide (r.sg = sz)
    else if r.kd = 2 then decide (r.op = o0) && r.an == 0 && decide (r.sg = sz)
    else if r.kd = 3 then decide (r.op = o0) && r.an == 0 && smay r.sg
    else false) := by
  unfold rmay inR
  rw [decide_eq_true ⟨h0, h1⟩]
  rfl
theorem rmay_1 {r : Rec} (h0 : 0 ≤ r.now) (h1 : r.now ≤ 1099511627776) (k : r.kd = 1) : rmay r = (mayOp r.op && (r.an == 1 || r.an == 2) && decide (r.sg = sz)) := by rw [rmay_in h0 h1, if_pos k]
theorem rmay_2 {r : Rec} (h0 : 0 ≤ r.now) (h1 : r.now ≤ 1099511627776) (k : r.kd = 2) : rmay r = (decide (r.op = o0) && r.an == 0 && decide (r.sg = sz)) := by rw [rmay_in h0 h1, if_neg (by omega), if_pos k]
theorem rmay_3 {r : Rec} (h0 : 0 ≤ r.now) (h1 : r.now ≤ 1099511627776) (k : r.kd = 3) : rmay r = (decide (r.op = o0) && r.an == 0 && smay r.sg) := by rw [rmay_in h0 h1, if_neg (by omega), if_neg (by omega), if_pos k]
theorem rmay_4 {r : Rec} (h0 : 0 ≤ r.now) (h1 : r.now ≤ 1099511627776) (k1 : r.kd ≠ 1) (k2 : r.kd ≠ 2) (k3 : r.kd ≠ 3) : rmay r = false := by rw [rmay_in h0 h1, if_neg k1, if_neg k2, if_neg k3]

set_option maxHeartbeats 12800000 in
theorem rmayrec_any (w : World) (r : Rec) : Calls Tryz.prog 24 #[rcv r] w fun e w' => e = .returned (.bool (rmay r)) ∧ Below w.heap.size w w' := by
  obtain ⟨w0, e0⟩ : ∃ z, z = w.alloc (.cells (rcc r) 64) := ⟨_, rfl⟩
  have be0 : Hid (Below w.heap.size w w0) := by rw [e0]; exact (Below.refl _ w).alloc (Nat.le_refl _) _
  have hB : BoxR w0 w.heap.size r := by rw [e0]; exact heap_alloc_new _ _
  have ES : ∀ w, (Op.equalIn 10000 57 (.agg #[.int .i64 r.sg.w.book, .int .i64 r.sg.w.cust, .int .i64 r.sg.w.dead, .int .i64 r.sg.w.u0, .int .i64 r.sg.w.u1, .int .i64 r.sg.w.u2, .int .i64 r.sg.w.price, .int .i64 r.sg.ph, .int .i64 r.sg.st, .int .i64 r.sg.rs, .int .i64 r.sg.si]) (.agg #[.int .i64 0, .int .i64 0, .int .i64 0, .int .i64 0, .int .i64 0, .int .i64 0, .int .i64 0, .int .i64 0, .int .i64 0, .int .i64 0, .int .i64 0])).run Tryz.prog w = .ok (decide (r.sg = sz)) w := fun w => eq_sag w r.sg sz
  have EO : ∀ w, (Op.equalIn 10000 34 (.agg #[.int .i64 r.op.kind, .int .i64 r.op.book, .int .i64 r.op.units, .int .i64 r.op.cust, .int .i64 r.op.amount]) (.agg #[.int .i64 0, .int .i64 0, .int .i64 0, .int .i64 0, .int .i64 0])).run Tryz.prog w = .ok (decide (r.op = o0)) w := fun w => eq_op10 w r.op o0
  have MO : ∀ w, Calls Tryz.prog 6 #[.agg #[.int .i64 r.op.kind, .int .i64 r.op.book, .int .i64 r.op.units, .int .i64 r.op.cust, .int .i64 r.op.amount]] w fun e w' => e = .returned (.bool (mayOp r.op)) ∧ Below w.heap.size w w' := fun w => refmayop_any w r.op
  have MS : ∀ w, Calls Tryz.prog 44 #[.agg #[.int .i64 r.sg.w.book, .int .i64 r.sg.w.cust, .int .i64 r.sg.w.dead, .int .i64 r.sg.w.u0, .int .i64 r.sg.w.u1, .int .i64 r.sg.w.u2, .int .i64 r.sg.w.price, .int .i64 r.sg.ph, .int .i64 r.sg.st, .int .i64 r.sg.rs, .int .i64 r.sg.si]] w fun e w' => e = .returned (.bool (smay r.sg)) ∧ Below w.heap.size w w' := fun w => rsmay_any w r.sg
  have CB : Hid (∀ w', Below w0.heap.size w0 w' → CellR w' w.heap.size r) := fun w' h => (hB.below h).cells
  have hsz : w.heap.size < w0.heap.size := hB.lt
  obtain ⟨c0, c1, c2, c3, c4, c5, c6, c7, c8, c9, c10, c11, c12, c13, c14, c15, c16, c17, c18⟩ := hB.cells
  have F1 := Lib.hid (@rmay_out r)
  unfold rcv rcc at *
  replace e0 := Lib.hid e0
  clear hB
  rcases Int.lt_or_le r.now 0 with h0 | h0
  · have F := Lib.hid (F1.out (.inl h0))
    clear MO MS CB ES EO F1
    go_enter Tryz.func24, Tryz.ntmps24
    go_upto_region 1 with fail
    rw [← e0.out]
    go_wp2
    go_ret
    rw [F.out]
    exact ⟨rfl, be0.out⟩
  rcases Int.lt_or_le 1099511627776 r.now with h1 | h1
  · have F := Lib.hid (F1.out (.inr h1))
    clear MO MS CB ES EO F1
    go_enter Tryz.func24, Tryz.ntmps24
    go_upto_region 1 with fail
    rw [← e0.out]
    go_wp2
    go_ret
    rw [F.out]
    exact ⟨rfl, be0.out⟩
  clear F1
  by_cases k1 : r.kd = 1
  · have F := Lib.hid (rmay_1 h0 h1 k1)
    rw [k1] at c0
    clear EO MS k1
    generalize decide (r.sg = sz) = ds at ES F
    cases hm : mayOp r.op with
    | false =>
      rw [hm] at F MO
      clear ES hm CB
      go_enter Tryz.func24, Tryz.ntmps24
      go_upto_region 1 with fail
      rw [← e0.out]
      go_wp2_with fail
      refine (MO _).mono ?_
      rintro e w1 ⟨rfl, h⟩
      have be1 : Hid (Below w.heap.size w w1) := be0.out.trans (h.mono be0.out.size)
      clear MO h c0 c1 c2 c3 c4 c5 c6 c7 c8 c9 c10 c11 c12 c13 c14 c15 c16 c17 c18
      go_wp2
      go_ret
      rw [F.out]
      exact ⟨rfl, be1.out⟩
    | true =>
      rw [hm] at F MO
      clear hm
      go_enter Tryz.func24, Tryz.ntmps24
      go_upto_region 1 with fail
      rw [← e0.out]
      go_wp2_with fail
      refine (MO _).mono ?_
      rintro e w1 ⟨rfl, h⟩
      have be1 : Hid (Below w.heap.size w w1) := be0.out.trans (h.mono be0.out.size)
      have hsz1 : w.heap.size < w1.heap.size := Nat.lt_of_lt_of_le hsz h.size
      clear c0 c1 c2 c3 c4 c5 c6 c7 c8 c9 c10 c11 c12 c13 c14 c15 c16 c17 c18
      obtain ⟨c0, c1, c2, c3, c4, c5, c6, c7, c8, c9, c10, c11, c12, c13, c14, c15, c16, c17, c18⟩ := CB.out _ h
      clear MO h CB hsz e0
      by_cases a1 : r.an = 1
      · rw [a1] at c2 F
        cases ds with
        | false =>
          go_wp2
          go_ret
          rw [F.out]
          exact ⟨rfl, be1.out⟩
        | true =>
          go_wp2
          go_ret
          rw [F.out]
          exact ⟨rfl, be1.out⟩
      by_cases a2 : r.an = 2
      · rw [a2] at c2 F
        cases ds with
        | false =>
          go_wp2
          go_ret
          rw [F.out]
          exact ⟨rfl, be1.out⟩
        | true =>
          go_wp2
          go_ret
          rw [F.out]
          exact ⟨rfl, be1.out⟩
      have F2 : rmay r = false := by rw [F.out]; simp [a1, a2]
      replace F2 := Lib.hid F2
      clear F
      go_wp2
      go_ret
      rw [F2.out]
      exact ⟨rfl, be1.out⟩
  by_cases k2 : r.kd = 2
  · have F := Lib.hid (rmay_2 h0 h1 k2)
    rw [k2] at c0
    clear MO MS k1 k2 CB
    generalize decide (r.sg = sz) = ds at ES F
    generalize decide (r.op = o0) = dop at EO F
    by_cases a0 : r.an = 0
    · rw [a0] at c2 F
      clear a0
      cases ds <;> cases dop
      all_goals
        go_enter Tryz.func24, Tryz.ntmps24
        go_upto_region 1 with fail
        rw [← e0.out]
        go_wp2
        go_ret
        rw [F.out]
        exact ⟨rfl, be0.out⟩
    · have F2 : rmay r = false := by rw [F.out]; simp [a0]
      replace F2 := Lib.hid F2
      clear F
      cases dop
      all_goals
        go_enter Tryz.func24, Tryz.ntmps24
        go_upto_region 1 with fail
        rw [← e0.out]
        go_wp2
        go_ret
        rw [F2.out]
        exact ⟨rfl, be0.out⟩
  by_cases k3 : r.kd = 3
  · have F := Lib.hid (rmay_3 h0 h1 k3)
    rw [k3] at c0
    clear MO ES k1 k2 k3 CB
    generalize decide (r.op = o0) = dop at EO F
    by_cases a0 : r.an = 0
    · rw [a0] at c2 F
      clear a0
      cases dop with
      | false =>
        go_enter Tryz.func24, Tryz.ntmps24
        go_upto_region 1 with fail
        rw [← e0.out]
        go_wp2
        go_ret
        rw [F.out]
        exact ⟨rfl, be0.out⟩
      | true =>
        go_enter Tryz.func24, Tryz.ntmps24
        go_upto_region 1 with fail
        rw [← e0.out]
        go_wp2_with fail
        refine (MS _).mono ?_
        rintro e w1 ⟨rfl, h⟩
        have be1 : Hid (Below w.heap.size w w1) := be0.out.trans (h.mono be0.out.size)
        clear MS h EO c0 c1 c2 c3 c4 c5 c6 c7 c8 c9 c10 c11 c12 c13 c14 c15 c16 c17 c18
        cases hm : smay r.sg with
        | false =>
          rw [hm] at F
          go_wp2
          go_ret
          rw [F.out]
          exact ⟨rfl, be1.out⟩
        | true =>
          rw [hm] at F
          go_wp2
          go_ret
          rw [F.out]
          exact ⟨rfl, be1.out⟩
    · have F2 : rmay r = false := by rw [F.out]; simp [a0]
      replace F2 := Lib.hid F2
      clear F
      cases dop
      all_goals
        go_enter Tryz.func24, Tryz.ntmps24
        go_upto_region 1 with fail
        rw [← e0.out]
        go_wp2
        go_ret
        rw [F2.out]
        exact ⟨rfl, be0.out⟩
  have F := Lib.hid (rmay_4 h0 h1 k1 k2 k3)
  clear MO MS ES EO CB
  go_enter Tryz.func24, Tryz.ntmps24
  go_upto_region 1 with fail
  rw [← e0.out]
  go_wp2
  go_ret
  rw [F.out]
  exact ⟨rfl, be0.out⟩
end Re
end Go.Proofs.YtpkdigegkemogaaGreatDoor
