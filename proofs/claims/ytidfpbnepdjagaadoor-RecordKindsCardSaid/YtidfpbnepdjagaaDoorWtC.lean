/- The document's MayOp. -/
import Derived.Test.YtidfpbnepdjagaaDoorWtB
namespace Go.Proofs.YtidfpbnepdjagaaDoor
open Go.RowKit Go.Proofs.YtidfpbnepdjagaaDoor.Pk
namespace Wt
theorem mayop_out {o : Opn} (h : o.kind < 1 ∨ 6 < o.kind ∨ o.book < 1 ∨ 200 < o.book) : mayOp o = false := by
  unfold mayOp inR
  by_cases hb : 1 ≤ o.book ∧ o.book ≤ 200
  · rw [if_neg (by omega), if_neg (by omega), if_neg (by omega)]
    simp
  · rw [decide_eq_false hb]
    rfl
theorem mayop_in {o : Opn} (h1 : 1 ≤ o.kind) (h6 : o.kind ≤ 6) (b1 : 1 ≤ o.book) (b2 : o.book ≤ 200) :
    mayOp o = ((if o.kind = 1 then inR o.units 1 1000 else o.units == 0) && (if o.kind = 4 then inR o.cust 0 3 && inR o.amount 0 1099511627776 else o.cust == 0 && o.amount == 0)) := by
  have hb : inR o.book 1 200 = true := by unfold inR; rw [decide_eq_true_iff]; omega
  unfold mayOp
  rw [hb]
  by_cases k1 : o.kind = 1
  · rw [if_pos k1, if_pos k1, if_neg (by omega)]; rfl
  · by_cases k4 : o.kind = 4
    · rw [if_neg k1, if_neg k1, if_pos k4, if_pos k4]; simp [Bool.and_assoc]
    · rw [if_neg k1, if_neg k1, if_neg k4, if_neg k4, if_pos (by omega)]; rfl
set_option maxHeartbeats 1600000 in
theorem refmayop_any (w : World) (o : Opn) :
    Calls Tryd.prog 14 #[.agg #[.int .i64 o.kind, .int .i64 o.book, .int .i64 o.units, .int .i64 o.cust, .int .i64 o.amount]] w fun e w' => e = .returned (.bool (mayOp o)) ∧ Below w.heap.size w w' := by
  have be : Hid (Below w.heap.size w (w.alloc (.cells #[.int .i64 o.kind, .int .i64 o.book, .int .i64 o.units, .int .i64 o.cust, .int .i64 o.amount] 23))) := (Below.refl _ w).alloc (Nat.le_refl _) _
  by_cases h : o.kind < 1 ∨ 6 < o.kind ∨ o.book < 1 ∨ 200 < o.book
  case pos =>
    have F := Lib.hid (mayop_out h)
    rcases Int.lt_or_le o.kind 1 with h1 | h1
    · clear h
      go_enter Tryd.func14, Tryd.ntmps14
      go_wp2
      go_ret
      rw [F.out]
      exact ⟨rfl, be.out⟩
    rcases Int.lt_or_le 6 o.kind with h2 | h2
    · clear h
      go_enter Tryd.func14, Tryd.ntmps14
      go_wp2
      go_ret
      rw [F.out]
      exact ⟨rfl, be.out⟩
    rcases Int.lt_or_le o.book 1 with h3 | h3
    · clear h
      go_enter Tryd.func14, Tryd.ntmps14
      go_wp2
      go_ret
      rw [F.out]
      exact ⟨rfl, be.out⟩
    · have h4 : 200 < o.book := by omega
      clear h
      go_enter Tryd.func14, Tryd.ntmps14
      go_wp2
      go_ret
      rw [F.out]
      exact ⟨rfl, be.out⟩
  case neg =>
    obtain ⟨h1, h2, h3, h4⟩ : 1 ≤ o.kind ∧ o.kind ≤ 6 ∧ 1 ≤ o.book ∧ o.book ≤ 200 := by omega
    have F := Lib.hid (mayop_in h1 h2 h3 h4)
    clear h
    rcases Bool.eq_false_or_eq_true (o.cust == 0) with hc | hc
    all_goals
      go_enter Tryd.func14, Tryd.ntmps14
      go_wp2_with fail
      go_quiet (fail)
      go_wp2_with fail
      all_goals
        go_ret
        refine ⟨?_, Below.trans (Below.alloc (Below.refl _ w) (Nat.le_refl _) _) (below_drewN _ _ (by simp))⟩
        rw [F.out]
        show Ending.returned (Value.bool _) = Ending.returned (Value.bool _)
        congr 2
        clear F be
        rw [Bool.eq_iff_iff]
        first
          | (simp_all [inR]; done)
          | (simp_all [inR] <;> omega)
          | (exfalso; simp_all; omega)
          | trace_state
end Wt
end Go.Proofs.YtidfpbnepdjagaaDoor
