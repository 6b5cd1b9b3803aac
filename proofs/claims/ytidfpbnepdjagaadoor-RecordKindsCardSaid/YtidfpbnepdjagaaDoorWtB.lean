/- The document's May, and what may be asked of a participant. -/
import Derived.Test.YtidfpbnepdjagaaDoorWtA
import Derived.Deep.CutRange
import Derived.Deep.CutBlock
import Derived.Deep.QuietTactic
import Derived.BigQuiet
namespace Go.Proofs.YtidfpbnepdjagaaDoor
open Go.RowKit Go.Proofs.YtidfpbnepdjagaaDoor.Pk
namespace Wt
theorem may_units {x : Wan} (h : mayU x.u0 x.u1 x.u2 = false) : may x = false := by unfold may; simp [h]
set_option maxHeartbeats 1600000 in
theorem refmay_any (w : World) (x : Wan) :
    Calls Tryd.prog 41 #[.agg #[.int .i64 x.book, .int .i64 x.cust, .int .i64 x.dead, .int .i64 x.u0, .int .i64 x.u1, .int .i64 x.u2, .int .i64 x.price]] w fun e w' => e = .returned (.bool (may x)) ∧ Below w.heap.size w w' := by
  have be : Hid (Below w.heap.size w (w.alloc (.cells #[.int .i64 x.book, .int .i64 x.cust, .int .i64 x.dead, .int .i64 x.u0, .int .i64 x.u1, .int .i64 x.u2, .int .i64 x.price] 26))) := (Below.refl _ w).alloc (Nat.le_refl _) _
  go_enter Tryd.func41, Tryd.ntmps41
  go_upto_block 0 with fail
  go_cut [3] from 4 to 28 (fun s3 wx => s3 = .bool (mayU x.u0 x.u1 x.u2) ∧ wx = w.alloc (.cells #[.int .i64 x.book, .int .i64 x.cust, .int .i64 x.dead, .int .i64 x.u0, .int .i64 x.u1, .int .i64 x.u2, .int .i64 x.price] 26) ∧ 0 ≤ x.u0 ∧ x.u0 ≤ 1000 ∧ 0 ≤ x.u1 ∧ x.u1 ≤ 1000 ∧ 0 ≤ x.u2 ∧ x.u2 ≤ 1000)
  case first =>
    go_wp2_with fail
    refine wp_loop_rounds 4 ?_
    repeat any_goals (rw [rounds_succ]; go_wp2_with fail)
    all_goals
      first
        | (go_ret
           refine ⟨?_, be.out⟩
           show Ending.returned (.bool false) = _
           rw [may_units (by unfold mayU; rw [decide_eq_false_iff_not]; omega)])
        | (go_meet
           refine ⟨?_, rfl, by omega, by omega, by omega, by omega, by omega, by omega⟩
           show Value.bool _ = Value.bool _
           congr 1
           unfold mayU
           rw [Bool.eq_iff_iff]
           simp only [Bool.or_eq_true, decide_eq_true_iff, eq_self, true_iff]
           omega)
  case rest =>
    obtain ⟨rfl, rfl, h0, h1, h2, h3, h4, h5⟩ := hcut
    go_wp2_with fail
    all_goals
      go_ret
      refine ⟨?_, be.out⟩
      show Ending.returned (Value.bool _) = Ending.returned (Value.bool _)
      congr 2
      rw [Bool.eq_iff_iff]
      simp only [may, inR, Bool.and_eq_true, decide_eq_true_iff, Bool.false_eq_true, false_iff, *]
      first | done | omega | (simp; done) | (simp; omega)

/-- An operation. -/
structure Opn where
  kind : Int
  book : Int
  units : Int
  cust : Int
  amount : Int
deriving DecidableEq
def mayOp (o : Opn) : Bool := inR o.book 1 200 && (if o.kind = 1 then inR o.units 1 1000 && (o.cust == 0 && o.amount == 0) else if o.kind = 4 then o.units == 0 && inR o.cust 0 3 && inR o.amount 0 1099511627776 else if o.kind = 2 ∨ o.kind = 3 ∨ o.kind = 5 ∨ o.kind = 6 then o.units == 0 && (o.cust == 0 && o.amount == 0) else false)
set_option maxHeartbeats 1600000 in
theorem mayop_any (w : World) (o : Opn) :
    Calls Tryd.prog 23 #[.agg #[.int .i64 o.kind, .int .i64 o.book, .int .i64 o.units, .int .i64 o.cust, .int .i64 o.amount]] w fun e w' => e = .returned (.bool (mayOp o)) ∧ Below w.heap.size w w' := by
  have be : Hid (Below w.heap.size w (w.alloc (.cells #[.int .i64 o.kind, .int .i64 o.book, .int .i64 o.units, .int .i64 o.cust, .int .i64 o.amount] 23))) := (Below.refl _ w).alloc (Nat.le_refl _) _
  by_cases hb : inR o.book 1 200 = true
  case neg =>
    replace hb : inR o.book 1 200 = false := by simpa using hb
    have F : Hid (mayOp o = false) := by unfold Hid mayOp; simp [hb]
    go_enter Tryd.func23, Tryd.ntmps23
    go_wp2_with (go_at_call 52; ((with_reducible refine (within_any _ _ _ _).mono ?_); rintro e w' ⟨rfl, rfl⟩))
    go_ret
    rw [F.out]
    exact ⟨rfl, be.out⟩
  case pos =>
    rcases Bool.eq_false_or_eq_true (o.cust == 0) with hc | hc
    all_goals
      go_enter Tryd.func23, Tryd.ntmps23
      go_wp2_with (go_at_call 52; ((with_reducible refine (within_any _ _ _ _).mono ?_); rintro e w' ⟨rfl, rfl⟩))
      go_quiet (fail)
      go_wp2_with (first | (go_at_call 52; ((with_reducible refine (within_any _ _ _ _).mono ?_); rintro e w' ⟨rfl, rfl⟩)) | (go_at_call 53; ((with_reducible refine (within64_any _ _ _ _).mono ?_); rintro e w' ⟨rfl, rfl⟩)))
      all_goals
        go_ret
        refine ⟨?_, Below.trans (Below.alloc (Below.refl _ w) (Nat.le_refl _) _) (below_drewN _ _ (by simp))⟩
        show Ending.returned (Value.bool _) = Ending.returned (Value.bool _)
        congr 2
        simp_all [mayOp]
end Wt
end Go.Proofs.YtidfpbnepdjagaaDoor
