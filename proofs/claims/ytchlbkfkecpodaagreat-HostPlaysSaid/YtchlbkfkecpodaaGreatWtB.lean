/- The document's May, and what may be asked of a participant. -/
import Derived.Test.YtchlbkfkecpodaaGreatWtA
import Derived.Deep.CutRange
import Derived.Deep.CutBlock
import Derived.Deep.QuietTactic
import Derived.BigQuiet
namespace Go.Proofs.YtchlbkfkecpodaaGreat
open Go.RowKit Go.Proofs.YtchlbkfkecpodaaGreat.Pk
namespace Wt
theorem may_units {x : Wan} (h : mayU x.u0 x.u1 x.u2 = false) : may x = false := by unfold may; simp [h]
/-- An operation. -/
structure Opn where
  kind : Int
  book : Int
  units : Int
  cust : Int
  amount : Int
deriving DecidableEq
def mayOp (o : Opn) : Bool := inR o.book 1 200 && (if o.kind = 1 then inR o.units 1 1000 && (o.cust == 0 && o.amount == 0) else if o.kind = 4 then o.units == 0 && inR o.cust 0 3 && inR o.amount 0 1099511627776 else if o.kind = 2 ∨ o.kind = 3 ∨ o.kind = 5 ∨ o.kind = 6 then o.units == 0 && (o.cust == 0 && o.amount == 0) else false)
set_option maxHeartbeats 1600000 in
theorem mayop_any (w : World) (o : Opn) :
    Calls Tryz.prog 39 #[.agg #[.int .i64 o.kind, .int .i64 o.book, .int .i64 o.units, .int .i64 o.cust, .int .i64 o.amount]] w fun e w' => e = .returned (.bool (mayOp o)) ∧ Below w.heap.size w w' := by
  have be : Hid (Below w.heap.size w (w.alloc (.cells #[.int .i64 o.kind, .int .i64 o.book, .int .i64 o.units, .int .i64 o.cust, .int .i64 o.amount] 43))) := (Below.refl _ w).alloc (Nat.le_refl _) _
  by_cases hb : inR o.book 1 200 = true
  case neg =>
    replace hb : inR o.book 1 200 = false := by simpa using hb
    have F : Hid (mayOp o = false) := by unfold Hid mayOp; simp [hb]
    go_enter Tryz.func39, Tryz.ntmps39
    go_wp2_with (go_at_call 57; ((with_reducible refine (within_any _ _ _ _).mono ?_); rintro e w' ⟨rfl, rfl⟩))
    go_ret
    rw [F.out]
    exact ⟨rfl, be.out⟩
  case pos =>
    rcases Bool.eq_false_or_eq_true (o.cust == 0) with hc | hc
    all_goals
      go_enter Tryz.func39, Tryz.ntmps39
      go_wp2_with (go_at_call 57; ((with_reducible refine (within_any _ _ _ _).mono ?_); rintro e w' ⟨rfl, rfl⟩))
      go_quiet (fail)
      go_wp2_with (first | (go_at_call 57; ((with_reducible refine (within_any _ _ _ _).mono ?_); rintro e w' ⟨rfl, rfl⟩)) | (go_at_call 58; ((with_reducible refine (within64_any _ _ _ _).mono ?_); rintro e w' ⟨rfl, rfl⟩)))
      all_goals
        go_ret
        refine ⟨?_, Below.trans (Below.alloc (Below.refl _ w) (Nat.le_refl _) _) (below_drewN _ _ (by simp))⟩
        show Ending.returned (Value.bool _) = Ending.returned (Value.bool _)
        congr 2
        simp_all [mayOp]
end Wt
end Go.Proofs.YtchlbkfkecpodaaGreat
