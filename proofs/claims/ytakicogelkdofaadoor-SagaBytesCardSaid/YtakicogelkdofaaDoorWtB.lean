/- The document's May, and what may be asked of a participant. -/
import Derived.Test.YtakicogelkdofaaDoorWtA
import Derived.Deep.CutRange
import Derived.Deep.CutBlock
import Derived.Deep.QuietTactic
import Derived.BigQuiet
namespace Go.Proofs.YtakicogelkdofaaDoor
open Go.RowKit Go.Proofs.YtakicogelkdofaaDoor.Pk
namespace Wt
theorem may_units {x : Wan} (h : mayU x.u0 x.u1 x.u2 = false) : may x = false := by unfold may; simp [h]
set_option maxHeartbeats 1600000 in
theorem refmay_any (w : World) (x : Wan) :
    Calls Tryd.prog 31 #[.agg #[.int .i64 x.book, .int .i64 x.cust, .int .i64 x.dead, .int .i64 x.u0, .int .i64 x.u1, .int .i64 x.u2, .int .i64 x.price]] w fun e w' => e = .returned (.bool (may x)) ∧ Below w.heap.size w w' := by
  have be : Hid (Below w.heap.size w (w.alloc (.cells #[.int .i64 x.book, .int .i64 x.cust, .int .i64 x.dead, .int .i64 x.u0, .int .i64 x.u1, .int .i64 x.u2, .int .i64 x.price] 24))) := (Below.refl _ w).alloc (Nat.le_refl _) _
  go_enter Tryd.func31, Tryd.ntmps31
  go_upto_block 0 with fail
  go_cut [3] from 4 to 28 (fun s3 wx => s3 = .bool (mayU x.u0 x.u1 x.u2) ∧ wx = w.alloc (.cells #[.int .i64 x.book, .int .i64 x.cust, .int .i64 x.dead, .int .i64 x.u0, .int .i64 x.u1, .int .i64 x.u2, .int .i64 x.price] 24) ∧ 0 ≤ x.u0 ∧ x.u0 ≤ 1000 ∧ 0 ≤ x.u1 ∧ x.u1 ≤ 1000 ∧ 0 ≤ x.u2 ∧ x.u2 ≤ 1000)
  case first =>
    go_wp2_with fail
    refine wp_loop_rounds 4 ?_
    repeat any_goals (rw [rounds_succ]; go_wp2_with fail)
    all_goals
      first
        | (go_ret
           refine ⟨?_, be.out⟩
           show Ending.returned (.bool false) = _
           rw [may_units (by unfold mayU; rw [decide_eq_false_iff_not]; omega)])
        | (go_meet
           refine ⟨?_, rfl, by omega, by omega, by omega, by omega, by omega, by omega⟩
           show Value.bool _ = Value.bool _
           congr 1
           unfold mayU
           rw [Bool.eq_iff_iff]
           simp only [Bool.or_eq_true, decide_eq_true_iff, eq_self, true_iff]
           omega)
  case rest =>
    obtain ⟨rfl, rfl, h0, h1, h2, h3, h4, h5⟩ := hcut
    go_wp2_with fail
    all_goals
      go_ret
      refine ⟨?_, be.out⟩
      show Ending.returned (Value.bool _) = Ending.returned (Value.bool _)
      congr 2
      rw [Bool.eq_iff_iff]
      simp only [may, inR, Bool.and_eq_true, decide_eq_true_iff, Bool.false_eq_true, false_iff, *]
      first | done | omega | (simp; done) | (simp; omega)

/-- An operation. -/
structure Opn where
  kind : Int
  book : Int
  units : Int
  cust : Int
  amount : Int
deriving DecidableEq
def mayOp (o : Opn) : Bool := inR o.book 1 200 && (if o.kind = 1 then inR o.units 1 1000 && (o.cust == 0 && o.amount == 0) else if o.kind = 4 then o.units == 0 && inR o.cust 0 3 && inR o.amount 0 1099511627776 else if o.kind = 2 ∨ o.kind = 3 ∨ o.kind = 5 ∨ o.kind = 6 then o.units == 0 && (o.cust == 0 && o.amount == 0) else false)
end Wt
end Go.Proofs.YtakicogelkdofaaDoor
