/- The document's MayOp. -/
import Derived.Test.YtakicogelkdofaaDoorWtB
namespace Go.Proofs.YtakicogelkdofaaDoor
open Go.RowKit Go.Proofs.YtakicogelkdofaaDoor.Pk
namespace Wt
theorem mayop_out {o : Opn} (h : o.kind < 1 ∨ 6 < o.kind ∨ o.book < 1 ∨ 200 < o.book) : mayOp o = false := by
  unfold mayOp inR
  by_cases hb : 1 ≤ o.book ∧ o.book ≤ 200
  · rw [if_neg (by omega), if_neg (by omega), if_neg (by omega)]
    simp
  · rw [decide_eq_false hb]
    rfl
theorem mayop_in {o : Opn} (h1 : 1 ≤ o.kind) (h6 : o.kind ≤ 6) (b1 : 1 ≤ o.book) (b2 : o.book ≤ 200) :
    mayOp o = ((if o.kind = 1 then inR o.units 1 1000 else o.units == 0) && (if o.kind = 4 then inR o.cust 0 3 && inR o.amount 0 1099511627776 else o.cust == 0 && o.amount == 0)) := by
  have hb : inR o.book 1 200 = true := by unfold inR; rw [decide_eq_true_iff]; omega
  unfold mayOp
  rw [hb]
  by_cases k1 : o.kind = 1
  · rw [if_pos k1, if_pos k1, if_neg (by omega)]; rfl
  · by_cases k4 : o.kind = 4
    · rw [if_neg k1, if_neg k1, if_pos k4, if_pos k4]; simp [Bool.and_assoc]
    · rw [if_neg k1, if_neg k1, if_neg k4, if_neg k4, if_pos (by omega)]; rfl
end Wt
end Go.Proofs.YtakicogelkdofaaDoor
