/- want: within, and the least and the greatest of three. -/
import Derived.Test.YtchlbkfkecpodaaGreatPkW
import Derived.Deep.QuietTactic
import Derived.WalkKit
import Derived.WalkSpells
import Derived.Lib.Hide
import Derived.BigQuiet
import Derived.Lib.MinMax
namespace Go.Proofs.YtchlbkfkecpodaaGreat
open Go.RowKit Go.Proofs.YtchlbkfkecpodaaGreat.Pk
namespace Wt

theorem quiet_same {P : Program} {f : FuncId} {args : Array Value} {w : World} {n : Nat} {v : Value} (h : Calls P f args (w.drewN n) fun e w' => e = .returned v ∧ w.drewN n = w') : Calls P f args (w.drewN n) fun e w'' => e = .returned v ∧ ∃ m, w'' = w.drewN m := h.mono fun _ _ ⟨he, hm⟩ => ⟨he, n, hm.symm⟩
theorem below_drewN (w : World) (n : Nat) {B : Nat} (_ : B ≤ w.heap.size) : Below B w (w.drewN n) := ⟨rfl, rfl, rfl, Nat.le_refl _, fun _ _ => rfl⟩
/-- A number within its bounds. -/
def inR (v lo hi : Int) : Bool := decide (lo ≤ v ∧ v ≤ hi)
theorem inR_bool (v lo hi : Int) : (decide (lo ≤ v) && decide (v ≤ hi)) = inR v lo hi := by unfold inR; rw [Bool.decide_and]
theorem inR_no {v lo hi : Int} (h : v < lo) : inR v lo hi = false := by unfold inR; rw [decide_eq_false_iff_not]; omega
theorem inR_at {v lo hi : Int} (h : lo ≤ v) : decide (v ≤ hi) = inR v lo hi := by unfold inR; rw [decide_eq_decide]; omega
theorem within_any (w : World) (v lo hi : Int) :
    Calls Tryz.prog 57 #[.int .i64 v, .int .i64 lo, .int .i64 hi] w fun e w' => e = .returned (.bool (inR v lo hi)) ∧ w = w' := by
  by_cases h : lo ≤ v
  · have E := Lib.hid (inR_at (hi := hi) h)
    go_enter Tryz.func57, Tryz.ntmps57
    go_wp2
    go_ret
    rw [← E.out]
    exact ⟨rfl, rfl⟩
  · have E := Lib.hid (inR_no (hi := hi) (Int.not_le.1 h))
    go_enter Tryz.func57, Tryz.ntmps57
    go_wp2
    go_ret
    rw [E.out]
    exact ⟨rfl, rfl⟩
theorem within64_any (w : World) (v lo hi : Int) :
    Calls Tryz.prog 58 #[.int .i64 v, .int .i64 lo, .int .i64 hi] w fun e w' => e = .returned (.bool (inR v lo hi)) ∧ w = w' := by
  by_cases h : lo ≤ v
  · have E := Lib.hid (inR_at (hi := hi) h)
    go_enter Tryz.func58, Tryz.ntmps58
    go_wp2
    go_ret
    rw [← E.out]
    exact ⟨rfl, rfl⟩
  · have E := Lib.hid (inR_no (hi := hi) (Int.not_le.1 h))
    go_enter Tryz.func58, Tryz.ntmps58
    go_wp2
    go_ret
    rw [E.out]
    exact ⟨rfl, rfl⟩
def mayU (x y z : Int) : Bool := decide (0 ≤ x ∧ x ≤ 1000 ∧ 0 ≤ y ∧ y ≤ 1000 ∧ 0 ≤ z ∧ z ≤ 1000 ∧ (0 < x ∨ 0 < y ∨ 0 < z))
theorem mayU_min {x y z : Int} (h : min x (min y z) < 0) : mayU x y z = false := by unfold mayU; rw [decide_eq_false_iff_not]; omega
theorem mayU_max {x y z : Int} (h : 0 ≤ min x (min y z)) : inR (max x (max y z)) 1 1000 = mayU x y z := by unfold mayU inR; rw [decide_eq_decide]; omega
/-- A booking. -/
structure Wan where
  book : Int
  cust : Int
  dead : Int
  u0 : Int
  u1 : Int
  u2 : Int
  price : Int
deriving DecidableEq
def may (x : Wan) : Bool := inR x.book 1 200 && inR x.cust 0 3 && inR x.dead 0 1099511627776 && mayU x.u0 x.u1 x.u2 && inR x.price 0 1099511627776
end Wt
end Go.Proofs.YtchlbkfkecpodaaGreat
