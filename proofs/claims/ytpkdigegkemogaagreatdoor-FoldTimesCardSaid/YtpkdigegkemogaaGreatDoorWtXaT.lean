/- Parts of the claim: WtA, WtB, WtC -/
import Derived.Deep.QuietTactic
import Derived.WalkKit
import Derived.WalkSpells
import Derived.Lib.Hide
import Derived.BigQuiet
import Derived.Lib.MinMax
import Derived.Deep.CutRange
import Derived.Deep.CutBlock
import Derived.Test.YtpkdigegkemogaaGreatDoorPkXT
namespace Go.Proofs.YtpkdigegkemogaaGreatDoor
open Go.RowKit Go.Proofs.YtpkdigegkemogaaGreatDoor.Pk
namespace Wt

theorem quiet_same {P : Program} {f : FuncId} {args : Array Value} {w : World} {n : Nat} {v : Value} (h : Calls P f args (w.drewN n) fun e w' => e = .returned v ∧ w.drewN n = w') : Calls P f args (w.drewN n) fun e w'' => e = .returned v ∧ ∃ m, w'' = w.drewN m := h.mono fun _ _ ⟨he, hm⟩ => ⟨he, n, hm.symm⟩
theorem below_drewN (w : World) (n : Nat) {B : Nat} (_ : B ≤ w.heap.size) : Below B w (w.drewN n) := ⟨rfl, rfl, rfl, Nat.le_refl _, fun _ _ => rfl⟩
def inR (v lo hi : Int) : Bool := decide (lo ≤ v ∧ v ≤ hi)
theorem inR_no {v lo hi : Int} (h : v < lo) : inR v lo hi = false := by unfold inR; rw [decide_eq_false_iff_not]; omega
theorem inR_at {v lo hi : Int} (h : lo ≤ v) : decide (v ≤ hi) = inR v lo hi := by unfold inR; rw [decide_eq_decide]; omega
theorem within_any (w : World) (v lo hi : Int) :
    Calls Tryz.prog 104 #[.int .i64 v, .int .i64 lo, .int .i64 hi] w fun e w' => e = .returned (.bool (inR v lo hi)) ∧ w = w' := by
  by_cases h : lo ≤ v
  · have E := Lib.hid (inR_at (hi := hi) h)
    go_enter Tryz.func104, Tryz.ntmps104
    go_wp2
    go_ret
    rw [← E.out]
    exact ⟨rfl, rfl⟩
  · have E := Lib.hid (inR_no (hi := hi) (Int.not_le.1 h))
    go_enter Tryz.func104, Tryz.ntmps104
    go_wp2
    go_ret
    rw [E.out]
    exact ⟨rfl, rfl⟩
theorem within64_any (w : World) (v lo hi : Int) :
    Calls Tryz.prog 105 #[.int .i64 v, .int .i64 lo, .int .i64 hi] w fun e w' => e = .returned (.bool (inR v lo hi)) ∧ w = w' := by
  by_cases h : lo ≤ v
  · have E := Lib.hid (inR_at (hi := hi) h)
    go_enter Tryz.func105, Tryz.ntmps105
    go_wp2
    go_ret
    rw [← E.out]
    exact ⟨rfl, rfl⟩
  · have E := Lib.hid (inR_no (hi := hi) (Int.not_le.1 h))
    go_enter Tryz.func105, Tryz.ntmps105
    go_wp2
    go_ret
    rw [E.out]
    exact ⟨rfl, rfl⟩
set_option maxHeartbeats 1600000 in
theorem min_any (w : World) (g : Nat) (x y z : Int) (c0 : w.cell? ⟨g, 0, none⟩ = some (.int .i64 x)) (c1 : w.cell? ⟨g, 1, none⟩ = some (.int .i64 y)) (c2 : w.cell? ⟨g, 2, none⟩ = some (.int .i64 z)) :
    Calls Tryz.prog 149 #[.slice (some ⟨g, 0, none⟩) 3 3] w fun e w' => e = .returned (.int .i64 (min x (min y z))) ∧ w = w' := by
  go_enter Tryz.func149, Tryz.ntmps149
  go_wp2
  refine wp_loop_rounds 3 ?_
  repeat any_goals (rw [rounds_succ]; go_wp2)
  go_ret
  exact ⟨rfl, rfl⟩
set_option maxHeartbeats 1600000 in
theorem max_any (w : World) (g : Nat) (x y z : Int) (c0 : w.cell? ⟨g, 0, none⟩ = some (.int .i64 x)) (c1 : w.cell? ⟨g, 1, none⟩ = some (.int .i64 y)) (c2 : w.cell? ⟨g, 2, none⟩ = some (.int .i64 z)) :
    Calls Tryz.prog 150 #[.slice (some ⟨g, 0, none⟩) 3 3] w fun e w' => e = .returned (.int .i64 (max x (max y z))) ∧ w = w' := by
  go_enter Tryz.func150, Tryz.ntmps150
  go_wp2
  refine wp_loop_rounds 3 ?_
  repeat any_goals (rw [rounds_succ]; go_wp2)
  go_ret
  exact ⟨rfl, rfl⟩

def mayU (x y z : Int) : Bool := decide (0 ≤ x ∧ x ≤ 1000 ∧ 0 ≤ y ∧ y ≤ 1000 ∧ 0 ≤ z ∧ z ≤ 1000 ∧ (0 < x ∨ 0 < y ∨ 0 < z))
theorem mayU_min {x y z : Int} (h : min x (min y z) < 0) : mayU x y z = false := by unfold mayU; rw [decide_eq_false_iff_not]; omega
theorem mayU_max {x y z : Int} (h : 0 ≤ min x (min y z)) : inR (max x (max y z)) 1 1000 = mayU x y z := by unfold mayU inR; rw [decide_eq_decide]; omega
set_option maxHeartbeats 1600000 in
theorem units_any (w : World) (x y z : Int) :
    Calls Tryz.prog 131 #[.agg #[.int .i64 x, .int .i64 y, .int .i64 z]] w fun e w' => e = .returned (.bool (mayU x y z)) ∧ Below w.heap.size w w' := by
  have a0 : (w.alloc (.cells #[.int .i64 x, .int .i64 y, .int .i64 z] 53)).heap[w.heap.size]? = _ := heap_alloc_new _ _
  have M : Hid (∀ n, Calls Tryz.prog 149 #[.slice (some ⟨w.heap.size, 0, none⟩) 3 3] ((w.alloc (.cells #[.int .i64 x, .int .i64 y, .int .i64 z] 53)).drewN n) fun e w' => e = .returned (.int .i64 (min x (min y z))) ∧ _ = w') := fun n => min_any _ w.heap.size x y z (one_at a0) (one_at a0) (one_at a0)
  have X : Hid (∀ n, Calls Tryz.prog 150 #[.slice (some ⟨w.heap.size, 0, none⟩) 3 3] ((w.alloc (.cells #[.int .i64 x, .int .i64 y, .int .i64 z] 53)).drewN n) fun e w' => e = .returned (.int .i64 (max x (max y z))) ∧ _ = w') := fun n => max_any _ w.heap.size x y z (one_at a0) (one_at a0) (one_at a0)
  clear a0
  obtain ⟨m, hm⟩ : ∃ m, m = min x (min y z) := ⟨_, rfl⟩
  obtain ⟨k, hk⟩ : ∃ k, k = max x (max y z) := ⟨_, rfl⟩
  rw [← hm] at M
  rw [← hk] at X
  have be : Hid (Below w.heap.size w (w.alloc (.cells #[.int .i64 x, .int .i64 y, .int .i64 z] 53))) := (Below.refl _ w).alloc (Nat.le_refl _) _
  by_cases h : m < 0
  · have E : Hid (mayU x y z = false) := mayU_min (by rw [← hm]; exact h)
    replace hm := Lib.hid hm
    replace hk := Lib.hid hk
    go_enter Tryz.func131, Tryz.ntmps131
    go_wp2
    go_quiet (first | (go_at_call 149; exact quiet_same (M.out _)) | (go_at_call 150; exact quiet_same (X.out _)))
    go_wp2
    go_ret
    rw [E.out]
    exact ⟨rfl, be.out.trans (below_drewN _ _ be.out.size)⟩
  · have E : Hid (inR k 1 1000 = mayU x y z) := by rw [hk]; exact mayU_max (by rw [← hm]; omega)
    replace hm := Lib.hid hm
    replace hk := Lib.hid hk
    go_enter Tryz.func131, Tryz.ntmps131
    go_wp2
    go_quiet (first | (go_at_call 149; exact quiet_same (M.out _)) | (go_at_call 150; exact quiet_same (X.out _)))
    go_wp2_with (go_at_call 104; ((with_reducible refine (within_any _ _ _ _).mono ?_); rintro e w' ⟨rfl, rfl⟩))
    go_ret
    rw [← E.out]
    exact ⟨rfl, be.out.trans (below_drewN _ _ be.out.size)⟩
structure Wan where
  book : Int
  cust : Int
  dead : Int
  u0 : Int
  u1 : Int
  u2 : Int
  price : Int
deriving DecidableEq
def may (x : Wan) : Bool := inR x.book 1 200 && inR x.cust 0 3 && inR x.dead 0 1099511627776 && mayU x.u0 x.u1 x.u2 && inR x.price 0 1099511627776
set_option maxHeartbeats 1600000 in
theorem may_any (w : World) (x : Wan) :
    Calls Tryz.prog 107 #[.agg #[.int .i64 x.book, .int .i64 x.cust, .int .i64 x.dead, .int .i64 x.u0, .int .i64 x.u1, .int .i64 x.u2, .int .i64 x.price]] w fun e w' => e = .returned (.bool (may x)) ∧ Below w.heap.size w w' := by
  have a0 : (w.alloc (.cells #[.int .i64 x.book, .int .i64 x.cust, .int .i64 x.dead, .int .i64 x.u0, .int .i64 x.u1, .int .i64 x.u2, .int .i64 x.price] 55)).heap[w.heap.size]? = _ := heap_alloc_new _ _
  have c4 := one_at (i := 6) a0
  have be : Hid (Below w.heap.size w (w.alloc (.cells #[.int .i64 x.book, .int .i64 x.cust, .int .i64 x.dead, .int .i64 x.u0, .int .i64 x.u1, .int .i64 x.u2, .int .i64 x.price] 55))) := (Below.refl _ w).alloc (Nat.le_refl _) _
  have U : Hid (Calls Tryz.prog 131 #[.agg #[.int .i64 x.u0, .int .i64 x.u1, .int .i64 x.u2]] (w.alloc (.cells #[.int .i64 x.book, .int .i64 x.cust, .int .i64 x.dead, .int .i64 x.u0, .int .i64 x.u1, .int .i64 x.u2, .int .i64 x.price] 55)) _) := units_any _ x.u0 x.u1 x.u2
  clear a0
  have E : Hid (may x = (inR x.book 1 200 && inR x.cust 0 3 && inR x.dead 0 1099511627776 && mayU x.u0 x.u1 x.u2 && inR x.price 0 1099511627776)) := rfl
  by_cases h0 : inR x.book 1 200 = true
  case neg =>
    replace h0 : (inR x.book 1 200) = false := by simpa using h0
    have F : Hid (may x = false) := by rw [Hid, E.out]; simp [*]
    go_enter Tryz.func107, Tryz.ntmps107
    go_wp2_with (first | (go_at_call 104; ((with_reducible refine (within_any _ _ _ _).mono ?_); rintro e w' ⟨rfl, rfl⟩)) | (go_at_call 105; ((with_reducible refine (within64_any _ _ _ _).mono ?_); rintro e w' ⟨rfl, rfl⟩)) | (go_at_call 131; ((with_reducible refine (U.out).mono ?_); rintro e w' ⟨rfl, hu⟩; have be2 : Hid (Below w.heap.size w w') := be.out.trans (hu.mono be.out.size); have c4' : w'.cell? ⟨w.heap.size, 6, none⟩ = some (.int .i64 x.price) := (World.cell?_of_block (hu.block w.heap.size (by simp))).trans c4; clear hu)))
    go_ret
    rw [F.out]
    exact ⟨rfl, be.out⟩
  by_cases h1 : inR x.cust 0 3 = true
  case neg =>
    replace h1 : (inR x.cust 0 3) = false := by simpa using h1
    have F : Hid (may x = false) := by rw [Hid, E.out]; simp [*]
    go_enter Tryz.func107, Tryz.ntmps107
    go_wp2_with (first | (go_at_call 104; ((with_reducible refine (within_any _ _ _ _).mono ?_); rintro e w' ⟨rfl, rfl⟩)) | (go_at_call 105; ((with_reducible refine (within64_any _ _ _ _).mono ?_); rintro e w' ⟨rfl, rfl⟩)) | (go_at_call 131; ((with_reducible refine (U.out).mono ?_); rintro e w' ⟨rfl, hu⟩; have be2 : Hid (Below w.heap.size w w') := be.out.trans (hu.mono be.out.size); have c4' : w'.cell? ⟨w.heap.size, 6, none⟩ = some (.int .i64 x.price) := (World.cell?_of_block (hu.block w.heap.size (by simp))).trans c4; clear hu)))
    go_ret
    rw [F.out]
    exact ⟨rfl, be.out⟩
  by_cases h2 : inR x.dead 0 1099511627776 = true
  case neg =>
    replace h2 : (inR x.dead 0 1099511627776) = false := by simpa using h2
    have F : Hid (may x = false) := by rw [Hid, E.out]; simp [*]
    go_enter Tryz.func107, Tryz.ntmps107
    go_wp2_with (first | (go_at_call 104; ((with_reducible refine (within_any _ _ _ _).mono ?_); rintro e w' ⟨rfl, rfl⟩)) | (go_at_call 105; ((with_reducible refine (within64_any _ _ _ _).mono ?_); rintro e w' ⟨rfl, rfl⟩)) | (go_at_call 131; ((with_reducible refine (U.out).mono ?_); rintro e w' ⟨rfl, hu⟩; have be2 : Hid (Below w.heap.size w w') := be.out.trans (hu.mono be.out.size); have c4' : w'.cell? ⟨w.heap.size, 6, none⟩ = some (.int .i64 x.price) := (World.cell?_of_block (hu.block w.heap.size (by simp))).trans c4; clear hu)))
    go_ret
    rw [F.out]
    exact ⟨rfl, be.out⟩
  by_cases h3 : mayU x.u0 x.u1 x.u2 = true
  case neg =>
    replace h3 : (mayU x.u0 x.u1 x.u2) = false := by simpa using h3
    have F : Hid (may x = false) := by rw [Hid, E.out]; simp [*]
    go_enter Tryz.func107, Tryz.ntmps107
    go_wp2_with (first | (go_at_call 104; ((with_reducible refine (within_any _ _ _ _).mono ?_); rintro e w' ⟨rfl, rfl⟩)) | (go_at_call 105; ((with_reducible refine (within64_any _ _ _ _).mono ?_); rintro e w' ⟨rfl, rfl⟩)) | (go_at_call 131; ((with_reducible refine (U.out).mono ?_); rintro e w' ⟨rfl, hu⟩; have be2 : Hid (Below w.heap.size w w') := be.out.trans (hu.mono be.out.size); have c4' : w'.cell? ⟨w.heap.size, 6, none⟩ = some (.int .i64 x.price) := (World.cell?_of_block (hu.block w.heap.size (by simp))).trans c4; clear hu)))
    go_ret
    rw [F.out]
    exact ⟨rfl, be2.out⟩
  by_cases h4 : inR x.price 0 1099511627776 = true
  case neg =>
    replace h4 : (inR x.price 0 1099511627776) = false := by simpa using h4
    have F : Hid (may x = false) := by rw [Hid, E.out]; simp [*]
    go_enter Tryz.func107, Tryz.ntmps107
    go_wp2_with (first | (go_at_call 104; ((with_reducible refine (within_any _ _ _ _).mono ?_); rintro e w' ⟨rfl, rfl⟩)) | (go_at_call 105; ((with_reducible refine (within64_any _ _ _ _).mono ?_); rintro e w' ⟨rfl, rfl⟩)) | (go_at_call 131; ((with_reducible refine (U.out).mono ?_); rintro e w' ⟨rfl, hu⟩; have be2 : Hid (Below w.heap.size w w') := be.out.trans (hu.mono be.out.size); have c4' : w'.cell? ⟨w.heap.size, 6, none⟩ = some (.int .i64 x.price) := (World.cell?_of_block (hu.block w.heap.size (by simp))).trans c4; clear hu)))
    go_ret
    rw [F.out]
    exact ⟨rfl, be2.out⟩
  have F : Hid (may x = true) := by rw [Hid, E.out]; simp [*]
  go_enter Tryz.func107, Tryz.ntmps107
  go_wp2_with (first | (go_at_call 104; ((with_reducible refine (within_any _ _ _ _).mono ?_); rintro e w' ⟨rfl, rfl⟩)) | (go_at_call 105; ((with_reducible refine (within64_any _ _ _ _).mono ?_); rintro e w' ⟨rfl, rfl⟩)) | (go_at_call 131; ((with_reducible refine (U.out).mono ?_); rintro e w' ⟨rfl, hu⟩; have be2 : Hid (Below w.heap.size w w') := be.out.trans (hu.mono be.out.size); have c4' : w'.cell? ⟨w.heap.size, 6, none⟩ = some (.int .i64 x.price) := (World.cell?_of_block (hu.block w.heap.size (by simp))).trans c4; clear hu)))
  go_ret
  rw [F.out]
  exact ⟨rfl, be2.out⟩
end Wt
end Go.Proofs.YtpkdigegkemogaaGreatDoor
namespace Go.Proofs.YtpkdigegkemogaaGreatDoor
open Go.RowKit Go.Proofs.YtpkdigegkemogaaGreatDoor.Pk
namespace Wt
theorem may_units {x : Wan} (h : mayU x.u0 x.u1 x.u2 = false) : may x = false := by unfold may; simp [h]
set_option maxHeartbeats 1600000 in
theorem refmay_any (w : World) (x : Wan) :
    Calls Tryz.prog 75 #[.agg #[.int .i64 x.book, .int .i64 x.cust, .int .i64 x.dead, .int .i64 x.u0, .int .i64 x.u1, .int .i64 x.u2, .int .i64 x.price]] w fun e w' => e = .returned (.bool (may x)) ∧ Below w.heap.size w w' := by
  have be : Hid (Below w.heap.size w (w.alloc (.cells #[.int .i64 x.book, .int .i64 x.cust, .int .i64 x.dead, .int .i64 x.u0, .int .i64 x.u1, .int .i64 x.u2, .int .i64 x.price] 55))) := (Below.refl _ w).alloc (Nat.le_refl _) _
  go_enter Tryz.func75, Tryz.ntmps75
  go_upto_block 0 with fail
  go_cut [3] from 4 to 28 (fun s3 wx => s3 = .bool (mayU x.u0 x.u1 x.u2) ∧ wx = w.alloc (.cells #[.int .i64 x.book, .int .i64 x.cust, .int .i64 x.dead, .int .i64 x.u0, .int .i64 x.u1, .int .i64 x.u2, .int .i64 x.price] 55) ∧ 0 ≤ x.u0 ∧ x.u0 ≤ 1000 ∧ 0 ≤ x.u1 ∧ x.u1 ≤ 1000 ∧ 0 ≤ x.u2 ∧ x.u2 ≤ 1000)
  case first =>
    go_wp2_with fail
    refine wp_loop_rounds 4 ?_
    repeat any_goals (rw [rounds_succ]; go_wp2_with fail)
    all_goals
      first
        | (go_ret
           refine ⟨?_, be.out⟩
           show Ending.returned (.bool false) = _
           rw [may_units (by unfold mayU; rw [decide_eq_false_iff_not]; omega)])
        | (go_meet
           refine ⟨?_, rfl, by omega, by omega, by omega, by omega, by omega, by omega⟩
           show Value.bool _ = Value.bool _
           congr 1
           unfold mayU
           rw [Bool.eq_iff_iff]
           simp only [Bool.or_eq_true, decide_eq_true_iff, eq_self, true_iff]
           omega)
  case rest =>
    obtain ⟨rfl, rfl, h0, h1, h2, h3, h4, h5⟩ := hcut
    go_wp2_with fail
    all_goals
      go_ret
      refine ⟨?_, be.out⟩
      show Ending.returned (Value.bool _) = Ending.returned (Value.bool _)
      congr 2
      rw [Bool.eq_iff_iff]
      simp only [may, inR, Bool.and_eq_true, decide_eq_true_iff, Bool.false_eq_true, false_iff, *]
      first | done | omega | (simp; done) | (simp; omega)

structure Opn where
  kind : Int
  book : Int
  units : Int
  cust : Int
  amount : Int
deriving DecidableEq
def mayOp (o : Opn) : Bool := inR o.book 1 200 && (if o.kind = 1 then inR o.units 1 1000 && (o.cust == 0 && o.amount == 0) else if o.kind = 4 then o.units == 0 && inR o.cust 0 3 && inR o.amount 0 1099511627776 else if o.kind = 2 ∨ o.kind = 3 ∨ o.kind = 5 ∨ o.kind = 6 then o.units == 0 && (o.cust == 0 && o.amount == 0) else false)
set_option maxHeartbeats 1600000 in
theorem mayop_any (w : World) (o : Opn) :
    Calls Tryz.prog 70 #[.agg #[.int .i64 o.kind, .int .i64 o.book, .int .i64 o.units, .int .i64 o.cust, .int .i64 o.amount]] w fun e w' => e = .returned (.bool (mayOp o)) ∧ Below w.heap.size w w' := by
  have be : Hid (Below w.heap.size w (w.alloc (.cells #[.int .i64 o.kind, .int .i64 o.book, .int .i64 o.units, .int .i64 o.cust, .int .i64 o.amount] 34))) := (Below.refl _ w).alloc (Nat.le_refl _) _
  by_cases hb : inR o.book 1 200 = true
  case neg =>
    replace hb : inR o.book 1 200 = false := by simpa using hb
    have F : Hid (mayOp o = false) := by unfold Hid mayOp; simp [hb]
    go_enter Tryz.func70, Tryz.ntmps70
    go_wp2_with (go_at_call 104; ((with_reducible refine (within_any _ _ _ _).mono ?_); rintro e w' ⟨rfl, rfl⟩))
    go_ret
    rw [F.out]
    exact ⟨rfl, be.out⟩
  case pos =>
    rcases Bool.eq_false_or_eq_true (o.cust == 0) with hc | hc
    all_goals
      go_enter Tryz.func70, Tryz.ntmps70
      go_wp2_with (go_at_call 104; ((with_reducible refine (within_any _ _ _ _).mono ?_); rintro e w' ⟨rfl, rfl⟩))
      go_quiet (fail)
      go_wp2_with (first | (go_at_call 104; ((with_reducible refine (within_any _ _ _ _).mono ?_); rintro e w' ⟨rfl, rfl⟩)) | (go_at_call 105; ((with_reducible refine (within64_any _ _ _ _).mono ?_); rintro e w' ⟨rfl, rfl⟩)))
      all_goals
        go_ret
        refine ⟨?_, Below.trans (Below.alloc (Below.refl _ w) (Nat.le_refl _) _) (below_drewN _ _ (by simp))⟩
        show Ending.returned (Value.bool _) = Ending.returned (Value.bool _)
        congr 2
        simp_all [mayOp]
end Wt
end Go.Proofs.YtpkdigegkemogaaGreatDoor
namespace Go.Proofs.YtpkdigegkemogaaGreatDoor
open Go.RowKit Go.Proofs.YtpkdigegkemogaaGreatDoor.Pk
namespace Wt
theorem mayop_out {o : Opn} (h : o.kind < 1 ∨ 6 < o.kind ∨ o.book < 1 ∨ 200 < o.book) : mayOp o = false := by
  unfold mayOp inR
  by_cases hb : 1 ≤ o.book ∧ o.book ≤ 200
  · rw [if_neg (by omega), if_neg (by omega), if_neg (by omega)]
    simp
  · rw [decide_eq_false hb]
    rfl
theorem mayop_in {o : Opn} (h1 : 1 ≤ o.kind) (h6 : o.kind ≤ 6) (b1 : 1 ≤ o.book) (b2 : o.book ≤ 200) :
    mayOp o = ((if o.kind = 1 then inR o.units 1 1000 else o.units == 0) && (if o.kind = 4 then inR o.cust 0 3 && inR o.amount 0 1099511627776 else o.cust == 0 && o.amount == 0)) := by
  have hb : inR o.book 1 200 = true := by unfold inR; rw [decide_eq_true_iff]; omega
  unfold mayOp
  rw [hb]
  by_cases k1 : o.kind = 1
  · rw [if_pos k1, if_pos k1, if_neg (by omega)]; rfl
  · by_cases k4 : o.kind = 4
    · rw [if_neg k1, if_neg k1, if_pos k4, if_pos k4]; simp [Bool.and_assoc]
    · rw [if_neg k1, if_neg k1, if_neg k4, if_neg k4, if_pos (by omega)]; rfl
set_option maxHeartbeats 1600000 in
theorem refmayop_any (w : World) (o : Opn) :
    Calls Tryz.prog 6 #[.agg #[.int .i64 o.kind, .int .i64 o.book, .int .i64 o.units, .int .i64 o.cust, .int .i64 o.amount]] w fun e w' => e = .returned (.bool (mayOp o)) ∧ Below w.heap.size w w' := by
  have be : Hid (Below w.heap.size w (w.alloc (.cells #[.int .i64 o.kind, .int .i64 o.book, .int .i64 o.units, .int .i64 o.cust, .int .i64 o.amount] 34))) := (Below.refl _ w).alloc (Nat.le_refl _) _
  by_cases h : o.kind < 1 ∨ 6 < o.kind ∨ o.book < 1 ∨ 200 < o.book
  case pos =>
    have F := Lib.hid (mayop_out h)
    rcases Int.lt_or_le o.kind 1 with h1 | h1
    · clear h
      go_enter Tryz.func6, Tryz.ntmps6
      go_wp2
      go_ret
      rw [F.out]
      exact ⟨rfl, be.out⟩
    rcases Int.lt_or_le 6 o.kind with h2 | h2
    · clear h
      go_enter Tryz.func6, Tryz.ntmps6
      go_wp2
      go_ret
      rw [F.out]
      exact ⟨rfl, be.out⟩
    rcases Int.lt_or_le o.book 1 with h3 | h3
    · clear h
      go_enter Tryz.func6, Tryz.ntmps6
      go_wp2
      go_ret
      rw [F.out]
      exact ⟨rfl, be.out⟩
    · have h4 : 200 < o.book := by omega
      clear h
      go_enter Tryz.func6, Tryz.ntmps6
      go_wp2
      go_ret
      rw [F.out]
      exact ⟨rfl, be.out⟩
  case neg =>
    obtain ⟨h1, h2, h3, h4⟩ : 1 ≤ o.kind ∧ o.kind ≤ 6 ∧ 1 ≤ o.book ∧ o.book ≤ 200 := by omega
    have F := Lib.hid (mayop_in h1 h2 h3 h4)
    clear h
    rcases Bool.eq_false_or_eq_true (o.cust == 0) with hc | hc
    all_goals
      go_enter Tryz.func6, Tryz.ntmps6
      go_wp2_with fail
      go_quiet (fail)
      go_wp2_with fail
      all_goals
        go_ret
        refine ⟨?_, Below.trans (Below.alloc (Below.refl _ w) (Nat.le_refl _) _) (below_drewN _ _ (by simp))⟩
        rw [F.out]
        show Ending.returned (Value.bool _) = Ending.returned (Value.bool _)
        congr 2
        clear F be
        rw [Bool.eq_iff_iff]
        first
          | (simp_all [inR]; done)
          | (simp_all [inR] <;> omega)
          | (exfalso; simp_all; omega)
          | trace_state
end Wt
end Go.Proofs.YtpkdigegkemogaaGreatDoor
