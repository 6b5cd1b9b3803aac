/- Steps and sagas are compared. -/
import Derived.Test.YtidfpbnepdjagaaDoorSgA
namespace Go.Proofs.YtidfpbnepdjagaaDoor
set_option maxRecDepth 100000
open Go.RowKit
namespace Sg
open Wt (Wan may Opn mayOp)
open Pl (Stp spv)

theorem eq_op9 (w : World) (x y : Opn) : (Op.equalIn 9999 23 (.agg #[.int .i64 x.kind, .int .i64 x.book, .int .i64 x.units, .int .i64 x.cust, .int .i64 x.amount]) (.agg #[.int .i64 y.kind, .int .i64 y.book, .int .i64 y.units, .int .i64 y.cust, .int .i64 y.amount])).run Tryd.prog w = .ok (decide (x = y)) w := by
  have u3 := Tryd.underlying3
  have a3 := Tryd.isAgg3
  have z3 := Tryd.sizeOf3
  have u2 := Tryd.underlying2
  have a2 := Tryd.isAgg2
  have z2 := Tryd.sizeOf2
  have hS : Tryd.prog.underlying 23 = some (.struct (Tryd.prog.fieldsOf 23)) := by kernel_rfl
  rw [show (9999 : Nat) = 9998 + 1 from rfl, run_equalIn_agg w 9998 23 _ _ hS Tryd.stoodInHeld23]
  simp only [Program.fieldsOf, Tryd.underlying23]
  go_simp
  obtain ⟨a, b, c, d, e⟩ := x
  obtain ⟨a', b', c', d', e'⟩ := y
  simp only [Opn.mk.injEq]
  by_cases h1 : a = a' <;> by_cases h2 : b = b' <;> by_cases h3 : c = c' <;> by_cases h4 : d = d' <;> by_cases h5 : e = e' <;> simp [h1, h2, h3, h4, h5]
theorem eq_rask (w : World) (x y : Stp) : (Op.equalIn 10000 110 (spv x) (spv y)).run Tryd.prog w = .ok (decide (x = y)) w := by
  have u3 := Tryd.underlying3
  have a3 := Tryd.isAgg3
  have z3 := Tryd.sizeOf3
  have aO := Tryd.isAgg23
  have zO := Tryd.sizeOf23
  have EO := eq_op9
  have hS : Tryd.prog.underlying 110 = some (.struct (Tryd.prog.fieldsOf 110)) := by kernel_rfl
  unfold spv
  rw [show (10000 : Nat) = 9999 + 1 from rfl, run_equalIn_agg w 9999 110 _ _ hS Tryd.stoodInHeld110]
  simp only [Program.fieldsOf, Tryd.underlying110]
  go_simp
  obtain ⟨n, o⟩ := x
  obtain ⟨n', o'⟩ := y
  simp only [Stp.mk.injEq]
  by_cases h1 : n = n' <;> by_cases h2 : o = o' <;> simp [h1, h2]
theorem eq_pask (w : World) (x y : Stp) : (Op.equalIn 10000 118 (spv x) (spv y)).run Tryd.prog w = .ok (decide (x = y)) w := by
  have u3 := Tryd.underlying3
  have a3 := Tryd.isAgg3
  have z3 := Tryd.sizeOf3
  have aO := Tryd.isAgg23
  have zO := Tryd.sizeOf23
  have EO := eq_op9
  have hS : Tryd.prog.underlying 118 = some (.struct (Tryd.prog.fieldsOf 118)) := by kernel_rfl
  unfold spv
  rw [show (10000 : Nat) = 9999 + 1 from rfl, run_equalIn_agg w 9999 118 _ _ hS Tryd.stoodInHeld118]
  simp only [Program.fieldsOf, Tryd.underlying118]
  go_simp
  obtain ⟨n, o⟩ := x
  obtain ⟨n', o'⟩ := y
  simp only [Stp.mk.injEq]
  by_cases h1 : n = n' <;> by_cases h2 : o = o' <;> simp [h1, h2]
theorem eq_arr8 (w : World) (a b c x y z : Int) : (Op.equalIn 9998 24 (.agg #[.int .i64 a, .int .i64 b, .int .i64 c]) (.agg #[.int .i64 x, .int .i64 y, .int .i64 z])).run Tryd.prog w = .ok (a == x && (b == y && c == z)) w := by
  have u3 := Tryd.underlying3
  have a3 := Tryd.isAgg3
  have z3 := Tryd.sizeOf3
  rw [show (9998 : Nat) = 9997 + 1 from rfl, Op.equalIn]
  simp only [Sem.run_bind, run_underlying Tryd.underlying24, Result.andThen_ok]
  simp only [Std.Legacy.Range.forIn_eq_forIn_range', Std.Legacy.Range.size, Nat.sub_zero, Nat.add_sub_cancel, Nat.div_one, List.range'_succ, List.range'_zero, List.forIn_cons, List.forIn_nil]
  go_simp
  by_cases h1 : a = x <;> by_cases h2 : b = y <;> by_cases h3 : c = z <;> simp [h1, h2, h3]
theorem eq_wan9 (w : World) (x y : Wan) : (Op.equalIn 9999 26 (.agg #[.int .i64 x.book, .int .i64 x.cust, .int .i64 x.dead, .int .i64 x.u0, .int .i64 x.u1, .int .i64 x.u2, .int .i64 x.price]) (.agg #[.int .i64 y.book, .int .i64 y.cust, .int .i64 y.dead, .int .i64 y.u0, .int .i64 y.u1, .int .i64 y.u2, .int .i64 y.price])).run Tryd.prog w = .ok (decide (x = y)) w := by
  have q22 := eq_arr8
  have u3 := Tryd.underlying3
  have a3 := Tryd.isAgg3
  have z3 := Tryd.sizeOf3
  have u2 := Tryd.underlying2
  have a2 := Tryd.isAgg2
  have z2 := Tryd.sizeOf2
  have a22 := Tryd.isAgg24
  have z22 := Tryd.sizeOf24
  have hS : Tryd.prog.underlying 26 = some (.struct (Tryd.prog.fieldsOf 26)) := by kernel_rfl
  rw [show (9999 : Nat) = 9998 + 1 from rfl, run_equalIn_agg w 9998 26 _ _ hS Tryd.stoodInHeld26]
  simp only [Program.fieldsOf, Tryd.underlying26]
  go_simp
  obtain ⟨a, b, c, d, e, f, g⟩ := x
  obtain ⟨a', b', c', d', e', f', g'⟩ := y
  simp only [Wan.mk.injEq]
  by_cases h1 : a = a' <;> by_cases h2 : b = b' <;> by_cases h3 : c = c' <;> by_cases h4 : d = d' <;> by_cases h5 : e = e' <;> by_cases h6 : f = f' <;> by_cases h7 : g = g' <;> simp [h1, h2, h3, h4, h5, h6, h7]
theorem eq_sag (w : World) (s t : Sag) : (Op.equalIn 10000 28 (sgv s) (sgv t)).run Tryd.prog w = .ok (decide (s = t)) w := by
  have u3 := Tryd.underlying3
  have a3 := Tryd.isAgg3
  have z3 := Tryd.sizeOf3
  have aW := Tryd.isAgg26
  have zW := Tryd.sizeOf26
  have EW := eq_wan9
  have hS : Tryd.prog.underlying 28 = some (.struct (Tryd.prog.fieldsOf 28)) := by kernel_rfl
  unfold sgv sgc
  rw [show (10000 : Nat) = 9999 + 1 from rfl, run_equalIn_agg w 9999 28 _ _ hS Tryd.stoodInHeld28]
  simp only [Program.fieldsOf, Tryd.underlying28]
  go_simp
  obtain ⟨x, a, b, c, d⟩ := s
  obtain ⟨x', a', b', c', d'⟩ := t
  simp only [Sag.mk.injEq]
  by_cases h0 : x = x' <;> by_cases h1 : a = a' <;> by_cases h2 : b = b' <;> by_cases h3 : c = c' <;> by_cases h4 : d = d' <;> simp [h0, h1, h2, h3, h4]
end Sg
end Go.Proofs.YtidfpbnepdjagaaDoor
