/- Steps are compared; two lists of steps that are alike. -/
import Derived.Test.YtnljfnhndnkckaaPlS
import Derived.Test.YtnljfnhndnkckaaPlH
import Derived.Test.YtnljfnhndnkckaaPlI
namespace Go.Proofs.Ytnljfnhndnkckaa
set_option maxRecDepth 100000
open Go.RowKit
open Go.Proofs.Ytnljfnhndnkckaa.Pk (one_at one_free one_set lt_some grown_set grown_trans below_grown grown_refl)
namespace Pl
open Wt (Wan may Opn mayOp may_any refmay_any below_drewN)

theorem eq_op_run (w : World) (x y : Opn) : (Op.equalIn 10000 26 (.agg #[.int .i64 x.kind, .int .i64 x.book, .int .i64 x.units, .int .i64 x.cust, .int .i64 x.amount]) (.agg #[.int .i64 y.kind, .int .i64 y.book, .int .i64 y.units, .int .i64 y.cust, .int .i64 y.amount])).run Try.prog w = .ok (decide (x = y)) w := by
  have u3 := Try.underlying3
  have a3 := Try.isAgg3
  have z3 := Try.sizeOf3
  have u2 := Try.underlying2
  have a2 := Try.isAgg2
  have z2 := Try.sizeOf2
  have hS : Try.prog.underlying 26 = some (.struct (Try.prog.fieldsOf 26)) := by kernel_rfl
  rw [show (10000 : Nat) = 9999 + 1 from rfl, run_equalIn_agg w 9999 26 _ _ hS Try.stoodInHeld26]
  simp only [Program.fieldsOf, Try.underlying26]
  go_simp
  obtain ⟨a, b, c, d, e⟩ := x
  obtain ⟨a', b', c', d', e'⟩ := y
  simp only [Opn.mk.injEq]
  by_cases h1 : a = a' <;> by_cases h2 : b = b' <;> by_cases h3 : c = c' <;> by_cases h4 : d = d' <;> by_cases h5 : e = e' <;> simp [h1, h2, h3, h4, h5]
theorem eq_op_same (w : World) (a b c d e : Int) : (Op.equalIn 10000 26 (.agg #[.int .i64 a, .int .i64 b, .int .i64 c, .int .i64 d, .int .i64 e]) (.agg #[.int .i64 a, .int .i64 b, .int .i64 c, .int .i64 d, .int .i64 e])).run Try.prog w = .ok true w := by
  have := eq_op_run w ⟨a, b, c, d, e⟩ ⟨a, b, c, d, e⟩
  rw [decide_eq_true rfl] at this
  exact this
def SmAt (w : World) (n : Nat) (i : Value) (wr : World) : Prop := ∃ k : Nat, i = .int .i64 k ∧ k ≤ n ∧ Below w.heap.size w wr
set_option maxHeartbeats 1600000 in
theorem same_any (w : World) (b1 b2 n c d : Nat) (A B : Option Addr) (l : List Stp) (hn : n ≤ 7) (h1 : RowT 28 w b1 (.slice A n c) n l) (h2 : RowT 30 w b2 (.slice B n d) n l) :
    Calls Try.prog 8 #[.slice A n c, .slice B n d] w fun e w' => e = .returned (.bool true) ∧ Below w.heap.size w w' := by
  have st : Hid (SmAt w n (.int .i64 0) w) := ⟨0, rfl, Nat.zero_le _, Below.refl _ _⟩
  have hl := rt_len h1
  have q0 : ((n : Int) != (n : Int)) = false := by simp
  have N1 : Hid (∀ w' k s, Below w.heap.size w w' → l[k]? = some s → ∃ g, A = some ⟨g, 0, none⟩ ∧ At w' g k s) := fun w' k s hb hs => rt_cell (rt_below h1 hb) hs
  have N2 : Hid (∀ w' k s, Below w.heap.size w w' → l[k]? = some s → ∃ g, B = some ⟨g, 0, none⟩ ∧ At w' g k s) := fun w' k s hb hs => rt_cell (rt_below h2 hb) hs
  replace hl := Lib.hid hl
  clear h1 h2
  go_enter Try.func8, Try.ntmps8
  go_wp2_with fail
  go_loopw [5] (fun i wr => SmAt w n i wr) (fun i _ => n - (intOf i).toNat)
  case atStart => exact st.out
  case round =>
    clear st q0
    obtain ⟨j, rfl, hj, hb⟩ := hrel
    by_cases hlt : j < n
    · obtain ⟨s, hs⟩ : ∃ s, l[j]? = some s := ⟨_, List.getElem?_eq_getElem (by rw [hl.out]; omega)⟩
      obtain ⟨g, rfl, a0, a1, a2, a3, a4, a5⟩ := N1.out wr j s hb hs
      obtain ⟨h, rfl, e0, e1, e2, e3, e4, e5⟩ := N2.out wr j s hb hs
      have i1 : (j : Int) < (n : Int) := by omega
      have i2 : (0 : Int) ≤ (j : Int) := by omega
      have q1 : (s.node != s.node) = false := by simp
      have EQ := fun w => eq_op_same w s.op.kind s.op.book s.op.units s.op.cust s.op.amount
      have nx : Hid (∀ k, SmAt w n (.int .i64 ((j : Int) + 1)) (wr.drewN k)) := fun k => ⟨j + 1, by simp, by omega, hb.trans (below_drewN _ _ hb.size)⟩
      clear hb hs
      go_wp2_with fail
      go_quiet (fail)
      go_wp2
      exact ⟨nx.out _, by simp [intOf]; omega⟩
    · have i1 : ¬ (j : Int) < (n : Int) := by omega
      have E := Lib.hid hb
      clear hb
      go_wp2
      go_ret
      exact ⟨rfl, E.out⟩
end Pl
end Go.Proofs.Ytnljfnhndnkckaa
