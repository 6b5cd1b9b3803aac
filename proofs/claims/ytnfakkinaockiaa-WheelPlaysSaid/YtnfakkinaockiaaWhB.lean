/- key, before, Len, Less of a heap of timers. -/
import Derived.Test.YtnfakkinaockiaaWhA
import Derived.Deep.QuietTactic
import Derived.BigQuiet
import Derived.Deep.RegionLaw
import Derived.Deep.RegionWith
import Derived.BigRegion
import Derived.RegionTactic
import Derived.Lib.QuietBelow
namespace Go.Proofs.Ytnfakkinaockiaa
set_option maxRecDepth 100000
open Go.RowKit
open Go.Proofs.Ytnfakkinaockiaa.Pk (one_at one_free one_set lt_some grown_set grown_trans below_grown grown_refl)
namespace Wh

/-! ### which function a method is -/
theorem m_key (x y : Value) (w : World) : (method 192 57 (.agg #[x, y]) "sojourn/wheel.key").run Try.prog w = .ok (40, .agg #[x, y]) w := by kernel_rfl
theorem m_before (x y : Value) (w : World) : (method 192 57 (.agg #[x, y]) "sojourn/wheel.before").run Try.prog w = .ok (56, .agg #[x, y]) w := by kernel_rfl
theorem m_Len (a : Addr) (w : World) : (method 192 61 (.pointer (some a)) "Len").run Try.prog w = .ok (41, .pointer (some a)) w := by kernel_rfl
theorem m_Less (a : Addr) (w : World) : (method 192 61 (.pointer (some a)) "Less").run Try.prog w = .ok (52, .pointer (some a)) w := by kernel_rfl
theorem m_Swap (a : Addr) (w : World) : (method 192 61 (.pointer (some a)) "Swap").run Try.prog w = .ok (55, .pointer (some a)) w := by kernel_rfl
theorem m_Push (a : Addr) (w : World) : (method 192 61 (.pointer (some a)) "Push").run Try.prog w = .ok (54, .pointer (some a)) w := by kernel_rfl
theorem m_Pop (a : Addr) (w : World) : (method 192 61 (.pointer (some a)) "Pop").run Try.prog w = .ok (53, .pointer (some a)) w := by kernel_rfl
theorem m_put (a : Addr) (w : World) : (method 192 61 (.pointer (some a)) "sojourn/wheel.put").run Try.prog w = .ok (45, .pointer (some a)) w := by kernel_rfl
theorem m_drop (a : Addr) (w : World) : (method 192 61 (.pointer (some a)) "sojourn/wheel.drop").run Try.prog w = .ok (42, .pointer (some a)) w := by kernel_rfl
theorem m_find (a : Addr) (w : World) : (method 192 61 (.pointer (some a)) "sojourn/wheel.find").run Try.prog w = .ok (43, .pointer (some a)) w := by kernel_rfl
theorem m_first (a : Addr) (w : World) : (method 192 61 (.pointer (some a)) "sojourn/wheel.first").run Try.prog w = .ok (44, .pointer (some a)) w := by kernel_rfl

set_option maxHeartbeats 400000 in
theorem key_any (w : World) (a b : Int) : Calls Try.prog 40 #[.agg #[.int .i64 a, .int .i64 b]] w fun e w' => e = .returned (.int .i64 a) ∧ Below w.heap.size w w' := by
  have B : Hid (Below w.heap.size w (w.alloc (.cells #[.int .i64 a, .int .i64 b] 57))) := (Below.refl _ _).alloc (Nat.le_refl _) _
  go_enter Try.func40, Try.ntmps40
  go_wp2
  go_ret
  exact ⟨rfl, B.out⟩
set_option maxHeartbeats 400000 in
theorem before_any (w : World) (s t : Tm) : Calls Try.prog 56 #[.agg #[.int .i64 s.1, .int .i64 s.2], .agg #[.int .i64 t.1, .int .i64 t.2]] w fun e w' => e = .returned (.bool (decide (tlt s t))) ∧ Below w.heap.size w w' := by
  obtain ⟨a, b⟩ := s
  obtain ⟨c, d⟩ := t
  simp only
  have B : Hid (Below w.heap.size w ((w.alloc (.cells #[.int .i64 a, .int .i64 b] 57)).alloc (.cells #[.int .i64 c, .int .i64 d] 57))) := ((Below.refl _ _).alloc (Nat.le_refl _) _).alloc (by simp) _
  obtain ⟨r, hr⟩ : ∃ r, r = decide (tlt (a, b) (c, d)) := ⟨_, rfl⟩
  rw [← hr]
  by_cases h : b = d
  · have e1 : decide (a < c) = r := by rw [hr]; unfold tlt; simp [h]
    subst h
    clear hr
    go_enter Try.func56, Try.ntmps56
    go_wp2
    go_ret
    exact ⟨rfl, B.out⟩
  · have e1 : decide (b < d) = r := by rw [hr]; unfold tlt; simp [h]
    have e2 : (b == d) = false := by simpa using h
    clear hr h
    go_enter Try.func56, Try.ntmps56
    go_wp2
    go_ret
    exact ⟨rfl, B.out⟩
set_option maxHeartbeats 400000 in
theorem len_any (w : World) (h : Nat) (l : List Tm) (v : Value) (mo : Option Nat) (H : Hpo w h l v mo) : Calls Try.prog 41 #[.pointer (some ⟨h, 0, none⟩)] w fun e w' => e = .returned (.int .i64 (l.length : Nat)) ∧ w = w' := by
  have c0 : w.cell? ⟨h, 0, none⟩ = some v := one_at (i := 0) H.cells
  obtain ⟨A, c, rfl, _⟩ := rw_form H.row
  generalize l.length = n at c0
  clear H
  go_enter Try.func41, Try.ntmps41
  go_wp2
  go_ret
  exact ⟨rfl, rfl⟩
end Wh
end Go.Proofs.Ytnfakkinaockiaa
