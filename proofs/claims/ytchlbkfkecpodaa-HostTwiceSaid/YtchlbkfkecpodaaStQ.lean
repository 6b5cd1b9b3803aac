/- == on entries. -/
import Derived.Test.YtchlbkfkecpodaaStO
namespace Go.Proofs.Ytchlbkfkecpodaa
set_option maxRecDepth 100000
open Go.RowKit
namespace St
theorem eq_ent_run (w : World) (a u t a' u' t' : Int) : (Op.equalIn 10000 41 (.agg #[.int .i64 a, .int .i64 u, .int .i64 t, .int .i64 0, .int .i64 0]) (.agg #[.int .i64 a', .int .i64 u', .int .i64 t', .int .i64 0, .int .i64 0])).run Try.prog w = .ok (decide ((⟨a, u, t⟩ : E) = ⟨a', u', t'⟩)) w := by
  have u3 := Try.underlying3
  have a3 := Try.isAgg3
  have z3 := Try.sizeOf3
  have u2 := Try.underlying2
  have a2 := Try.isAgg2
  have z2 := Try.sizeOf2
  have hS : Try.prog.underlying 41 = some (.struct (Try.prog.fieldsOf 41)) := by kernel_rfl
  rw [show (10000 : Nat) = 9999 + 1 from rfl, run_equalIn_agg w 9999 41 _ _ hS Try.stoodInHeld41]
  simp only [Program.fieldsOf, Try.underlying41]
  go_simp
  by_cases h1 : a = a' <;> by_cases h2 : u = u' <;> by_cases h3 : t = t' <;> simp [h1, h2, h3]
end St
end Go.Proofs.Ytchlbkfkecpodaa
