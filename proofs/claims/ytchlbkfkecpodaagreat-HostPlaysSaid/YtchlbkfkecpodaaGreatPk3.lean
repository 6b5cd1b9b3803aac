/- The Reader's calls that the document lists: each answers what the lists say (chapter 1, promise 1.2). -/
import Derived.Test.YtchlbkfkecpodaaGreatPk2
namespace Go.Proofs.YtchlbkfkecpodaaGreat
open Go.RowKit
namespace Pk

theorem rInt_out {lo hi : Int} {l r : List UInt8} {u : Nat} (h : dec 0 0 l = some (u, r)) (hb : uz u < lo ∨ hi < uz u) : rInt lo hi (some l) = (0, none) := by
  simp only [rInt, h]
  rw [if_neg (by omega)]
theorem rInt_in {lo hi : Int} {l r : List UInt8} {u : Nat} (h : dec 0 0 l = some (u, r)) (h1 : ¬ uz u < lo) (h2 : ¬ hi < uz u) : rInt lo hi (some l) = (uz u, some r) := by
  simp only [rInt, h]
  rw [if_pos (by omega)]
theorem rInt_none {lo hi : Int} {s : St} (h : s = none ∨ ∃ l, s = some l ∧ dec 0 0 l = none) : rInt lo hi s = (0, none) := by
  rcases h with rfl | ⟨l, rfl, h⟩
  · rfl
  · simp only [rInt, h]
end Pk
end Go.Proofs.YtchlbkfkecpodaaGreat
