/- The Writer's calls, each by a contract: what it has (chapter 1, promise 1.1). -/
import Derived.Test.YtchlbkfkecpodaaGreatPk5
import Derived.StillTailTactics
import Derived.Deep.RegionLaw
namespace Go.Proofs.YtchlbkfkecpodaaGreat
open Go.RowKit
namespace Pk

theorem own_below {w w' : World} {base n : Nat} {e : TypeId} {v : Value} {xs : List Value} (h : w.ownsRow base e 1 v n xs) (hb : Below w.heap.size w w') : w'.ownsRow base e 1 v n xs := by
  refine ⟨h.1, ?_⟩
  rcases h.2 with hn | ⟨g, cap, cur, rfl, hg, hgg, rest⟩
  · exact .inl hn
  · exact .inr ⟨g, cap, cur, rfl, hg, (hb.block g (lt_some hgg)).trans hgg, rest⟩
theorem own_far {w : World} {base n g : Nat} {t : TypeId} {cs : Array Value} {v : Value} {xs : List Value} (h : w.ownsRow base 5 1 v n xs) (hg : w.heap[g]? = some (.cells cs t (0, 0))) (ht : t ≠ 5) : v.ownBlock ≠ some g := by
  rcases h.2 with ⟨rfl, _⟩ | ⟨g', cap, cur, rfl, _, hh, _⟩
  · simp [Value.ownBlock]
  · intro he
    have e : g' = g := by simpa [Value.ownBlock] using he
    subst e
    rw [hh] at hg
    injection hg with hg
    injection hg with _ e
    exact ht e.symm

end Pk
end Go.Proofs.YtchlbkfkecpodaaGreat
