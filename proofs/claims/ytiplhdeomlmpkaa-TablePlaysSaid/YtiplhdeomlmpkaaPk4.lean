/- Text, and New with its copy (chapter 1, promise 1.2). -/
import Derived.Test.YtiplhdeomlmpkaaPk3
import Derived.Laws.IdiomStrings
import Derived.Laws.BytesArg
namespace Go.Proofs.Ytiplhdeomlmpkaa
open Go.RowKit
namespace Pk

def str (bs : List UInt8) : ByteArray := ⟨bs.toArray⟩
theorem rInt_zero {lo hi : Int} {s : St} {v : Int} (h : rInt lo hi s = (v, none)) : v = 0 := by
  cases s with
  | none => simp only [rInt, Prod.mk.injEq] at h; exact h.1.symm
  | some l =>
    simp only [rInt] at h
    split at h
    · simp only [Prod.mk.injEq] at h; exact h.1.symm
    · split at h
      · simp at h
      · simp only [Prod.mk.injEq] at h; exact h.1.symm
theorem rInt_pos {hi : Int} {s : St} {v : Int} {l : List UInt8} (h : rInt 0 hi s = (v, some l)) : 0 ≤ v ∧ v ≤ hi := by
  cases s with
  | none => simp [rInt] at h
  | some l =>
    simp only [rInt] at h
    split at h
    · simp at h
    · split at h
      · rename_i hb
        simp only [Prod.mk.injEq] at h
        rw [← h.1]; exact hb
      · simp at h

end Pk
end Go.Proofs.Ytiplhdeomlmpkaa
