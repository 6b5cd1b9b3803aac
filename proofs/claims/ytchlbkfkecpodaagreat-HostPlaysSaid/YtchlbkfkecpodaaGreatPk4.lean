/- Text, and New with its copy (chapter 1, promise 1.2). -/
import Derived.Test.YtchlbkfkecpodaaGreatPk3
import Derived.Laws.IdiomStrings
import Derived.Laws.BytesArg
namespace Go.Proofs.YtchlbkfkecpodaaGreat
open Go.RowKit
namespace Pk

def str (bs : List UInt8) : ByteArray := ⟨bs.toArray⟩
theorem str_run {w : World} {T : Nat → Prop} {A : Option Addr} {n c : Nat} {bs : List UInt8} (h : Rb w T A n bs) : (convert 54 9 (.slice A n c)).run Tryz.prog w = .ok (.string (str bs)) w := by
  obtain rfl := h.len
  cases A with
  | none =>
    rcases bs with _ | ⟨x, t⟩
    · exact run_convert_bytes_nil w 54 5 Tryz.underlying54 Tryz.underlying5 _ _ _ Tryz.underlying9
    · obtain ⟨ad, e, _⟩ := h.at_ (by simp)
      cases e
  | some a =>
    refine run_convert_bytes_back w 54 9 5 a c bs Tryz.underlying54 Tryz.underlying5 Tryz.underlying9 fun j hj => ?_
    obtain ⟨ad, e, _, hc⟩ := h.at_ (by omega)
    injection e with e
    subst e
    exact hc j _ (List.getElem?_eq_getElem hj)
theorem str_nil (w : World) : (convert 54 9 (.slice none 0 0)).run Tryz.prog w = .ok (.string (str [])) w := str_run (T := fun _ => True) Rb.none_

theorem rInt_zero {lo hi : Int} {s : St} {v : Int} (h : rInt lo hi s = (v, none)) : v = 0 := by
  cases s with
  | none => simp only [rInt, Prod.mk.injEq] at h; exact h.1.symm
  | some l =>
    simp only [rInt] at h
    split at h
    · simp only [Prod.mk.injEq] at h; exact h.1.symm
    · split at h
      · simp at h
      · simp only [Prod.mk.injEq] at h; exact h.1.symm
theorem rInt_pos {hi : Int} {s : St} {v : Int} {l : List UInt8} (h : rInt 0 hi s = (v, some l)) : 0 ≤ v ∧ v ≤ hi := by
  cases s with
  | none => simp [rInt] at h
  | some l =>
    simp only [rInt] at h
    split at h
    · simp at h
    · split at h
      · rename_i hb
        simp only [Prod.mk.injEq] at h
        rw [← h.1]; exact hb
      · simp at h

end Pk
end Go.Proofs.YtchlbkfkecpodaaGreat
