/- A saga's bytes, in plain lists; no program. -/
import Derived.Test.YtidfpbnepdjagaaDoorWtL
import Derived.Test.YtidfpbnepdjagaaDoorSgC
namespace Go.Proofs.YtidfpbnepdjagaaDoor
open Go.RowKit
open Go.Proofs.YtidfpbnepdjagaaDoor.Pk
namespace Sb
open Go.Proofs.YtidfpbnepdjagaaDoor.Sg
open Wt (Wan may inR wz wanOf wan_of wz_of raw rdk rdk_len rdk_cat rdk_inv rEnd_zero may_I I cat cat_app cat_cons cat_nil cat_len)

/-- The numbers of a saga, in the order of its bytes. -/
def szs (s : Sag) : List Int := wz s.w ++ [s.ph, s.st, s.rs, s.si]
def sput (s : Sag) : List UInt8 := cat (szs s)
def sagOf : List Int → Sag
  | [a, b, c, d, e, f, g, p, t, r, i] => ⟨⟨a, b, c, d, e, f, g⟩, p, t, r, i⟩
  | _ => sz
theorem sag_of (s : Sag) : sagOf (szs s) = s := rfl
theorem szs_of {l : List Int} (h : l.length = 11) : szs (sagOf l) = l := by
  match l, h with
  | [a, b, c, d, e, f, g, p, t, r, i], _ => rfl
theorem szs_len (s : Sag) : (szs s).length = 11 := rfl
theorem sput_eq (s : Sag) : sput s = raw s.w ++ cat [s.ph, s.st, s.rs, s.si] := cat_app _ _
/-- Its numbers are numbers of 64 bits. -/
theorem tail_in {s : Sag} (h : smay s = true) : (0 ≤ s.ph ∧ s.ph ≤ 5) ∧ (0 ≤ s.st ∧ s.st ≤ 7) ∧ (0 ≤ s.rs ∧ s.rs ≤ 4) ∧ 0 ≤ s.si ∧ s.si ≤ 1099511627776 := by
  obtain ⟨-, h2, hc⟩ := smay_true h
  have l1 := Pl.fwd_len s.w
  have l2 := Pl.bck_len s.w
  unfold nF nB at hc
  have hw : why s = true → 0 ≤ s.rs ∧ s.rs ≤ 4 := fun h => by
    unfold why at h
    simp only [Bool.and_eq_true, decide_eq_true_iff] at h
    omega
  rcases hc with ⟨hp, h0, h1, hr⟩ | ⟨hp, h0, hr⟩ | ⟨hp, h0, h1, hr⟩ | ⟨hp, h0, hr⟩ | ⟨hp, h0, hr⟩
  · omega
  · omega
  · have := hw hr; omega
  · omega
  · have := hw hr; omega
theorem szs_I {s : Sag} (h : smay s = true) : ∀ z ∈ szs s, I z := by
  intro z hz
  have ht := tail_in h
  unfold szs at hz
  rcases List.mem_append.1 hz with hz | hz
  · exact may_I (smay_true h).1 z hz
  · simp only [List.mem_cons, List.not_mem_nil, or_false] at hz
    unfold I
    rcases hz with rfl | rfl | rfl | rfl <;> omega
theorem sput_len {s : Sag} (h : smay s = true) : (sput s).length ≤ 110 := by
  have := cat_len (szs s) (szs_I h)
  rw [szs_len] at this
  exact this
/-- What is read. -/
def sget (l : List UInt8) : Option Sag := if rEnd (rdk 11 (some l)).2 = 0 ∧ smay (sagOf (rdk 11 (some l)).1) = true then some (sagOf (rdk 11 (some l)).1) else none
theorem sget_put {s : Sag} (h : smay s = true) : sget (sput s) = some s := by
  have := rdk_cat (szs s) (szs_I h) []
  rw [List.append_nil] at this
  have e : rdk 11 (some (sput s)) = (szs s, some []) := this
  unfold sget
  rw [e]
  simp only [sag_of, h, rEnd, and_self, if_true]
theorem sget_inv {l : List UInt8} {s : Sag} (h : sget l = some s) : smay s = true ∧ sput s = l := by
  unfold sget at h
  split at h
  · rename_i hh
    injection h with h
    have e := rdk_inv 11 l [] (rEnd_zero hh.1)
    rw [List.append_nil] at e
    refine ⟨by rw [← h]; exact hh.2, ?_⟩
    rw [← h, sput, szs_of (rdk_len 11 _), ← e]
  · cases h
/-- Whoever reads what was put as it was put, and puts it again to compare, reads the same. -/
theorem sget_same {l : List UInt8} {t : Sag} (ht : ∀ s, smay s = true → sput s = l → t = s) : (if smay t = true ∧ sput t = l then some t else none) = sget l := by
  cases h : sget l with
  | some s =>
    obtain ⟨h1, h2⟩ := sget_inv h
    rw [ht s h1 h2, if_pos ⟨h1, h2⟩]
  | none =>
    rw [if_neg]
    rintro ⟨h1, h2⟩
    rw [← h2, sget_put h1] at h
    cases h
end Sb
end Go.Proofs.YtidfpbnepdjagaaDoor
