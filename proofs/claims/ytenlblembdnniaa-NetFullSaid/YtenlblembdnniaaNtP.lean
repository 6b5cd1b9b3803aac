/- Many messages that are alike: what Send, Double, Drop do to them. -/
import Derived.Test.YtenlblembdnniaaNtK
namespace Go.Proofs.Ytenlblembdnniaa
namespace Nt
def me : Ms := ⟨0, 1, []⟩
def rp (j : Nat) : List Ms := List.replicate j me
theorem rp_len (j : Nat) : (rp j).length = j := by simp [rp]
theorem rp_add (k j : Nat) : addS k (rp j) me = rp (if j < k then j + 1 else j) := by
  unfold addS
  rw [rp_len]
  split
  · simp [rp, List.replicate_succ']
  · rfl
theorem rp_addC (k j : Nat) : addC k (rp j) = if j < k then 0 else 4 := by unfold addC; rw [rp_len]
theorem rp_send (k j : Nat) : sendS [true, true] k (rp j) ⟨0, 1, []⟩ = rp (if j < k then j + 1 else j) := rp_add k j
theorem rp_sendC (k j : Nat) : sendC [true, true] k (rp j) 0 1 = if j < k then 0 else 4 := rp_addC k j
theorem rp_at {j i : Nat} (h : i < j) : mt (rp j) i = me := by
  rw [mt_eq (by rw [rp_len]; exact h)]
  simp [rp]
theorem rp_dbl {k j : Nat} (h : 0 < j) : dblS k (rp j) 0 = rp (if j < k then j + 1 else j) := by
  unfold dblS
  rw [rp_len, if_pos (node_iff.2 ⟨by omega, by omega⟩), show (0 : Int).toNat = 0 from rfl, rp_at h, rp_add]
theorem rp_dblC {k j : Nat} (h : 0 < j) : dblC k (rp j) 0 = if j < k then 0 else 4 := by
  unfold dblC
  rw [rp_len, if_pos (node_iff.2 ⟨by omega, by omega⟩), rp_addC]
theorem rp_dropC (j : Nat) : dropC (rp (j + 1)) (j : Int) = 0 := by
  unfold dropC
  rw [rp_len, if_pos (node_iff.2 ⟨by omega, by omega⟩)]
theorem rp_drop (j : Nat) : outS (rp (j + 1)) (j : Int) = rp j := by
  unfold outS del
  rw [rp_len, if_pos (node_iff.2 ⟨by omega, by omega⟩), show ((j : Int)).toNat = j from by omega, List.drop_of_length_le (by rw [rp_len]; exact Nat.le_refl _), List.append_nil]
  simp [rp]
end Nt
end Go.Proofs.Ytenlblembdnniaa
