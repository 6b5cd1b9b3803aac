/- How many groups a number takes: plain arithmetic. -/
import Derived.Test.YtfdgjdakaibifaaDoorPkM
namespace Go.Proofs.YtfdgjdakaibifaaDoor
namespace Pk

def grp (x : Nat) : Nat := if x < 64 then 0 else grp (x / 128) + 1
termination_by x
decreasing_by omega
theorem grp_lo {x : Nat} (h : x < 64) : grp x = 0 := by rw [grp, if_pos h]
theorem grp_hi {x : Nat} (h : 64 ≤ x) : grp x = grp (x / 128) + 1 := by rw [grp, if_neg (by omega)]
theorem enc_grp (n : Nat) : (enc n).length = grp (n / 2) + 1 := by
  induction n using Nat.strongRecOn with
  | ind n ih =>
    by_cases h : n < 128
    · rw [enc_lo h, grp_lo (by omega)]; rfl
    · rw [enc_hi (by omega), List.length_cons, ih (n / 128) (by omega), grp_hi (x := n / 2) (by omega)]
      have e : n / 128 / 2 = n / 2 / 128 := by omega
      rw [e]
theorem enc_shape (n : Nat) : ∀ (i : Nat) (c : UInt8), (enc n)[i]? = some c → (128 ≤ c.toNat ↔ i + 1 < (enc n).length) := by
  induction n using Nat.strongRecOn with
  | ind n ih =>
    intro i c hi
    by_cases h : n < 128
    · rw [enc_lo h] at hi ⊢
      have hlt := (List.getElem?_eq_some_iff.1 hi).1
      simp only [List.length_cons, List.length_nil] at hlt
      obtain rfl : i = 0 := by omega
      simp only [List.getElem?_cons_zero, Option.some.injEq] at hi
      subst hi
      rw [ofNat_toNat (by omega)]
      simp; omega
    · rw [enc_hi (by omega)] at hi ⊢
      cases i with
      | zero =>
        simp only [List.getElem?_cons_zero, Option.some.injEq] at hi
        subst hi
        rw [ofNat_toNat (by omega), List.length_cons]
        have := enc_ne (n / 128)
        omega
      | succ i =>
        rw [List.getElem?_cons_succ] at hi
        rw [ih (n / 128) (by omega) i c hi, List.length_cons]
        omega
theorem enc_par (n : Nat) (c : UInt8) (h : (enc n)[0]? = some c) : c.toNat % 2 = n % 2 := by
  by_cases h1 : n < 128
  · rw [enc_lo h1] at h
    simp only [List.getElem?_cons_zero, Option.some.injEq] at h
    subst h
    rw [ofNat_toNat (by omega)]
  · rw [enc_hi (by omega)] at h
    simp only [List.getElem?_cons_zero, Option.some.injEq] at h
    subst h
    rw [ofNat_toNat (by omega)]
    omega
end Pk
end Go.Proofs.YtfdgjdakaibifaaDoor
