/- A number that is taken is the one that would be put: plain lists. -/
import Derived.Test.YtidfpbnepdjagaaDoorPkM
namespace Go.Proofs.YtidfpbnepdjagaaDoor
namespace Pk

theorem enc_of_dec (l : List UInt8) : ∀ i u x r, i ≤ 9 → dec i u l = some (x, r) → ∃ v, x = u + v * 128 ^ i ∧ l = enc v ++ r ∧ (i = 0 ∨ v ≠ 0) := by
  induction l with
  | nil => intro i u x r _ h; simp [dec] at h
  | cons c t ih =>
    intro i u x r hi h
    rw [dec] at h
    split at h
    · cases h
    · rename_i h9
      split at h
      · rename_i hc
        split at h
        · rename_i hz
          simp only [Option.some.injEq, Prod.mk.injEq] at h
          obtain ⟨rfl, rfl⟩ := h
          refine ⟨c.toNat, rfl, ?_, hz⟩
          rw [enc_lo hc]
          simp
        · cases h
      · rename_i hc
        obtain ⟨v, hx, hl, hv⟩ := ih (i + 1) _ x r (by omega) h
        have hcb := c.toNat_lt
        refine ⟨c.toNat % 128 + 128 * v, ?_, ?_, .inr (by omega)⟩
        · rw [hx, Nat.pow_succ, Nat.add_mul, Nat.add_assoc]
          congr 2
          rw [Nat.mul_comm (128 ^ i) 128, ← Nat.mul_assoc, Nat.mul_comm v 128]
        · rw [enc_hi (by omega), hl]
          have e1 : (c.toNat % 128 + 128 * v) % 128 + 128 = c.toNat := by omega
          have e2 : (c.toNat % 128 + 128 * v) / 128 = v := by omega
          rw [e1, e2]
          simp
/-- The one form of a number: where it is taken, its bytes are those that would be put; else not. -/
theorem form_yes {l : List UInt8} {k u : Nat} {c : UInt8} {t : List UInt8} {x : Nat} (hd : dec 0 0 l = dec k u (c :: t)) (ht : l.drop (k + 1) = t) (hs : dec k u (c :: t) = some (x, t)) (hl : k < l.length) : enc x = l.take (k + 1) := by
  obtain ⟨v, hx, hlv, _⟩ := enc_of_dec l 0 0 x t (by omega) (hd.trans hs)
  simp only [Nat.pow_zero, Nat.mul_one, Nat.zero_add] at hx
  subst hx
  have hlen := congrArg List.length hlv
  rw [List.length_append, ← ht, List.length_drop] at hlen
  have e : (enc x).length = k + 1 := by omega
  have h2 := congrArg (List.take (k + 1)) hlv
  rw [List.take_append_of_le_length (by omega)] at h2
  rw [h2, List.take_of_length_le (by omega)]
theorem form_no {l : List UInt8} {k u : Nat} {c : UInt8} {t : List UInt8} {x : Nat} (hd : dec 0 0 l = dec k u (c :: t)) (hs : dec k u (c :: t) = none) (hx : x < 18446744073709551616) : enc x ≠ l.take (k + 1) := by
  intro e
  have h := dec_enc (l.drop (k + 1)) 9 0 0 x rfl (by omega) (by simpa using hx) (.inl rfl)
  rw [e, List.take_append_drop, hd, hs] at h
  cases h
end Pk
end Go.Proofs.YtidfpbnepdjagaaDoor
