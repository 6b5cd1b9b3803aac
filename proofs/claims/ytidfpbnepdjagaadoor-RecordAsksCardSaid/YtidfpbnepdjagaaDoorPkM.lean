/- What bytes are, in plain lists (chapter 1 of the document): numbers in groups of seven bits, and how they are taken again. Nothing of the program is in this text. -/
namespace Go.Proofs.YtidfpbnepdjagaaDoor
namespace Pk

def zz (v : Int) : Nat := if 0 ≤ v then (2 * v).toNat else (-2 * v - 1).toNat
def uz (u : Nat) : Int := if u % 2 = 0 then ((u / 2 : Nat) : Int) else - ((u / 2 : Nat) : Int) - 1
theorem uz_zz (v : Int) : uz (zz v) = v := by unfold uz zz; split <;> split <;> omega
theorem zz_uz (u : Nat) : zz (uz u) = u := by unfold uz zz; split <;> split <;> omega
theorem zz_lt (v : Int) (h1 : -9223372036854775808 ≤ v) (h2 : v ≤ 9223372036854775807) : zz v < 18446744073709551616 := by unfold zz; split <;> omega
theorem uz_bd (u : Nat) (h : u < 18446744073709551616) : -9223372036854775808 ≤ uz u ∧ uz u ≤ 9223372036854775807 := by unfold uz; split <;> omega
theorem zz_half (v : Int) : zz v / 2 = (if 0 ≤ v then v else -(v + 1)).toNat := by unfold zz; split <;> omega
theorem zz_odd (v : Int) : zz v % 2 = if v < 0 then 1 else 0 := by unfold zz; split <;> split <;> omega

def enc (u : Nat) : List UInt8 := if u < 128 then [UInt8.ofNat u] else UInt8.ofNat (u % 128 + 128) :: enc (u / 128)
termination_by u
decreasing_by omega
theorem enc_lo {u : Nat} (h : u < 128) : enc u = [UInt8.ofNat u] := by rw [enc, if_pos h]
theorem enc_hi {u : Nat} (h : 128 ≤ u) : enc u = UInt8.ofNat (u % 128 + 128) :: enc (u / 128) := by rw [enc, if_neg (by omega)]
theorem enc_ne (u : Nat) : 0 < (enc u).length := by rw [enc]; split <;> simp
theorem enc_len (k : Nat) : ∀ u, u < 128 ^ (k + 1) → (enc u).length ≤ k + 1 := by
  induction k with
  | zero => intro u hu; rw [enc_lo (by simpa using hu)]; simp
  | succ k ih =>
    intro u hu
    by_cases h : u < 128
    · rw [enc_lo h]; simp
    · rw [enc_hi (by omega)]
      have h2 : u / 128 < 128 ^ (k + 1) := by
        have : 128 ^ (k + 1 + 1) = 128 ^ (k + 1) * 128 := by rw [Nat.pow_succ]
        omega
      have := ih _ h2
      simp; omega
theorem enc_len10 (u : Nat) (h : u < 18446744073709551616) : (enc u).length ≤ 10 := by
  refine enc_len 9 u ?_
  have : (128 : Nat) ^ (9 + 1) = 1180591620717411303424 := by decide
  omega
def encI (v : Int) : List UInt8 := enc (zz v)
theorem encI_len (v : Int) (h1 : -9223372036854775808 ≤ v) (h2 : v ≤ 9223372036854775807) : (encI v).length ≤ 10 := enc_len10 _ (zz_lt v h1 h2)
def encT (s : List UInt8) : List UInt8 := encI s.length ++ s

def dec (i u : Nat) : List UInt8 → Option (Nat × List UInt8)
  | [] => none
  | c :: t => if i = 9 ∧ 1 < c.toNat then none else if c.toNat < 128 then (if i = 0 ∨ c.toNat ≠ 0 then some (u + c.toNat * 128 ^ i, t) else none) else dec (i + 1) (u + c.toNat % 128 * 128 ^ i) t

theorem ofNat_toNat {n : Nat} (h : n < 256) : (UInt8.ofNat n).toNat = n := by simp; omega

/-- What was put is taken. -/
theorem dec_enc (rest : List UInt8) (k : Nat) : ∀ i u v, k = 9 - i → i ≤ 9 → v * 128 ^ i + u < 18446744073709551616 → (i = 0 ∨ v ≠ 0) → dec i u (enc v ++ rest) = some (u + v * 128 ^ i, rest) := by
  induction k with
  | zero =>
    intro i u v hk hi hb hv
    obtain rfl : i = 9 := by omega
    have p9 : (128 : Nat) ^ 9 = 9223372036854775808 := by decide
    have hv1 : v ≤ 1 := by rw [p9] at hb; omega
    rw [enc_lo (by omega)]
    have e : (UInt8.ofNat v).toNat = v := ofNat_toNat (by omega)
    simp only [List.cons_append, List.nil_append, dec, e]
    rw [if_neg (by omega), if_pos (by omega), if_pos (by omega)]
  | succ k ih =>
    intro i u v hk hi hb hv
    by_cases h : v < 128
    · rw [enc_lo h]
      have e : (UInt8.ofNat v).toNat = v := ofNat_toNat (by omega)
      simp only [List.cons_append, List.nil_append, dec, e]
      rw [if_neg (by omega), if_pos h, if_pos hv]
    · rw [enc_hi (by omega)]
      have e : (UInt8.ofNat (v % 128 + 128)).toNat = v % 128 + 128 := ofNat_toNat (by omega)
      simp only [List.cons_append, dec, e]
      rw [if_neg (by omega), if_neg (by omega)]
      have e2 : (v % 128 + 128) % 128 = v % 128 := by omega
      have p : (128 : Nat) ^ (i + 1) = 128 * 128 ^ i := by rw [Nat.pow_succ]; omega
      have dm : v * 128 ^ i = v / 128 * (128 * 128 ^ i) + v % 128 * 128 ^ i := by
        rw [← Nat.mul_assoc, ← Nat.add_mul]; congr 1; omega
      rw [e2, ih (i + 1) _ (v / 128) (by omega) (by omega) (by rw [p]; omega) (by omega), p]
      congr 2; omega
theorem dec_encI (v : Int) (h1 : -9223372036854775808 ≤ v) (h2 : v ≤ 9223372036854775807) (rest : List UInt8) : dec 0 0 (encI v ++ rest) = some (zz v, rest) := by
  rw [encI, dec_enc rest 9 0 0 (zz v) rfl (by omega) (by have := zz_lt v h1 h2; simpa using this) (.inl rfl)]; simp

/-- Below 2^64 stays what is taken. -/
theorem dec_bd (l : List UInt8) : ∀ i u, i ≤ 9 → u < 128 ^ i → ∀ x r, dec i u l = some (x, r) → x < 18446744073709551616 := by
  induction l with
  | nil => intro i u _ _ x r h; simp [dec] at h
  | cons c t ih =>
    intro i u hi hu x r h
    simp only [dec] at h
    have hp : (128 : Nat) ^ (i + 1) = 128 * 128 ^ i := by rw [Nat.pow_succ]; omega
    have step : ∀ y, y < 128 → u + y * 128 ^ i < 128 ^ (i + 1) := by
      intro y hy
      rw [hp]
      have : y * 128 ^ i ≤ 127 * 128 ^ i := Nat.mul_le_mul_right _ (by omega)
      omega
    split at h
    · cases h
    · rename_i h9
      split at h
      · rename_i hc
        split at h
        · simp only [Option.some.injEq, Prod.mk.injEq] at h
          obtain ⟨rfl, _⟩ := h
          by_cases e : i = 9
          · subst e
            have h1 : c.toNat ≤ 1 := by omega
            have p9 : (128 : Nat) ^ 9 = 9223372036854775808 := by decide
            rw [p9] at hu ⊢; omega
          · have h3 := step _ hc
            have h4 : (128 : Nat) ^ (i + 1) ≤ 128 ^ 9 := Nat.pow_le_pow_right (by omega) (by omega)
            have p9 : (128 : Nat) ^ 9 = 9223372036854775808 := by decide
            omega
        · cases h
      · rename_i hc
        by_cases e : i = 9
        · exact absurd ⟨e, by omega⟩ h9
        · exact ih (i + 1) _ (by omega) (step _ (Nat.mod_lt _ (by omega))) x r h

/-- The reader: what is left, or nothing where it is wrong. -/
abbrev St := Option (List UInt8)
def rByte : St → Nat × St
  | some (c :: t) => (c.toNat, some t)
  | _ => (0, none)
def rInt (lo hi : Int) : St → Int × St
  | none => (0, none)
  | some l => match dec 0 0 l with
    | none => (0, none)
    | some (u, r) => if lo ≤ uz u ∧ uz u ≤ hi then (uz u, some r) else (0, none)
def rText (most : Int) (s : St) : List UInt8 × St :=
  match rInt 0 (max most 0) s with
  | (_, none) => ([], none)
  | (n, some l) => if n.toNat ≤ l.length then (l.take n.toNat, some (l.drop n.toNat)) else ([], none)
def rEnd : St → Int
  | none => 2
  | some [] => 0
  | some _ => 3
end Pk
end Go.Proofs.YtidfpbnepdjagaaDoor
