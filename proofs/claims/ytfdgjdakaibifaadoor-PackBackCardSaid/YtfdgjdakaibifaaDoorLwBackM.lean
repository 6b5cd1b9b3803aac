/- Things put one behind the other, and taken again: plain lists. -/
import Derived.Test.YtfdgjdakaibifaaDoorPkO
namespace Go.Proofs.YtfdgjdakaibifaaDoor
namespace Pk

def encOp (o : OpR) : List UInt8 := if o.kind = 0 then encI o.n else if o.kind = 1 then encT o.s else [UInt8.ofNat (o.n % 256).toNat]
def encAll (l : List OpR) : List UInt8 := l.flatMap encOp
theorem encAll_snoc (l : List OpR) (o : OpR) : encAll (l ++ [o]) = encAll l ++ encOp o := by simp [encAll]
theorem encAll_app (a b : List OpR) : encAll (a ++ b) = encAll a ++ encAll b := by simp [encAll]
theorem encAll_cons (l : List OpR) (o : OpR) : encAll (o :: l) = encOp o ++ encAll l := by simp [encAll]
theorem encT_len (s : List UInt8) (h : s.length ≤ 9223372036854775807) : (encT s).length ≤ 10 + s.length := by
  have := encI_len (s.length : Int) (by omega) (by omega)
  simp [encT]; omega
theorem encOp_len {o : OpR} (h : OpOk o) {m : Nat} (hs : o.s.length ≤ m) : (encOp o).length ≤ 10 + m := by
  unfold encOp
  split
  · have := encI_len o.n h.n1 h.n2; omega
  · split
    · have := encT_len o.s h.len; omega
    · simp; omega
theorem encOp_ne (o : OpR) : 0 < (encOp o).length := by
  unfold encOp
  split
  · exact enc_ne _
  · split
    · have := enc_ne (zz (o.s.length : Int)); unfold encT encI; rw [List.length_append]; omega
    · simp
theorem encAll_len {m : Nat} : ∀ (l : List OpR), (∀ o ∈ l, OpOk o ∧ o.s.length ≤ m) → (encAll l).length ≤ (10 + m) * l.length := by
  intro l
  induction l with
  | nil => intro _; simp [encAll]
  | cons o t ih =>
    intro h
    have h1 := encOp_len (h o (by simp)).1 (h o (by simp)).2
    have h2 := ih fun x hx => h x (by simp [hx])
    rw [encAll_cons, List.length_append, List.length_cons, Nat.mul_succ]; omega

/-- What is asked of a Reader for a thing: the state behind it. -/
def rOp (o : OpR) (s : St) : St :=
  if o.kind = 0 then (rInt (-9223372036854775808) 9223372036854775807 s).2 else if o.kind = 1 then (rText 100 s).2 else (rByte s).2
def stF (l : List OpR) (s : St) : St := l.foldl (fun s o => rOp o s) s
theorem stF_snoc (l : List OpR) (o : OpR) (s : St) : stF (l ++ [o]) s = rOp o (stF l s) := by simp [stF]
theorem stF_cons (l : List OpR) (o : OpR) (s : St) : stF (o :: l) s = stF l (rOp o s) := rfl
theorem rOp_none (o : OpR) : rOp o none = none := by unfold rOp; split; rfl; split <;> rfl
theorem stF_none : ∀ l : List OpR, stF l none = none := by
  intro l
  induction l with
  | nil => rfl
  | cons o t ih => rw [stF_cons, rOp_none, ih]

theorem rInt_enc {v lo hi : Int} (h1 : -9223372036854775808 ≤ v) (h2 : v ≤ 9223372036854775807) (h : lo ≤ v ∧ v ≤ hi) (r : List UInt8) : rInt lo hi (some (encI v ++ r)) = (v, some r) := by
  simp only [rInt, dec_encI v h1 h2 r, uz_zz]
  rw [if_pos h]
theorem rText_enc {s : List UInt8} {most : Int} (h : (s.length : Int) ≤ most) (hm : most ≤ 9223372036854775807) (r : List UInt8) : rText most (some (encT s ++ r)) = (s, some r) := by
  unfold rText encT
  rw [List.append_assoc, rInt_enc (by omega) (by omega) (by omega)]
  simp
theorem rByte_enc (v : Int) (r : List UInt8) : rByte (some ([UInt8.ofNat (v % 256).toNat] ++ r)) = ((v % 256).toNat, some r) := by
  have : (UInt8.ofNat (v % 256).toNat).toNat = (v % 256).toNat := ofNat_toNat (by omega)
  simp [rByte, this]
theorem rOp_enc {o : OpR} (h : OpOk o) (hs : o.s.length ≤ 100) (r : List UInt8) : rOp o (some (encOp o ++ r)) = some r := by
  unfold rOp encOp
  split
  · rw [rInt_enc h.n1 h.n2 ⟨h.n1, h.n2⟩]
  · split
    · rw [rText_enc (by omega) (by omega)]
    · rw [rByte_enc]
theorem stF_all : ∀ (l : List OpR), (∀ o ∈ l, OpOk o ∧ o.s.length ≤ 100) → ∀ r, stF l (some (encAll l ++ r)) = some r := by
  intro l
  induction l with
  | nil => intro _ r; simp [stF, encAll]
  | cons o t ih =>
    intro h r
    rw [stF_cons, encAll_cons, List.append_assoc, rOp_enc (h o (by simp)).1 (h o (by simp)).2]
    exact ih (fun x hx => h x (by simp [hx])) r

/-! Cut off anywhere. -/
theorem dec_go (l : List UInt8) : ∀ i u, i ≤ 9 → (∀ c ∈ l, 128 ≤ c.toNat) → dec i u l = none := by
  induction l with
  | nil => intro i u _ _; rfl
  | cons c t ih =>
    intro i u hi hc
    have h1 := hc c (by simp)
    rw [dec]
    by_cases h9 : i = 9
    · rw [if_pos ⟨h9, by omega⟩]
    · rw [if_neg (fun h => h9 h.1), if_neg (by omega)]
      exact ih (i + 1) _ (by omega) (fun x hx => hc x (by simp [hx]))
theorem enc_goes (n : Nat) : ∀ (i : Nat) (c : UInt8), (enc n)[i]? = some c → i + 1 < (enc n).length → 128 ≤ c.toNat := by
  induction n using Nat.strongRecOn with
  | ind n ih =>
    intro i c hi hl
    by_cases h : n < 128
    · rw [enc_lo h] at hl; simp at hl
    · rw [enc_hi (by omega)] at hi hl
      cases i with
      | zero =>
        simp only [List.getElem?_cons_zero, Option.some.injEq] at hi
        subst hi
        rw [ofNat_toNat (by omega)]; omega
      | succ i =>
        rw [List.getElem?_cons_succ] at hi
        rw [List.length_cons] at hl
        exact ih (n / 128) (by omega) i c hi (by omega)
theorem rInt_cut {v lo hi : Int} {k : Nat} (hk : k < (encI v).length) : rInt lo hi (some ((encI v).take k)) = (0, none) := by
  have e : dec 0 0 ((encI v).take k) = none := by
    refine dec_go _ 0 0 (by omega) fun c hc => ?_
    obtain ⟨i, hi⟩ := List.getElem?_of_mem hc
    rw [List.getElem?_take] at hi
    split at hi
    · exact enc_goes (zz v) i c hi (by unfold encI at hk; omega)
    · cases hi
  simp only [rInt, e]
theorem rOp_cut {o : OpR} (hs : o.s.length ≤ 100) {k : Nat} (hk : k < (encOp o).length) : rOp o (some ((encOp o).take k)) = none := by
  unfold rOp
  unfold encOp at hk ⊢
  split
  · rename_i h0
    rw [if_pos h0] at hk
    rw [rInt_cut hk]
  · rename_i h0
    rw [if_neg h0] at hk
    split
    · rename_i h1
      rw [if_pos h1] at hk
      unfold rText encT
      unfold encT at hk
      rw [List.length_append] at hk
      by_cases hc : k < (encI (o.s.length : Int)).length
      · rw [List.take_append_of_le_length (by omega), rInt_cut hc]
      · rw [List.take_append, List.take_of_length_le (by omega), rInt_enc (by omega) (by omega) (by omega)]
        simp only [Int.toNat_natCast]
        rw [if_neg (by rw [List.length_take]; omega)]
    · rename_i h1
      rw [if_neg h1] at hk
      simp only [List.length_cons, List.length_nil] at hk
      obtain rfl : k = 0 := by omega
      rfl
theorem stF_cut : ∀ (l : List OpR), (∀ o ∈ l, OpOk o ∧ o.s.length ≤ 100) → ∀ k, k < (encAll l).length → stF l (some ((encAll l).take k)) = none := by
  intro l
  induction l with
  | nil => intro _ k hk; simp [encAll] at hk
  | cons o t ih =>
    intro h k hk
    rw [encAll_cons] at hk ⊢
    rw [List.length_append] at hk
    rw [stF_cons]
    by_cases hc : k < (encOp o).length
    · rw [List.take_append_of_le_length (by omega), rOp_cut (h o (by simp)).2 hc, stF_none]
    · rw [List.take_append, List.take_of_length_le (by omega), rOp_enc (h o (by simp)).1 (h o (by simp)).2]
      exact ih (fun x hx => h x (by simp [hx])) _ (by omega)
end Pk
end Go.Proofs.YtfdgjdakaibifaaDoor
