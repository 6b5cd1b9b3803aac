/- want, in plain lists: what was put is read, cut off it is not, and bytes that are read are what is put (promise 3.3). -/
import Derived.Test.YtidfpbnepdjagaaDoorWtG
import Derived.Test.YtidfpbnepdjagaaDoorLwReadsM
namespace Go.Proofs.YtidfpbnepdjagaaDoor
open Go.Proofs.YtidfpbnepdjagaaDoor.Pk
namespace Wt

theorem rInt_enc {v lo hi : Int} (h1 : -9223372036854775808 ≤ v) (h2 : v ≤ 9223372036854775807) (h : lo ≤ v ∧ v ≤ hi) (r : List UInt8) : rInt lo hi (some (encI v ++ r)) = (v, some r) := by
  simp only [rInt, dec_encI v h1 h2 r, uz_zz]
  rw [if_pos h]
theorem dec_go (l : List UInt8) : ∀ i u, i ≤ 9 → (∀ c ∈ l, 128 ≤ c.toNat) → dec i u l = none := by
  induction l with
  | nil => intro i u _ _; rfl
  | cons c t ih =>
    intro i u hi hc
    have h1 := hc c (by simp)
    rw [dec]
    by_cases h9 : i = 9
    · rw [if_pos ⟨h9, by omega⟩]
    · rw [if_neg (fun h => h9 h.1), if_neg (by omega)]
      exact ih (i + 1) _ (by omega) (fun x hx => hc x (by simp [hx]))
theorem enc_goes (n : Nat) : ∀ (i : Nat) (c : UInt8), (enc n)[i]? = some c → i + 1 < (enc n).length → 128 ≤ c.toNat := by
  induction n using Nat.strongRecOn with
  | ind n ih =>
    intro i c hi hl
    by_cases h : n < 128
    · rw [enc_lo h] at hl; simp at hl
    · rw [enc_hi (by omega)] at hi hl
      cases i with
      | zero =>
        simp only [List.getElem?_cons_zero, Option.some.injEq] at hi
        subst hi
        rw [ofNat_toNat (by omega)]; omega
      | succ i =>
        rw [List.getElem?_cons_succ] at hi
        rw [List.length_cons] at hl
        exact ih (n / 128) (by omega) i c hi (by omega)
theorem rInt_cut {v lo hi : Int} {k : Nat} (hk : k < (encI v).length) : rInt lo hi (some ((encI v).take k)) = (0, none) := by
  have e : dec 0 0 ((encI v).take k) = none := by
    refine dec_go _ 0 0 (by omega) fun c hc => ?_
    obtain ⟨i, hi⟩ := List.getElem?_of_mem hc
    rw [List.getElem?_take] at hi
    split at hi
    · exact enc_goes (zz v) i c hi (by unfold encI at hk; omega)
    · cases hi
  simp only [rInt, e]

theorem rInt_inv {l r : List UInt8} {v : Int} (h : rInt (-9223372036854775808) 9223372036854775807 (some l) = (v, some r)) : l = encI v ++ r ∧ I v := by
  unfold rInt at h
  simp only at h
  split at h
  · cases h
  · rename_i u q hd
    split at h
    · rename_i hb
      injection h with h1 h2
      injection h2 with h2
      subst h1 h2
      obtain ⟨y, hy, hl, _⟩ := enc_of_dec l 0 0 u _ (by omega) hd
      simp at hy
      subst hy
      exact ⟨by rw [encI, zz_uz]; exact hl, hb⟩
    · cases h
theorem rInt_none_ (lo hi : Int) : rInt lo hi none = (0, none) := rfl

/-- Front first. -/
theorem rdk_cons (n : Nat) (s : St) : rdk (n + 1) s = ((rInt (-9223372036854775808) 9223372036854775807 s).1 :: (rdk n (rInt (-9223372036854775808) 9223372036854775807 s).2).1, (rdk n (rInt (-9223372036854775808) 9223372036854775807 s).2).2) := by
  induction n with
  | zero => rfl
  | succ n ih => rw [rdk, ih]; simp [rdk]
theorem rdk_none (n : Nat) : (rdk n none).2 = none := by
  induction n with
  | zero => rfl
  | succ n ih => rw [rdk_cons]; exact ih
theorem rdk_cat (zs : List Int) (h : ∀ z ∈ zs, I z) (r : List UInt8) : rdk zs.length (some (cat zs ++ r)) = (zs, some r) := by
  induction zs with
  | nil => rfl
  | cons z zs ih =>
    have hz := h z (by simp)
    rw [List.length_cons, rdk_cons, cat_cons, List.append_assoc, rInt_enc hz.1 hz.2 hz, ih (fun y hy => h y (by simp [hy]))]
theorem rdk_cut (zs : List Int) (h : ∀ z ∈ zs, I z) : ∀ k, k < (cat zs).length → (rdk zs.length (some ((cat zs).take k))).2 = none := by
  induction zs with
  | nil => intro k hk; simp [cat] at hk
  | cons z zs ih =>
    intro k hk
    have hz := h z (by simp)
    rw [List.length_cons, rdk_cons]
    rw [cat_cons, List.length_append] at hk
    rw [cat_cons]
    by_cases hc : k < (encI z).length
    · rw [List.take_append_of_le_length (by omega), rInt_cut hc]
      exact rdk_none _
    · rw [List.take_append, List.take_of_length_le (by omega : (encI z).length ≤ k), rInt_enc hz.1 hz.2 hz]
      exact ih (fun y hy => h y (by simp [hy])) _ (by omega)
theorem rdk_inv (n : Nat) : ∀ (l r : List UInt8), (rdk n (some l)).2 = some r → l = cat (rdk n (some l)).1 ++ r := by
  induction n with
  | zero => intro l r h; simp [rdk] at h; simp [rdk, cat, h]
  | succ n ih =>
    intro l r h
    rw [rdk_cons] at h ⊢
    rcases hq : rInt (-9223372036854775808) 9223372036854775807 (some l) with ⟨v, _ | m⟩
    · rw [hq] at h
      simp only [rdk_none] at h
      cases h
    · obtain ⟨hl, _⟩ := rInt_inv hq
      rw [hq] at h
      have := ih m r h
      simp only []
      rw [cat_cons, List.append_assoc, ← this]
      exact hl

theorem wan_of (x : Wan) : wanOf (wz x) = x := rfl
theorem opn_of (o : Opn) : opnOf (oz o) = o := rfl
theorem wz_of {l : List Int} (h : l.length = 7) : wz (wanOf l) = l := by
  match l, h with
  | [a, b, c, d, e, f, g], _ => rfl
theorem oz_of {l : List Int} (h : l.length = 5) : oz (opnOf l) = l := by
  match l, h with
  | [a, b, c, d, e], _ => rfl
theorem getW_raw {x : Wan} (h : may x = true) : getW (some (raw x)) = some x := by
  have := rdk_cat (wz x) (may_I h) []
  rw [List.append_nil] at this
  have e : rdk 7 (some (raw x)) = (wz x, some []) := this
  unfold getW
  rw [e]
  simp only [wan_of, h, rEnd, and_self, if_true]
theorem getO_raw {o : Opn} (h : mayOp o = true) : getO (some (rawOp o)) = some o := by
  have := rdk_cat (oz o) (mayop_I h) []
  rw [List.append_nil] at this
  have e : rdk 5 (some (rawOp o)) = (oz o, some []) := this
  unfold getO
  rw [e]
  simp only [opn_of, h, rEnd, and_self, if_true]
theorem getW_cut {x : Wan} (h : may x = true) {k : Nat} (hk : k < (raw x).length) : getW (some ((raw x).take k)) = none := by
  have e : (rdk 7 (some ((raw x).take k))).2 = none := rdk_cut (wz x) (may_I h) k hk
  exact getW_no (by rw [e]; decide)
theorem getO_cut {o : Opn} (h : mayOp o = true) {k : Nat} (hk : k < (rawOp o).length) : getO (some ((rawOp o).take k)) = none := by
  have e : (rdk 5 (some ((rawOp o).take k))).2 = none := rdk_cut (oz o) (mayop_I h) k hk
  exact getO_no (by rw [e]; decide)
theorem rEnd_zero {s : St} (h : rEnd s = 0) : s = some [] := by
  match s, h with
  | some [], _ => rfl
theorem getW_inv {l : List UInt8} {x : Wan} (h : getW (some l) = some x) : may x = true ∧ raw x = l := by
  unfold getW at h
  split at h
  · rename_i hh
    injection h with h
    have e := rdk_inv 7 l [] (rEnd_zero hh.1)
    rw [List.append_nil] at e
    refine ⟨by rw [← h]; exact hh.2, ?_⟩
    rw [← h, raw, wz_of (rdk_len 7 _), ← e]
  · cases h
theorem raw_inj {x y : Wan} (hx : may x = true) (hy : may y = true) (h : raw x = raw y) : x = y := by
  have h1 := getW_raw hx
  rw [h, getW_raw hy] at h1
  injection h1 with h1
  exact h1.symm
theorem rawOp_inj {x y : Opn} (hx : mayOp x = true) (hy : mayOp y = true) (h : rawOp x = rawOp y) : x = y := by
  have h1 := getO_raw hx
  rw [h, getO_raw hy] at h1
  injection h1 with h1
  exact h1.symm
theorem getW_nil : getW (some []) = none := by decide
theorem raw_len {x : Wan} (h : may x = true) : 0 < (raw x).length ∧ (raw x).length ≤ 70 := by
  refine ⟨?_, cat_len (wz x) (may_I h)⟩
  unfold raw wz
  rw [cat_cons, List.length_append]
  have := enc_ne (zz x.book)
  unfold encI
  omega
theorem rawOp_len {o : Opn} (h : mayOp o = true) : 0 < (rawOp o).length ∧ (rawOp o).length ≤ 50 := by
  refine ⟨?_, cat_len (oz o) (mayop_I h)⟩
  unfold rawOp oz
  rw [cat_cons, List.length_append]
  have := enc_ne (zz o.kind)
  unfold encI
  omega
end Wt
end Go.Proofs.YtidfpbnepdjagaaDoor
