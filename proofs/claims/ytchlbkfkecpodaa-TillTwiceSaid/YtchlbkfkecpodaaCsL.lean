/- Shares, as lists: plain arithmetic, no program. -/
import Derived.Test.YtchlbkfkecpodaaCsM
namespace Go.Proofs.Ytchlbkfkecpodaa
namespace Cs

/-- The list of f's first n values. -/
def lst (n : Nat) (f : Nat → Int) : List Int := (List.range n).map f
theorem lst_len (n : Nat) (f : Nat → Int) : (lst n f).length = n := by simp [lst]
theorem lst_get {n : Nat} {f : Nat → Int} {i : Nat} (h : i < n) : (lst n f)[i]? = some (f i) := by simp [lst, h]
theorem lst_congr {n : Nat} {f g : Nat → Int} (h : ∀ i, i < n → f i = g i) : lst n f = lst n g := by
  unfold lst
  exact List.map_congr_left fun i hi => h i (List.mem_range.1 hi)
theorem lst_snoc (n : Nat) (f : Nat → Int) : lst (n + 1) f = lst n f ++ [f n] := by simp [lst, List.range_succ]
theorem lst_set {n : Nat} {f g : Nat → Int} {k : Nat} {v : Int} (_hk : k < n) (hv : g k = v) (h : ∀ i, i < n → i ≠ k → g i = f i) : (lst n f).set k v = lst n g := by
  apply List.ext_getElem (by simp [lst])
  intro i h1 h2
  have hi : i < n := by simpa [lst] using h2
  rw [List.getElem_set]
  by_cases e : k = i
  · subst e
    rw [if_pos rfl]
    simp [lst, hv]
  · rw [if_neg e]
    simp [lst, h i hi (fun x => e x.symm)]
theorem mem_lst {n : Nat} {f : Nat → Int} {x : Int} (h : x ∈ lst n f) : ∃ i, i < n ∧ f i = x := by
  simpa [lst] using h

/-- The i-th part. -/
def at0 (ps : List Int) (i : Nat) : Int := ps.getD i 0
theorem at0_of {ps : List Int} {i : Nat} {x : Int} (h : ps[i]? = some x) : at0 ps i = x := by simp [at0, List.getD, h]
theorem get_at0 {ps : List Int} {i : Nat} (h : i < ps.length) : ps[i]? = some (at0 ps i) := by simp [at0, List.getD, h]
/-- How many of the first k parts are above 0. -/
def cnt (ps : List Int) : Nat → Nat
  | 0 => 0
  | k + 1 => cnt ps k + (if 0 < at0 ps k then 1 else 0)
theorem cnt_mono (ps : List Int) (k j : Nat) : cnt ps k ≤ cnt ps (k + j) := by
  induction j with
  | zero => exact Nat.le_refl _
  | succ j ih => show _ ≤ cnt ps (k + j) + _; omega
theorem cnt_le {ps : List Int} {k j : Nat} (h : k ≤ j) : cnt ps k ≤ cnt ps j := by
  have := cnt_mono ps k (j - k)
  rwa [show k + (j - k) = j by omega] at this
theorem cnt_k (ps : List Int) (k : Nat) : cnt ps k ≤ k := by
  induction k with
  | zero => exact Nat.le_refl _
  | succ k ih => show cnt ps k + _ ≤ _; split <;> omega
/-- What is left of L behind the first k parts. -/
def lf (L : Int) (ps : List Int) (k : Nat) : Int := if (cnt ps k : Int) < L then L - cnt ps k else 0
/-- What the i-th part gets of it. -/
def bon (L : Int) (ps : List Int) (i : Nat) : Int := if 0 < at0 ps i ∧ (cnt ps i : Int) < L then 1 else 0
theorem bon_two (L : Int) (ps : List Int) (i : Nat) : 0 ≤ bon L ps i ∧ bon L ps i ≤ 1 := by unfold bon; split <;> omega
theorem lf_pos {L : Int} {ps : List Int} {k : Nat} : 0 < lf L ps k ↔ (cnt ps k : Int) < L := by
  unfold lf; split <;> omega
theorem lf_zero {L : Int} (h : 0 ≤ L) (ps : List Int) : lf L ps 0 = L := by
  unfold lf
  show (if ((0 : Nat) : Int) < L then L - ((0 : Nat) : Int) else 0) = L
  split <;> omega
theorem lf_nn {L : Int} {ps : List Int} {k : Nat} : 0 ≤ lf L ps k ∧ (lf L ps k ≤ L ∨ lf L ps k = 0) := by unfold lf; split <;> omega
theorem lf_take {L : Int} {ps : List Int} {k : Nat} (h1 : 0 < at0 ps k) (h2 : 0 < lf L ps k) : lf L ps (k + 1) = lf L ps k - 1 := by
  have e : cnt ps (k + 1) = cnt ps k + 1 := by show cnt ps k + _ = _; rw [if_pos h1]
  have h3 := lf_pos.1 h2
  unfold lf
  rw [e, if_pos h3]
  split <;> omega
theorem lf_none {L : Int} {ps : List Int} {k : Nat} (h : ¬ (0 < lf L ps k ∧ 0 < at0 ps k)) : lf L ps (k + 1) = lf L ps k := by
  by_cases h1 : 0 < at0 ps k
  · have h2 : ¬ (cnt ps k : Int) < L := fun e => h ⟨lf_pos.2 e, h1⟩
    have e : cnt ps (k + 1) = cnt ps k + 1 := by show cnt ps k + _ = _; rw [if_pos h1]
    unfold lf
    rw [e, if_neg h2, if_neg (by omega)]
  · have e : cnt ps (k + 1) = cnt ps k := by show cnt ps k + _ = _; rw [if_neg h1]; rfl
    unfold lf
    rw [e]
/-- The shares f with what is left handed out to the first k. -/
def upto (L : Int) (ps : List Int) (f : Nat → Int) (k i : Nat) : Int := if i < k then f i + bon L ps i else f i
theorem upto_zero (L : Int) (ps : List Int) (f : Nat → Int) : upto L ps f 0 = f := by funext i; simp [upto]
theorem upto_none {L : Int} {ps : List Int} {f : Nat → Int} {k n : Nat} (h : ¬ (0 < lf L ps k ∧ 0 < at0 ps k)) : lst n (upto L ps f (k + 1)) = lst n (upto L ps f k) := by
  apply lst_congr
  intro i _
  unfold upto
  by_cases e : i = k
  · subst e
    rw [if_pos (by omega), if_neg (by omega)]
    have : bon L ps i = 0 := if_neg fun x => h ⟨lf_pos.2 x.2, x.1⟩
    omega
  · by_cases h1 : i < k
    · rw [if_pos (by omega), if_pos h1]
    · rw [if_neg (by omega), if_neg h1]
theorem upto_take {L : Int} {ps : List Int} {f : Nat → Int} {k n : Nat} (hk : k < n) (h1 : 0 < at0 ps k) (h2 : 0 < lf L ps k) : (lst n (upto L ps f k)).set k (f k + 1) = lst n (upto L ps f (k + 1)) := by
  apply lst_set hk
  · unfold upto
    rw [if_pos (by omega)]
    have : bon L ps k = 1 := if_pos ⟨h1, lf_pos.1 h2⟩
    omega
  · intro i _ e
    unfold upto
    by_cases h3 : i < k
    · rw [if_pos (by omega), if_pos h3]
    · rw [if_neg (by omega), if_neg h3]
theorem upto_at {L : Int} {ps : List Int} {f : Nat → Int} {k : Nat} : upto L ps f k k = f k := if_neg (Nat.lt_irrefl _)

/-- Parts that may be. -/
def Parts (ps : List Int) : Prop := ∀ p ∈ ps, 0 ≤ p ∧ p ≤ 1000
theorem at0_in {ps : List Int} (h : Parts ps) (i : Nat) : 0 ≤ at0 ps i ∧ at0 ps i ≤ 1000 := by
  unfold at0
  rw [List.getD_eq_getElem?_getD]
  cases e : ps[i]? with
  | none => simp
  | some x => exact h x (List.mem_of_getElem? e)
/-- The first k parts together. -/
def sm (f : Nat → Int) : Nat → Int
  | 0 => 0
  | k + 1 => sm f k + f k
theorem sm_bound {ps : List Int} (h : Parts ps) (k : Nat) : 0 ≤ sm (at0 ps) k ∧ sm (at0 ps) k ≤ 1000 * k := by
  induction k with
  | zero => simp [sm]
  | succ k ih => have := at0_in h k; simp only [sm]; omega
theorem sm_mono {ps : List Int} (h : Parts ps) {k j : Nat} (hk : k ≤ j) : sm (at0 ps) k ≤ sm (at0 ps) j := by
  induction j with
  | zero => obtain rfl : k = 0 := by omega
            exact Int.le_refl _
  | succ j ih =>
    by_cases e : k = j + 1
    · subst e; exact Int.le_refl _
    · have := ih (by omega); have := at0_in h j; simp only [sm]; omega
theorem sm_some {ps : List Int} (h : Parts ps) {p : Int} (hp : p ∈ ps) (h0 : 0 < p) : 0 < sm (at0 ps) ps.length := by
  obtain ⟨i, hi, e⟩ := List.getElem_of_mem hp
  have h1 := sm_mono h (show i + 1 ≤ ps.length by omega)
  have h2 := sm_bound h i
  have h3 : at0 ps i = p := at0_of (by rw [List.getElem?_eq_getElem hi, e])
  simp only [sm] at h1
  omega
theorem sm_none {ps : List Int} (h : Parts ps) (hn : ¬ ∃ p ∈ ps, 0 < p) (k : Nat) (hk : k ≤ ps.length) : sm (at0 ps) k = 0 := by
  induction k with
  | zero => rfl
  | succ k ih =>
    simp only [sm]
    rw [ih (by omega)]
    have h1 := get_at0 (show k < ps.length by omega)
    have h2 := List.mem_of_getElem? h1
    have h3 := h _ h2
    have h4 : ¬ 0 < at0 ps k := fun e => hn ⟨_, h2, e⟩
    omega
theorem tot_sm {ps : List Int} (h : Parts ps) (hl : ps.length ≤ 1000000) (k : Nat) (hk : k ≤ ps.length) : totO (ps.take k) = some (sm (at0 ps) k) := by
  induction k with
  | zero => rfl
  | succ k ih =>
    refine tot_next (get_at0 (by omega)) (ih (by omega)) ?_
    have := sm_bound h (k + 1)
    simp only [sm] at this
    unfold I
    omega
theorem tot_all {ps : List Int} (h : Parts ps) (hl : ps.length ≤ 1000000) : totO ps = some (sm (at0 ps) ps.length) := by
  have := tot_sm h hl ps.length (Nat.le_refl _)
  rwa [List.take_length] at this

/-- A share, rounded down; all of them. -/
def base (all T : Int) (ps : List Int) (i : Nat) : Int := all * at0 ps i / T
def left (all T : Int) (ps : List Int) (k : Nat) : Int := all - sm (base all T ps) k
def ttl (ps : List Int) : Int := sm (at0 ps) ps.length
def rest (all : Int) (ps : List Int) : Int := left all (ttl ps) ps ps.length
def share (all : Int) (ps : List Int) (i : Nat) : Int := base all (ttl ps) ps i + bon (rest all ps) ps i
/-- What may be divided. -/
structure May (all : Int) (ps : List Int) : Prop where
  a0 : 0 ≤ all
  a1 : all ≤ 1099511627776
  n0 : 1 ≤ ps.length
  n1 : ps.length ≤ 100
  pp : Parts ps
  one : ∃ p ∈ ps, 0 < p
theorem May.ttl {all : Int} {ps : List Int} (h : May all ps) : 1 ≤ ttl ps ∧ ttl ps ≤ 100000 := by
  obtain ⟨p, h1, h2⟩ := h.one
  have h3 := sm_some h.pp h1 h2
  have h4 := sm_bound h.pp ps.length
  have h5 := h.n1
  unfold Cs.ttl
  omega
theorem prod_bound {all p : Int} (h1 : 0 ≤ all) (h2 : all ≤ 1099511627776) (h3 : 0 ≤ p ∧ p ≤ 1000) : 0 ≤ all * p ∧ all * p ≤ 1099511627776000 :=
  ⟨Int.mul_nonneg h1 h3.1, by have := Int.mul_le_mul h2 h3.2 h3.1 (by omega : (0 : Int) ≤ 1099511627776); simpa using this⟩
theorem base_bound {all : Int} {ps : List Int} (h : May all ps) (i : Nat) : 0 ≤ base all (ttl ps) ps i ∧ base all (ttl ps) ps i ≤ 1099511627776000 := by
  obtain ⟨h1, h2⟩ := prod_bound h.a0 h.a1 (at0_in h.pp i)
  have ht := h.ttl
  unfold base
  exact ⟨Int.ediv_nonneg h1 (by omega), Int.le_trans (Int.ediv_le_self _ h1) h2⟩
theorem sm_base {all : Int} {ps : List Int} (h : May all ps) (k : Nat) : 0 ≤ sm (base all (ttl ps) ps) k ∧ sm (base all (ttl ps) ps) k * ttl ps ≤ all * sm (at0 ps) k ∧ all * sm (at0 ps) k ≤ sm (base all (ttl ps) ps) k * ttl ps + (ttl ps - 1) * cnt ps k := by
  induction k with
  | zero => simp [sm, cnt]
  | succ k ih =>
    obtain ⟨i1, i2, i3⟩ := ih
    have hb := base_bound h k
    have ht := h.ttl
    have hd := Int.mul_ediv_add_emod (all * at0 ps k) (ttl ps)
    have hm1 := Int.emod_nonneg (all * at0 ps k) (show ttl ps ≠ 0 by omega)
    have hm2 := Int.emod_lt_of_pos (all * at0 ps k) (show 0 < ttl ps by omega)
    have e1 : sm (base all (ttl ps) ps) (k + 1) * ttl ps = sm (base all (ttl ps) ps) k * ttl ps + ttl ps * (all * at0 ps k / ttl ps) := by
      simp only [sm]; rw [Int.add_mul]; unfold base; rw [Int.mul_comm (ttl ps)]
    have e2 : all * sm (at0 ps) (k + 1) = all * sm (at0 ps) k + all * at0 ps k := by simp only [sm]; rw [Int.mul_add]
    refine ⟨by simp only [sm]; omega, by rw [e1, e2]; omega, ?_⟩
    rw [e1, e2]
    by_cases h0 : 0 < at0 ps k
    · have ec : cnt ps (k + 1) = cnt ps k + 1 := by show cnt ps k + _ = _; rw [if_pos h0]
      rw [ec]
      have e3 : (ttl ps - 1) * ((cnt ps k + 1 : Nat) : Int) = (ttl ps - 1) * cnt ps k + (ttl ps - 1) := by rw [Int.natCast_add, Int.mul_add]; simp
      rw [e3]
      omega
    · have ec : cnt ps (k + 1) = cnt ps k := by show cnt ps k + _ = _; rw [if_neg h0]; rfl
      have e0 : at0 ps k = 0 := by have := at0_in h.pp k; omega
      rw [ec]
      rw [e0, Int.mul_zero] at hd hm1 ⊢
      simp at hd ⊢
      omega
/-- What is left is none below 0, and less than there are parts above 0. -/
theorem rest_bound {all : Int} {ps : List Int} (h : May all ps) : 0 ≤ rest all ps ∧ rest all ps ≤ cnt ps ps.length := by
  obtain ⟨i1, i2, i3⟩ := sm_base h ps.length
  have ht := h.ttl
  have e : sm (at0 ps) ps.length = ttl ps := rfl
  rw [e] at i2 i3
  unfold rest left
  obtain ⟨S, hS⟩ : ∃ S, S = sm (base all (ttl ps) ps) ps.length := ⟨_, rfl⟩
  rw [← hS] at i1 i2 i3 ⊢
  obtain ⟨T, hT⟩ : ∃ T, T = ttl ps := ⟨_, rfl⟩
  rw [← hT] at i2 i3 ht
  constructor
  · have := Int.le_of_mul_le_mul_right i2 (by omega)
    omega
  · have h1 : all * T ≤ (S + cnt ps ps.length) * T := by
      rw [Int.add_mul]
      have : (T - 1) * (cnt ps ps.length : Int) ≤ (cnt ps ps.length : Int) * T := by
        rw [Int.sub_mul, Int.mul_comm T]; omega
      omega
    have := Int.le_of_mul_le_mul_right h1 (by omega)
    omega
theorem left_bound {all : Int} {ps : List Int} (h : May all ps) (k : Nat) (hk : k ≤ ps.length) : 0 ≤ left all (ttl ps) ps k ∧ left all (ttl ps) ps k ≤ all := by
  obtain ⟨i1, i2, i3⟩ := sm_base h k
  have ht := h.ttl
  have h2 := sm_mono h.pp hk
  unfold left
  refine ⟨?_, by omega⟩
  have h3 : sm (base all (ttl ps) ps) k * ttl ps ≤ all * ttl ps := Int.le_trans i2 (Int.mul_le_mul_of_nonneg_left h2 h.a0)
  have := Int.le_of_mul_le_mul_right h3 (by omega)
  omega
theorem left_succ (all T : Int) (ps : List Int) (k : Nat) : left all T ps (k + 1) = left all T ps k - base all T ps k := by unfold left; simp only [sm]; omega
theorem share_bound {all : Int} {ps : List Int} (h : May all ps) (i : Nat) : 0 ≤ share all ps i ∧ share all ps i ≤ 1099511627776001 := by
  have h1 := base_bound h i
  have h2 := bon_two (rest all ps) ps i
  unfold share
  omega
/-- Shares are all of it. -/
theorem bon_all {L : Int} {ps : List Int} (h : 0 ≤ L) (k : Nat) : sm (bon L ps) k + lf L ps k = L := by
  induction k with
  | zero => rw [lf_zero h]; simp [sm]
  | succ k ih =>
    simp only [sm]
    by_cases h1 : 0 < lf L ps k ∧ 0 < at0 ps k
    · rw [lf_take h1.2 h1.1]
      have : bon L ps k = 1 := if_pos ⟨h1.2, lf_pos.1 h1.1⟩
      omega
    · rw [lf_none h1]
      have : bon L ps k = 0 := if_neg fun x => h1 ⟨lf_pos.2 x.2, x.1⟩
      omega
theorem share_all {all : Int} {ps : List Int} (h : May all ps) : sm (share all ps) ps.length = all := by
  have h1 := rest_bound h
  have h2 := bon_all h1.1 (ps := ps) ps.length
  have h3 : lf (rest all ps) ps ps.length = 0 := by unfold lf; rw [if_neg (by omega)]
  have h4 : ∀ k, sm (share all ps) k = sm (base all (ttl ps) ps) k + sm (bon (rest all ps) ps) k := by
    intro k
    induction k with
    | zero => rfl
    | succ k ih => simp only [sm]; rw [ih]; unfold share; omega
  have h5 : rest all ps = all - sm (base all (ttl ps) ps) ps.length := rfl
  rw [h4]
  omega
end Cs
end Go.Proofs.Ytchlbkfkecpodaa
