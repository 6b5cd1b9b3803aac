/- Ten timers: what is due of each; how many, and the first one; no program. -/
import Derived.Test.YtnfakkinaockiaaWhM
namespace Go.Proofs.Ytnfakkinaockiaa
namespace Wh

/-- When k is due, or -1. -/
def duk (S : List Tm) (k : Nat) : Int := (fnd (k : Int) S).elim (-1) (·.2)
def dueOf (S : List Tm) : List Int := (List.range 10).map (duk S)
theorem dueOf_len (S : List Tm) : (dueOf S).length = 10 := by simp [dueOf]
theorem dueOf_at {S : List Tm} {k : Nat} (hk : k < 10) : (dueOf S)[k]? = some (duk S k) := by simp [dueOf, hk]
theorem dueOf_nil : dueOf [] = List.replicate 10 (-1) := by decide
/-- All is of the ten, and due in time. -/
def Ten (S : List Tm) : Prop := ∀ t ∈ S, (0 ≤ t.1 ∧ t.1 < 10) ∧ 0 ≤ t.2 ∧ t.2 ≤ 500
theorem duk_some {S : List Tm} (h : Ten S) {k : Nat} : (fnd (k : Int) S).isSome = decide (0 ≤ duk S k) := by
  unfold duk
  cases hf : fnd (k : Int) S with
  | none => rfl
  | some t =>
    have := h t (fnd_mem hf).1
    simp [this.2.1]
theorem fnd_without {S : List Tm} {id j : Int} : fnd j (without id S) = if j = id then none else fnd j S := by
  split
  · rename_i e
    exact fnd_none.2 fun t ht => by rw [e]; exact (mem_without.1 ht).2
  · rename_i e
    unfold fnd without
    rw [List.find?_filter]
    congr 1
    funext t
    by_cases h : t.1 = j
    · simp [h, e]
    · simp [h]
theorem fnd_sSet {S : List Tm} {t : Tm} {j : Int} (nd : Nd S) : fnd j (sSet t S) = if j = t.1 then some t else fnd j S := by
  have hn : Nd (t :: without t.1 S) := cons_nd nd
  rw [fnd_perm hn (sSet_perm t S)]
  split
  · rename_i e
    unfold fnd
    rw [List.find?_cons_of_pos]
    simp [e]
  · rename_i e
    have e1 : fnd j (t :: without t.1 S) = fnd j (without t.1 S) := by
      unfold fnd
      rw [List.find?_cons_of_neg]
      simpa using fun h => e h.symm
    rw [e1, fnd_without, if_neg e]
theorem dueOf_without {S : List Tm} {k : Nat} (hk : k < 10) : dueOf (without (k : Int) S) = (dueOf S).set k (-1) := by
  apply List.ext_getElem?
  intro j
  rw [List.getElem?_set]
  by_cases hj : j < 10
  · rw [dueOf_at hj, dueOf_len]
    by_cases e : k = j
    · subst e
      rw [if_pos rfl, if_pos hk]
      unfold duk
      rw [fnd_without, if_pos rfl]
      rfl
    · rw [if_neg e, dueOf_at hj]
      unfold duk
      rw [fnd_without, if_neg (by omega)]
  · rw [List.getElem?_eq_none (by rw [dueOf_len]; omega), if_neg (by omega), List.getElem?_eq_none (by rw [dueOf_len]; omega)]
theorem dueOf_sSet {S : List Tm} {k : Nat} {a : Int} (nd : Nd S) (hk : k < 10) : dueOf (sSet ((k : Int), a) S) = (dueOf S).set k a := by
  apply List.ext_getElem?
  intro j
  rw [List.getElem?_set]
  by_cases hj : j < 10
  · rw [dueOf_at hj, dueOf_len]
    by_cases e : k = j
    · subst e
      rw [if_pos rfl, if_pos hk]
      unfold duk
      rw [fnd_sSet nd, if_pos rfl]
      rfl
    · rw [if_neg e, dueOf_at hj]
      unfold duk
      rw [fnd_sSet nd, if_neg (by simp; omega)]
  · rw [List.getElem?_eq_none (by rw [dueOf_len]; omega), if_neg (by omega), List.getElem?_eq_none (by rw [dueOf_len]; omega)]
theorem ten_without {S : List Tm} (h : Ten S) (id : Int) : Ten (without id S) := fun t ht => h t (mem_without.1 ht).1
theorem ten_sSet {S : List Tm} (h : Ten S) {k : Nat} {a : Int} (hk : k < 10) (h0 : 0 ≤ a) (h1 : a ≤ 500) : Ten (sSet ((k : Int), a) S) := fun t ht => by
  rcases mem_sSet.1 ht with rfl | ⟨ht, _⟩
  · exact ⟨⟨by simp, by simp; omega⟩, h0, h1⟩
  · exact h t ht
/-- How many of the first k are due. -/
def cF (S : List Tm) : Nat → Nat
  | 0 => 0
  | k + 1 => cF S k + (if (fnd (k : Int) S).isSome = true then 1 else 0)
/-- When the first of the first k is due. -/
def mF (S : List Tm) : Nat → Int
  | 0 => 1000
  | k + 1 => (fnd (k : Int) S).elim (mF S k) (fun t => min (mF S k) t.2)
theorem count_split (k : Nat) : ∀ S : List Tm, S.countP (fun t => decide (0 ≤ t.1) && decide (t.1 < ((k + 1 : Nat) : Int))) = S.countP (fun t => decide (0 ≤ t.1) && decide (t.1 < (k : Int))) + S.countP (fun t => t.1 == (k : Int))
  | [] => rfl
  | s :: r => by
    rw [List.countP_cons, List.countP_cons, List.countP_cons, count_split k r]
    by_cases h0 : 0 ≤ s.1
    · by_cases h1 : s.1 < (k : Int)
      · have a1 : s.1 < ((k + 1 : Nat) : Int) := by omega
        have a2 : ¬ s.1 = (k : Int) := by omega
        simp only [decide_eq_true h0, decide_eq_true h1, decide_eq_true a1, beq_eq_false_iff_ne.2 a2, Bool.and_self, if_true, Bool.false_eq_true, if_false]
        omega
      · by_cases h2 : s.1 = (k : Int)
        · have a1 : s.1 < ((k + 1 : Nat) : Int) := by omega
          simp only [decide_eq_true h0, decide_eq_false h1, decide_eq_true a1, beq_iff_eq.2 h2, Bool.and_self, Bool.and_false, if_true, Bool.false_eq_true, if_false]
          omega
        · have a1 : ¬ s.1 < ((k + 1 : Nat) : Int) := by omega
          simp only [decide_eq_true h0, decide_eq_false h1, decide_eq_false a1, beq_eq_false_iff_ne.2 h2, Bool.and_false, Bool.false_eq_true, if_false]
          omega
    · have a2 : ¬ s.1 = (k : Int) := by omega
      simp only [decide_eq_false h0, beq_eq_false_iff_ne.2 a2, Bool.false_and, Bool.false_eq_true, if_false]
      omega
theorem count_one {id : Int} : ∀ {S : List Tm}, Nd S → S.countP (fun t => t.1 == id) = if (fnd id S).isSome = true then 1 else 0
  | [], _ => rfl
  | s :: r, h => by
    unfold Nd at h
    rw [List.map_cons, List.nodup_cons] at h
    rw [List.countP_cons]
    by_cases e : s.1 = id
    · have h0 : r.countP (fun t => t.1 == id) = 0 := by
        rw [List.countP_eq_zero]
        intro t ht
        have : t.1 ≠ s.1 := fun e2 => h.1 (List.mem_map.2 ⟨t, ht, e2⟩)
        simpa using fun e3 => this (e3.trans e.symm)
      have h1 : fnd id (s :: r) = some s := by
        unfold fnd
        rw [List.find?_cons_of_pos]
        simp [e]
      rw [h0, h1]
      simp [e]
    · have h1 : fnd id (s :: r) = fnd id r := by
        unfold fnd
        rw [List.find?_cons_of_neg]
        simpa using e
      rw [count_one h.2, h1]
      simp [e]
theorem cF_is {S : List Tm} (h : Nd S) : ∀ k, cF S k = S.countP (fun t => decide (0 ≤ t.1) && decide (t.1 < (k : Int)))
  | 0 => by
    unfold cF
    symm
    rw [List.countP_eq_zero]
    intro t _
    simp
  | k + 1 => by
    unfold cF
    rw [cF_is h k, count_split, count_one h]
theorem cF_ten {S : List Tm} (h : Nd S) (ht : Ten S) : cF S 10 = S.length := by
  rw [cF_is h, List.countP_eq_length]
  intro t hm
  have := ht t hm
  rw [decide_eq_true this.1.1, decide_eq_true (by omega : t.1 < ((10 : Nat) : Int))]
  rfl
theorem cF_le (S : List Tm) : ∀ k, cF S k ≤ k
  | 0 => Nat.le_refl _
  | k + 1 => by
    unfold cF
    have := cF_le S k
    split <;> omega
theorem mF_bound {S : List Tm} (ht : Ten S) : ∀ k, 0 ≤ mF S k ∧ mF S k ≤ 1000
  | 0 => by simp [mF]
  | k + 1 => by
    have := mF_bound ht k
    unfold mF
    cases hf : fnd (k : Int) S with
    | none => exact this
    | some t =>
      have h2 := ht t (fnd_mem hf).1
      simp only [Option.elim]
      omega
theorem mF_spec {S : List Tm} (nd : Nd S) : ∀ k, (∀ t ∈ S, 0 ≤ t.1 → t.1 < (k : Nat) → mF S k ≤ t.2) ∧ (mF S k = 1000 ∨ ∃ t ∈ S, mF S k = t.2)
  | 0 => ⟨fun t _ h0 h1 => by omega, .inl rfl⟩
  | k + 1 => by
    obtain ⟨h1, h2⟩ := mF_spec nd k
    unfold mF
    cases hf : fnd (k : Int) S with
    | none =>
      refine ⟨fun t ht a b => ?_, h2⟩
      have : t.1 ≠ (k : Int) := fnd_none.1 hf t ht
      exact h1 t ht a (by omega)
    | some u =>
      obtain ⟨hu, e⟩ := fnd_mem hf
      simp only [Option.elim]
      refine ⟨fun t ht a b => ?_, ?_⟩
      · by_cases ek : t.1 = (k : Int)
        · have : t = u := nd_eq nd ht hu (ek.trans e.symm)
          rw [this]
          omega
        · have := h1 t ht a (by omega)
          omega
      · by_cases hm : mF S k ≤ u.2
        · rw [show min (mF S k) u.2 = mF S k by omega]
          exact h2
        · rw [show min (mF S k) u.2 = u.2 by omega]
          exact .inr ⟨u, hu, rfl⟩
theorem mF_ten {S : List Tm} (nd : Nd S) (ht : Ten S) (sr : Srt S) {s : Tm} (hs : S.head? = some s) : mF S 10 = s.2 := by
  obtain ⟨r, rfl⟩ : ∃ r, S = s :: r := by
    cases S with
    | nil => cases hs
    | cons a r => injection hs with hs; exact ⟨r, by rw [hs]⟩
  obtain ⟨h1, h2⟩ := mF_spec nd 10
  have hsm := ht s (by simp)
  have a1 := h1 s (by simp) hsm.1.1 (by omega)
  rcases h2 with h2 | ⟨t, htm, h2⟩
  · omega
  · rcases List.mem_cons.1 htm with rfl | hm
    · exact h2
    · have := (List.pairwise_cons.1 sr).1 t hm
      unfold tlt at this
      omega
theorem offs_all {S : List Tm} {n : Int} (h : ∀ t ∈ S, t.2 ≤ n) : offs n S = S ∧ left n S = [] := by
  have e1 : offs n S = S := by
    unfold offs
    have := List.takeWhile_append_of_pos (l₁ := S) (l₂ := []) (p := fun t : Tm => decide (t.2 ≤ n)) (fun t ht => decide_eq_true (h t ht))
    simpa using this
  refine ⟨e1, ?_⟩
  have := offs_left n S
  rw [e1] at this
  exact List.append_cancel_left (this.trans (List.append_nil S).symm)
end Wh
end Go.Proofs.Ytnfakkinaockiaa
