/- Timers as lists: their order, heaps, rising lists; no program. -/
import Derived.Test.YtnfakkinaockiaaRows
namespace Go.Proofs.Ytnfakkinaockiaa
namespace Wh

/-- A timer: its id, when it is due. -/
abbrev Tm := Int × Int
def tlt (a b : Tm) : Prop := a.2 < b.2 ∨ (a.2 = b.2 ∧ a.1 < b.1)
def tle (a b : Tm) : Prop := a.2 < b.2 ∨ (a.2 = b.2 ∧ a.1 ≤ b.1)
instance (a b : Tm) : Decidable (tlt a b) := by unfold tlt; exact inferInstance
theorem tle_of_not {a b : Tm} (h : ¬ tlt a b) : tle b a := by unfold tlt at h; unfold tle; omega
theorem not_of_tle {a b : Tm} (h : tle b a) : ¬ tlt a b := by unfold tlt; unfold tle at h; omega
theorem tle_trans {a b c : Tm} (h : tle a b) (k : tle b c) : tle a c := by unfold tle at *; omega
theorem tle_of {a b : Tm} (h : tlt a b) : tle a b := by unfold tlt at h; unfold tle; omega
theorem tle_refl (a : Tm) : tle a a := .inr ⟨rfl, Int.le_refl _⟩
theorem tlt_trans {a b c : Tm} (h : tlt a b) (k : tlt b c) : tlt a c := by unfold tlt at *; omega
theorem tlt_tle {a b c : Tm} (h : tlt a b) (k : tle b c) : tlt a c := by unfold tlt tle at *; omega
theorem tle_anti {a b : Tm} (h : tle a b) (k : tle b a) : a = b := by
  unfold tle at *
  exact Prod.ext (by omega) (by omega)
theorem tlt_of {a b : Tm} (h : tle a b) (hn : a.1 ≠ b.1) : tlt a b := by unfold tlt; unfold tle at h; omega

/-! ### heaps -/
def gt (l : List Tm) (k : Nat) : Tm := l.getD k (0, 0)
theorem gt_at {l : List Tm} {k : Nat} {p : Tm} (h : l[k]? = some p) : gt l k = p := by simp [gt, h]
theorem gt_get {l : List Tm} {k : Nat} (h : k < l.length) : l[k]? = some (gt l k) := by simp [gt, h]
theorem gt_mem {l : List Tm} {k : Nat} (h : k < l.length) : gt l k ∈ l := List.mem_of_getElem? (gt_get h)
theorem gt_set {l : List Tm} {i k : Nat} {t : Tm} (h : i < l.length) : gt (l.set i t) k = if k = i then t else gt l k := by
  unfold gt
  simp only [List.getD_eq_getElem?_getD, List.getElem?_set]
  by_cases e : i = k
  · subst e
    simp [h]
  · rw [if_neg e, if_neg (fun x => e x.symm)]
def swp (i j : Nat) (l : List Tm) : List Tm := (l.set i (gt l j)).set j (gt l i)
theorem swp_len (i j : Nat) (l : List Tm) : (swp i j l).length = l.length := by simp [swp]
theorem gt_swp {i j k : Nat} {l : List Tm} (hi : i < l.length) (hj : j < l.length) : gt (swp i j l) k = if k = j then gt l i else if k = i then gt l j else gt l k := by
  unfold swp
  rw [gt_set (by simpa using hj), gt_set hi]
theorem swp_perm {i j : Nat} {l : List Tm} (hi : i < l.length) (hj : j < l.length) : (swp i j l).Perm l := by
  have e1 : gt l i = l[i] := by simp [gt, hi]
  have e2 : gt l j = l[j] := by simp [gt, hj]
  unfold swp
  rw [e1, e2]
  exact List.set_set_perm hi hj

/-- The first m are a heap. -/
def Heap (m : Nat) (l : List Tm) : Prop := ∀ k, 0 < k → k < m → tle (gt l ((k - 1) / 2)) (gt l k)
/-- .. but for what stands at j, which may have to go up. -/
structure UpI (m j : Nat) (l : List Tm) : Prop where
  a : ∀ k, 0 < k → k < m → k ≠ j → tle (gt l ((k - 1) / 2)) (gt l k)
  b : ∀ c, 0 < c → c < m → (c - 1) / 2 = j → 0 < j → tle (gt l ((j - 1) / 2)) (gt l c)
theorem up_done {m j : Nat} {l : List Tm} (h : UpI m j l) (hj : j = 0 ∨ ¬ tlt (gt l j) (gt l ((j - 1) / 2))) : Heap m l := by
  intro k h0 hk
  by_cases e : k = j
  · rcases hj with hj | hj
    · omega
    · rw [e]; exact tle_of_not hj
  · exact h.a k h0 hk e
theorem up_step {m j : Nat} {l : List Tm} (h : UpI m j l) (h0 : 0 < j) (hj : j < m) (hm : m ≤ l.length) (hl : tlt (gt l j) (gt l ((j - 1) / 2))) : UpI m ((j - 1) / 2) (swp ((j - 1) / 2) j l) := by
  obtain ⟨i, hi⟩ : ∃ i, i = (j - 1) / 2 := ⟨_, rfl⟩
  rw [← hi] at hl ⊢
  have hij : i < j := by omega
  have G : ∀ k, gt (swp i j l) k = if k = j then gt l i else if k = i then gt l j else gt l k := fun k => gt_swp (by omega) (by omega)
  constructor
  · intro k k0 km ki
    rw [G, G]
    by_cases e : k = j
    · subst e
      rw [if_pos rfl, if_neg (by omega), if_pos hi.symm]
      exact tle_of hl
    · rw [if_neg e, if_neg ki]
      by_cases e2 : (k - 1) / 2 = j
      · rw [if_pos e2]
        have := h.b k k0 km e2 h0
        rw [← hi] at this
        exact this
      · rw [if_neg e2]
        by_cases e3 : (k - 1) / 2 = i
        · rw [if_pos e3]
          have := h.a k k0 km e
          rw [e3] at this
          exact tle_trans (tle_of hl) this
        · rw [if_neg e3]
          exact h.a k k0 km e
  · intro c c0 cm ci i0
    rw [G, G]
    rw [if_neg (by omega), if_neg (by omega)]
    have hp := h.a i i0 (by omega) (by omega)
    by_cases e : c = j
    · rw [if_pos e]
      exact hp
    · rw [if_neg e, if_neg (by omega)]
      have := h.a c c0 cm e
      rw [ci] at this
      exact tle_trans hp this

/-- .. but for what stands at i, which may have to go down; it came from i0. -/
structure DnI (m i0 i : Nat) (l : List Tm) : Prop where
  a : ∀ k, 0 < k → k < m → (k - 1) / 2 ≠ i → (k ≠ i0 ∨ i ≠ i0) → tle (gt l ((k - 1) / 2)) (gt l k)
  b : ∀ c, 0 < c → c < m → (c - 1) / 2 = i → 0 < i → tle (gt l ((i - 1) / 2)) (gt l c)
  c : i0 ≤ i
theorem dn_start {m m' i : Nat} {l l' : List Tm} (H : Heap m' l) (hm : m ≤ m') (hi : i < m) (he : ∀ k, k < m → k ≠ i → gt l' k = gt l k) : DnI m i i l' := by
  refine ⟨fun k k0 km kp hk => ?_, fun c c0 cm cp i0 => ?_, Nat.le_refl _⟩
  · rw [he k km (by omega), he _ (by omega) kp]
    exact H k k0 (by omega)
  · rw [he c cm (by omega), he _ (by omega) (by omega)]
    have h1 := H c c0 (by omega)
    rw [cp] at h1
    exact tle_trans (H i i0 (by omega)) h1
theorem dn_step {m i0 i j : Nat} {l : List Tm} (h : DnI m i0 i l) (hj : j = 2 * i + 1 ∨ j = 2 * i + 2) (hjm : j < m) (hm : m ≤ l.length) (hl : tlt (gt l j) (gt l i))
    (ho : ∀ j', (j' = 2 * i + 1 ∨ j' = 2 * i + 2) → j' < m → tle (gt l j) (gt l j')) : DnI m i0 j (swp i j l) := by
  have hij : i < j := by omega
  have G : ∀ k, gt (swp i j l) k = if k = j then gt l i else if k = i then gt l j else gt l k := fun k => gt_swp (by omega) (by omega)
  have hc := h.c
  refine ⟨fun k k0 km kp _ => ?_, fun c c0 cm cp j0 => ?_, by omega⟩
  · rw [G, G]
    rw [if_neg kp]
    by_cases e : k = j
    · subst e
      rw [if_pos rfl, if_pos (by omega)]
      exact tle_of hl
    · rw [if_neg e]
      by_cases e2 : k = i
      · subst e2
        rw [if_pos rfl, if_neg (by omega)]
        exact h.b j (by omega) hjm (by omega) k0
      · rw [if_neg e2]
        by_cases e3 : (k - 1) / 2 = i
        · rw [if_pos e3]
          exact ho k (by omega) km
        · rw [if_neg e3]
          exact h.a k k0 km e3 (by omega)
  · rw [G, G, if_neg (by omega), if_pos (by omega), if_neg (by omega), if_neg (by omega)]
    have := h.a c c0 cm (by omega) (by omega)
    rw [cp] at this
    exact this
theorem dn_over {m i0 i : Nat} {l : List Tm} (h : DnI m i0 i l) (ho : ∀ j', (j' = 2 * i + 1 ∨ j' = 2 * i + 2) → j' < m → ¬ tlt (gt l j') (gt l i)) : (i ≠ i0 → Heap m l) ∧ (i = i0 → UpI m i0 l) := by
  have hs : ∀ k, 0 < k → k < m → (k ≠ i0 ∨ i ≠ i0) → tle (gt l ((k - 1) / 2)) (gt l k) := fun k k0 km hk => by
    by_cases e : (k - 1) / 2 = i
    · rw [e]
      exact tle_of_not (ho k (by omega) km)
    · exact h.a k k0 km e hk
  refine ⟨fun e k k0 km => hs k k0 km (.inr e), fun e => ⟨fun k k0 km hk => hs k k0 km (.inl hk), fun c c0 cm cp j0 => ?_⟩⟩
  subst e
  exact h.b c c0 cm cp j0
theorem up_push {l : List Tm} (H : Heap l.length l) (t : Tm) : UpI (l.length + 1) l.length (l ++ [t]) := by
  have he : ∀ k, k < l.length → gt (l ++ [t]) k = gt l k := fun k hk => by
    unfold gt
    simp [List.getElem?_append_left hk]
  refine ⟨fun k k0 km hk => ?_, fun c c0 cm cp h0 => by omega⟩
  rw [he k (by omega), he _ (by omega)]
  exact H k k0 (by omega)
theorem gt_take {l : List Tm} {m k : Nat} (h : k < m) : gt (l.take m) k = gt l k := by
  unfold gt
  simp [h]
theorem heap_take {m : Nat} {l : List Tm} (H : Heap m l) : Heap m (l.take m) := fun k k0 km => by
  rw [gt_take km, gt_take (by omega)]
  exact H k k0 km
theorem heap_min {m : Nat} {l : List Tm} (H : Heap m l) : ∀ k, k < m → tle (gt l 0) (gt l k) := by
  intro k
  induction k using Nat.strongRecOn with
  | _ k ih =>
    intro hk
    by_cases e : k = 0
    · rw [e]; exact tle_refl _
    · exact tle_trans (ih ((k - 1) / 2) (by omega) (by omega)) (H k (by omega) hk)

/-! ### ids -/
def Nd (l : List Tm) : Prop := (l.map (·.1)).Nodup
theorem nd_perm {l l' : List Tm} (h : l.Perm l') : Nd l ↔ Nd l' := (h.map _).nodup_iff
theorem nd_same {l : List Tm} (h : Nd l) {i j : Nat} (hi : i < l.length) (hj : j < l.length) (e : (gt l i).1 = (gt l j).1) : i = j := by
  unfold Nd at h
  have := (List.getElem_inj (h₀ := by simpa using hi) (h₁ := by simpa using hj) h).1
  apply this
  have e1 : gt l i = l[i] := by simp [gt, hi]
  have e2 : gt l j = l[j] := by simp [gt, hj]
  simpa [e1, e2] using e
def without (id : Int) (l : List Tm) : List Tm := l.filter (fun t => !(t.1 == id))
theorem without_none {id : Int} {l : List Tm} (h : ∀ t ∈ l, t.1 ≠ id) : without id l = l := by
  unfold without
  rw [List.filter_eq_self]
  intro t ht
  simpa using h t ht
theorem mem_without {id : Int} {l : List Tm} {t : Tm} : t ∈ without id l ↔ t ∈ l ∧ t.1 ≠ id := by simp [without]
theorem nd_split {a b : List Tm} {p : Tm} (h : Nd (a ++ p :: b)) : without p.1 (a ++ p :: b) = a ++ b := by
  unfold Nd at h
  rw [List.map_append, List.map_cons] at h
  obtain ⟨_, h2, h3⟩ := List.nodup_append.1 h
  obtain ⟨h4, _⟩ := List.nodup_cons.1 h2
  have ha : without p.1 a = a := without_none fun t ht e => h3 t.1 (List.mem_map.2 ⟨t, ht, rfl⟩) p.1 (by simp) e
  have hb : without p.1 b = b := without_none fun t ht e => h4 (List.mem_map.2 ⟨t, ht, e⟩)
  have hp : without p.1 (p :: b) = without p.1 b := by simp [without]
  have hap : without p.1 (a ++ p :: b) = without p.1 a ++ without p.1 (p :: b) := by simp [without]
  rw [hap, hp, ha, hb]
theorem at_split {l : List Tm} {i : Nat} (h : i < l.length) : ∃ a b, l = a ++ gt l i :: b ∧ a.length = i := by
  refine ⟨l.take i, l.drop (i + 1), ?_, by simp; omega⟩
  have e : gt l i = l[i] := by simp [gt, h]
  rw [e]
  simp
theorem perm_out {l : List Tm} {i : Nat} (h : Nd l) (hi : i < l.length) : l.Perm (gt l i :: without (gt l i).1 l) := by
  obtain ⟨a, b, e, _⟩ := at_split hi
  generalize gt l i = p at e
  subst e
  rw [nd_split h]
  exact List.perm_middle
theorem perm_set {l : List Tm} {i : Nat} (t : Tm) (h : Nd l) (hi : i < l.length) : (l.set i t).Perm (t :: without (gt l i).1 l) := by
  obtain ⟨a, b, e, ha⟩ := at_split hi
  generalize gt l i = p at e
  subst e
  rw [nd_split h]
  have : (a ++ p :: b).set i t = a ++ t :: b := by
    rw [← ha]
    simp
  rw [this]
  exact List.perm_middle
theorem perm_last {l l' : List Tm} {p : Tm} {n : Nat} (h : Nd l) (hp : l'.Perm l) (hn : l'.length = n + 1) (e : gt l' n = p) : (l'.take n).Perm (without p.1 l) := by
  have h' : Nd l' := (nd_perm hp).2 h
  obtain ⟨a, b, e2, ha⟩ := at_split (l := l') (i := n) (by omega)
  rw [e] at e2
  subst e2
  have hb : b = [] := by
    have : (a ++ p :: b).length = n + 1 := hn
    simp at this
    exact List.length_eq_zero_iff.1 (by omega)
  subst hb
  have e3 : (a ++ [p]).take n = a := by rw [← ha]; simp
  rw [e3]
  have := nd_split (a := a) (b := []) h'
  rw [List.append_nil] at this
  have h4 : (without p.1 (a ++ [p])).Perm (without p.1 l) := hp.filter _
  rw [this] at h4
  exact h4

/-! ### rising lists -/
def Srt (S : List Tm) : Prop := S.Pairwise tlt
def ins (t : Tm) : List Tm → List Tm
  | [] => [t]
  | s :: r => if tlt s t then s :: ins t r else t :: s :: r
theorem ins_perm (t : Tm) : ∀ S, (ins t S).Perm (t :: S)
  | [] => List.Perm.refl _
  | s :: r => by
    unfold ins
    split
    · exact ((ins_perm t r).cons s).trans (List.Perm.swap t s r)
    · exact List.Perm.refl _
theorem ins_srt {t : Tm} : ∀ {S : List Tm}, Srt S → (∀ s ∈ S, s.1 ≠ t.1) → Srt (ins t S)
  | [], _, _ => List.pairwise_singleton _ _
  | s :: r, h, hn => by
    obtain ⟨h1, h2⟩ := List.pairwise_cons.1 h
    unfold ins
    split
    · rename_i hlt
      refine List.pairwise_cons.2 ⟨fun x hx => ?_, ins_srt h2 fun x hx => hn x (by simp [hx])⟩
      rcases List.mem_cons.1 ((ins_perm t r).mem_iff.1 hx) with rfl | hx
      · exact hlt
      · exact h1 x hx
    · rename_i hlt
      have hts : tlt t s := tlt_of (tle_of_not hlt) (fun e => hn s (by simp) e.symm)
      exact List.pairwise_cons.2 ⟨fun x hx => by
        rcases List.mem_cons.1 hx with rfl | hx
        · exact hts
        · exact tlt_trans hts (h1 x hx), h⟩
theorem without_srt {S : List Tm} (h : Srt S) (id : Int) : Srt (without id S) := h.filter _
theorem without_nd {S : List Tm} (h : Nd S) (id : Int) : Nd (without id S) := by
  unfold Nd without at *
  exact h.sublist (List.filter_sublist.map _)
theorem cons_nd {t : Tm} {S : List Tm} (h : Nd S) : Nd (t :: without t.1 S) := by
  unfold Nd
  rw [List.map_cons, List.nodup_cons]
  refine ⟨fun hm => ?_, without_nd h _⟩
  obtain ⟨x, hx, e⟩ := List.mem_map.1 hm
  exact (mem_without.1 hx).2 e
/-- What Set leaves. -/
def sSet (t : Tm) (S : List Tm) : List Tm := ins t (without t.1 S)
theorem sSet_perm (t : Tm) (S : List Tm) : (sSet t S).Perm (t :: without t.1 S) := ins_perm _ _
theorem sSet_srt {t : Tm} {S : List Tm} (h : Srt S) : Srt (sSet t S) := ins_srt (without_srt h _) fun _ hs => (mem_without.1 hs).2
theorem sSet_nd {t : Tm} {S : List Tm} (h : Nd S) : Nd (sSet t S) := (nd_perm (sSet_perm t S)).2 (cons_nd h)
theorem mem_sSet {t x : Tm} {S : List Tm} : x ∈ sSet t S ↔ x = t ∨ (x ∈ S ∧ x.1 ≠ t.1) := by
  rw [(sSet_perm t S).mem_iff, List.mem_cons, mem_without]
theorem sSet_len (t : Tm) (S : List Tm) : (sSet t S).length ≤ S.length + 1 := by
  rw [(sSet_perm t S).length_eq, List.length_cons]
  have := List.length_filter_le (fun u : Tm => !(u.1 == t.1)) S
  unfold without
  omega
/-- Where the id is found. -/
def fnd (id : Int) (S : List Tm) : Option Tm := S.find? (fun t => t.1 == id)
theorem fnd_mem {id : Int} {S : List Tm} {t : Tm} (h : fnd id S = some t) : t ∈ S ∧ t.1 = id := ⟨List.mem_of_find?_eq_some h, by simpa using List.find?_some h⟩
theorem fnd_none {id : Int} {S : List Tm} : fnd id S = none ↔ ∀ t ∈ S, t.1 ≠ id := by simp [fnd]
theorem nd_eq {S : List Tm} (h : Nd S) {t u : Tm} (ht : t ∈ S) (hu : u ∈ S) (e : t.1 = u.1) : t = u := by
  obtain ⟨i, hi, rfl⟩ := List.mem_iff_getElem.1 ht
  obtain ⟨j, hj, rfl⟩ := List.mem_iff_getElem.1 hu
  have e1 : gt S i = S[i] := by simp [gt, hi]
  have e2 : gt S j = S[j] := by simp [gt, hj]
  have := nd_same h hi hj (by rw [e1, e2]; exact e)
  subst this
  rfl
theorem fnd_iff {id : Int} {S : List Tm} {t : Tm} (h : Nd S) : fnd id S = some t ↔ t ∈ S ∧ t.1 = id := by
  refine ⟨fnd_mem, fun ⟨h1, h2⟩ => ?_⟩
  cases hf : fnd id S with
  | none => exact absurd h2 (fnd_none.1 hf t h1)
  | some u =>
    obtain ⟨h3, h4⟩ := fnd_mem hf
    rw [nd_eq h h3 h1 (h4.trans h2.symm)]
theorem fnd_perm {id : Int} {l S : List Tm} (h : Nd S) (hp : l.Perm S) : fnd id l = fnd id S := by
  cases hf : fnd id S with
  | none => exact fnd_none.2 fun t ht => fnd_none.1 hf t (hp.mem_iff.1 ht)
  | some u =>
    obtain ⟨h3, h4⟩ := fnd_mem hf
    exact (fnd_iff ((nd_perm hp).2 h)).2 ⟨hp.mem_iff.2 h3, h4⟩
theorem head_of {l : List Tm} {s : Tm} {r : List Tm} (H : Heap l.length l) (hp : l.Perm (s :: r)) (hs : Srt (s :: r)) : gt l 0 = s := by
  have h0 : 0 < l.length := by rw [hp.length_eq]; simp
  have h1 : gt l 0 ∈ s :: r := hp.mem_iff.1 (gt_mem h0)
  have h2 : tle s (gt l 0) := by
    rcases List.mem_cons.1 h1 with e | e
    · rw [e]; exact tle_refl _
    · exact tle_of ((List.pairwise_cons.1 hs).1 _ e)
  obtain ⟨i, hi, e⟩ := List.mem_iff_getElem.1 (hp.mem_iff.2 (List.mem_cons_self (a := s) (l := r)))
  have e1 : gt l i = s := by simp [gt, hi, e]
  have h3 := heap_min H i hi
  rw [e1] at h3
  exact tle_anti h3 h2
/-- What goes off at a turn; what is left. -/
def offs (now : Int) (S : List Tm) : List Tm := S.takeWhile (fun t => decide (t.2 ≤ now))
def left (now : Int) (S : List Tm) : List Tm := S.dropWhile (fun t => decide (t.2 ≤ now))
theorem offs_left (now : Int) (S : List Tm) : offs now S ++ left now S = S := List.takeWhile_append_dropWhile
theorem offs_mem {now : Int} : ∀ {S : List Tm}, Srt S → ∀ {t : Tm}, t ∈ offs now S ↔ t ∈ S ∧ t.2 ≤ now
  | [], _, t => by simp [offs]
  | s :: r, h, t => by
    obtain ⟨h1, h2⟩ := List.pairwise_cons.1 h
    unfold offs
    rw [List.takeWhile_cons]
    by_cases e : s.2 ≤ now
    · simp only [e, decide_true, if_true, List.mem_cons]
      have := offs_mem (now := now) h2 (t := t)
      unfold offs at this
      rw [this]
      constructor
      · rintro (rfl | ⟨h3, h4⟩)
        · exact ⟨.inl rfl, e⟩
        · exact ⟨.inr h3, h4⟩
      · rintro ⟨rfl | h3, h4⟩
        · exact .inl rfl
        · exact .inr ⟨h3, h4⟩
    · simp only [e, decide_false, Bool.false_eq_true, if_false, List.not_mem_nil, false_iff, List.mem_cons]
      rintro ⟨rfl | h3, h4⟩
      · exact e h4
      · have := h1 t h3
        unfold tlt at this
        omega
theorem left_mem {now : Int} : ∀ {S : List Tm}, Srt S → ∀ {t : Tm}, t ∈ left now S ↔ t ∈ S ∧ now < t.2
  | [], _, t => by simp [left]
  | s :: r, h, t => by
    obtain ⟨h1, h2⟩ := List.pairwise_cons.1 h
    unfold left
    rw [List.dropWhile_cons]
    by_cases e : s.2 ≤ now
    · simp only [e, decide_true, if_true]
      have := left_mem (now := now) h2 (t := t)
      unfold left at this
      rw [this]
      constructor
      · rintro ⟨h3, h4⟩
        exact ⟨List.mem_cons_of_mem _ h3, h4⟩
      · rintro ⟨h3, h4⟩
        rcases List.mem_cons.1 h3 with rfl | h3
        · omega
        · exact ⟨h3, h4⟩
    · simp only [e, decide_false, Bool.false_eq_true, if_false]
      refine ⟨fun h3 => ⟨h3, ?_⟩, fun h3 => h3.1⟩
      rcases List.mem_cons.1 h3 with rfl | h3
      · omega
      · have := h1 t h3
        unfold tlt at this
        omega
theorem left_srt {now : Int} {S : List Tm} (h : Srt S) : Srt (left now S) := h.sublist (List.dropWhile_sublist _)
theorem left_nd {now : Int} {S : List Tm} (h : Nd S) : Nd (left now S) := by
  unfold Nd at *
  exact h.sublist ((List.dropWhile_sublist _).map _)
theorem offs_srt {now : Int} {S : List Tm} (h : Srt S) : Srt (offs now S) := h.sublist (List.takeWhile_sublist _)
theorem left_len (now : Int) (S : List Tm) : (left now S).length ≤ S.length := (List.dropWhile_sublist _).length_le
theorem without_len (id : Int) (S : List Tm) : (without id S).length ≤ S.length := List.length_filter_le _ _
/-- The first one taken away. -/
theorem without_head {s : Tm} {r : List Tm} (h : Nd (s :: r)) : without s.1 (s :: r) = r := by
  have := nd_split (a := []) (b := r) h
  simpa using this
end Wh
end Go.Proofs.Ytnfakkinaockiaa
