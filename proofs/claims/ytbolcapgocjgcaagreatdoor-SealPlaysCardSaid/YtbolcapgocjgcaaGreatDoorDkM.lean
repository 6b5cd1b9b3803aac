/- Files as rising lists: looked up, put, struck; a map's datum of such a list. No program. -/
import Derived.Test.YtbolcapgocjgcaaGreatDoorRows
import Derived.Maps.Ext
import Derived.Sort.KeysCollected
namespace Go.Proofs.YtbolcapgocjgcaaGreatDoor
open Go.WideAt (bytes_irrefl bytes_total)
open Go.WideShapes (bytes_trans)
namespace Dk

abbrev Bs := List UInt8
section
variable {α β : Type}
def look (n : Bs) : List (Bs × α) → Option α
  | [] => none
  | p :: r => if p.1 = n then some p.2 else look n r
def put (n : Bs) (a : α) : List (Bs × α) → List (Bs × α)
  | [] => [(n, a)]
  | p :: r => if p.1 = n then (n, a) :: r else if bytesBefore n p.1 = true then (n, a) :: p :: r else p :: put n a r
def del (n : Bs) (l : List (Bs × α)) : List (Bs × α) := l.filter fun p => !decide (p.1 = n)
def Rise (l : List (Bs × α)) : Prop := l.Pairwise fun p q => bytesBefore p.1 q.1 = true
def vals (f : α → β) (l : List (Bs × α)) : List (Bs × β) := l.map fun p => (p.1, f p.2)
def sum (f : α → Nat) (l : List (Bs × α)) : Nat := (l.map fun p => f p.2).sum

theorem bb_ne {a b : Bs} (h : bytesBefore a b = true) : a ≠ b := by
  rintro rfl
  rw [bytes_irrefl] at h
  cases h
theorem bb_asym {a b : Bs} (h : bytesBefore a b = true) : bytesBefore b a = false := by
  cases e : bytesBefore b a
  · rfl
  · have := bytes_trans _ _ _ h e
    rw [bytes_irrefl] at this
    cases this

theorem rise_nil : Rise ([] : List (Bs × α)) := List.Pairwise.nil
theorem rise_del {l : List (Bs × α)} (h : Rise l) (n : Bs) : Rise (del n l) := List.Pairwise.sublist List.filter_sublist h
theorem rise_vals {l : List (Bs × α)} (f : α → β) : Rise (vals f l) ↔ Rise l := by
  unfold Rise vals
  rw [List.pairwise_map]
theorem mem_put {n : Bs} {a : α} : ∀ {l : List (Bs × α)}, Rise l → ∀ p, p ∈ put n a l → p = (n, a) ∨ (p ∈ l ∧ p.1 ≠ n)
  | [], _, p, h => by simp [put] at h; exact .inl h
  | q :: r, hr, p, h => by
    obtain ⟨h1, h2⟩ := List.pairwise_cons.1 hr
    unfold put at h
    split at h
    · rename_i e
      rcases List.mem_cons.1 h with rfl | h
      · exact .inl rfl
      · exact .inr ⟨List.mem_cons_of_mem _ h, fun e' => bb_ne (h1 p h) (e.trans e'.symm)⟩
    · rename_i e
      split at h
      · rename_i hb
        rcases List.mem_cons.1 h with rfl | h
        · exact .inl rfl
        · refine .inr ⟨h, fun e' => ?_⟩
          rcases List.mem_cons.1 h with rfl | h
          · exact e e'
          · exact bb_ne (bytes_trans _ _ _ hb (h1 p h)) e'.symm
      · rcases List.mem_cons.1 h with rfl | h
        · exact .inr ⟨List.mem_cons_self, e⟩
        · rcases mem_put h2 p h with h | ⟨h, h'⟩
          · exact .inl h
          · exact .inr ⟨List.mem_cons_of_mem _ h, h'⟩
theorem rise_put {l : List (Bs × α)} (h : Rise l) (n : Bs) (a : α) : Rise (put n a l) := by
  induction l with
  | nil => exact List.pairwise_singleton _ _
  | cons q r ih =>
    obtain ⟨h1, h2⟩ := List.pairwise_cons.1 h
    unfold put
    split
    · rename_i e
      exact List.pairwise_cons.2 ⟨fun p hp => by have := h1 p hp; rw [e] at this; exact this, h2⟩
    · rename_i e
      split
      · rename_i hb
        refine List.pairwise_cons.2 ⟨fun p hp => ?_, h⟩
        rcases List.mem_cons.1 hp with rfl | hp
        · exact hb
        · exact bytes_trans _ _ _ hb (h1 p hp)
      · rename_i hb
        refine List.pairwise_cons.2 ⟨fun p hp => ?_, ih h2⟩
        rcases mem_put h2 p hp with rfl | ⟨hp, _⟩
        · rcases bytes_total _ _ e with h' | h'
          · exact h'
          · exact absurd h' hb
        · exact h1 p hp
theorem mem_del {n : Bs} {l : List (Bs × α)} {p : Bs × α} : p ∈ del n l ↔ p ∈ l ∧ p.1 ≠ n := by simp [del]
theorem look_mem {n : Bs} {a : α} : ∀ {l : List (Bs × α)}, look n l = some a → (n, a) ∈ l
  | [], h => by simp [look] at h
  | q :: r, h => by
    unfold look at h
    split at h
    · rename_i e
      injection h with h
      subst e; subst h
      exact List.mem_cons_self
    · exact List.mem_cons_of_mem _ (look_mem h)
theorem mem_look {n : Bs} {a : α} : ∀ {l : List (Bs × α)}, Rise l → (n, a) ∈ l → look n l = some a
  | q :: r, hr, h => by
    obtain ⟨h1, h2⟩ := List.pairwise_cons.1 hr
    unfold look
    rcases List.mem_cons.1 h with rfl | h
    · simp
    · rw [if_neg (bb_ne (h1 _ h)), mem_look h2 h]
theorem look_none {n : Bs} : ∀ {l : List (Bs × α)}, look n l = none ↔ ∀ p ∈ l, p.1 ≠ n
  | [] => by simp [look]
  | q :: r => by
    unfold look
    split
    · rename_i e
      simp [e]
    · rename_i e
      rw [look_none (l := r)]
      simp [e]
theorem look_put_same (n : Bs) (a : α) : ∀ (l : List (Bs × α)), look n (put n a l) = some a
  | [] => by simp [put, look]
  | q :: r => by
    unfold put
    split
    · simp [look]
    · rename_i e
      split
      · simp [look]
      · simp [look, e, look_put_same n a r]
theorem look_put_other {n k : Bs} (hne : k ≠ n) (a : α) : ∀ (l : List (Bs × α)), look k (put n a l) = look k l
  | [] => by simp [put, look, hne.symm]
  | q :: r => by
    unfold put
    split
    · rename_i e
      simp [look, hne.symm, e]
    · split
      · simp [look, hne.symm]
      · simp [look, look_put_other hne a r]
theorem look_del_same (n : Bs) (l : List (Bs × α)) : look n (del n l) = none := look_none.2 fun _ hp => (mem_del.1 hp).2
theorem look_del_other {n k : Bs} (hne : k ≠ n) : ∀ (l : List (Bs × α)), look k (del n l) = look k l
  | [] => rfl
  | q :: r => by
    by_cases e : q.1 = n
    · have e1 : del n (q :: r) = del n r := by simp [del, e]
      rw [e1, look_del_other hne r]
      simp [look, e, hne.symm]
    · have e1 : del n (q :: r) = q :: del n r := by simp [del, e]
      rw [e1]
      simp [look, look_del_other hne r]
theorem look_vals (f : α → β) (n : Bs) : ∀ (l : List (Bs × α)), look n (vals f l) = (look n l).map f
  | [] => rfl
  | q :: r => by
    have e1 : vals f (q :: r) = (q.1, f q.2) :: vals f r := rfl
    rw [e1]
    unfold look
    split
    · rfl
    · exact look_vals f n r
theorem put_vals (f : α → β) (n : Bs) (a : α) : ∀ (l : List (Bs × α)), vals f (put n a l) = put n (f a) (vals f l)
  | [] => rfl
  | q :: r => by
    have e1 : vals f (q :: r) = (q.1, f q.2) :: vals f r := rfl
    rw [e1]
    unfold put
    split
    · rfl
    · split
      · rfl
      · rw [← put_vals f n a r]; rfl
theorem del_vals (f : α → β) (n : Bs) (l : List (Bs × α)) : vals f (del n l) = del n (vals f l) := by
  unfold vals del
  rw [List.filter_map]
  rfl
theorem sum_vals (f : α → β) (g : β → Nat) (l : List (Bs × α)) : sum g (vals f l) = sum (fun a => g (f a)) l := by simp [sum, vals, Function.comp_def]
theorem sum_put (f : α → Nat) (n : Bs) (a : α) {l : List (Bs × α)} (h : Rise l) : sum f (put n a l) + (look n l).elim 0 f = sum f l + f a := by
  induction l with
  | nil => simp [put, sum, look]
  | cons q r ih =>
    obtain ⟨h1, h2⟩ := List.pairwise_cons.1 h
    unfold put look
    split
    · simp [sum]; omega
    · rename_i e
      split
      · rename_i hb
        have : look n r = none := look_none.2 fun p hp e' => bb_ne (bytes_trans _ _ _ hb (h1 p hp)) e'.symm
        rw [this]
        simp [sum]; omega
      · have := ih h2
        simp only [sum, List.map_cons, List.sum_cons] at this ⊢
        omega
theorem sum_del (f : α → Nat) (n : Bs) {l : List (Bs × α)} (h : Rise l) : sum f (del n l) + (look n l).elim 0 f = sum f l := by
  induction l with
  | nil => simp [del, sum, look]
  | cons q r ih =>
    obtain ⟨h1, h2⟩ := List.pairwise_cons.1 h
    have ih := ih h2
    by_cases e : q.1 = n
    · have e1 : del n (q :: r) = del n r := by simp [del, e]
      have e2 : look n r = none := look_none.2 fun p hp e' => bb_ne (h1 p hp) (e.trans e'.symm)
      rw [e2] at ih
      rw [e1]
      simp only [look, e, sum, List.map_cons, List.sum_cons, if_true, Option.elim] at ih ⊢
      omega
    · have e1 : del n (q :: r) = q :: del n r := by simp [del, e]
      rw [e1]
      simp only [look, e, sum, List.map_cons, List.sum_cons, if_false] at ih ⊢
      omega
theorem len_put_le (n : Bs) (a : α) : ∀ (l : List (Bs × α)), (put n a l).length ≤ l.length + 1
  | [] => by simp [put]
  | q :: r => by
    unfold put
    split
    · simp
    · split
      · simp
      · have := len_put_le n a r
        simp
        omega
theorem len_del_le (n : Bs) (l : List (Bs × α)) : (del n l).length ≤ l.length := List.length_filter_le _ _
theorem len_vals (f : α → β) (l : List (Bs × α)) : (vals f l).length = l.length := by simp [vals]
theorem le_sum (f : α → Nat) {p : Bs × α} : ∀ {l : List (Bs × α)}, p ∈ l → f p.2 ≤ sum f l
  | q :: r, h => by
    simp only [sum, List.map_cons, List.sum_cons]
    rcases List.mem_cons.1 h with rfl | h
    · omega
    · have := le_sum f h
      simp only [sum] at this
      omega

/-! ### the datum -/
def dat (g : α → Value) (l : List (Bs × α)) : DataW Value := .map (l.map fun p => (Lit.string p.1, DataW.held (g p.2)))
theorem same_key (a b : Bs) : Lit.sameKey (.string a) (.string b) = decide (a = b) := by
  simp only [Lit.sameKey]
  by_cases e : a = b <;> simp [e]
theorem dat_at (g : α → Value) (n : Bs) (z : Value) (l : List (Bs × α)) : (dat g l).atKey (.string n) (.held z) = .held ((look n l).elim z g) := by
  unfold dat DataW.atKey
  simp only
  induction l with
  | nil => rfl
  | cons q r ih =>
    simp only [List.map_cons, List.find?_cons, same_key]
    unfold look
    by_cases e : q.1 = n
    · simp [e]
    · simp only [e, decide_false, if_false]
      exact ih
theorem dat_has (g : α → Value) (n : Bs) (l : List (Bs × α)) : Maps.has (dat g l) (.string n) = (look n l).isSome := by
  unfold dat
  rw [Maps.has_eq]
  induction l with
  | nil => rfl
  | cons q r ih =>
    simp only [List.map_cons, List.any_cons, same_key]
    unfold look
    by_cases e : q.1 = n
    · simp [e]
    · simp only [e, decide_false, if_false, Bool.false_or]
      exact ih
theorem dat_size (g : α → Value) (l : List (Bs × α)) : Maps.size (dat g l) = l.length := by simp [dat, Maps.size]
theorem dat_del (g : α → Value) (n : Bs) (l : List (Bs × α)) : (dat g l).del (.string n) = dat g (del n l) := by
  unfold dat DataW.del del
  simp only [List.filter_map]
  congr 2
  apply List.filter_congr
  intro p _
  simp [same_key]
theorem filt_ne {n : Bs} (g : α → Value) {l : List (Bs × α)} (h : ∀ p ∈ l, p.1 ≠ n) : (l.map fun p => ((Lit.string p.1, DataW.held (g p.2)) : Lit × DataW Value)).filter (fun p => !p.1.sameKey (.string n)) = l.map fun p => (Lit.string p.1, DataW.held (g p.2)) := by
  rw [List.filter_eq_self]
  intro p hp
  obtain ⟨q, hq, rfl⟩ := List.mem_map.1 hp
  simp [same_key, h q hq]
theorem dat_put_aux (g : α → Value) (n : Bs) (a : α) {l : List (Bs × α)} (h : Rise l) :
    DataW.insert (Lit.string n, DataW.held (g a)) ((l.map fun p => (Lit.string p.1, DataW.held (g p.2))).filter (fun p => !p.1.sameKey (.string n))) = (put n a l).map fun p => (Lit.string p.1, DataW.held (g p.2)) := by
  induction l with
  | nil => rfl
  | cons q r ih =>
    obtain ⟨h1, h2⟩ := List.pairwise_cons.1 h
    unfold put
    by_cases e : q.1 = n
    · have hr : ∀ p ∈ r, p.1 ≠ n := fun p hp e' => bb_ne (h1 p hp) (e.trans e'.symm)
      simp only [List.map_cons, List.filter_cons, same_key, e, decide_true, Bool.not_true, Bool.false_eq_true, if_false, if_true]
      have hf := filt_ne g hr
      rw [hf]
      cases r with
      | nil => rfl
      | cons p s =>
        have := h1 p List.mem_cons_self
        rw [e] at this
        simp [DataW.insert, Lit.before, this]
    · simp only [List.map_cons, List.filter_cons, same_key, e, decide_false, Bool.not_false, if_true, if_false]
      split
      · rename_i hb
        have hr : ∀ p ∈ r, p.1 ≠ n := fun p hp e' => bb_ne (bytes_trans _ _ _ hb (h1 p hp)) e'.symm
        have hf := filt_ne g hr
        rw [hf]
        simp [DataW.insert, Lit.before, hb]
      · rename_i hb
        have hb' : bytesBefore n q.1 = false := by simpa using hb
        simp only [DataW.insert, Lit.before, hb', Bool.false_eq_true, if_false, List.map_cons]
        congr 1
        have := ih h2
        exact this
theorem dat_put (g : α → Value) (n : Bs) (a : α) {l : List (Bs × α)} (h : Rise l) : (dat g l).put (.string n) (.held (g a)) = dat g (put n a l) := by
  unfold dat DataW.put
  simp only
  rw [dat_put_aux g n a h]
theorem bb_lt : ∀ (a b : Bs), bytesBefore a b = true ↔ a < b
  | [], [] => by simp [bytesBefore]
  | [], _ :: _ => by simp [bytesBefore]
  | _ :: _, [] => by simp [bytesBefore]
  | x :: r, y :: s => by
    rw [List.cons_lt_cons_iff, ← bb_lt r s]
    simp [bytesBefore]
theorem dat_keys (g : α → Value) {l : List (Bs × α)} (h : Rise l) : strKeys (dat g l) = l.map (·.1) ∧ (strKeys (dat g l)).mergeSort leB = l.map (·.1) := by
  have e : strKeys (dat g l) = l.map (·.1) := by simp [strKeys, dat, strOf, Function.comp_def]
  refine ⟨e, ?_⟩
  rw [e]
  refine List.mergeSort_of_pairwise ?_
  rw [List.pairwise_map]
  refine h.imp fun {p q} hpq => ?_
  simp only [leB, decide_eq_true_eq]
  exact List.le_of_lt ((bb_lt _ _).1 hpq)
end
end Dk
end Go.Proofs.YtbolcapgocjgcaaGreatDoor
