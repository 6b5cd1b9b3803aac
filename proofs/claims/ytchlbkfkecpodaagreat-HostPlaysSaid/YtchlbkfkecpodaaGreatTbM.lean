/- What is answered, by booking and kind; which keys there are, the lowest first. No program. -/
import Derived.Test.YtchlbkfkecpodaaGreatWtB
namespace Go.Proofs.YtchlbkfkecpodaaGreat
set_option maxRecDepth 100000
namespace Tb
open Wt (Opn mayOp)

/-- The answer by booking and kind; 0: none. -/
abbrev F := Int → Int → Int
def fz : F := fun _ _ => 0
def upd (f : F) (b k a : Int) : F := fun x y => if x = b ∧ y = k then a else f x y
section
variable {f : F} {b k a x y : Int}
theorem upd_same : upd f b k a b k = a := if_pos ⟨rfl, rfl⟩
theorem upd_other (h : ¬ (x = b ∧ y = k)) : upd f b k a x y = f x y := if_neg h
end
/-- Is there an answer? -/
def ne0 (x : Int) : Bool := decide (x ≠ 0)
theorem ne0_iff {x : Int} : ne0 x = true ↔ x ≠ 0 := by simp [ne0]
theorem ne0_not {x : Int} : ne0 x = false ↔ x = 0 := by simp [ne0]
/-- Which of the first n kinds of a booking have an answer. -/
def row (f : F) (b : Int) : Nat → List (Int × Int)
  | 0 => []
  | n + 1 => row f b n ++ (if f b ((n : Int) + 1) = 0 then [] else [(b, (n : Int) + 1)])
/-- .. of the first n bookings. -/
def walk (f : F) : Nat → List (Int × Int)
  | 0 => []
  | n + 1 => walk f n ++ row f ((n : Int) + 1) 6
def keys (f : F) : List (Int × Int) := walk f 200
def lk (p q : Int × Int) : Prop := p.1 < q.1 ∨ p.1 = q.1 ∧ p.2 < q.2
instance : DecidableRel lk := fun p q => inferInstanceAs (Decidable (p.1 < q.1 ∨ p.1 = q.1 ∧ p.2 < q.2))
theorem mem_row {f : F} {b x y : Int} {n : Nat} : (x, y) ∈ row f b n ↔ x = b ∧ 1 ≤ y ∧ y ≤ (n : Int) ∧ f x y ≠ 0 := by
  induction n with
  | zero => simp [row]; omega
  | succ n ih =>
    unfold row
    rw [List.mem_append, ih]
    by_cases h : f b ((n : Int) + 1) = 0
    · rw [if_pos h]
      constructor
      · rintro (⟨h1, h2, h3, h4⟩ | h5)
        · exact ⟨h1, h2, by omega, h4⟩
        · cases h5
      · rintro ⟨h1, h2, h3, h4⟩
        refine .inl ⟨h1, h2, ?_, h4⟩
        by_cases e : y = (n : Int) + 1
        · subst e h1
          exact absurd h h4
        · omega
    · rw [if_neg h, List.mem_singleton, Prod.mk.injEq]
      constructor
      · rintro (⟨h1, h2, h3, h4⟩ | ⟨h5, h6⟩)
        · exact ⟨h1, h2, by omega, h4⟩
        · subst h5 h6
          exact ⟨rfl, by omega, by omega, h⟩
      · rintro ⟨h1, h2, h3, h4⟩
        by_cases e : y = (n : Int) + 1
        · exact .inr ⟨h1, e⟩
        · exact .inl ⟨h1, h2, by omega, h4⟩
theorem mem_walk {f : F} {x y : Int} {n : Nat} : (x, y) ∈ walk f n ↔ (1 ≤ x ∧ x ≤ (n : Int)) ∧ (1 ≤ y ∧ y ≤ 6) ∧ f x y ≠ 0 := by
  induction n with
  | zero => simp [walk]; omega
  | succ n ih =>
    unfold walk
    rw [List.mem_append, ih, mem_row]
    constructor
    · rintro (⟨h1, h2⟩ | ⟨h1, h2, h3, h4⟩)
      · exact ⟨by omega, h2⟩
      · exact ⟨by omega, by omega, h4⟩
    · rintro ⟨h1, h2, h3⟩
      by_cases e : x = (n : Int) + 1
      · exact .inr ⟨e, by omega, by omega, h3⟩
      · exact .inl ⟨by omega, h2, h3⟩
theorem row_rise (f : F) (b : Int) (n : Nat) : (row f b n).Pairwise lk := by
  induction n with
  | zero => exact List.Pairwise.nil
  | succ n ih =>
    unfold row
    refine List.pairwise_append.2 ⟨ih, ?_, ?_⟩
    · split
      · exact List.Pairwise.nil
      · exact List.pairwise_singleton _ _
    · rintro ⟨x, y⟩ h1 ⟨x', y'⟩ h2
      obtain ⟨r1, r2, r3, r4⟩ := mem_row.1 h1
      split at h2
      · cases h2
      · rw [List.mem_singleton, Prod.mk.injEq] at h2
        exact .inr ⟨by rw [r1, h2.1], by show y < y'; omega⟩
theorem walk_rise (f : F) (n : Nat) : (walk f n).Pairwise lk := by
  induction n with
  | zero => exact List.Pairwise.nil
  | succ n ih =>
    unfold walk
    refine List.pairwise_append.2 ⟨ih, row_rise _ _ _, ?_⟩
    rintro ⟨x, y⟩ h1 ⟨x', y'⟩ h2
    obtain ⟨r1, r2⟩ := mem_walk.1 h1
    obtain ⟨s1, s2⟩ := mem_row.1 h2
    exact .inl (by show x < x'; omega)
theorem keys_rise (f : F) : (keys f).Pairwise lk := walk_rise f 200
theorem rise_lt {l : List (Int × Int)} (h : l.Pairwise lk) {m i : Nat} {p p' : Int × Int} (hm : m < i) (hp : l[i]? = some p) (hp' : l[m]? = some p') : lk p' p := by
  obtain ⟨h1, h2⟩ := List.getElem?_eq_some_iff.1 hp
  obtain ⟨h3, h4⟩ := List.getElem?_eq_some_iff.1 hp'
  rw [← h2, ← h4]
  exact List.pairwise_iff_getElem.1 h m i h3 h1 hm
theorem lk_irr (p : Int × Int) : ¬ lk p p := by unfold lk; omega
theorem lk_nodup {l : List (Int × Int)} (h : l.Pairwise lk) : l.Nodup := List.Pairwise.imp (S := fun a b => a ≠ b) (fun {a b} h => by rintro rfl; exact lk_irr _ h) h
theorem keys_nd (f : F) : (keys f).Nodup := lk_nodup (walk_rise f 200)
theorem row_len (f : F) (b : Int) (n : Nat) : (row f b n).length ≤ n := by
  induction n with
  | zero => exact Nat.le_refl _
  | succ n ih =>
    unfold row
    rw [List.length_append]
    split
    · simp; omega
    · simp; omega
theorem walk_len (f : F) (n : Nat) : (walk f n).length ≤ 6 * n := by
  induction n with
  | zero => exact Nat.le_refl _
  | succ n ih =>
    unfold walk
    rw [List.length_append]
    have := row_len f ((n : Int) + 1) 6
    omega
def cnt (f : F) : Nat := (keys f).length
theorem cnt_le (f : F) : cnt f ≤ 1200 := walk_len f 200
theorem mem_keys {f : F} {x y : Int} : (x, y) ∈ keys f ↔ (1 ≤ x ∧ x ≤ 200) ∧ (1 ≤ y ∧ y ≤ 6) ∧ f x y ≠ 0 := mem_walk
theorem keys_z : keys fz = [] := by
  refine List.eq_nil_iff_forall_not_mem.2 ?_
  rintro ⟨x, y⟩ h
  exact (mem_keys.1 h).2.2 rfl
theorem cnt_z : cnt fz = 0 := by unfold cnt; rw [keys_z]; rfl
theorem cnt_upd {f : F} {b k a : Int} (hb : 1 ≤ b ∧ b ≤ 200) (hk : 1 ≤ k ∧ k ≤ 6) (ha : a ≠ 0) (h : f b k = 0) : cnt (upd f b k a) = cnt f + 1 := by
  have hp : (keys (upd f b k a)).Perm ((b, k) :: keys f) := by
    refine (List.perm_ext_iff_of_nodup (keys_nd _) (List.nodup_cons.2 ⟨fun hm => (mem_keys.1 hm).2.2 h, keys_nd f⟩)).2 ?_
    rintro ⟨x, y⟩
    rw [List.mem_cons, mem_keys, mem_keys, Prod.mk.injEq]
    by_cases e : x = b ∧ y = k
    · rw [e.1, e.2, upd_same]
      simp [hb, hk, ha]
    · rw [upd_other e]
      simp [e]
  unfold cnt
  rw [hp.length_eq]
  rfl

/-- What a table may be. -/
structure Ok (f : F) : Prop where
  inn : ∀ x y, f x y ≠ 0 → (1 ≤ x ∧ x ≤ 200) ∧ (1 ≤ y ∧ y ≤ 6) ∧ (f x y = 1 ∨ f x y = 2)
theorem ok_z : Ok fz := ⟨fun _ _ h => absurd rfl h⟩
def mayA (a : Int) : Bool := a == 1 || a == 2
def put? (f : F) (o : Opn) (a : Int) : Bool := mayOp o && mayA a && f o.book o.kind == 0
def putF (f : F) (o : Opn) (a : Int) : F := if put? f o a = true then upd f o.book o.kind a else f
theorem mayop_bds {o : Opn} (h : mayOp o = true) : (1 ≤ o.book ∧ o.book ≤ 200) ∧ 1 ≤ o.kind ∧ o.kind ≤ 6 := by
  unfold mayOp at h
  rw [Bool.and_eq_true] at h
  obtain ⟨h1, h2⟩ := h
  refine ⟨by simpa [Wt.inR] using h1, ?_⟩
  by_cases k1 : o.kind = 1
  · omega
  · by_cases k4 : o.kind = 4
    · omega
    · rw [if_neg k1, if_neg k4] at h2
      split at h2
      · omega
      · cases h2
theorem maya_iff {a : Int} : mayA a = true ↔ a = 1 ∨ a = 2 := by simp [mayA]
theorem maya_ne {a : Int} (h : mayA a = true) : a ≠ 0 := by
  rcases maya_iff.1 h with rfl | rfl <;> decide
theorem put_iff {f : F} {o : Opn} {a : Int} : put? f o a = true ↔ mayOp o = true ∧ mayA a = true ∧ f o.book o.kind = 0 := by simp [put?, and_assoc]
theorem Ok.upd {f : F} (O : Ok f) {b k a : Int} (hb : 1 ≤ b ∧ b ≤ 200) (hk : 1 ≤ k ∧ k ≤ 6) (ha : a = 1 ∨ a = 2) : Ok (upd f b k a) := by
  refine ⟨fun x y h => ?_⟩
  by_cases e : x = b ∧ y = k
  · rw [e.1, e.2, upd_same]
    exact ⟨hb, hk, ha⟩
  · rw [upd_other e] at h ⊢
    exact O.inn x y h
theorem Ok.put {f : F} (O : Ok f) (o : Opn) (a : Int) : Ok (putF f o a) := by
  unfold putF
  split
  · rename_i h
    obtain ⟨h1, h2, h3⟩ := put_iff.1 h
    obtain ⟨b1, b2⟩ := mayop_bds h1
    exact O.upd b1 b2 (maya_iff.1 h2)
  · exact O
theorem cnt_put (f : F) (o : Opn) (a : Int) : cnt (putF f o a) = cnt f + (if put? f o a = true then 1 else 0) := by
  unfold putF
  by_cases h : put? f o a = true
  · rw [if_pos h, if_pos h]
    obtain ⟨h1, h2, h3⟩ := put_iff.1 h
    obtain ⟨b1, b2⟩ := mayop_bds h1
    exact cnt_upd b1 b2 (maya_ne h2) h3
  · rw [if_neg h, if_neg h, Nat.add_zero]
/-- What is told of o behind a Put. -/
theorem put_at (f : F) (o : Opn) (a : Int) : putF f o a o.book o.kind = if put? f o a = true then a else f o.book o.kind := by
  unfold putF
  split
  · exact upd_same
  · rfl

/-! ### the keys, in whatever order they come, sorted -/
def lkB (p q : Int × Int) : Bool := decide (lk p q)
theorem lkB_not {p q : Int × Int} : (!lkB q p) = true ↔ ¬ (q.1 < p.1 ∨ q.1 = p.1 ∧ q.2 < p.2) := by
  show (!decide (lk q p)) = true ↔ ¬ lk q p
  rw [Bool.not_eq_true', decide_eq_false_iff_not]
theorem sort_is {xs ys : List (Int × Int)} (hx : xs.Nodup) (hy : ys.Pairwise lk) (h : ∀ x, x ∈ xs ↔ x ∈ ys) : (xs.mergeSort fun x y => !lkB y x) = ys := by
  have tr : ∀ a b c : Int × Int, (!lkB b a) = true → (!lkB c b) = true → (!lkB c a) = true := fun a b c h1 h2 => by
    rw [lkB_not] at *
    omega
  have tot : ∀ a b : Int × Int, ((!lkB b a) || (!lkB a b)) = true := fun a b => by
    rw [Bool.or_eq_true, lkB_not, lkB_not]
    omega
  refine List.Perm.eq_of_pairwise (le := fun a b => (!lkB b a) = true) (fun a b _ _ h1 h2 => ?_) (List.pairwise_mergeSort tr tot xs) (hy.imp fun {a b} h => ?_) ((List.mergeSort_perm xs _).trans ((List.perm_ext_iff_of_nodup hx (lk_nodup hy)).2 h))
  · rw [lkB_not] at h1 h2
    exact Prod.ext (by omega) (by omega)
  · rw [lkB_not]
    unfold lk at h
    omega
/-- The keys gone over so far; left: those still to come. -/
structure Col (f : F) (left : Int × Int → Bool) (xs : List (Int × Int)) : Prop where
  nd : xs.Nodup
  mem : ∀ p : Int × Int, p ∈ xs ↔ p ∈ keys f ∧ left p = false
section
variable {f : F} {left left' : Int × Int → Bool} {xs : List (Int × Int)} {p : Int × Int}
theorem Col.start (h : ∀ p, left p = false → f p.1 p.2 = 0) : Col f left [] :=
  ⟨List.nodup_nil, fun ⟨_, _⟩ => ⟨fun hx => (nomatch hx), fun ⟨h1, h2⟩ => absurd (h _ h2) (mem_keys.1 h1).2.2⟩⟩
theorem Col.take (C : Col f left xs) (hx : left p = true) (h' : ∀ z, left' z = (left z && !decide (z = p))) (hp : p ∈ keys f) : Col f left' (xs ++ [p]) := by
  refine ⟨List.nodup_append.2 ⟨C.nd, by simp, fun a ha b hb => ?_⟩, fun z => ?_⟩
  · rw [List.mem_singleton] at hb
    subst hb
    rintro rfl
    have := ((C.mem a).1 ha).2
    rw [hx] at this
    cases this
  · rw [List.mem_append, List.mem_singleton, C.mem z, h' z]
    by_cases e : z = p
    · subst e
      simp [hp]
    · simp [e]
theorem Col.sort (C : Col f left xs) (h : ∀ k, left k = false) : (xs.mergeSort fun x y => !lkB y x) = keys f :=
  sort_is C.nd (walk_rise f 200) fun x => by rw [C.mem x]; simp [h, keys]
theorem Col.perm (C : Col f left xs) (h : ∀ k, left k = false) : xs.length = cnt f := ((List.perm_ext_iff_of_nodup C.nd (keys_nd f)).2 fun x => by rw [C.mem x]; simp [h]).length_eq
theorem Col.len (C : Col f left xs) : xs.length ≤ 1200 := by
  have hp : xs.Perm ((keys f).filter fun k => !left k) := (List.perm_ext_iff_of_nodup C.nd ((keys_nd f).sublist List.filter_sublist)).2 fun x => by
    rw [C.mem x, List.mem_filter, Bool.not_eq_true']
  rw [hp.length_eq]
  exact Nat.le_trans (List.length_filter_le _ _) (cnt_le f)
end
end Tb
end Go.Proofs.YtchlbkfkecpodaaGreat
