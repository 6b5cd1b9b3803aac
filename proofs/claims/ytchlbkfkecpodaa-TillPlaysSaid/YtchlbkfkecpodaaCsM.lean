/- Numbers of 64 bits: plain arithmetic, no program. -/
import GoSem.Claim
import Derived.RowKit
namespace Go.Proofs.Ytchlbkfkecpodaa
namespace Cs

def M : Int := 18446744073709551616
/-- A number of int64. -/
def I (x : Int) : Prop := -9223372036854775808 ≤ x ∧ x ≤ 9223372036854775807
instance (x : Int) : Decidable (I x) := by unfold I; infer_instance
/-- A number of uint64. -/
def U (x : Int) : Prop := 0 ≤ x ∧ x < 18446744073709551616
/-- The upper half of v in 128 bits. -/
def sgu (v : Int) : Int := if v < 0 then 18446744073709551615 else 0
/-- As uint64, as int64. -/
def u64 (v : Int) : Int := v % 18446744073709551616
def s64 (v : Int) : Int := (v + 9223372036854775808) % 18446744073709551616 - 9223372036854775808
/-- What an operation answers whose exact result is x. -/
def okv (x : Int) : Int := if I x then x else 0
def oke (x : Int) : Int := if I x then 0 else 3
theorem okv_in {x : Int} (h : I x) : okv x = x := if_pos h
theorem oke_in {x : Int} (h : I x) : oke x = 0 := if_pos h
theorem okv_out {x : Int} (h : ¬ I x) : okv x = 0 := if_neg h
theorem oke_out {x : Int} (h : ¬ I x) : oke x = 3 := if_neg h
theorem okv_I (x : Int) : I (okv x) := by
  unfold okv; split
  · assumption
  · unfold I; omega
theorem oke_two (x : Int) : oke x = 0 ∨ oke x = 3 := by unfold oke; split <;> simp

theorem sgu_U (v : Int) : U (sgu v) := by unfold sgu U; split <;> omega
theorem u64_U (v : Int) : U (u64 v) := by unfold u64 U; omega
theorem s64_I (v : Int) : I (s64 v) := by unfold s64 I; omega

/-- A number of 128 bits: its halves say whether it is one of int64. -/
theorem halves (x h l : Int) (hx : -85070591730234615865843651857942052864 ≤ x ∧ x ≤ 85070591730234615865843651857942052864) (hh : h = (x / 18446744073709551616) % 18446744073709551616) (hl : l = x % 18446744073709551616) :
    (h = sgu (s64 l) ↔ I x) ∧ (I x → s64 l = x) := by
  subst hh; subst hl
  unfold sgu s64 I
  constructor
  · split <;> constructor <;> intro h <;> omega
  · intro h; omega

theorem add_parts (a b : Int) (ha : I a) (hb : I b) :
    let low := (u64 a + u64 b) % 18446744073709551616
    let c := (u64 a + u64 b) / 18446744073709551616
    (sgu a + sgu b + c) % 18446744073709551616 = ((a + b) / 18446744073709551616) % 18446744073709551616 ∧ low = (a + b) % 18446744073709551616 ∧ 0 ≤ c ∧ c ≤ 1 := by
  unfold I at ha hb
  unfold u64 sgu
  simp only
  split <;> split <;> omega
/-- The borrow. -/
def bor (x y : Int) : Int := if x < y then 1 else 0
theorem bor_two (x y : Int) : 0 ≤ bor x y ∧ bor x y ≤ 1 := by unfold bor; split <;> omega
theorem sub_parts (a b : Int) (ha : I a) (hb : I b) :
    (sgu a - sgu b - bor (u64 a) (u64 b)) % 18446744073709551616 = ((a - b) / 18446744073709551616) % 18446744073709551616 ∧ (u64 a - u64 b) % 18446744073709551616 = (a - b) % 18446744073709551616 := by
  unfold I at ha hb
  unfold bor u64 sgu
  split <;> split <;> split <;> omega

theorem mul_bound (a b : Int) (ha : I a) (hb : I b) : -85070591730234615865843651857942052864 ≤ a * b ∧ a * b ≤ 85070591730234615865843651857942052864 := by
  unfold I at ha hb
  have h : (a * b).natAbs ≤ 9223372036854775808 * 9223372036854775808 := by
    rw [Int.natAbs_mul]; exact Nat.mul_le_mul (by omega) (by omega)
  omega
/-- Which of the two is taken from the upper half. -/
def sel (a b : Int) : Int := if a < 0 then u64 b else 0
theorem sel_U (a b : Int) : U (sel a b) := by
  unfold sel; split
  · exact u64_U b
  · unfold U; omega
theorem mul_parts (a b : Int) (ha : I a) (hb : I b) :
    (u64 a * u64 b / 18446744073709551616 - sel a b - sel b a) % 18446744073709551616 = ((a * b) / 18446744073709551616) % 18446744073709551616 ∧ (u64 a * u64 b) % 18446744073709551616 = (a * b) % 18446744073709551616 := by
  unfold I at ha hb
  have ea : u64 a = a + (if a < 0 then 18446744073709551616 else 0) := by unfold u64; split <;> omega
  have eb : u64 b = b + (if b < 0 then 18446744073709551616 else 0) := by unfold u64; split <;> omega
  unfold sel
  rw [ea, eb]
  clear ea eb
  by_cases h1 : a < 0 <;> by_cases h2 : b < 0 <;> simp only [h1, h2, if_true, if_false, Int.add_zero]
  · rw [Int.add_mul, Int.mul_add, Int.mul_add]
    generalize a * b = P
    omega
  · rw [Int.add_mul]
    generalize a * b = P
    omega
  · rw [Int.mul_add]
    generalize a * b = P
    omega
  · generalize a * b = P
    refine ⟨?_, trivial⟩
    omega

theorem natAbs_q (c b : Int) : (c.tdiv b).natAbs = c.natAbs / b.natAbs := Int.natAbs_tdiv c b
/-- A quotient that gives the other factor back. -/
theorem ref_mul (a b : Int) (ha : I a) (hb : I b) (hb0 : b ≠ 0) (h1 : ¬ (a = -1 ∧ b = -9223372036854775808)) (h2 : ¬ (b = -1 ∧ a = -9223372036854775808)) :
    (s64 ((s64 (a * b)).tdiv b) = a ↔ I (a * b)) := by
  have hP := mul_bound a b ha hb
  obtain ⟨P, hPe⟩ : ∃ P, P = a * b := ⟨_, rfl⟩
  rw [← hPe] at hP ⊢
  constructor
  · intro h
    obtain ⟨c, hc⟩ : ∃ c, c = s64 P := ⟨_, rfl⟩
    have hcI : I c := hc ▸ s64_I P
    rw [← hc] at h
    have hm := Int.tmod_add_mul_tdiv c b
    have hr : (c.tmod b).natAbs < b.natAbs := by rw [Int.natAbs_tmod]; exact Nat.mod_lt _ (by omega)
    obtain ⟨q, hq⟩ : ∃ q, q = c.tdiv b := ⟨_, rfl⟩
    rw [← hq] at h hm
    obtain ⟨r, hre⟩ : ∃ r, r = c.tmod b := ⟨_, rfl⟩
    rw [← hre] at hm hr
    have hqb : q.natAbs ≤ 9223372036854775808 := by
      rw [hq, natAbs_q]; exact Nat.le_trans (Nat.div_le_self _ _) (by unfold I at hcI; omega)
    unfold I at hcI ha hb
    by_cases hq1 : q = 9223372036854775808
    · exfalso
      have haq : a = -9223372036854775808 := by rw [← h, hq1]; decide
      have hb1 : b = -1 := by
        have hqn : c.natAbs / b.natAbs = 9223372036854775808 := by rw [← natAbs_q, ← hq, hq1]; rfl
        have hcb : 9223372036854775808 * b.natAbs ≤ c.natAbs := by rw [← hqn]; exact Nat.div_mul_le_self _ _
        have hbn : b.natAbs = 1 := by omega
        rcases Int.natAbs_eq b with e | e <;> rw [hbn] at e
        · rw [e] at hq; simp at hq; omega
        · exact e
      exact h2 ⟨hb1, haq⟩
    · have hqa : q = a := by rw [← h]; unfold s64; omega
      rw [hqa] at hm
      rw [Int.mul_comm b a, ← hPe] at hm
      unfold s64 at hc
      unfold I
      omega
  · intro h
    have hs : s64 P = P := by unfold s64; unfold I at h; omega
    rw [hs, hPe, Int.mul_tdiv_cancel _ hb0]
    unfold s64; unfold I at ha; omega

/-- All of l, one by one; none, if one on the way is none of int64. -/
def addO (t : Option Int) (x : Int) : Option Int := t.bind fun t => if I (t + x) then some (t + x) else none
def totO (l : List Int) : Option Int := l.foldl addO (some 0)
theorem totO_snoc (l : List Int) (x : Int) : totO (l ++ [x]) = addO (totO l) x := by simp [totO]
theorem fold_none (l : List Int) : l.foldl addO none = none := by induction l with
  | nil => rfl
  | cons x l ih => simpa [addO] using ih
theorem totO_app_none {l : List Int} (h : totO l = none) (m : List Int) : totO (l ++ m) = none := by
  unfold totO at *
  rw [List.foldl_append, h, fold_none]
theorem totO_I {l : List Int} : ∀ {t : Int}, totO l = some t → I t := by
  rcases List.eq_nil_or_concat l with rfl | ⟨m, x, e⟩
  · intro t h; simp [totO] at h; subst h; unfold I; omega
  · subst e
    intro t h
    rw [List.concat_eq_append, totO_snoc] at h
    unfold addO at h
    cases hm : totO m with
    | none => rw [hm] at h; cases h
    | some s =>
      rw [hm] at h
      simp only [Option.bind_some] at h
      split at h
      · injection h with h; subst h; assumption
      · cases h
def totv (l : List Int) : Int := (totO l).getD 0
def tote (l : List Int) : Int := if (totO l).isSome then 0 else 3
theorem totv_of {l : List Int} {t : Int} (h : totO l = some t) : totv l = t := by unfold totv; rw [h]; rfl
theorem tote_of {l : List Int} {t : Int} (h : totO l = some t) : tote l = 0 := by unfold tote; rw [h]; rfl
theorem totv_none {l : List Int} (h : totO l = none) : totv l = 0 := by unfold totv; rw [h]; rfl
theorem tote_none {l : List Int} (h : totO l = none) : tote l = 3 := by unfold tote; rw [h]; rfl
theorem take_snoc {α : Type} {l : List α} {k : Nat} {x : α} (h : l[k]? = some x) : l.take (k + 1) = l.take k ++ [x] := by rw [List.take_add_one, h]; rfl
theorem tot_next {l : List Int} {k : Nat} {x t : Int} (h : l[k]? = some x) (ht : totO (l.take k) = some t) (hf : I (t + x)) : totO (l.take (k + 1)) = some (t + x) := by
  rw [take_snoc h, totO_snoc, ht]; exact if_pos hf
theorem tot_stop {l : List Int} {k : Nat} {x t : Int} (h : l[k]? = some x) (ht : totO (l.take k) = some t) (hf : ¬ I (t + x)) : totO l = none := by
  have e : totO (l.take (k + 1)) = none := by rw [take_snoc h, totO_snoc, ht]; exact if_neg hf
  rw [← List.take_append_drop (k + 1) l]; exact totO_app_none e _

theorem tot_same (a : Int) (k : Nat) : totO (List.replicate k a) = if I (k * a) then some (k * a) else none := by
  induction k with
  | zero => simp [totO, I]
  | succ k ih =>
    rw [List.replicate_succ', totO_snoc, ih]
    have e : ((k + 1 : Nat) : Int) * a = k * a + a := by rw [Int.natCast_add, Int.add_mul]; simp
    rw [e]
    by_cases h : I (k * a)
    · rw [if_pos h]; rfl
    · rw [if_neg h]
      have hs : (0 ≤ a ∧ 0 ≤ k * a) ∨ (a ≤ 0 ∧ k * a ≤ 0) := by
        rcases Int.le_total 0 a with h0 | h0
        · exact .inl ⟨h0, Int.mul_nonneg (by omega) h0⟩
        · exact .inr ⟨h0, Int.mul_nonpos_of_nonneg_of_nonpos (by omega) h0⟩
      have h3 : ¬ I (k * a + a) := by
        generalize (k : Int) * a = P at *
        unfold I at *
        omega
      rw [if_neg h3]; rfl
end Cs
end Go.Proofs.Ytchlbkfkecpodaa
