/- Where a key stands among the keys. No program. -/
import Derived.Test.YtiplhdeomlmpkaaTbM
namespace Go.Proofs.Ytiplhdeomlmpkaa
set_option maxRecDepth 100000
namespace Tb

theorem row_more (f : F) (b : Int) {i n : Nat} (h : i ≤ n) : ∃ t, row f b n = row f b i ++ t := by
  induction n with
  | zero =>
    obtain rfl : i = 0 := by omega
    exact ⟨[], rfl⟩
  | succ n ih =>
    by_cases e : i = n + 1
    · subst e
      exact ⟨[], by simp⟩
    · obtain ⟨t, ht⟩ := ih (by omega)
      exact ⟨t ++ (if f b ((n : Int) + 1) = 0 then [] else [(b, (n : Int) + 1)]), by rw [← List.append_assoc, ← ht]; rfl⟩
theorem walk_more (f : F) {i n : Nat} (h : i ≤ n) : ∃ t, walk f n = walk f i ++ t := by
  induction n with
  | zero =>
    obtain rfl : i = 0 := by omega
    exact ⟨[], rfl⟩
  | succ n ih =>
    by_cases e : i = n + 1
    · subst e
      exact ⟨[], by simp⟩
    · obtain ⟨t, ht⟩ := ih (by omega)
      exact ⟨t ++ row f ((n : Int) + 1) 6, by rw [← List.append_assoc, ← ht]; rfl⟩
/-- How many keys stand ahead of kind i + 1 of booking m + 1. -/
def pos (f : F) (m i : Nat) : Nat := (walk f m).length + (row f ((m : Int) + 1) i).length
theorem pos_zero (f : F) (m : Nat) : pos f m 0 = (walk f m).length := rfl
theorem pos_skip {f : F} {m i : Nat} (h : f ((m : Int) + 1) ((i : Int) + 1) = 0) : pos f m (i + 1) = pos f m i := by
  unfold pos
  show _ + (row f ((m : Int) + 1) i ++ _).length = _
  rw [if_pos h, List.append_nil]
theorem pos_step {f : F} {m i : Nat} (h : f ((m : Int) + 1) ((i : Int) + 1) ≠ 0) : pos f m (i + 1) = pos f m i + 1 := by
  unfold pos
  show _ + (row f ((m : Int) + 1) i ++ _).length = _
  rw [if_neg h, List.length_append]
  rfl
theorem pos_end (f : F) (m : Nat) : (walk f (m + 1)).length = pos f m 6 := by
  show (walk f m ++ row f ((m : Int) + 1) 6).length = _
  rw [List.length_append]
  rfl
theorem key_at {f : F} {m i : Nat} (hm : m < 200) (hi : i < 6) (h : f ((m : Int) + 1) ((i : Int) + 1) ≠ 0) : (keys f)[pos f m i]? = some ((m : Int) + 1, (i : Int) + 1) := by
  obtain ⟨t1, h1⟩ := walk_more f (i := m + 1) (n := 200) (by omega)
  obtain ⟨t2, h2⟩ := row_more f ((m : Int) + 1) (i := i + 1) (n := 6) (by omega)
  have e : walk f (m + 1) = walk f m ++ row f ((m : Int) + 1) 6 := rfl
  have e2 : row f ((m : Int) + 1) (i + 1) = row f ((m : Int) + 1) i ++ [((m : Int) + 1, (i : Int) + 1)] := by
    show row f ((m : Int) + 1) i ++ _ = _
    rw [if_neg h]
  show (walk f 200)[_]? = _
  rw [h1, e, h2, e2]
  unfold pos
  simp
theorem pos_lt {f : F} {m i : Nat} (hm : m < 200) (hi : i < 6) (h : f ((m : Int) + 1) ((i : Int) + 1) ≠ 0) : pos f m i < (keys f).length := (List.getElem?_eq_some_iff.1 (key_at hm hi h)).1
end Tb
end Go.Proofs.Ytiplhdeomlmpkaa
