/- Messages as plain lists, and their cells. -/
import Derived.Test.YtenlblembdnniaaPkW
import Derived.Laws.IdiomStrings
import Derived.Laws.BytesArg
import Derived.Maps.OwnSet
import Derived.Lib.Hide
import Derived.Laws.OwnMore
import Derived.WalkSmall
namespace Go.Proofs.Ytenlblembdnniaa
set_option maxRecDepth 100000
open Go.RowKit
open Go.Proofs.Ytenlblembdnniaa.Pk (Rb adr_block one_at one_free one_set lt_some grown_set grown_trans below_grown grown_refl)
namespace Nt

/-- A message: from, to, text. -/
structure Ms where
  fr : Int
  to_ : Int
  tx : List UInt8
def str (bs : List UInt8) : ByteArray := ⟨bs.toArray⟩
theorem str_run {w : World} {T : Nat → Prop} {A : Option Addr} {n c : Nat} {bs : List UInt8} (h : Rb w T A n bs) : (convert 32 9 (.slice A n c)).run Try.prog w = .ok (.string (str bs)) w := by
  obtain rfl := h.len
  cases A with
  | none =>
    rcases bs with _ | ⟨x, t⟩
    · exact run_convert_bytes_nil w 32 5 Try.underlying32 Try.underlying5 _ _ _ Try.underlying9
    · obtain ⟨ad, e, _⟩ := h.at_ (by simp)
      cases e
  | some a =>
    refine run_convert_bytes_back w 32 9 5 a c bs Try.underlying32 Try.underlying5 Try.underlying9 fun j hj => ?_
    obtain ⟨ad, e, _, hc⟩ := h.at_ (by omega)
    injection e with e
    subst e
    exact hc j _ (List.getElem?_eq_getElem hj)
theorem str_nil (w : World) : (convert 32 9 (.slice none 0 0)).run Try.prog w = .ok (.string (str [])) w := str_run (T := fun _ => True) Rb.none_
theorem str_size (ys : List UInt8) : (str ys).size = ys.length := by simp [str, ByteArray.size]
theorem str_inj {a b : List UInt8} (h : str a = str b) : a = b := by
  unfold str at h
  injection h with h
  simpa using h
/-- The cells of a message. -/
def em (m : Ms) : List Value := [.int .i64 m.fr, .int .i64 m.to_, .string (str m.tx)]
/-- A message as a value. -/
def am (m : Ms) : Value := .agg #[.int .i64 m.fr, .int .i64 m.to_, .string (str m.tx)]
def m0 : Ms := ⟨0, 0, []⟩
def fm (l : List Ms) : List Value := l.flatMap em
def mt (l : List Ms) (i : Nat) : Ms := (l[i]?).getD m0
theorem mt_eq {l : List Ms} {i : Nat} (h : i < l.length) : mt l i = l[i] := by simp [mt, h]
theorem fm_cons (q : Ms) (r : List Ms) : fm (q :: r) = .int .i64 q.fr :: .int .i64 q.to_ :: .string (str q.tx) :: fm r := rfl
theorem fm_len (l : List Ms) : (fm l).length = l.length * 3 := by
  induction l with
  | nil => rfl
  | cons q r ih => rw [fm_cons]; simp only [List.length_cons, ih]; omega
theorem fm_app (X Y : List Ms) : fm (X ++ Y) = fm X ++ fm Y := by simp [fm]
theorem fm_at : ∀ {l : List Ms} {i : Nat}, i < l.length → (fm l)[i * 3]? = some (.int .i64 (mt l i).fr) ∧ (fm l)[i * 3 + 1]? = some (.int .i64 (mt l i).to_) ∧ (fm l)[i * 3 + 2]? = some (.string (str (mt l i).tx))
  | q :: r, 0, _ => ⟨rfl, rfl, rfl⟩
  | q :: r, i + 1, h => by
    have := fm_at (l := r) (i := i) (by simpa using h)
    have e1 : (i + 1) * 3 = i * 3 + 1 + 1 + 1 := by omega
    have e2 : mt (q :: r) (i + 1) = mt r i := by simp [mt]
    rw [fm_cons, e2, e1]
    simpa using this
theorem fm_one (l : List Ms) : ∀ u ∈ fm l, u.oneCell' = true := by
  intro u hu
  obtain ⟨p, _, hp⟩ := List.mem_flatMap.1 hu
  simp only [em, List.mem_cons, List.not_mem_nil, or_false] at hp
  rcases hp with rfl | rfl | rfl <;> rfl
theorem fm_drop (M : List Ms) (k : Nat) : fm (M.drop k) = (fm M).drop (k * 3) := by
  rcases Nat.le_total k M.length with h | h
  · have e1 : fm M = fm (M.take k) ++ fm (M.drop k) := by rw [← fm_app, List.take_append_drop]
    rw [e1, List.drop_left' (by rw [fm_len, List.length_take]; congr 1; omega)]
  · rw [List.drop_of_length_le h, List.drop_of_length_le (by rw [fm_len]; omega)]
    rfl
theorem fm_split (M : List Ms) (k : Nat) : fm M = fm (M.take k) ++ fm (M.drop k) := by rw [← fm_app, List.take_append_drop]
/-- The list without the message at a place. -/
def del (l : List Ms) (k : Nat) : List Ms := l.take k ++ l.drop (k + 1)
theorem del_len {l : List Ms} {k : Nat} (h : k < l.length) : (del l k).length + 1 = l.length := by
  unfold del
  rw [List.length_append, List.length_take, List.length_drop]
  omega

/-- A row of messages that nobody else has. The element's type is named: the program's, or the document's. -/
abbrev RowE (w : World) (base : Nat) (e : TypeId) (v : Value) (n : Nat) (l : List Ms) : Prop := w.ownsRow base e 3 v n (fm l)
section
variable {w w' : World} {v : Value} {n base : Nat} {l : List Ms} {e : TypeId}
theorem re_form (h : RowE w base e v n l) : ∃ A c, v = .slice A n c ∧ n ≤ c ∧ c ≤ 9223372036854775807 ∧ (A = none → c = 0) := by
  rcases h.2 with ⟨rfl, rfl⟩ | ⟨g, cap, cur, rfl, hb, hh, h1, h2, _⟩
  · exact ⟨_, _, rfl, Nat.le_refl _, by omega, fun _ => rfl⟩
  · unfold maxLen at h2
    exact ⟨_, _, rfl, h1, h2, fun h => by cases h⟩
theorem re_some (h : RowE w base e v n l) (hn : 0 < n) : ∃ g c, v = .slice (some ⟨g, 0, none⟩) n c ∧ n ≤ c ∧ c ≤ 9223372036854775807 := by
  rcases h.2 with ⟨rfl, rfl⟩ | ⟨g, cap, cur, rfl, hb, hh, h1, h2, _⟩
  · omega
  · unfold maxLen at h2
    exact ⟨_, _, rfl, h1, h2⟩
theorem re_block {g : Nat} (h : RowE w base e v n l) (hg : v.ownBlock = some g) : base ≤ g ∧ ∃ cur, w.heap[g]? = some (.cells cur e (0, 0)) := by
  rcases h.2 with ⟨rfl, _⟩ | ⟨g', cap, cur, rfl, hb, hh, _⟩
  · simp [Value.ownBlock] at hg
  · have : g' = g := by simpa [Value.ownBlock] using hg
    subst this
    exact ⟨hb, cur, hh⟩
theorem re_same (h : RowE w base e v n l) (hk : ∀ g, v.ownBlock = some g → w'.heap[g]? = w.heap[g]?) : RowE w' base e v n l := by
  refine ⟨h.1, ?_⟩
  rcases h.2 with h0 | ⟨g, cap, cur, hv, hb, hh, h2⟩
  · exact .inl h0
  · exact .inr ⟨g, cap, cur, hv, hb, (hk g (by rw [hv]; rfl)).trans hh, h2⟩
theorem re_mono {base' : Nat} (h : RowE w base e v n l) (hb : base' ≤ base) : RowE w base' e v n l := by
  refine ⟨h.1, ?_⟩
  rcases h.2 with h0 | ⟨g, cap, cur, hv, hg, hh, h2⟩
  · exact .inl h0
  · exact .inr ⟨g, cap, cur, hv, Nat.le_trans hb hg, hh, h2⟩
theorem re_len (h : RowE w base e v n l) : l.length = n := by
  have := h.1
  rw [fm_len] at this
  omega
theorem re_cell {g c i : Nat} (h : RowE w base e (.slice (some ⟨g, 0, none⟩) n c) n l) (hi : i < n) : w.cell? ⟨g, i * 3, none⟩ = some (.int .i64 (mt l i).fr) ∧ w.cell? ⟨g, i * 3 + 1, none⟩ = some (.int .i64 (mt l i).to_) ∧ w.cell? ⟨g, i * 3 + 2, none⟩ = some (.string (str (mt l i).tx)) := by
  have hl := re_len h
  have := fm_at (l := l) (i := i) (by omega)
  exact ⟨(h.cellAt _ (by omega)).trans this.1, (h.cellAt _ (by omega)).trans this.2.1, (h.cellAt _ (by omega)).trans this.2.2⟩
end
end Nt
end Go.Proofs.Ytenlblembdnniaa
