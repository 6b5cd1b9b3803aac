/- The document's own disk in memory; places in a rising list. -/
import Derived.Test.YtpkjeplhdnbihaaDkQ
namespace Go.Proofs.Ytpkjeplhdnbihaa
open Go.RowKit
open Go.WideAt (bytes_total)
open Go.WideShapes (bytes_trans)
open Go.Proofs.Ytpkjeplhdnbihaa.Pk
namespace Dk

/-! ### places -/
def pos {α : Type} (n : Bs) : List (Bs × α) → Nat
  | [] => 0
  | p :: r => if bytesBefore p.1 n = true then pos n r + 1 else 0
section
variable {α : Type} {n : Bs}
theorem pos_le : ∀ (L : List (Bs × α)), pos n L ≤ L.length
  | [] => Nat.le_refl _
  | p :: r => by
    unfold pos
    split
    · have := pos_le r
      simp
      omega
    · exact Nat.zero_le _
theorem pos_before : ∀ {L : List (Bs × α)} {i : Nat} {p : Bs × α}, i < pos n L → L[i]? = some p → bytesBefore p.1 n = true
  | q :: r, i, p, h, e => by
    unfold pos at h
    split at h
    · rename_i hb
      cases i with
      | zero => simp at e; rw [← e]; exact hb
      | succ i => exact pos_before (L := r) (i := i) (by omega) (by simpa using e)
    · omega
theorem pos_not : ∀ {L : List (Bs × α)} {p : Bs × α}, L[pos n L]? = some p → bytesBefore p.1 n = false
  | [], p, e => by simp at e
  | q :: r, p, e => by
    unfold pos at e
    split at e
    · exact pos_not (by simpa using e)
    · rename_i hb
      simp at e
      rw [← e]
      simpa using hb
theorem pos_found : ∀ {L : List (Bs × α)} {a : α}, Rise L → look n L = some a → L[pos n L]? = some (n, a)
  | q :: r, a, h, e => by
    obtain ⟨h1, h2⟩ := List.pairwise_cons.1 h
    unfold look at e
    unfold pos
    split at e
    · rename_i hq
      injection e with e
      rw [if_neg (by rw [hq, Go.WideAt.bytes_irrefl]; simp)]
      simp only [List.getElem?_cons_zero, ← hq, ← e]
    · have := look_mem e
      rw [if_pos (h1 _ this)]
      simpa using pos_found h2 e
theorem pos_none {L : List (Bs × α)} {p : Bs × α} (h : look n L = none) (e : L[pos n L]? = some p) : p.1 ≠ n :=
  look_none.1 h p (List.mem_of_getElem? e)
theorem put_some_ : ∀ {L : List (Bs × α)} {a b : α}, Rise L → look n L = some a → put n b L = L.set (pos n L) (n, b)
  | q :: r, a, b, h, e => by
    obtain ⟨h1, h2⟩ := List.pairwise_cons.1 h
    unfold look at e
    unfold pos put
    split at e
    · rename_i hq
      rw [if_pos hq, if_neg (by rw [hq, Go.WideAt.bytes_irrefl]; simp)]
      rfl
    · rename_i hq
      have hb := h1 _ (look_mem e)
      rw [if_neg hq, if_pos hb, if_neg (by rw [bb_asym hb]; simp), put_some_ h2 e]
      rfl
theorem put_none_ : ∀ {L : List (Bs × α)} {b : α}, Rise L → look n L = none → put n b L = L.take (pos n L) ++ (n, b) :: L.drop (pos n L)
  | [], b, _, _ => rfl
  | q :: r, b, h, e => by
    obtain ⟨h1, h2⟩ := List.pairwise_cons.1 h
    unfold look at e
    unfold pos put
    split at e
    · cases e
    · rename_i hq
      rw [if_neg hq]
      by_cases hb : bytesBefore q.1 n = true
      · rw [if_pos hb, if_neg (by rw [bb_asym hb]; simp), put_none_ h2 e]
        rfl
      · rw [if_neg hb]
        rcases bytes_total _ _ hq with h' | h'
        · exact absurd h' hb
        · rw [if_pos h']
          rfl
theorem del_some_ : ∀ {L : List (Bs × α)} {a : α}, Rise L → look n L = some a → del n L = L.take (pos n L) ++ L.drop (pos n L + 1)
  | q :: r, a, h, e => by
    obtain ⟨h1, h2⟩ := List.pairwise_cons.1 h
    unfold look at e
    unfold pos
    split at e
    · rename_i hq
      rw [if_neg (by rw [hq, Go.WideAt.bytes_irrefl]; simp)]
      have e1 : del n (q :: r) = del n r := by simp [del, hq]
      have e2 : del n r = r := by
        unfold del
        rw [List.filter_eq_self]
        intro p hp
        have := bb_ne (h1 p hp)
        rw [hq] at this
        simp [this.symm]
      rw [e1, e2]
      rfl
    · rename_i hq
      have hb := h1 _ (look_mem e)
      rw [if_pos hb]
      have e1 : del n (q :: r) = q :: del n r := by simp [del, hq]
      rw [e1, del_some_ h2 e]
      rfl
theorem del_none_ {L : List (Bs × α)} (e : look n L = none) : del n L = L := by
  unfold del
  rw [List.filter_eq_self]
  intro p hp
  simp [look_none.1 e p hp]
end

/-! ### the document's disk -/
def ent (p : Bs × Bs × Nat) : List Value := [.string (str p.1), .string (str p.2.1), .int .i64 (p.2.2 : Nat)]
def flat (L : St) : List Value := L.flatMap ent
theorem flat_len (L : St) : (flat L).length = L.length * 3 := by
  induction L with
  | nil => rfl
  | cons q r ih => simp only [flat, List.flatMap_cons, List.length_append, ent, List.length_cons, List.length_nil] at ih ⊢; omega
theorem flat_app (X Y : St) : flat (X ++ Y) = flat X ++ flat Y := by simp [flat]
theorem flat_at : ∀ {L : St} {i j : Nat} {p : Bs × Bs × Nat} {u : Value}, L[i]? = some p → (ent p)[j]? = some u → j < 3 → (flat L)[i * 3 + j]? = some u
  | q :: r, 0, j, p, u, h, hu, hj => by
    simp at h
    subst h
    have e : flat (q :: r) = ent q ++ flat r := rfl
    rw [e, Nat.zero_mul, Nat.zero_add, List.getElem?_append_left (by simp [ent]; omega)]
    exact hu
  | q :: r, i + 1, j, p, u, h, hu, hj => by
    have e : flat (q :: r) = ent q ++ flat r := rfl
    have h' : r[i]? = some p := by simpa using h
    rw [e, List.getElem?_append_right (by simp [ent]; omega)]
    have e2 : (i + 1) * 3 + j - (ent q).length = i * 3 + j := by simp [ent]; omega
    rw [e2]
    exact flat_at h' hu hj
structure Rf (w : World) (q room : Nat) (L : St) (v : Value) : Prop where
  cells : w.heap[q]? = some (.cells #[.int .i64 room, v] 30 (0, 0))
  row : w.ownsRow 0 65 3 v L.length (flat L)

section
variable {w w' : World} {q room : Nat} {L : St} {v : Value}
theorem row_form {e : TypeId} {n base : Nat} {xs : List Value} (h : w.ownsRow base e 3 v n xs) : ∃ A c, v = .slice A n c ∧ n ≤ c ∧ c ≤ 9223372036854775807 ∧ (A = none → c = 0) := by
  rcases h.2 with ⟨rfl, rfl⟩ | ⟨g, cap, cur, rfl, hb, hh, h1, h2, _⟩
  · exact ⟨_, _, rfl, Nat.le_refl _, by omega, fun _ => rfl⟩
  · unfold maxLen at h2
    exact ⟨_, _, rfl, h1, h2, fun h => by cases h⟩
theorem row_block {e : TypeId} {n base g : Nat} {xs : List Value} (h : w.ownsRow base e 3 v n xs) (hg : v.ownBlock = some g) : base ≤ g ∧ ∃ cur, w.heap[g]? = some (.cells cur e (0, 0)) := by
  rcases h.2 with ⟨rfl, _⟩ | ⟨g', cap, cur, rfl, hb, hh, _⟩
  · simp [Value.ownBlock] at hg
  · have : g' = g := by simpa [Value.ownBlock] using hg
    subst this
    exact ⟨hb, cur, hh⟩
theorem row_same {e : TypeId} {n base : Nat} {xs : List Value} (h : w.ownsRow base e 3 v n xs) (hk : ∀ g, v.ownBlock = some g → w'.heap[g]? = w.heap[g]?) : w'.ownsRow base e 3 v n xs := by
  refine ⟨h.1, ?_⟩
  rcases h.2 with h0 | ⟨g, cap, cur, hv, hb, hh, h2⟩
  · exact .inl h0
  · exact .inr ⟨g, cap, cur, hv, hb, (hk g (by rw [hv]; rfl)).trans hh, h2⟩
theorem Rf.keep (h : Rf w q room L v) (hk : ∀ g, g = q ∨ v.ownBlock = some g → w'.heap[g]? = w.heap[g]?) : Rf w' q room L v :=
  ⟨(hk q (.inl rfl)).trans h.cells, row_same h.row fun g hg => hk g (.inr hg)⟩
theorem Rf.lt (h : Rf w q room L v) : ∀ g, g = q ∨ v.ownBlock = some g → g < w.heap.size := by
  rintro g (rfl | hg)
  · exact lt_some h.cells
  · exact lt_some (row_block h.row hg).2.choose_spec
theorem Rf.below (h : Rf w q room L v) (hb : Below w.heap.size w w') : Rf w' q room L v := h.keep fun g hg => hb.block g (h.lt g hg)
theorem Rf.apart (h : Rf w q room L v) : v.ownBlock ≠ some q := fun e => by
  obtain ⟨_, cur, hc⟩ := row_block h.row e
  have := h.cells
  rw [hc] at this
  injection this with this
  injection this with _ e
  exact absurd e (by decide)
/-- A file's cells. -/
theorem Rf.file (h : Rf w q room L v) {i : Nat} {p : Bs × Bs × Nat} (hp : L[i]? = some p) : ∃ g c, v = .slice (some ⟨g, 0, none⟩) L.length c ∧ L.length ≤ c ∧ c ≤ 9223372036854775807 ∧ w.cell? ⟨g, i * 3, none⟩ = some (.string (str p.1)) ∧ w.cell? ⟨g, i * 3 + 1, none⟩ = some (.string (str p.2.1)) ∧ w.cell? ⟨g, i * 3 + 2, none⟩ = some (.int .i64 (p.2.2 : Nat)) ∧
    (∀ k, w.frozen? ⟨g, k, none⟩ = false) := by
  have hi : i < L.length := (List.getElem?_eq_some_iff.1 hp).1
  rcases h.row.2 with ⟨_, h0⟩ | ⟨g, cap, cur, rfl, hb, hh, h1, h2, h3, h4⟩
  · omega
  · unfold maxLen at h2
    refine ⟨g, cap, rfl, h1, h2, ?_, ?_, ?_, fun k => one_free hh⟩
    · have := h.row.cells (g := g) rfl (i * 3 + 0) _ (flat_at hp (show (ent p)[0]? = _ from rfl) (by omega))
      simpa [Addr.add_lit] using this
    · have := h.row.cells (g := g) rfl (i * 3 + 1) _ (flat_at hp (show (ent p)[1]? = _ from rfl) (by omega))
      simpa [Addr.add_lit] using this
    · have := h.row.cells (g := g) rfl (i * 3 + 2) _ (flat_at hp (show (ent p)[2]? = _ from rfl) (by omega))
      simpa [Addr.add_lit] using this
end
end Dk
end Go.Proofs.Ytpkjeplhdnbihaa
