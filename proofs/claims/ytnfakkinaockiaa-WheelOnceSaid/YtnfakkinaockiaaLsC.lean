/- For WheelOnce: who has gone off; no program but the row. -/
import Derived.Test.YtnfakkinaockiaaLsA
namespace Go.Proofs.Ytnfakkinaockiaa
set_option maxRecDepth 100000
open Go.RowKit
open Go.Proofs.Ytnfakkinaockiaa.Pk (one_at one_free one_set lt_some grown_set grown_trans below_grown grown_refl)
namespace Wh

/-- Which of the first n are not in G. -/
def bof (n : Nat) (G : List Tm) : List Bool := (List.range n).map fun i : Nat => !(fnd (i : Int) G).isSome
theorem bof_len (n : Nat) (G : List Tm) : (bof n G).length = n := by simp [bof]
theorem bof_at {n i : Nat} (G : List Tm) (h : i < n) : (bof n G)[i]? = some (!(fnd (i : Int) G).isSome) := by simp [bof, h]
theorem fnd_rest {o : Tm} {r : List Tm} {j : Int} (nd : Nd (o :: r)) : fnd j r = if j = o.1 then none else fnd j (o :: r) := by
  split
  · rename_i e
    refine fnd_none.2 fun t ht e2 => ?_
    unfold Nd at nd
    rw [List.map_cons, List.nodup_cons] at nd
    exact nd.1 (List.mem_map.2 ⟨t, ht, e2.trans e⟩)
  · rename_i e
    unfold fnd
    rw [List.find?_cons_of_neg]
    simpa using fun h => e h.symm
theorem bof_step {n : Nat} {o : Tm} {r : List Tm} {k : Nat} (nd : Nd (o :: r)) (hk : o.1 = (k : Int)) (hn : k < n) : (bof n (o :: r)).set k true = bof n r := by
  apply List.ext_getElem?
  intro j
  rw [List.getElem?_set, bof_len]
  by_cases hj : j < n
  · rw [bof_at _ hj, bof_at _ hj]
    by_cases e : k = j
    · subst e
      rw [if_pos rfl, if_pos hn, fnd_rest nd, if_pos hk.symm]
      rfl
    · rw [if_neg e, fnd_rest nd, if_neg (by omega)]
  · rw [List.getElem?_eq_none (by rw [bof_len]; omega), if_neg (by omega), List.getElem?_eq_none (by rw [bof_len]; omega)]
theorem bof_in {n : Nat} {o : Tm} {r : List Tm} {k : Nat} (hk : o.1 = (k : Int)) (hn : k < n) : (bof n (o :: r))[k]? = some false := by
  have h1 : fnd (k : Int) (o :: r) = some o := by
    unfold fnd
    rw [List.find?_cons_of_pos]
    simp [hk]
  rw [bof_at _ hn, h1]
  rfl
def bls (bs : List Bool) : List Value := bs.map Value.bool
theorem bls_len (bs : List Bool) : (bls bs).length = bs.length := by simp [bls]
theorem bls_set (bs : List Bool) (k : Nat) (b : Bool) : (bls bs).set k (.bool b) = bls (bs.set k b) := by simp [bls, List.map_set]
theorem bls_at {bs : List Bool} {k : Nat} {b : Bool} (h : bs[k]? = some b) : (bls bs)[k]? = some (.bool b) := by simp [bls, h]
/-- All that there are: id i, due at tv i. -/
structure Due (n : Nat) (tv : Nat → Nat) (c : Int) (S : List Tm) : Prop where
  has : ∀ i, i < n → c < (tv i : Int) → ((i : Int), (tv i : Int)) ∈ S
  only : ∀ t ∈ S, ∃ i, i < n ∧ t = ((i : Int), (tv i : Int)) ∧ c < (tv i : Int)
theorem bof_all {n : Nat} {tv : Nat → Nat} {c : Int} {S : List Tm} (D : Due n tv c S) (hc : c < 0) : bof n S = List.replicate n false := by
  apply List.ext_getElem?
  intro j
  by_cases hj : j < n
  · rw [bof_at _ hj, List.getElem?_replicate, if_pos hj]
    have := D.has j hj (by omega)
    cases hf : fnd (j : Int) S with
    | none => exact absurd rfl (fnd_none.1 hf _ this)
    | some t => rfl
  · rw [List.getElem?_eq_none (by rw [bof_len]; omega), List.getElem?_eq_none (by simp; omega)]
theorem due_empty {n : Nat} {tv : Nat → Nat} {c : Int} {S : List Tm} (D : Due n tv c S) (hb : ∀ i, tv i ≤ 1000) (hc : 1000 ≤ c) : S = [] := by
  cases S with
  | nil => rfl
  | cons s r =>
    obtain ⟨i, _, _, h⟩ := D.only s (by simp)
    have := hb i
    omega
theorem due_left {n : Nat} {tv : Nat → Nat} {c m : Int} {S : List Tm} (D : Due n tv c S) (sr : Srt S) (hc : c ≤ m) : Due n tv m (left m S) :=
  ⟨fun i hi h => (left_mem sr).2 ⟨D.has i hi (by omega), h⟩, fun t ht => by
    obtain ⟨h1, h2⟩ := (left_mem sr).1 ht
    obtain ⟨i, hi, rfl, _⟩ := D.only t h1
    exact ⟨i, hi, rfl, h2⟩⟩
theorem due_set {n : Nat} {tv : Nat → Nat} {S : List Tm} (D : Due n tv (-1) S) : Due (n + 1) tv (-1) (sSet ((n : Int), (tv n : Int)) S) ∧ (sSet ((n : Int), (tv n : Int)) S).length = S.length + 1 := by
  have hne : ∀ t ∈ S, t.1 ≠ (n : Int) := fun t ht e => by
    obtain ⟨i, hi, rfl, _⟩ := D.only t ht
    simp only at e
    omega
  refine ⟨⟨fun i hi _ => ?_, fun t ht => ?_⟩, ?_⟩
  · by_cases e : i = n
    · subst e
      exact mem_sSet.2 (.inl rfl)
    · have := D.has i (by omega) (by omega)
      exact mem_sSet.2 (.inr ⟨this, hne _ this⟩)
  · rcases mem_sSet.1 ht with rfl | ⟨ht, _⟩
    · exact ⟨n, by omega, rfl, by omega⟩
    · obtain ⟨i, hi, e, h⟩ := D.only t ht
      exact ⟨i, by omega, e, h⟩
  · rw [(sSet_perm _ _).length_eq, List.length_cons, without_none hne]
theorem nd_suffix {a b : List Tm} (h : Nd (a ++ b)) : Nd b := by
  unfold Nd at *
  exact h.sublist ((List.sublist_append_right _ _).map _)
theorem srt_suffix {a b : List Tm} (h : Srt (a ++ b)) : Srt b := (List.pairwise_append.1 h).2.1
abbrev RowB (w : World) (base : Nat) (v : Value) (n : Nat) (xs : List Value) : Prop := w.ownsRow base 4 1 v n xs
theorem rb_same {w w' : World} {v : Value} {n base : Nat} {xs : List Value} (h : RowB w base v n xs) (hk : ∀ g, v.ownBlock = some g → w'.heap[g]? = w.heap[g]?) : RowB w' base v n xs := by
  refine ⟨h.1, ?_⟩
  rcases h.2 with h0 | ⟨g, cap, cur, hv, hb, hh, h2⟩
  · exact .inl h0
  · exact .inr ⟨g, cap, cur, hv, hb, (hk g (by rw [hv]; rfl)).trans hh, h2⟩
theorem rb_block {w : World} {v : Value} {n base g : Nat} {xs : List Value} (h : RowB w base v n xs) (hg : v.ownBlock = some g) : base ≤ g ∧ ∃ cur, w.heap[g]? = some (.cells cur 4 (0, 0)) := by
  rcases h.2 with ⟨rfl, _⟩ | ⟨g', cap, cur, rfl, hb, hh, _⟩
  · simp [Value.ownBlock] at hg
  · have : g' = g := by simpa [Value.ownBlock] using hg
    subst this
    exact ⟨hb, cur, hh⟩
theorem bool_info : (Try.prog.info? 4).map (fun i => (i.zero, i.size, i.bytes)) = some (some (.bool false), 1, 1) := by kernel_rfl
end Wh
end Go.Proofs.Ytnfakkinaockiaa
