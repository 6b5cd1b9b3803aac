/- A saga among events: what stays true of it; no program. -/
import Derived.Test.YtakicogelkdofaaDoorSgN
import Derived.Test.YtakicogelkdofaaDoorSgC
namespace Go.Proofs.YtakicogelkdofaaDoor
open Go.RowKit
namespace Sn
open Go.Proofs.YtakicogelkdofaaDoor.Sg
open Wt (Wan may inR)
open Pl (Stp fwd bck cap z0)

/-- What is counted beside a saga is what it tells. -/
structure En (x : Wan) (s : Sag) (a b : Int) (r : Bool) : Prop where
  w : s.w = x
  si : s.si = 0
  may : smay s = true
  f1 : s.ph = 1 → a = s.st ∧ b = 0 ∧ r = false ∧ s.rs = 0
  f2 : s.ph = 2 ∨ s.ph = 4 → a = ((fwd x).length : Int) ∧ r = false ∧ s.rs = 0
  f3 : s.ph = 3 → b = s.st ∧ s.rs ≠ 0
  f5 : s.ph = 5 → b = ((bck x).length : Int) ∧ s.rs ≠ 0
/-- What may follow upon a saga. -/
structure Nx (s t : Sag) : Prop where
  w : t.w = s.w
  si : t.si = s.si
  over : s.ph = 4 ∨ s.ph = 5 → t = s
  com : s.ph = 2 → t.ph = 2 ∨ t.ph = 4
  bk : s.ph = 3 → t.rs = s.rs
theorem Nx.refl (s : Sag) : Nx s s := ⟨rfl, rfl, fun _ => rfl, fun h => .inl h, fun _ => rfl⟩

/-- The five ways in which it may stand. -/
inductive Sh (x : Wan) : Sag → Prop where
  | p1 (i : Nat) (hi : i < (fwd x).length) : Sh x ⟨x, 1, i, 0, 0⟩
  | p2 : Sh x ⟨x, 2, 0, 0, 0⟩
  | p3 (i : Nat) (r : Int) (hi : i < (bck x).length) (hr : why ⟨x, 3, i, r, 0⟩ = true) : Sh x ⟨x, 3, i, r, 0⟩
  | p4 : Sh x ⟨x, 4, 0, 0, 0⟩
  | p5 (r : Int) (hr : why ⟨x, 5, 0, r, 0⟩ = true) : Sh x ⟨x, 5, 0, r, 0⟩
theorem shape {x : Wan} {s : Sag} (hw : s.w = x) (hs : s.si = 0) (h : smay s = true) : Sh x s := by
  obtain ⟨y, ph, st, rs, si⟩ := s
  simp only at hw hs
  subst hw hs
  obtain ⟨-, -, hc⟩ := smay_true h
  simp only [nF, nB] at hc
  rcases hc with ⟨rfl, h0, h1, rfl⟩ | ⟨rfl, rfl, rfl⟩ | ⟨rfl, h0, h1, hr⟩ | ⟨rfl, rfl, rfl⟩ | ⟨rfl, rfl, hr⟩
  · obtain ⟨k, rfl⟩ : ∃ k : Nat, st = (k : Int) := ⟨st.toNat, by omega⟩
    exact .p1 k (by omega)
  · exact .p2
  · obtain ⟨k, rfl⟩ : ∃ k : Nat, st = (k : Int) := ⟨st.toNat, by omega⟩
    exact .p3 k rs (by omega) hr
  · exact .p4
  · exact .p5 rs hr
theorem why_ne {x : Wan} {p i r t : Int} (h : why ⟨x, p, i, r, t⟩ = true) : r ≠ 0 := by
  rintro rfl
  simp [why] at h
theorem why_st {x : Wan} {p i q j r t : Int} (h : why ⟨x, p, i, r, t⟩ = true) : why ⟨x, q, j, r, t⟩ = true := h
theorem book_fwd {x : Wan} {u : Stp} (h : u ∈ fwd x) : u.op.book = x.book := by
  have h1 := (List.mem_filter.1 h).1
  simp only [Pl.allF, List.mem_cons, List.not_mem_nil, or_false] at h1
  rcases h1 with h | h | h | h | h | h | h <;> (rw [h]; rfl)
theorem book_bck {x : Wan} {u : Stp} (h : u ∈ bck x) : u.op.book = x.book := by
  have h1 := (List.mem_filter.1 h).1
  simp only [Pl.allB, List.mem_cons, List.not_mem_nil, or_false] at h1
  rcases h1 with h | h | h | h <;> (rw [h]; rfl)
theorem in0 : inR 0 0 1099511627776 = true := by decide
section
variable {x : Wan} {s : Sag} {a b : Int} {r : Bool}
theorem en0 (hm : Wt.may x = true) : En x ⟨x, 1, 0, 0, 0⟩ 0 0 false :=
  ⟨rfl, rfl, may_1 hm in0 (i := 0) (fwd_pos hm), fun _ => ⟨rfl, rfl, rfl, rfl⟩, fun h => by simp at h, fun h => by simp at h, fun h => by simp at h⟩
theorem En.sh (h : En x s a b r) : Sh x s := shape h.w h.si h.may
theorem En.mx (h : En x s a b r) : Wt.may x = true := by rw [← h.w]; exact (smay_true h.may).1
theorem En.ok (h : En x s a b r) : (snext s).2 = !(sover s) := by
  have hm := h.mx
  rcases h.sh with ⟨i, hi⟩ | _ | ⟨i, q, hi, hr⟩ | _ | ⟨q, hr⟩
  · rw [next_1 hm in0 (List.getElem?_eq_getElem hi)]; simp [sover]
  · rw [next_2 hm in0]; simp [sover]
  · rw [next_3 hm in0 hr (List.getElem?_eq_getElem hi)]; simp [sover]
  · rw [next_4 hm in0]; simp [sover, may_4 hm in0]
  · rw [next_5 hm in0 hr]; simp [sover, may_5 hm in0 hr]
/-- Its step is done. -/
theorem done (h : En x s a b r) : (sans s (snext s).1 1).2 = (snext s).2 ∧ Nx s (sans s (snext s).1 1).1 ∧
    ((snext s).2 = false → (sans s (snext s).1 1).1 = s) ∧
    ((snext s).2 = true → (s.ph = 1 ∧ En x (sans s (snext s).1 1).1 (a + 1) b r) ∨ (s.ph = 2 ∧ En x (sans s (snext s).1 1).1 a b r) ∨ (s.ph = 3 ∧ En x (sans s (snext s).1 1).1 a (b + 1) r)) := by
  have hm := h.mx
  have g1 := h.f1
  have g2 := h.f2
  have g3 := h.f3
  rcases h.sh with ⟨i, hi⟩ | _ | ⟨i, q, hi, hr⟩ | _ | ⟨q, hr⟩
  · have hs := List.getElem?_eq_getElem hi
    obtain ⟨ga, gb, gr, -⟩ := g1 rfl
    rw [next_1 hm in0 hs]
    by_cases e : i + 1 = (fwd x).length
    · rw [done_1b hm in0 hs e]
      refine ⟨rfl, ⟨rfl, rfl, fun k => by simp at k, fun k => by simp at k, fun k => by simp at k⟩, fun k => by simp at k, fun _ => .inl ⟨rfl, rfl, rfl, may_2 hm in0, fun k => by simp at k, fun _ => ⟨by simp only at ga; omega, gr, rfl⟩, fun k => by simp at k, fun k => by simp at k⟩⟩
    · rw [done_1a hm in0 hs (by omega)]
      refine ⟨rfl, ⟨rfl, rfl, fun k => by simp at k, fun k => by simp at k, fun k => by simp at k⟩, fun k => by simp at k, fun _ => .inl ⟨rfl, rfl, rfl, may_1 hm in0 (by omega), fun _ => ⟨by simp only at ga ⊢; omega, gb, gr, rfl⟩, fun k => by simp at k, fun k => by simp at k, fun k => by simp at k⟩⟩
  · obtain ⟨ga, gr, -⟩ := g2 (.inl rfl)
    rw [next_2 hm in0, done_2 hm in0]
    refine ⟨rfl, ⟨rfl, rfl, fun k => by simp at k, fun _ => .inr rfl, fun k => by simp at k⟩, fun k => by simp at k, fun _ => .inr (.inl ⟨rfl, rfl, rfl, may_4 hm in0, fun k => by simp at k, fun _ => ⟨ga, gr, rfl⟩, fun k => by simp at k, fun k => by simp at k⟩)⟩
  · have hs := List.getElem?_eq_getElem hi
    obtain ⟨gb, gq⟩ := g3 rfl
    rw [next_3 hm in0 hr hs]
    by_cases e : i + 1 = (bck x).length
    · rw [done_3b hm in0 hr hs e]
      refine ⟨rfl, ⟨rfl, rfl, fun k => by simp at k, fun k => by simp at k, fun _ => rfl⟩, fun k => by simp at k, fun _ => .inr (.inr ⟨rfl, rfl, rfl, may_5 hm in0 hr, fun k => by simp at k, fun k => by simp at k, fun k => by simp at k, fun _ => ⟨by simp only at gb; omega, gq⟩⟩)⟩
    · rw [done_3a hm in0 hr hs (by omega)]
      refine ⟨rfl, ⟨rfl, rfl, fun k => by simp at k, fun k => by simp at k, fun _ => rfl⟩, fun k => by simp at k, fun _ => .inr (.inr ⟨rfl, rfl, rfl, may_3 hm in0 (by omega) hr, fun k => by simp at k, fun k => by simp at k, fun _ => ⟨by simp only at gb ⊢; omega, gq⟩, fun k => by simp at k⟩)⟩
  · rw [next_4 hm in0]
    have : sans ⟨x, 4, 0, 0, 0⟩ z0 1 = (⟨x, 4, 0, 0, 0⟩, false) := by unfold sans; rw [next_4 hm in0, if_neg (by simp)]
    rw [this]
    exact ⟨rfl, Nx.refl _, fun _ => rfl, fun k => by simp at k⟩
  · rw [next_5 hm in0 hr]
    have : sans ⟨x, 5, 0, q, 0⟩ z0 1 = (⟨x, 5, 0, q, 0⟩, false) := by unfold sans; rw [next_5 hm in0 hr, if_neg (by simp)]
    rw [this]
    exact ⟨rfl, Nx.refl _, fun _ => rfl, fun k => by simp at k⟩
theorem En.back {c : Int} (hm : Wt.may x = true) (hb : b = 0) (hc : why ⟨x, 3, 0, c, 0⟩ = true) : En x ⟨x, 3, 0, c, 0⟩ a b r :=
  ⟨rfl, rfl, may_3 hm in0 (i := 0) (bck_pos hm) hc, fun k => by simp at k, fun k => by simp at k, fun _ => ⟨hb, why_ne hc⟩, fun k => by simp at k⟩
theorem nx_back {i : Nat} {c : Int} : Nx ⟨x, 1, i, 0, 0⟩ ⟨x, 3, 0, c, 0⟩ := ⟨rfl, rfl, fun k => by simp at k, fun k => by simp at k, fun k => by simp at k⟩
/-- Its step is refused. -/
theorem refused (h : En x s a b r) : Nx s (sans s (snext s).1 2).1 ∧ ((s.ph = 1 ∧ r = false ∧ (sans s (snext s).1 2).2 = true ∧ En x (sans s (snext s).1 2).1 a b true) ∨ (s.ph ≠ 1 ∧ sans s (snext s).1 2 = (s, false))) := by
  have hm := h.mx
  have g1 := h.f1
  rcases h.sh with ⟨i, hi⟩ | _ | ⟨i, q, hi, hr⟩ | _ | ⟨q, hr⟩
  · have hs := List.getElem?_eq_getElem hi
    obtain ⟨ga, gb, gr, -⟩ := g1 rfl
    rw [next_1 hm in0 hs, no_1 hm in0 hs]
    refine ⟨nx_back, .inl ⟨rfl, gr, rfl, En.back hm gb (why_of ?_)⟩⟩
    split
    · exact .inr (.inl rfl)
    · exact .inl rfl
  · rw [next_2 hm in0, no_2 hm in0]
    exact ⟨Nx.refl _, .inr ⟨by simp, rfl⟩⟩
  · have hs := List.getElem?_eq_getElem hi
    rw [next_3 hm in0 hr hs, no_3 hm in0 hr hs]
    exact ⟨Nx.refl _, .inr ⟨by simp, rfl⟩⟩
  · have : sans ⟨x, 4, 0, 0, 0⟩ (snext ⟨x, 4, 0, 0, 0⟩).1 2 = (⟨x, 4, 0, 0, 0⟩, false) := by unfold sans; rw [next_4 hm in0, if_neg (by simp)]
    rw [this]
    exact ⟨Nx.refl _, .inr ⟨by simp, rfl⟩⟩
  · have : sans ⟨x, 5, 0, q, 0⟩ (snext ⟨x, 5, 0, q, 0⟩).1 2 = (⟨x, 5, 0, q, 0⟩, false) := by unfold sans; rw [next_5 hm in0 hr, if_neg (by simp)]
    rw [this]
    exact ⟨Nx.refl _, .inr ⟨by simp, rfl⟩⟩
/-- It is cancelled. -/
theorem cancelled (h : En x s a b r) : Nx s (scan s).1 ∧ En x (scan s).1 a b r ∧ (scan s).2 = (s.ph == 1) := by
  have hm := h.mx
  have g1 := h.f1
  by_cases hp : s.ph = 1
  · rcases h.sh with ⟨i, hi⟩ | _ | ⟨i, q, hi, hr⟩ | _ | ⟨q, hr⟩
    · obtain ⟨ga, gb, gr, -⟩ := g1 rfl
      rw [can_1 hm in0 hi]
      exact ⟨nx_back, En.back hm gb (why_of (.inr (.inr (.inl rfl)))), rfl⟩
    all_goals simp at hp
  · rw [can_no hp]
    exact ⟨Nx.refl _, h, (beq_eq_false_iff_ne.2 hp).symm⟩
/-- Time goes on. -/
theorem lated (h : En x s a b r) {t : Int} (_h0 : 0 ≤ t) (h1 : t ≤ 1099511627776) : (s.ph = 1 ∧ 0 < x.dead ∧ x.dead ≤ t ∧ (slate s t).2 = true ∧ Nx s (slate s t).1 ∧ En x (slate s t).1 a b r) ∨ (¬ (s.ph = 1 ∧ 0 < x.dead ∧ x.dead ≤ t) ∧ slate s t = (s, false)) := by
  have hm := h.mx
  have g1 := h.f1
  by_cases hc : s.ph = 1 ∧ 0 < x.dead ∧ x.dead ≤ t
  · rcases h.sh with ⟨i, hi⟩ | _ | ⟨i, q, hi, hr⟩ | _ | ⟨q, hr⟩
    · obtain ⟨ga, gb, gr, -⟩ := g1 rfl
      rw [late_1 hm in0 hi hc.2.1 h1 (by omega)]
      exact .inl ⟨rfl, hc.2.1, hc.2.2, rfl, nx_back, En.back hm gb (why_of (.inr (.inr (.inr ⟨rfl, hc.2.1⟩))))⟩
    all_goals simp at hc
  · refine .inr ⟨hc, ?_⟩
    unfold slate
    rw [if_neg]
    rintro ⟨-, k1, k2, -, k3⟩
    rw [h.w] at k2 k3
    rw [h.si] at k3
    exact hc ⟨k1, k2, by omega⟩
theorem book_in (hm : Wt.may x = true) : 1 ≤ x.book ∧ x.book ≤ 200 := by
  simp only [Wt.may, Bool.and_eq_true] at hm
  have := of_decide_eq_true hm.1.1.1.1
  exact ⟨this.1, this.2⟩
/-- Whose step is asked. -/
theorem En.bk (h : En x s a b r) : 0 ≤ (snext s).1.op.book ∧ (snext s).1.op.book ≤ 200 := by
  have hm := h.mx
  have bk := book_in hm
  rcases h.sh with ⟨i, hi⟩ | _ | ⟨i, q, hi, hr⟩ | _ | ⟨q, hr⟩
  · rw [next_1 hm in0 (List.getElem?_eq_getElem hi)]
    have := book_fwd (List.getElem_mem hi)
    simp only [this]; omega
  · rw [next_2 hm in0]; simp [cap, hm, Pl.step]; omega
  · rw [next_3 hm in0 hr (List.getElem?_eq_getElem hi)]
    have := book_bck (List.getElem_mem hi)
    simp only [this]; omega
  · rw [next_4 hm in0]; simp [z0]
  · rw [next_5 hm in0 hr]; simp [z0]
/-- A step that is not asked changes nothing. -/
theorem stale (h : En x s a b r) {c : Stp} (hc : c.op.book = 1 + (snext s).1.op.book % 200) : sans s c 1 = (s, false) := by
  have hm := h.mx
  have bk := book_in hm
  have no : ∀ {u : Stp}, u.op.book = x.book → (snext s).1 = u → sans s c 1 = (s, false) := fun {u} hu hn => by
    unfold sans
    rw [if_neg]
    rintro ⟨-, k, -⟩
    rw [hn] at hc k
    rw [← k, hu] at hc
    omega
  rcases h.sh with ⟨i, hi⟩ | _ | ⟨i, q, hi, hr⟩ | _ | ⟨q, hr⟩
  · have hs := List.getElem?_eq_getElem hi
    refine no (u := (fwd x)[i]) ?_ (by rw [next_1 hm in0 hs])
    have hmem : (fwd x)[i] ∈ fwd x := List.getElem_mem hi
    exact book_fwd hmem
  · exact no (u := cap x) (by simp [cap, hm, Pl.step]) (by rw [next_2 hm in0])
  · have hs := List.getElem?_eq_getElem hi
    refine no (u := (bck x)[i]) ?_ (by rw [next_3 hm in0 hr hs])
    have hmem : (bck x)[i] ∈ bck x := List.getElem_mem hi
    exact book_bck hmem
  · unfold sans; rw [next_4 hm in0, if_neg (by simp)]
  · unfold sans; rw [next_5 hm in0 hr, if_neg (by simp)]
end
end Sn
end Go.Proofs.YtakicogelkdofaaDoor
