/- What is asked first, and what is asked back; no program. -/
import Derived.Test.YtidfpbnepdjagaaDoorPlM
namespace Go.Proofs.YtidfpbnepdjagaaDoor
open Go.RowKit
namespace Pl
open Wt (Wan may Opn mayOp mayU inR)

/-- The nodes of what is asked ahead of the confirms. -/
def frst (l : List Stp) : List Int := (l.filter fun s => s.op.kind != 2).map (·.node)
theorem frst_yes {l : List Stp} {k : Nat} {s : Stp} (h : l[k]? = some s) (hp : (s.op.kind != 2) = true) : frst (l.take (k + 1)) = frst (l.take k) ++ [s.node] := by
  unfold frst
  rw [List.take_add_one, h, List.filter_append, List.map_append]
  simp [hp]
theorem frst_no {l : List Stp} {k : Nat} {s : Stp} (h : l[k]? = some s) (hp : (s.op.kind != 2) = false) : frst (l.take (k + 1)) = frst (l.take k) := by
  unfold frst
  rw [List.take_add_one, h, List.filter_append, List.map_append]
  simp [hp]
theorem frst_len (l : List Stp) : (frst l).length ≤ l.length := by unfold frst; rw [List.length_map]; exact List.length_filter_le ..
theorem frst_fwd {x : Wan} (h : may x = true) : frst (fwd x) = parts x ++ [3] := by
  rw [fwd_yes h, parts_yes h]
  by_cases h0 : 0 < x.u0 <;> by_cases h1 : 0 < x.u1 <;> by_cases h2 : 0 < x.u2 <;> simp [frst, one, step, h0, h1, h2]
theorem back_fwd {x : Wan} (h : may x = true) : (bck x).map (·.node) = (frst (fwd x)).reverse := by
  rw [frst_fwd h, bck_yes h, parts_yes h]
  by_cases h0 : 0 < x.u0 <;> by_cases h1 : 0 < x.u1 <;> by_cases h2 : 0 < x.u2 <;> simp [one, step, h0, h1, h2]
theorem fwd_two {x : Wan} (h : may x = true) : (fwd x).length + 1 = 2 * (frst (fwd x)).length := by
  rw [frst_fwd h, fwd_yes h, parts_yes h]
  by_cases h0 : 0 < x.u0 <;> by_cases h1 : 0 < x.u1 <;> by_cases h2 : 0 < x.u2 <;> simp [one, h0, h1, h2]
theorem back_len {x : Wan} (h : may x = true) : (bck x).length = (frst (fwd x)).length := by
  have := congrArg List.length (back_fwd h)
  simpa using this
theorem back_at {x : Wan} (h : may x = true) {k : Nat} {s : Stp} (hs : (bck x)[k]? = some s) : (frst (fwd x))[(bck x).length - 1 - k]? = some s.node := by
  have hk : k < (bck x).length := (List.getElem?_eq_some_iff.1 hs).1
  have h1 : ((bck x).map (·.node))[k]? = some s.node := by rw [List.getElem?_map, hs]; rfl
  rw [back_fwd h, List.getElem?_reverse (by rw [← back_len h]; exact hk), ← back_len h] at h1
  exact h1
/-- What a step of a booking is. -/
structure FineS (x : Wan) (s : Stp) : Prop where
  op : mayOp s.op = true
  book : s.op.book = x.book
  who : (s.node = 3 ∧ 4 ≤ s.op.kind) ∨ (s.node ≠ 3 ∧ s.op.kind < 4)
theorem may_in {x : Wan} (h : may x = true) : inR x.book 1 200 = true ∧ inR x.cust 0 3 = true ∧ inR x.price 0 1099511627776 = true ∧ x.u0 ≤ 1000 ∧ x.u1 ≤ 1000 ∧ x.u2 ≤ 1000 := by
  simp only [may, mayU, Bool.and_eq_true, decide_eq_true_iff] at h
  obtain ⟨⟨⟨⟨h1, h2⟩, h3⟩, h4⟩, h5⟩ := h
  exact ⟨h1, h2, h5, by omega, by omega, by omega⟩
theorem good_hold {x : Wan} (h : may x = true) {n : Int} (hn : n ≠ 3) (hu : 0 < un x n) (hm : un x n ≤ 1000) : FineS x (step x n 1) := by
  obtain ⟨hb, -⟩ := may_in h
  refine ⟨?_, rfl, .inr ⟨hn, by show (1 : Int) < 4; omega⟩⟩
  have : inR (un x n) 1 1000 = true := decide_eq_true ⟨by omega, hm⟩
  simp [mayOp, step, hb, this]
theorem good_auth {x : Wan} (h : may x = true) : FineS x (step x 3 4) := by
  obtain ⟨hb, hc, hp, -⟩ := may_in h
  exact ⟨by simp [mayOp, step, hb, hc, hp], rfl, .inl ⟨rfl, by show (4 : Int) ≤ 4; omega⟩⟩
theorem good_conf {x : Wan} (h : may x = true) {n : Int} (hn : n ≠ 3) : FineS x (step x n 2) := by
  obtain ⟨hb, -⟩ := may_in h
  exact ⟨by simp [mayOp, step, hb], rfl, .inr ⟨hn, by show (2 : Int) < 4; omega⟩⟩
theorem one_mem {b : Bool} {s t : Stp} (h : t ∈ one b s) : t = s ∧ b = true := by
  cases b
  · simp [one] at h
  · simpa [one] using h
theorem fwd_good {x : Wan} (h : may x = true) {s : Stp} (hs : s ∈ fwd x) : FineS x s := by
  obtain ⟨-, -, -, m0, m1, m2⟩ := may_in h
  rw [fwd_yes h] at hs
  simp only [List.mem_append, List.mem_cons] at hs
  rcases hs with hs | hs | hs | rfl | hs | hs | hs
  · obtain ⟨rfl, hb⟩ := one_mem hs
    exact good_hold h (by decide) (of_decide_eq_true hb) m0
  · obtain ⟨rfl, hb⟩ := one_mem hs
    exact good_hold h (by decide) (of_decide_eq_true hb) m1
  · obtain ⟨rfl, hb⟩ := one_mem hs
    exact good_hold h (by decide) (of_decide_eq_true hb) m2
  · exact good_auth h
  · obtain ⟨rfl, -⟩ := one_mem hs
    exact good_conf h (by decide)
  · obtain ⟨rfl, -⟩ := one_mem hs
    exact good_conf h (by decide)
  · obtain ⟨rfl, -⟩ := one_mem hs
    exact good_conf h (by decide)
theorem bck_good {x : Wan} (h : may x = true) {s : Stp} (hs : s ∈ bck x) : mayOp s.op = true ∧ s.op.book = x.book ∧ (s.op.kind = 6 ∨ s.op.kind = 3) := by
  obtain ⟨hb, -⟩ := may_in h
  rw [bck_yes h] at hs
  simp only [List.mem_append, List.mem_cons] at hs
  rcases hs with rfl | hs | hs | hs
  · exact ⟨by simp [mayOp, step, hb], rfl, .inl rfl⟩
  · obtain ⟨rfl, -⟩ := one_mem hs
    exact ⟨by simp [mayOp, step, hb], rfl, .inr rfl⟩
  · obtain ⟨rfl, -⟩ := one_mem hs
    exact ⟨by simp [mayOp, step, hb], rfl, .inr rfl⟩
  · obtain ⟨rfl, -⟩ := one_mem hs
    exact ⟨by simp [mayOp, step, hb], rfl, .inr rfl⟩
theorem cap_good {x : Wan} (h : may x = true) : mayOp (cap x).op = true ∧ (cap x).op.kind = 5 := by
  obtain ⟨hb, -⟩ := may_in h
  have : cap x = step x 3 5 := by unfold cap; rw [if_pos h]
  rw [this]
  exact ⟨by simp [mayOp, step, hb], rfl⟩
end Pl
end Go.Proofs.YtidfpbnepdjagaaDoor
