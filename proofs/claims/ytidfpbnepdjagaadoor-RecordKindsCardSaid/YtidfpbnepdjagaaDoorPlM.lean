/- Steps of a booking, as lists; no program. -/
import Derived.Test.YtidfpbnepdjagaaDoorWtC
namespace Go.Proofs.YtidfpbnepdjagaaDoor
open Go.RowKit
namespace Pl
open Wt (Wan may Opn mayOp mayU inR)

/-- A step: who is asked, and for what. -/
structure Stp where
  node : Int
  op : Opn
deriving DecidableEq
def un (x : Wan) (i : Int) : Int := if i = 0 then x.u0 else if i = 1 then x.u1 else x.u2
/-- The inventories of which there are units. -/
def isPart (x : Wan) (i : Int) : Bool := may x && decide (0 < un x i)
def parts (x : Wan) : List Int := [0, 1, 2].filter (isPart x)
def nodes (x : Wan) : List Int := if parts x = [] then [] else parts x ++ [3]
def asks (x : Wan) (s : Stp) : Bool := (nodes x).contains s.node
def step (x : Wan) (n k : Int) : Stp := ⟨n, ⟨k, x.book, if k = 1 then un x n else 0, if k = 4 then x.cust else 0, if k = 4 then x.price else 0⟩⟩
def allF (x : Wan) : List Stp := [step x 0 1, step x 1 1, step x 2 1, step x 3 4, step x 0 2, step x 1 2, step x 2 2]
def allB (x : Wan) : List Stp := [step x 3 6, step x 2 3, step x 1 3, step x 0 3]
def fwd (x : Wan) : List Stp := (allF x).filter (asks x)
def bck (x : Wan) : List Stp := (allB x).filter (asks x)
def z0 : Stp := ⟨0, ⟨0, 0, 0, 0, 0⟩⟩
def cap (x : Wan) : Stp := if may x = true then step x 3 5 else z0

/-! ### the same, by the three of them -/
def one (b : Bool) (s : Stp) : List Stp := if b then [s] else []
theorem may_some {x : Wan} (h : may x = true) : 0 < x.u0 ∨ 0 < x.u1 ∨ 0 < x.u2 := by
  simp only [may, mayU, Bool.and_eq_true, decide_eq_true_iff] at h
  omega
theorem un0 (x : Wan) : un x 0 = x.u0 := rfl
theorem un1 (x : Wan) : un x 1 = x.u1 := rfl
theorem un2 (x : Wan) : un x 2 = x.u2 := rfl
theorem parts_no {x : Wan} (h : may x = false) : parts x = [] := by simp [parts, isPart, h]
theorem nodes_no {x : Wan} (h : may x = false) : nodes x = [] := by simp [nodes, parts_no h]
theorem fwd_no {x : Wan} (h : may x = false) : fwd x = [] := by
  unfold fwd
  rw [List.filter_eq_nil_iff]
  intro s _
  simp [asks, nodes_no h]
theorem bck_no {x : Wan} (h : may x = false) : bck x = [] := by
  unfold bck
  rw [List.filter_eq_nil_iff]
  intro s _
  simp [asks, nodes_no h]
theorem parts_yes {x : Wan} (h : may x = true) : parts x = (if 0 < x.u0 then [0] else []) ++ (if 0 < x.u1 then [1] else []) ++ (if 0 < x.u2 then [2] else []) := by
  unfold parts isPart
  rw [h]
  by_cases h0 : 0 < x.u0 <;> by_cases h1 : 0 < x.u1 <;> by_cases h2 : 0 < x.u2 <;> simp [un, h0, h1, h2]
theorem parts_ne {x : Wan} (h : may x = true) : parts x ≠ [] := by
  rw [parts_yes h]
  have := may_some h
  by_cases h0 : 0 < x.u0
  · simp [h0]
  · by_cases h1 : 0 < x.u1
    · simp [h0, h1]
    · have h2 : 0 < x.u2 := by omega
      simp [h0, h1, h2]
theorem nodes_yes {x : Wan} (h : may x = true) : nodes x = parts x ++ [3] := by unfold nodes; rw [if_neg (parts_ne h)]
theorem asks_at {x : Wan} (h : may x = true) (n k : Int) (hn : n = 0 ∨ n = 1 ∨ n = 2) : asks x (step x n k) = decide (0 < un x n) := by
  unfold asks
  rw [nodes_yes h, parts_yes h]
  rcases hn with rfl | rfl | rfl <;> by_cases h0 : 0 < x.u0 <;> by_cases h1 : 0 < x.u1 <;> by_cases h2 : 0 < x.u2 <;> simp [step, un, h0, h1, h2]
theorem asks_3 {x : Wan} (h : may x = true) (k : Int) : asks x (step x 3 k) = true := by
  unfold asks
  rw [nodes_yes h]
  simp [step]
theorem filter_one (p : Stp → Bool) (s : Stp) (l : List Stp) : (s :: l).filter p = one (p s) s ++ l.filter p := by
  unfold one
  cases h : p s <;> simp [h]
theorem fwd_yes {x : Wan} (h : may x = true) : fwd x = one (decide (0 < x.u0)) (step x 0 1) ++ (one (decide (0 < x.u1)) (step x 1 1) ++ (one (decide (0 < x.u2)) (step x 2 1) ++ (step x 3 4 :: (one (decide (0 < x.u0)) (step x 0 2) ++ (one (decide (0 < x.u1)) (step x 1 2) ++ one (decide (0 < x.u2)) (step x 2 2)))))) := by
  unfold fwd allF
  simp only [filter_one, asks_at h _ _ (.inl rfl), asks_at h _ _ (.inr (.inl rfl)), asks_at h _ _ (.inr (.inr rfl)), asks_3 h, un0, un1, un2, List.filter_nil, List.append_nil]
  rfl
theorem bck_yes {x : Wan} (h : may x = true) : bck x = step x 3 6 :: (one (decide (0 < x.u2)) (step x 2 3) ++ (one (decide (0 < x.u1)) (step x 1 3) ++ one (decide (0 < x.u0)) (step x 0 3))) := by
  unfold bck allB
  simp only [filter_one, asks_at h _ _ (.inl rfl), asks_at h _ _ (.inr (.inl rfl)), asks_at h _ _ (.inr (.inr rfl)), asks_3 h, un0, un1, un2, List.filter_nil, List.append_nil]
  rfl
theorem fwd_len (x : Wan) : (fwd x).length ≤ 7 := by unfold fwd; exact List.length_filter_le ..
theorem bck_len (x : Wan) : (bck x).length ≤ 4 := by unfold bck; exact List.length_filter_le ..
theorem parts_len (x : Wan) : (parts x).length ≤ 3 := by unfold parts; exact List.length_filter_le ..
end Pl
end Go.Proofs.YtidfpbnepdjagaaDoor
