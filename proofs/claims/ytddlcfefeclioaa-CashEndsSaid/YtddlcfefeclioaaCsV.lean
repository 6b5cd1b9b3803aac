/- Words for the laws over shares: what is owned reads as a list, and goes on to. -/
import Derived.Test.YtddlcfefeclioaaCsO
import Derived.Deep.QuietTactic
import Derived.BigQuiet
namespace Go.Proofs.Ytddlcfefeclioaa
open Go.RowKit
namespace Cs

theorem ri_own {w : World} {base n c : Nat} {A : Option Addr} {zs : List Int} (h : w.ownsRow base 2 1 (.slice A n c) n (i64s zs)) (hI : ∀ z ∈ zs, I z) : Ri w w.heap.size A n zs := by
  have hl := h.1
  rw [i64s_len] at hl
  refine ⟨by omega, fun hn => ?_, hI⟩
  rcases h.2 with ⟨_, h0⟩ | ⟨g, cap, cur, hv, hb, hh, _⟩
  · omega
  · have hA : A = some ⟨g, 0, none⟩ := by injection hv
    subst hA
    refine ⟨_, rfl, lt_some hh, fun j z hj => ?_⟩
    exact h.cells (g := g) rfl j _ (i64s_get hj)
theorem ri_cell {w : World} {B g n k : Nat} {zs : List Int} {z : Int} (h : Ri w B (some ⟨g, 0, none⟩) n zs) (hk : k < n) (hz : zs[k]? = some z) : w.cell? ⟨g, k, none⟩ = some (.int .i64 z) := by
  obtain ⟨ad, e, _, hc⟩ := h.at_ (by omega)
  injection e with e
  subst e
  have := hc k z hz
  rw [Addr.add_lit, Nat.zero_add] at this
  exact this
theorem ri_arg {w : World} {B n k : Nat} {ad : Addr} {zs : List Int} {z : Int} (h : Ri w B (some ad) n zs) (hk : k < n) (hz : zs[k]? = some z) : w.cell? (ad.add k) = some (.int .i64 z) := by
  obtain ⟨ad', e, _, hc⟩ := h.at_ (by omega)
  injection e with e
  subst e
  exact hc k z hz
theorem share_I {all : Int} {ps : List Int} (h : May all ps) (n : Nat) : ∀ z ∈ lst n (share all ps), I z := by
  intro z hz
  obtain ⟨i, _, rfl⟩ := mem_lst hz
  have := share_bound h i
  unfold I
  omega
theorem below_drewN (w : World) (n : Nat) {B : Nat} (_ : B ≤ w.heap.size) : Below B w (w.drewN n) := ⟨rfl, rfl, rfl, Nat.le_refl _, fun _ _ => rfl⟩
/-- A loop that only reads: its counter. -/
def GoAt (w : World) (n : Nat) (i : Value) (wr : World) : Prop := ∃ k : Nat, i = .int .i64 k ∧ k ≤ n ∧ Below w.heap.size w wr
theorem ri_of {w w' : World} {n : Nat} {A : Option Addr} {zs : List Int} (h : Ri w w.heap.size A n zs) (hb : Below w.heap.size w w') : Ri w' w'.heap.size A n zs := (h.below hb).mono hb.size
end Cs
end Go.Proofs.Ytddlcfefeclioaa
