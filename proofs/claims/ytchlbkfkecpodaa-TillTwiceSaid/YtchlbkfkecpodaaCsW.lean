/- Words on memory for numbers; Mul; the document's own Add, Sub, Mul; both Totals. -/
import Derived.Test.YtchlbkfkecpodaaCsA
import Derived.Deep.Draws
import Derived.RegionTactic
import Derived.OwnWalk
import Derived.LoopTactic
namespace Go.Proofs.Ytchlbkfkecpodaa
open Go.RowKit
namespace Cs

theorem adr_block (a : Addr) (n : Nat) : (a.add n).block = a.block := by unfold Addr.add; split <;> rfl
/-- The slice value '.slice A n c' reads as the numbers zs; what it lies in is a block below B. -/
structure Ri (w : World) (B : Nat) (A : Option Addr) (n : Nat) (zs : List Int) : Prop where
  len : zs.length = n
  at_ : 0 < n → ∃ ad, A = some ad ∧ ad.block < B ∧ ∀ j z, zs[j]? = some z → w.cell? (ad.add j) = some (.int .i64 z)
  in_ : ∀ z ∈ zs, I z
variable {w w' : World} {B : Nat} {A : Option Addr} {n : Nat} {zs : List Int}
theorem Ri.below (h : Ri w B A n zs) (hb : Below B w w') : Ri w' B A n zs :=
  ⟨h.len, fun h0 => by
    obtain ⟨ad, e, hB, hc⟩ := h.at_ h0
    refine ⟨ad, e, hB, fun j z hj => ?_⟩
    rw [← hc j z hj]
    exact World.cell?_of_block (by rw [adr_block]; exact hb.block _ hB), h.in_⟩
theorem Ri.mono (h : Ri w B A n zs) {B' : Nat} (hB : B ≤ B') : Ri w B' A n zs :=
  ⟨h.len, fun h0 => by
    obtain ⟨ad, e, hb, hc⟩ := h.at_ h0
    exact ⟨ad, e, by omega, hc⟩, h.in_⟩
theorem lt_some {g : Nat} {o : Obj} (h : w.heap[g]? = some o) : g < w.heap.size := by
  rcases Nat.lt_or_ge g w.heap.size with hlt | hge
  · exact hlt
  · rw [Array.getElem?_eq_none hge] at h; cases h

theorem and_sel (a b : Int) : bits .and .u64 (sgu a) (u64 b) = sel a b := by
  obtain ⟨h1, h2⟩ := u64_U b
  unfold sel sgu
  obtain ⟨n, hn⟩ := Int.eq_ofNat_of_zero_le h1
  rw [hn] at h2 ⊢
  split
  · have h := bits_and_u64_nat 18446744073709551615 n (by omega) (by omega)
    rw [Nat.and_comm, show (18446744073709551615 : Nat) = 2 ^ 64 - 1 from rfl, Nat.and_two_pow_sub_one_eq_mod] at h
    refine h.trans ?_
    rw [Nat.mod_eq_of_lt (by omega)]
  · have h := bits_and_u64_nat 0 n (by omega) (by omega)
    rw [Nat.zero_and] at h
    exact h

/-! The document's own. -/
def NumSame (x : Int) (w : World) (e : Ending) (w' : World) : Prop := e = .returned (.tuple #[.int .i64 (okv x), .int .i64 (oke x)]) ∧ w = w'
theorem same_in {x v : Int} {w : World} (h : I x) (hv : v = x) : NumSame x w (.returned (.tuple #[.int .i64 v, .int .i64 0])) w := by
  subst hv; exact ⟨by rw [okv_in h, oke_in h], rfl⟩
theorem same_out {x : Int} {w : World} (h : ¬ I x) : NumSame x w (.returned (.tuple #[.int .i64 0, .int .i64 3])) w := ⟨by rw [okv_out h, oke_out h], rfl⟩
theorem wrap_s (x : Int) : wrap64 x = s64 x := by unfold wrap64 s64; rfl

/-! Both Totals. -/
def TotTo (zs : List Int) (w : World) (e : Ending) (w' : World) : Prop := e = .returned (.tuple #[.int .i64 (totv zs), .int .i64 (tote zs)]) ∧ Below w.heap.size w w'
theorem tot_in {t : Int} {w w' : World} (h : totO zs = some t) (hb : Below w.heap.size w w') : TotTo zs w (.returned (.tuple #[.int .i64 t, .int .i64 0])) w' := ⟨by rw [totv_of h, tote_of h], hb⟩
theorem tot_out {w w' : World} (h : totO zs = none) (hb : Below w.heap.size w w') : TotTo zs w (.returned (.tuple #[.int .i64 0, .int .i64 3])) w' := ⟨by rw [totv_none h, tote_none h], hb⟩
def TotAt (w : World) (zs : List Int) (t i : Value) (wr : World) : Prop := ∃ (k : Nat) (s : Int), i = .int .i64 k ∧ k ≤ zs.length ∧ t = .int .i64 s ∧ totO (zs.take k) = some s ∧ Below w.heap.size w wr

end Cs
end Go.Proofs.Ytchlbkfkecpodaa
