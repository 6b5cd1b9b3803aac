/- Words on memory for bytes: a slice that reads as a list of bytes, a block that is known whole. -/
import Derived.Test.YtidfpbnepdjagaaDoorRows
import Derived.Test.YtidfpbnepdjagaaDoorPkM
import Derived.WalkKit
import Derived.Deep.Draws
import Derived.Maps.AppendAt
import Derived.Deep.AppendLies
import Derived.RegionTactic
import Derived.OwnWalk
namespace Go.Proofs.YtidfpbnepdjagaaDoor
open Go.RowKit
namespace Pk

def u8s (bs : List UInt8) : List Value := bs.map fun c => .int .u8 (c.toNat : Int)
theorem u8s_len (bs : List UInt8) : (u8s bs).length = bs.length := by simp [u8s]
theorem u8s_app (a b : List UInt8) : u8s (a ++ b) = u8s a ++ u8s b := by simp [u8s]
theorem u8s_one (a : List UInt8) : ∀ u ∈ u8s a, u.oneCell' = true := by intro u hu; simp [u8s] at hu; obtain ⟨c, _, rfl⟩ := hu; rfl

theorem adr_block (a : Addr) (n : Nat) : (a.add n).block = a.block := by unfold Addr.add; split <;> rfl
theorem adr_add (a : Addr) (i j : Nat) : (a.add i).add j = a.add (i + j) := by
  unfold Addr.add
  by_cases hi : i = 0 <;> by_cases hj : j = 0 <;> simp [hi, hj, Nat.add_assoc]

/-- The slice value '.slice A n c' reads as the bytes bs; what it lies in is one of the blocks T. -/
structure Rb (w : World) (T : Nat → Prop) (A : Option Addr) (n : Nat) (bs : List UInt8) : Prop where
  len : bs.length = n
  at_ : 0 < n → ∃ ad, A = some ad ∧ T ad.block ∧ ∀ j c, bs[j]? = some c → w.cell? (ad.add j) = some (.int .u8 (c.toNat : Int))

variable {w w' : World} {T T' : Nat → Prop} {A : Option Addr} {n : Nat} {bs : List UInt8}
theorem Rb.none_ : Rb w T A 0 [] := ⟨rfl, fun h => absurd h (by omega)⟩
theorem Rb.take (h : Rb w T A n bs) {k : Nat} (hk : k ≤ n) : Rb w T A k (bs.take k) :=
  ⟨by rw [List.length_take, h.len]; omega, fun h0 => by
    obtain ⟨ad, e, ht, hc⟩ := h.at_ (by omega)
    refine ⟨ad, e, ht, fun j c hj => hc j c ?_⟩
    rw [List.getElem?_take] at hj
    split at hj
    · exact hj
    · cases hj⟩
theorem Rb.drop (h : Rb w T A n bs) {k : Nat} {A' : Option Addr} (hk : k ≤ n) (hA : A' = A.map (fun x => x.add k) ∨ n = k) : Rb w T A' (n - k) (bs.drop k) :=
  ⟨by rw [List.length_drop, h.len], fun h0 => by
    obtain ⟨ad, rfl, ht, hc⟩ := h.at_ (by omega)
    rcases hA with rfl | e
    · refine ⟨ad.add k, rfl, by rw [adr_block]; exact ht, fun j c hj => ?_⟩
      rw [adr_add]
      exact hc _ c (by rw [← hj, List.getElem?_drop])
    · omega⟩
theorem Rb.keep (h : Rb w T A n bs) (hk : ∀ g, T g → w'.heap[g]? = w.heap[g]?) (hT : ∀ g, T g → T' g) : Rb w' T' A n bs :=
  ⟨h.len, fun h0 => by
    obtain ⟨ad, e, ht, hc⟩ := h.at_ h0
    refine ⟨ad, e, hT _ ht, fun j c hj => ?_⟩
    rw [← hc j c hj]
    exact World.cell?_of_block (by rw [adr_block]; exact hk _ ht)⟩

/-- Block g is a row of bytes. -/
def Row (w : World) (g : Nat) : Prop := ∃ cur, w.heap[g]? = some (.cells cur 5 (0, 0))
theorem lt_some {g : Nat} {o : Obj} (h : w.heap[g]? = some o) : g < w.heap.size := by
  rcases Nat.lt_or_ge g w.heap.size with hlt | hge
  · exact hlt
  · rw [Array.getElem?_eq_none hge] at h; cases h
theorem Row.lt {g : Nat} (h : Row w g) : g < w.heap.size := by obtain ⟨_, h⟩ := h; exact lt_some h
theorem Row.ne_ {g p : Nat} {cs : Array Value} {t : TypeId} (h : Row w g) (hp : w.heap[p]? = some (.cells cs t (0, 0))) (ht : t ≠ 5) : g ≠ p := by
  rintro rfl
  obtain ⟨cur, hc⟩ := h
  rw [hc] at hp
  injection hp with hp
  injection hp with _ e
  exact ht e.symm
theorem Row.same {g : Nat} (h : Row w g) (hk : w'.heap[g]? = w.heap[g]?) : Row w' g := by obtain ⟨cur, hc⟩ := h; exact ⟨cur, hk.trans hc⟩
theorem Rb.row (h : Rb w (Row w) A n bs) (hk : ∀ g, Row w g → w'.heap[g]? = w.heap[g]?) : Rb w' (Row w') A n bs := h.keep hk fun g hg => hg.same (hk g hg)
theorem Rb.of_own {base c : Nat} (h : w.ownsRow base 5 1 (.slice A n c) n (u8s bs)) : Rb w (fun g => base ≤ g ∧ Row w g) A n bs := by
  have hl := h.1
  rw [u8s_len] at hl
  refine ⟨by omega, fun hn => ?_⟩
  rcases h.2 with ⟨_, h0⟩ | ⟨g, cap, cur, hv, hb, hh, _, _, _, _⟩
  · omega
  · have hA : A = some ⟨g, 0, none⟩ := by injection hv
    subst hA
    exact ⟨_, rfl, ⟨hb, cur, hh⟩, fun j x hj => h.cells (g := g) rfl j _ (by rw [u8s, List.getElem?_map, hj]; rfl)⟩
theorem own_cap {base : Nat} {e : TypeId} {c : Nat} {xs : List Value} (h : w.ownsRow base e 1 (.slice A n c) n xs) : n ≤ c ∧ c ≤ maxLen := by
  rcases h.2 with ⟨h1, h0⟩ | ⟨g, cap, cur, hv, hb, hh, h1, h2, _, _⟩
  · injection h1 with _ _ h1
    subst h1; subst h0
    exact ⟨Nat.le_refl _, by unfold maxLen; omega⟩
  · injection hv with _ _ hv
    subst hv
    exact ⟨h1, h2⟩
theorem own_form {base : Nat} {e : TypeId} {v : Value} {xs : List Value} (h : w.ownsRow base e 1 v n xs) : ∃ A c, v = .slice A n c := by
  rcases h.2 with ⟨rfl, rfl⟩ | ⟨g, cap, cur, rfl, _⟩
  · exact ⟨_, _, rfl⟩
  · exact ⟨_, _, rfl⟩

theorem one_at {p i : Nat} {cs : Array Value} {t : TypeId} (h : w.heap[p]? = some (.cells cs t (0, 0))) : w.cell? ⟨p, i, none⟩ = cs[i]? := cell_of_row w p i cs t (0, 0) h
theorem one_free {p i : Nat} {cs : Array Value} {t : TypeId} (h : w.heap[p]? = some (.cells cs t (0, 0))) : w.frozen? ⟨p, i, none⟩ = false := frozen_of_row w p i cs t h
theorem one_set {p i : Nat} {cs : Array Value} {t : TypeId} (h : w.heap[p]? = some (.cells cs t (0, 0))) (u : Value) : (w.setCell ⟨p, i, none⟩ u).heap[p]? = some (.cells (cs.setIfInBounds i u) t (0, 0)) := by
  simp [World.setCell, Array.getElem?_modify, h]
theorem grown_set (w : World) (p i : Nat) (u : Value) : w.grownBy (w.setCell ⟨p, i, none⟩ u) (some p) :=
  ⟨rfl, rfl, rfl, by simp [World.setCell], fun k _ hk => Below.heap_setCell _ _ _ _ (fun e => hk (by rw [e]))⟩
theorem grown_trans {a b c : World} {g : Option Nat} (h : a.grownBy b g) (k : b.grownBy c g) : a.grownBy c g :=
  ⟨k.os.trans h.os, k.tape.trans h.tape, k.output.trans h.output, Nat.le_trans h.size k.size, fun i hi hg => (k.block i (Nat.lt_of_lt_of_le hi h.size) hg).trans (h.block i hi hg)⟩
theorem grown_below {a b : World} {p B : Nat} (h : a.grownBy b (some p)) (hp : B ≤ p) (hB : B ≤ a.heap.size) : Below B a b :=
  ⟨h.os, h.tape, h.output, h.size, fun i hi => h.block i (by omega) (fun e => by injection e; omega)⟩
theorem grown_refl (w : World) (g : Option Nat) : w.grownBy w g := ⟨rfl, rfl, rfl, Nat.le_refl _, fun _ _ _ => rfl⟩
theorem below_grown {a b : World} (h : Below a.heap.size a b) (g : Option Nat) : a.grownBy b g := ⟨h.os, h.tape, h.output, h.size, fun i hi _ => h.block i hi⟩
end Pk
end Go.Proofs.YtidfpbnepdjagaaDoor
