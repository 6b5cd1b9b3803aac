/- A disk in memory: what its blocks are; what is kept while others are written. -/
import Derived.Test.YtbolcapgocjgcaaGreatDoorPk5
import Derived.Test.YtbolcapgocjgcaaGreatDoorDkM
import Derived.Maps.OwnSet
namespace Go.Proofs.YtbolcapgocjgcaaGreatDoor
set_option maxRecDepth 100000
open Go.RowKit
open Go.Proofs.YtbolcapgocjgcaaGreatDoor.Pk
namespace Dk

structure Fil where
  v : Value
  s : Bs
  k : Nat
def cell (f : Fil) : Value := .agg #[f.v, .int .i64 f.k]
def abs (f : Fil) : Bs × Nat := (f.s, f.k)
abbrev Fls := List (Bs × Fil)
def use (f : Fil) : Nat := f.s.length
/-- What an element reads as: itself. -/
def Rdv (v : Value) : Option (DataW Value × List MemPlace) := some (.held v, [])

/-- All but the blocks S, and what is new, is as it was. -/
structure Kp (S : Nat → Prop) (w w' : World) : Prop where
  os : w'.os = w.os
  tape : w'.tape = w.tape
  output : w'.output = w.output
  size : w.heap.size ≤ w'.heap.size
  block : ∀ g, g < w.heap.size → ¬ S g → w'.heap[g]? = w.heap[g]?
def gr (S : Nat → Prop) (w w' : World) : Nat → Prop := fun g => S g ∨ (w.heap.size ≤ g ∧ g < w'.heap.size)

section
variable {S S' : Nat → Prop} {w w' w1 w2 : World}
theorem Kp.refl (S : Nat → Prop) (w : World) : Kp S w w := ⟨rfl, rfl, rfl, Nat.le_refl _, fun _ _ _ => rfl⟩
theorem Kp.trans (h : Kp S w w1) (k : Kp (gr S w w1) w1 w2) : Kp S w w2 :=
  ⟨k.os.trans h.os, k.tape.trans h.tape, k.output.trans h.output, Nat.le_trans h.size k.size, fun g hg hn =>
    (k.block g (Nat.lt_of_lt_of_le hg h.size) (fun e => by
      rcases e with e | ⟨e, _⟩
      · exact hn e
      · omega)).trans (h.block g hg hn)⟩
theorem Kp.trans' (h : Kp S w w1) (k : Kp S w1 w2) : Kp S w w2 :=
  ⟨k.os.trans h.os, k.tape.trans h.tape, k.output.trans h.output, Nat.le_trans h.size k.size, fun g hg hn => (k.block g (Nat.lt_of_lt_of_le hg h.size) hn).trans (h.block g hg hn)⟩
theorem Kp.mono (h : Kp S w w') (hs : ∀ g, S g → S' g) : Kp S' w w' := ⟨h.os, h.tape, h.output, h.size, fun g hg hn => h.block g hg fun e => hn (hs g e)⟩
theorem Kp.of_below (h : Below w.heap.size w w') : Kp S w w' := ⟨h.os, h.tape, h.output, h.size, fun g hg _ => h.block g hg⟩
theorem Kp.below {B : Nat} (h : Kp S w w') (hS : ∀ g, S g → B ≤ g) (hB : B ≤ w.heap.size) : Below B w w' :=
  ⟨h.os, h.tape, h.output, h.size, fun g hg => h.block g (by omega) fun e => by have := hS g e; omega⟩
theorem Kp.of_grown {o : Option Nat} (h : w.grownBy w' o) (ho : ∀ g, o = some g → S g) : Kp S w w' :=
  ⟨h.os, h.tape, h.output, h.size, fun g hg hn => h.block g hg fun e => hn (ho g e.symm)⟩
theorem gr_gr (h1 : w.heap.size ≤ w1.heap.size) (h2 : w1.heap.size ≤ w2.heap.size) : gr (gr S w w1) w1 w2 = gr S w w2 := by
  funext g
  unfold gr
  apply propext
  constructor
  · rintro ((h | ⟨h, h'⟩) | ⟨h, h'⟩)
    · exact .inl h
    · exact .inr ⟨h, by omega⟩
    · exact .inr ⟨by omega, h'⟩
  · rintro (h | ⟨h, h'⟩)
    · exact .inl (.inl h)
    · by_cases e : g < w1.heap.size
      · exact .inl (.inr ⟨h, e⟩)
      · exact .inr ⟨by omega, h'⟩
theorem gr_drew : gr S w w' = gr S w.drew w' := rfl
end

/-- What stands in the field files. -/
def MapAt (w : World) (mo : Option Nat) (l : Fls) : Prop := (mo = none ∧ l = []) ∨ ∃ m n, mo = some m ∧ w.ownsMap Tryz.prog 9 Rdv m n (dat cell l)
/-- The disk at p: its files l; of the file x the bytes are no matter. -/
structure Dsk (x : Option Bs) (w : World) (p room : Nat) (mo : Option Nat) (l : Fls) (fp : Nat → Prop) : Prop where
  cells : w.heap[p]? = some (.cells #[.int .i64 room, .int .i64 (sum use l : Nat), .map mo] 64 (0, 0))
  map : MapAt w mo l
  rise : Rise l
  pin : fp p
  min_ : ∀ m, mo = some m → fp m
  head : ∀ q ∈ l, (∃ A c, q.2.v = .slice A q.2.s.length c ∧ q.2.s.length ≤ c ∧ c ≤ 9223372036854775807 ∧ (A = none → c = 0)) ∧ q.1.length ≤ 20 ∧ q.2.k ≤ q.2.s.length
  rows : ∀ q ∈ l, some q.1 ≠ x → w.ownsRow 0 5 1 q.2.v q.2.s.length (u8s q.2.s) ∧ ∀ g, q.2.v.ownBlock = some g → fp g
  apart : ∀ q ∈ l, ∀ q' ∈ l, q.1 ≠ q'.1 → some q.1 ≠ x → some q'.1 ≠ x → ∀ g, q.2.v.ownBlock = some g → q'.2.v.ownBlock ≠ some g
  fits : sum use l ≤ room
  most : room ≤ 1000000
  size : ∀ g, fp g → g < w.heap.size

theorem own_same {w w' : World} {e : TypeId} {n base : Nat} {v : Value} {xs : List Value} (h : w.ownsRow base e 1 v n xs) (hk : ∀ g, v.ownBlock = some g → w'.heap[g]? = w.heap[g]?) : w'.ownsRow base e 1 v n xs := by
  refine ⟨h.1, ?_⟩
  rcases h.2 with h0 | ⟨g, cap, cur, hv, hb, hh, h2⟩
  · exact .inl h0
  · exact .inr ⟨g, cap, cur, hv, hb, (hk g (by rw [hv]; rfl)).trans hh, h2⟩
theorem own_zero {w : World} {e : TypeId} {n base : Nat} {v : Value} {xs : List Value} (h : w.ownsRow base e 1 v n xs) : w.ownsRow 0 e 1 v n xs := by
  refine ⟨h.1, ?_⟩
  rcases h.2 with h0 | ⟨g, cap, cur, hv, hb, hh, h2⟩
  · exact .inl h0
  · exact .inr ⟨g, cap, cur, hv, Nat.zero_le _, hh, h2⟩
theorem own_block {w : World} {e : TypeId} {n base g : Nat} {v : Value} {xs : List Value} (h : w.ownsRow base e 1 v n xs) (hg : v.ownBlock = some g) : base ≤ g ∧ ∃ cur, w.heap[g]? = some (.cells cur e (0, 0)) := by
  rcases h.2 with ⟨rfl, _⟩ | ⟨g', cap, cur, rfl, hb, hh, _⟩
  · simp [Value.ownBlock] at hg
  · have : g' = g := by simpa [Value.ownBlock] using hg
    subst this
    exact ⟨hb, cur, hh⟩
theorem own_head {w : World} {e : TypeId} {n base : Nat} {v : Value} {xs : List Value} (h : w.ownsRow base e 1 v n xs) : ∃ A c, v = .slice A n c ∧ n ≤ c ∧ c ≤ 9223372036854775807 ∧ (A = none → c = 0) := by
  rcases h.2 with ⟨rfl, rfl⟩ | ⟨g, cap, cur, rfl, hb, hh, h1, h2, _⟩
  · exact ⟨_, _, rfl, Nat.le_refl _, by omega, fun _ => rfl⟩
  · unfold maxLen at h2
    exact ⟨_, _, rfl, h1, h2, fun h => by cases h⟩

theorem MapAt.keep {w w' : World} {mo : Option Nat} {l : Fls} (h : MapAt w mo l) (hk : ∀ m, mo = some m → w'.heap[m]? = w.heap[m]?) : MapAt w' mo l := by
  rcases h with h | ⟨m, n, e, es, clock, hb, r⟩
  · exact .inl h
  · exact .inr ⟨m, n, e, es, clock, (hk m e).trans hb, r⟩
theorem Dsk.keep {x : Option Bs} {w w' : World} {p room : Nat} {mo : Option Nat} {l : Fls} {fp : Nat → Prop} (h : Dsk x w p room mo l fp) (hs : w.heap.size ≤ w'.heap.size) (hk : ∀ g, fp g → w'.heap[g]? = w.heap[g]?) : Dsk x w' p room mo l fp :=
  ⟨(hk p h.pin).trans h.cells, h.map.keep (fun m e => hk m (h.min_ m e)), h.rise, h.pin, h.min_, h.head, fun q hq hx => ⟨own_same (h.rows q hq hx).1 fun g hg => hk g ((h.rows q hq hx).2 g hg), (h.rows q hq hx).2⟩, h.apart, h.fits, h.most,
    fun g hg => Nat.lt_of_lt_of_le (h.size g hg) hs⟩
theorem Dsk.below {x : Option Bs} {w w' : World} {p room : Nat} {mo : Option Nat} {l : Fls} {fp : Nat → Prop} (h : Dsk x w p room mo l fp) (hb : Below w.heap.size w w') : Dsk x w' p room mo l fp := h.keep hb.size fun g hg => hb.block g (h.size g hg)
theorem Dsk.mono {x : Option Bs} {w : World} {p room : Nat} {mo : Option Nat} {l : Fls} {fp fp' : Nat → Prop} (h : Dsk x w p room mo l fp) (hf : ∀ g, fp g → fp' g) (hs : ∀ g, fp' g → g < w.heap.size) : Dsk x w p room mo l fp' :=
  ⟨h.cells, h.map, h.rise, hf p h.pin, fun m e => hf m (h.min_ m e), h.head, fun q hq hx => ⟨(h.rows q hq hx).1, fun g hg => hf g ((h.rows q hq hx).2 g hg)⟩, h.apart, h.fits, h.most, hs⟩
theorem Dsk.grow {x : Option Bs} {w w' : World} {p room : Nat} {mo : Option Nat} {l : Fls} {fp : Nat → Prop} (h : Dsk x w p room mo l fp) (hb : Below w.heap.size w w') : Dsk x w' p room mo l (gr fp w w') :=
  (h.below hb).mono (fun _ h => .inl h) fun g hg => by
    rcases hg with hg | ⟨_, hg⟩
    · exact Nat.lt_of_lt_of_le (h.size g hg) hb.size
    · exact hg
theorem Dsk.some_ {w : World} {p room : Nat} {mo : Option Nat} {l : Fls} {fp : Nat → Prop} (h : Dsk none w p room mo l fp) (n : Bs) : Dsk (some n) w p room mo l fp :=
  ⟨h.cells, h.map, h.rise, h.pin, h.min_, h.head, fun q hq _ => h.rows q hq (by simp), fun q hq q' hq' hne _ _ => h.apart q hq q' hq' hne (by simp) (by simp), h.fits, h.most, h.size⟩
theorem row_neq_disk {w : World} {g p : Nat} {cur cs : Array Value} (h : w.heap[g]? = some (.cells cur 5 (0, 0))) (hp : w.heap[p]? = some (.cells cs 64 (0, 0))) : g ≠ p := by
  rintro rfl
  rw [h] at hp
  injection hp with hp
  injection hp with _ e
  exact absurd e (by decide)

/-- The disk at p, its files L by name, in what lies in fp. -/
def Disk (w : World) (p room : Nat) (L : List (Bs × Bs × Nat)) (fp : Nat → Prop) : Prop := ∃ mo l, Dsk none w p room mo l fp ∧ L = vals abs l
/-- What a call leaves that may turn the disk. -/
def DTo (w : World) (p room : Nat) (fp : Nat → Prop) (L : List (Bs × Bs × Nat)) (w' : World) : Prop := Disk w' p room L (gr fp w w') ∧ Kp fp w w'

theorem Disk.below {w w' : World} {p room : Nat} {L : List (Bs × Bs × Nat)} {fp : Nat → Prop} (h : Disk w p room L fp) (hb : Below w.heap.size w w') : Disk w' p room L fp := by
  obtain ⟨mo, l, D, e⟩ := h
  exact ⟨mo, l, D.below hb, e⟩
theorem Disk.keep {w w' : World} {p room : Nat} {L : List (Bs × Bs × Nat)} {fp : Nat → Prop} (h : Disk w p room L fp) (hs : w.heap.size ≤ w'.heap.size) (hk : ∀ g, fp g → w'.heap[g]? = w.heap[g]?) : Disk w' p room L fp := by
  obtain ⟨mo, l, D, e⟩ := h
  exact ⟨mo, l, D.keep hs hk, e⟩
theorem DTo.of_below {w w' : World} {p room : Nat} {L : List (Bs × Bs × Nat)} {fp : Nat → Prop} (h : Disk w p room L fp) (hb : Below w.heap.size w w') : DTo w p room fp L w' := by
  obtain ⟨mo, l, D, e⟩ := h
  exact ⟨⟨mo, l, D.grow hb, e⟩, .of_below hb⟩
theorem DTo.trans {w w1 w2 : World} {p room : Nat} {L L' : List (Bs × Bs × Nat)} {fp : Nat → Prop} (h : DTo w p room fp L w1) (k : DTo w1 p room (gr fp w w1) L' w2) : DTo w p room fp L' w2 := by
  obtain ⟨k1, k2⟩ := k
  rw [gr_gr h.2.size k2.size] at k1
  exact ⟨k1, h.2.trans k2⟩
end Dk
end Go.Proofs.YtbolcapgocjgcaaGreatDoor
