/- What comes in: a slice of bytes, a slice of things (Op) as the statements have them. -/
import Derived.Test.YtbolcapgocjgcaaGreatDoorPkL
import Derived.Deep.Slices
import Derived.Carry
namespace Go.Proofs.YtbolcapgocjgcaaGreatDoor
set_option maxRecDepth 100000
open Go.ChangeShapes Go.WideShapes Go.ChangeAt Go.WideMaps Go.WideElems Go.RowKit
namespace Pk

theorem laidOut : laidOutB Tryz.prog = true := by kernel_rfl

/-- A slice of bytes that came in reads as a list of bytes. -/
def Src (w : World) (v : Value) (bs : List UInt8) : Prop := ∃ A n c, v = .slice A n c ∧ (A = none → c = 0) ∧ n ≤ c ∧ c ≤ 9223372036854775807 ∧ Rb w (fun g => g < w.heap.size) A n bs
theorem view_bytes {H : Type} {enc : TypeId × Value → H} {W : World} {sp : Nat → Bool} {held : Bool} {v : Value} {d : DataW H} {p : List MemPlace} {r : Reach} {b0 : Nat}
    (hv : Value.okWide Tryz.prog W r b0 39 v) (h : DataW.Trod enc Tryz.prog W 0 sp held 39 v d p) : ∃ bs, Src W v bs := by
  obtain ⟨A, n, c, rfl⟩ := okWide_slice Tryz.underlying39 hv
  obtain ⟨fuel, hf⟩ := h
  have c5 : Tryz.prog.cellsOf 5 = 1 := by kernel_rfl
  rcases open_ints Tryz.underlying39 Tryz.underlying5 c5 hf with ⟨hcs, _⟩ | ⟨a, len, cap, zs, hcs, _, hl, hm, hz, _, hcell, hwz⟩
  · obtain ⟨rfl, rfl, rfl⟩ : A = none ∧ n = 0 ∧ c = 0 := by simpa [Value.cells] using hcs
    exact ⟨[], none, 0, 0, rfl, fun _ => rfl, Nat.le_refl _, by omega, Rb.none_⟩
  · obtain ⟨rfl, rfl, rfl⟩ : A = some a ∧ n = len ∧ c = cap := by simpa [Value.cells] using hcs
    have hle : n ≤ zs.length := by rw [hz]; split <;> omega
    unfold maxLen at hm
    refine ⟨(zs.take n).map fun z => UInt8.ofNat z.toNat, some a, n, c, rfl, (fun e => by cases e), hl, by omega, ⟨by simp; omega, fun hn => ⟨a, rfl, ?_, fun j x hj => ?_⟩⟩⟩
    · have := block_lt_of_cell (hcell 0 (by omega))
      rwa [adr_block] at this
    · rw [List.getElem?_map, List.getElem?_take] at hj
      split at hj
      · have hjz : j < zs.length := by omega
        rw [List.getElem?_eq_getElem hjz] at hj
        simp only [Option.map_some, Option.some.injEq] at hj
        have hw := bounds_u8 (hwz _ (List.getElem_mem hjz))
        rw [hcell j hjz, ← hj, ofNat_toNat (by omega), List.getD_eq_getElem?_getD, List.getElem?_eq_getElem hjz]
        simp only [Option.getD_some]
        congr 2
        omega
      · cases hj

/-- A thing that is put, or asked. -/
structure OpR where
  kind : Int
  n : Int
  s : List UInt8
  lo : Int
  hi : Int
  most : Int
structure OpAt (w : World) (a : Addr) (i : Nat) (o : OpR) : Prop where
  c0 : w.cell? (a.add (i * 6)) = some (.int .i64 o.kind)
  c1 : w.cell? ⟨(a.add (i * 6)).block, (a.add (i * 6)).off + 1, none⟩ = some (.int .i64 o.n)
  c2 : w.cell? ⟨(a.add (i * 6)).block, (a.add (i * 6)).off + 2, none⟩ = some (.string (str o.s))
  c3 : w.cell? ⟨(a.add (i * 6)).block, (a.add (i * 6)).off + 3, none⟩ = some (.int .i64 o.lo)
  c4 : w.cell? ⟨(a.add (i * 6)).block, (a.add (i * 6)).off + 4, none⟩ = some (.int .i64 o.hi)
  c5 : w.cell? ⟨(a.add (i * 6)).block, (a.add (i * 6)).off + 5, none⟩ = some (.int .i64 o.most)
structure OpOk (o : OpR) : Prop where
  n1 : -9223372036854775808 ≤ o.n
  n2 : o.n ≤ 9223372036854775807
  len : o.s.length ≤ 9223372036854775807
/-- A slice of things that came in. -/
structure Ops (w : World) (B : Nat) (A : Option Addr) (n : Nat) (l : List OpR) : Prop where
  len : l.length = n
  at_ : 0 < n → ∃ a, A = some a ∧ a.block < B ∧ ∀ i o, l[i]? = some o → OpAt w a i o
  ok : ∀ o ∈ l, OpOk o
theorem OpAt.same {w w' : World} {a : Addr} {i : Nat} {o : OpR} (h : OpAt w a i o) (hb : w'.heap[a.block]? = w.heap[a.block]?) : OpAt w' a i o := by
  have e : ∀ k, w'.cell? ⟨(a.add (i * 6)).block, (a.add (i * 6)).off + k, none⟩ = w.cell? ⟨(a.add (i * 6)).block, (a.add (i * 6)).off + k, none⟩ := fun k => World.cell?_of_block (by show w'.heap[(a.add (i * 6)).block]? = w.heap[(a.add (i * 6)).block]?; rw [adr_block]; exact hb)
  exact ⟨(World.cell?_of_block (by rw [adr_block]; exact hb)).trans h.c0, (e 1).trans h.c1, (e 2).trans h.c2, (e 3).trans h.c3, (e 4).trans h.c4, (e 5).trans h.c5⟩
theorem Ops.below {w w' : World} {B : Nat} {A : Option Addr} {n : Nat} {l : List OpR} (h : Ops w B A n l) (hb : Below B w w') : Ops w' B A n l :=
  ⟨h.len, fun hn => by
    obtain ⟨a, e, ha, hc⟩ := h.at_ hn
    exact ⟨a, e, ha, fun i o hi => (hc i o hi).same (hb.block _ ha)⟩, h.ok⟩

theorem str_data (s : ByteArray) : str s.data.toList = s := by simp [str]
end Pk
end Go.Proofs.YtbolcapgocjgcaaGreatDoor
