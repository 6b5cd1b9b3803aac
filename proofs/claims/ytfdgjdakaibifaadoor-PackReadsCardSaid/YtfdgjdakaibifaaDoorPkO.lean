/- What comes in: a slice of bytes, a slice of things (Op) as the statements have them. -/
import Derived.Test.YtfdgjdakaibifaaDoorPkL
import Derived.Deep.Slices
import Derived.Carry
namespace Go.Proofs.YtfdgjdakaibifaaDoor
open Go.ChangeShapes Go.WideShapes Go.ChangeAt Go.WideMaps Go.WideElems Go.RowKit
namespace Pk

theorem laidOut : laidOutB Tryd.prog = true := by kernel_rfl

/-- A slice of bytes that came in reads as a list of bytes. -/
def Src (w : World) (v : Value) (bs : List UInt8) : Prop := ∃ A n c, v = .slice A n c ∧ (A = none → c = 0) ∧ n ≤ c ∧ c ≤ 9223372036854775807 ∧ Rb w (fun g => g < w.heap.size) A n bs
theorem view_bytes {H : Type} {enc : TypeId × Value → H} {W : World} {sp : Nat → Bool} {held : Bool} {v : Value} {d : DataW H} {p : List MemPlace} {r : Reach} {b0 : Nat}
    (hv : Value.okWide Tryd.prog W r b0 34 v) (h : DataW.Trod enc Tryd.prog W 0 sp held 34 v d p) : ∃ bs, Src W v bs := by
  obtain ⟨A, n, c, rfl⟩ := okWide_slice Tryd.underlying34 hv
  obtain ⟨fuel, hf⟩ := h
  have c5 : Tryd.prog.cellsOf 5 = 1 := by kernel_rfl
  rcases open_ints Tryd.underlying34 Tryd.underlying5 c5 hf with ⟨hcs, _⟩ | ⟨a, len, cap, zs, hcs, _, hl, hm, hz, _, hcell, hwz⟩
  · obtain ⟨rfl, rfl, rfl⟩ : A = none ∧ n = 0 ∧ c = 0 := by simpa [Value.cells] using hcs
    exact ⟨[], none, 0, 0, rfl, fun _ => rfl, Nat.le_refl _, by omega, Rb.none_⟩
  · obtain ⟨rfl, rfl, rfl⟩ : A = some a ∧ n = len ∧ c = cap := by simpa [Value.cells] using hcs
    have hle : n ≤ zs.length := by rw [hz]; split <;> omega
    unfold maxLen at hm
    refine ⟨(zs.take n).map fun z => UInt8.ofNat z.toNat, some a, n, c, rfl, (fun e => by cases e), hl, by omega, ⟨by simp; omega, fun hn => ⟨a, rfl, ?_, fun j x hj => ?_⟩⟩⟩
    · have := block_lt_of_cell (hcell 0 (by omega))
      rwa [adr_block] at this
    · rw [List.getElem?_map, List.getElem?_take] at hj
      split at hj
      · have hjz : j < zs.length := by omega
        rw [List.getElem?_eq_getElem hjz] at hj
        simp only [Option.map_some, Option.some.injEq] at hj
        have hw := bounds_u8 (hwz _ (List.getElem_mem hjz))
        rw [hcell j hjz, ← hj, ofNat_toNat (by omega), List.getD_eq_getElem?_getD, List.getElem?_eq_getElem hjz]
        simp only [Option.getD_some]
        congr 2
        omega
      · cases hj

/-- A thing that is put, or asked. -/
structure OpR where
  kind : Int
  n : Int
  s : List UInt8
  lo : Int
  hi : Int
  most : Int
structure OpAt (w : World) (a : Addr) (i : Nat) (o : OpR) : Prop where
  c0 : w.cell? (a.add (i * 6)) = some (.int .i64 o.kind)
  c1 : w.cell? ⟨(a.add (i * 6)).block, (a.add (i * 6)).off + 1, none⟩ = some (.int .i64 o.n)
  c2 : w.cell? ⟨(a.add (i * 6)).block, (a.add (i * 6)).off + 2, none⟩ = some (.string (str o.s))
  c3 : w.cell? ⟨(a.add (i * 6)).block, (a.add (i * 6)).off + 3, none⟩ = some (.int .i64 o.lo)
  c4 : w.cell? ⟨(a.add (i * 6)).block, (a.add (i * 6)).off + 4, none⟩ = some (.int .i64 o.hi)
  c5 : w.cell? ⟨(a.add (i * 6)).block, (a.add (i * 6)).off + 5, none⟩ = some (.int .i64 o.most)
structure OpOk (o : OpR) : Prop where
  n1 : -9223372036854775808 ≤ o.n
  n2 : o.n ≤ 9223372036854775807
  len : o.s.length ≤ 9223372036854775807
/-- A slice of things that came in. -/
structure Ops (w : World) (B : Nat) (A : Option Addr) (n : Nat) (l : List OpR) : Prop where
  len : l.length = n
  at_ : 0 < n → ∃ a, A = some a ∧ a.block < B ∧ ∀ i o, l[i]? = some o → OpAt w a i o
  ok : ∀ o ∈ l, OpOk o
theorem OpAt.same {w w' : World} {a : Addr} {i : Nat} {o : OpR} (h : OpAt w a i o) (hb : w'.heap[a.block]? = w.heap[a.block]?) : OpAt w' a i o := by
  have e : ∀ k, w'.cell? ⟨(a.add (i * 6)).block, (a.add (i * 6)).off + k, none⟩ = w.cell? ⟨(a.add (i * 6)).block, (a.add (i * 6)).off + k, none⟩ := fun k => World.cell?_of_block (by show w'.heap[(a.add (i * 6)).block]? = w.heap[(a.add (i * 6)).block]?; rw [adr_block]; exact hb)
  exact ⟨(World.cell?_of_block (by rw [adr_block]; exact hb)).trans h.c0, (e 1).trans h.c1, (e 2).trans h.c2, (e 3).trans h.c3, (e 4).trans h.c4, (e 5).trans h.c5⟩
theorem Ops.below {w w' : World} {B : Nat} {A : Option Addr} {n : Nat} {l : List OpR} (h : Ops w B A n l) (hb : Below B w w') : Ops w' B A n l :=
  ⟨h.len, fun hn => by
    obtain ⟨a, e, ha, hc⟩ := h.at_ hn
    exact ⟨a, e, ha, fun i o hi => (hc i o hi).same (hb.block _ ha)⟩, h.ok⟩

theorem str_data (s : ByteArray) : str s.data.toList = s := by simp [str]
theorem view_ops {H : Type} {enc : TypeId × Value → H} {W : World} {sp : Nat → Bool} {held : Bool} {v : Value} {d : DataW H} {p : List MemPlace} {r : Reach} {b0 : Nat}
    (hv : Value.okWide Tryd.prog W r b0 22 v) (h : DataW.Trod enc Tryd.prog W 0 sp held 22 v d p) : ∃ A n c l, v = .slice A n c ∧ n ≤ c ∧ c ≤ 9223372036854775807 ∧ Ops W W.heap.size A n l := by
  obtain ⟨A, n, c, rfl⟩ := okWide_slice Tryd.underlying22 hv
  obtain ⟨fuel, hf⟩ := h
  have c28 : Tryd.prog.cellsOf 28 = 6 := by kernel_rfl
  have k3 : Tryd.prog.cellsOf 3 = 1 := by kernel_rfl
  have k2 : Tryd.prog.cellsOf 2 = 1 := by kernel_rfl
  have k9 : Tryd.prog.cellsOf 9 = 1 := by kernel_rfl
  rcases Go.Deep.open_slice Tryd.underlying22 hf with ⟨hcs, _⟩ | ⟨a, len, cap, m, fu, D, Pl, hcs, _, hl, hm, hmm, _, hi⟩
  · obtain ⟨rfl, rfl, rfl⟩ : A = none ∧ n = 0 ∧ c = 0 := by simpa [Value.cells] using hcs
    exact ⟨none, 0, 0, [], rfl, Nat.le_refl _, by omega, ⟨rfl, fun h => absurd h (by omega), fun o h => by cases h⟩⟩
  · obtain ⟨rfl, rfl, rfl⟩ : A = some a ∧ n = len ∧ c = cap := by simpa [Value.cells] using hcs
    have hle : n ≤ m := by rw [hmm]; split <;> omega
    unfold maxLen at hm
    have one : ∀ i, i < n → ∃ o, OpAt W a i o ∧ OpOk o := by
      intro i hin
      obtain ⟨cs', h1, h2⟩ := hi i (by omega)
      rw [c28] at h1
      obtain ⟨_, hlen, hat⟩ := World.cells?_some h1
      obtain ⟨xs, fn, _, _, _, hxl, hg⟩ := DataW.trod_struct Tryd.underlying28 h2
      match cs', hlen with
      | [x0, x1, x2, x3, x4, x5], _ =>
        have e0 : DataW.trod enc Tryd.prog W 0 sp held fn 3 (([x0, x1, x2, x3, x4, x5].drop 0).take (Tryd.prog.cellsOf 3)) = xs[0]? := hg 0 _ rfl
        rw [k3] at e0
        have e1 : DataW.trod enc Tryd.prog W 0 sp held fn 2 (([x0, x1, x2, x3, x4, x5].drop 1).take (Tryd.prog.cellsOf 2)) = xs[1]? := hg 1 _ rfl
        rw [k2] at e1
        have e2 : DataW.trod enc Tryd.prog W 0 sp held fn 9 (([x0, x1, x2, x3, x4, x5].drop 2).take (Tryd.prog.cellsOf 9)) = xs[2]? := hg 2 _ rfl
        rw [k9] at e2
        have e3 : DataW.trod enc Tryd.prog W 0 sp held fn 2 (([x0, x1, x2, x3, x4, x5].drop 3).take (Tryd.prog.cellsOf 2)) = xs[3]? := hg 3 _ rfl
        rw [k2] at e3
        have e4 : DataW.trod enc Tryd.prog W 0 sp held fn 2 (([x0, x1, x2, x3, x4, x5].drop 4).take (Tryd.prog.cellsOf 2)) = xs[4]? := hg 4 _ rfl
        rw [k2] at e4
        have e5 : DataW.trod enc Tryd.prog W 0 sp held fn 3 (([x0, x1, x2, x3, x4, x5].drop 5).take (Tryd.prog.cellsOf 3)) = xs[5]? := hg 5 _ rfl
        rw [k3] at e5
        have hx : ∀ j, j < 6 → ∃ y, xs[j]? = some y := fun j hj => ⟨_, List.getElem?_eq_getElem (by rw [hxl]; exact hj)⟩
        obtain ⟨y0, z0⟩ := hx 0 (by omega)
        obtain ⟨y1, z1⟩ := hx 1 (by omega)
        obtain ⟨y2, z2⟩ := hx 2 (by omega)
        obtain ⟨y3, z3⟩ := hx 3 (by omega)
        obtain ⟨y4, z4⟩ := hx 4 (by omega)
        obtain ⟨y5, z5⟩ := hx 5 (by omega)
        obtain ⟨m0, f0, _, _⟩ := DataW.trod_int Tryd.underlying3 (e0.trans z0)
        obtain ⟨m1, f1, _, w1⟩ := DataW.trod_int Tryd.underlying2 (e1.trans z1)
        obtain ⟨m2, f2, _, w2⟩ := DataW.trod_string Tryd.underlying9 (e2.trans z2)
        obtain ⟨m3, f3, _, _⟩ := DataW.trod_int Tryd.underlying2 (e3.trans z3)
        obtain ⟨m4, f4, _, _⟩ := DataW.trod_int Tryd.underlying2 (e4.trans z4)
        obtain ⟨m5, f5, _, _⟩ := DataW.trod_int Tryd.underlying3 (e5.trans z5)
        simp only [List.drop_zero, List.drop_succ_cons, List.take_succ_cons, List.take_zero, List.cons.injEq, and_true] at f0 f1 f2 f3 f4 f5
        have b := bounds_i64 w1
        unfold maxLen at w2
        refine ⟨⟨m0, m1, m2.data.toList, m3, m4, m5⟩, ⟨?_, ?_, ?_, ?_, ?_, ?_⟩, ⟨b.1, b.2, by simpa using w2⟩⟩
        · have := hat 0 (by omega); rw [Addr.add_zero'] at this; rw [this, f0]; rfl
        · have := hat 1 (by omega); rw [Addr.add_succ'] at this; rw [this, f1]; rfl
        · have := hat 2 (by omega); rw [Addr.add_succ'] at this; rw [this, f2, str_data]; rfl
        · have := hat 3 (by omega); rw [Addr.add_succ'] at this; rw [this, f3]; rfl
        · have := hat 4 (by omega); rw [Addr.add_succ'] at this; rw [this, f4]; rfl
        · have := hat 5 (by omega); rw [Addr.add_succ'] at this; rw [this, f5]; rfl
    have all : ∀ k, k ≤ n → ∃ l : List OpR, l.length = k ∧ (∀ i o, l[i]? = some o → OpAt W a i o) ∧ ∀ o ∈ l, OpOk o := by
      intro k
      induction k with
      | zero => intro _; exact ⟨[], rfl, fun i o h => by simp at h, fun o h => by cases h⟩
      | succ k ih =>
        intro hk
        obtain ⟨l, h1, h2, h3⟩ := ih (by omega)
        obtain ⟨o, h4, h5⟩ := one k (by omega)
        refine ⟨l ++ [o], by simp [h1], fun i o' hi => ?_, fun o' ho => ?_⟩
        · rw [List.getElem?_append] at hi
          split at hi
          · exact h2 i o' hi
          · rename_i hge
            have hi0 : i - l.length = 0 := by
              rcases Nat.eq_zero_or_pos (i - l.length) with e | e
              · exact e
              · rw [List.getElem?_eq_none (by simp; omega)] at hi; cases hi
            rw [hi0] at hi
            simp only [List.getElem?_cons_zero, Option.some.injEq] at hi
            subst hi
            obtain rfl : i = k := by omega
            exact h4
        · rcases List.mem_append.1 ho with h | h
          · exact h3 o' h
          · rw [List.mem_singleton.1 h]; exact h5
    obtain ⟨l, h1, h2, h3⟩ := all n (Nat.le_refl _)
    refine ⟨some a, n, c, l, rfl, hl, by omega, ⟨h1, fun hn => ⟨a, rfl, ?_, h2⟩, h3⟩⟩
    obtain ⟨o, h4, _⟩ := one 0 hn
    have := block_lt_of_cell h4.c0
    rwa [adr_block] at this
end Pk
end Go.Proofs.YtfdgjdakaibifaaDoor
