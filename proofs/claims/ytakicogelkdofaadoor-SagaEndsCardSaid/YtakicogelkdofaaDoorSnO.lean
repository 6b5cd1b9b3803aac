/- Events that came in. -/
import Derived.Test.YtakicogelkdofaaDoorSgO
namespace Go.Proofs.YtakicogelkdofaaDoor
set_option maxRecDepth 100000
open Go.ChangeShapes Go.WideShapes Go.ChangeAt Go.WideMaps Go.WideElems Go.RowKit
open Go.Proofs.YtakicogelkdofaaDoor.Pk (one_at one_free one_set lt_some grown_set adr_block)
namespace Sn

/-- An event as it stands in memory. -/
structure Evt where
  kind : Int
  n : Int
structure EvAt (w : World) (a : Addr) (i : Nat) (o : Evt) : Prop where
  c0 : w.cell? (a.add (i * 2)) = some (.int .i64 o.kind)
  c1 : w.cell? ⟨(a.add (i * 2)).block, (a.add (i * 2)).off + 1, none⟩ = some (.int .i64 o.n)
/-- A slice of events that came in. -/
structure Evs (w : World) (B : Nat) (A : Option Addr) (n : Nat) (l : List Evt) : Prop where
  len : l.length = n
  at_ : 0 < n → ∃ a, A = some a ∧ a.block < B ∧ ∀ i o, l[i]? = some o → EvAt w a i o
theorem EvAt.same {w w' : World} {a : Addr} {i : Nat} {o : Evt} (h : EvAt w a i o) (hb : w'.heap[a.block]? = w.heap[a.block]?) : EvAt w' a i o := by
  have e : ∀ k, w'.cell? ⟨(a.add (i * 2)).block, (a.add (i * 2)).off + k, none⟩ = w.cell? ⟨(a.add (i * 2)).block, (a.add (i * 2)).off + k, none⟩ := fun k => World.cell?_of_block (by show w'.heap[(a.add (i * 2)).block]? = w.heap[(a.add (i * 2)).block]?; rw [adr_block]; exact hb)
  exact ⟨(World.cell?_of_block (by rw [adr_block]; exact hb)).trans h.c0, (e 1).trans h.c1⟩
def Esrc (w : World) (v : Value) (l : List Evt) : Prop := ∃ A n c, v = .slice A n c ∧ n ≤ c ∧ c ≤ 9223372036854775807 ∧ Evs w w.heap.size A n l
theorem view_evs {H : Type} {enc : TypeId × Value → H} {W : World} {sp : Nat → Bool} {held : Bool} {v : Value} {d : DataW H} {p : List MemPlace} {r : Reach} {b0 : Nat}
    (hv : Value.okWide Tryd.prog W r b0 55 v) (h : DataW.Trod enc Tryd.prog W 0 sp held 55 v d p) : ∃ l, Esrc W v l := by
  obtain ⟨A, n, c, rfl⟩ := okWide_slice Tryd.underlying55 hv
  obtain ⟨fuel, hf⟩ := h
  have c28 : Tryd.prog.cellsOf 58 = 2 := by kernel_rfl
  have k3 : Tryd.prog.cellsOf 3 = 1 := by kernel_rfl
  rcases Go.Deep.open_slice Tryd.underlying55 hf with ⟨hcs, _⟩ | ⟨a, len, cap, m, fu, D, Pl, hcs, _, hl, hm, hmm, _, hi⟩
  · obtain ⟨rfl, rfl, rfl⟩ : A = none ∧ n = 0 ∧ c = 0 := by simpa [Value.cells] using hcs
    exact ⟨[], none, 0, 0, rfl, Nat.le_refl _, by omega, ⟨rfl, fun h => absurd h (by omega)⟩⟩
  · obtain ⟨rfl, rfl, rfl⟩ : A = some a ∧ n = len ∧ c = cap := by simpa [Value.cells] using hcs
    have hle : n ≤ m := by rw [hmm]; split <;> omega
    unfold maxLen at hm
    have one : ∀ i, i < n → ∃ o, EvAt W a i o := by
      intro i hin
      obtain ⟨cs', h1, h2⟩ := hi i (by omega)
      rw [c28] at h1
      obtain ⟨_, hlen, hat⟩ := World.cells?_some h1
      obtain ⟨xs, fn, _, _, _, hxl, hg⟩ := DataW.trod_struct Tryd.underlying58 h2
      match cs', hlen with
      | [x0, x1], _ =>
        have e0 : DataW.trod enc Tryd.prog W 0 sp held fn 3 (([x0, x1].drop 0).take (Tryd.prog.cellsOf 3)) = xs[0]? := hg 0 _ rfl
        rw [k3] at e0
        have e1 : DataW.trod enc Tryd.prog W 0 sp held fn 3 (([x0, x1].drop 1).take (Tryd.prog.cellsOf 3)) = xs[1]? := hg 1 _ rfl
        rw [k3] at e1
        have hx : ∀ j, j < 2 → ∃ y, xs[j]? = some y := fun j hj => ⟨_, List.getElem?_eq_getElem (by rw [hxl]; exact hj)⟩
        obtain ⟨y0, z0⟩ := hx 0 (by omega)
        obtain ⟨y1, z1⟩ := hx 1 (by omega)
        simp only [List.drop_zero, List.drop_succ_cons, List.take_succ_cons, List.take_zero] at e0 e1
        obtain ⟨m0, f0, _, _⟩ := DataW.trod_int Tryd.underlying3 (e0.trans z0)
        obtain ⟨m1, f1, _, _⟩ := DataW.trod_int Tryd.underlying3 (e1.trans z1)
        simp only [List.cons.injEq, and_true] at f0 f1
        refine ⟨⟨m0, m1⟩, ⟨?_, ?_⟩⟩
        · have := hat 0 (by omega); rw [Addr.add_zero'] at this; rw [this, f0]; rfl
        · have := hat 1 (by omega); rw [Addr.add_succ'] at this; rw [this, f1]; rfl
    have all : ∀ k, k ≤ n → ∃ l : List Evt, l.length = k ∧ (∀ i o, l[i]? = some o → EvAt W a i o) := by
      intro k
      induction k with
      | zero => intro _; exact ⟨[], rfl, fun i o h => by simp at h⟩
      | succ k ih =>
        intro hk
        obtain ⟨l, h1, h2⟩ := ih (by omega)
        obtain ⟨o, h4⟩ := one k (by omega)
        refine ⟨l ++ [o], by simp [h1], fun i o' hi => ?_⟩
        rw [List.getElem?_append] at hi
        split at hi
        · exact h2 i o' hi
        · rename_i hge
          have hi0 : i - l.length = 0 := by
            rcases Nat.eq_zero_or_pos (i - l.length) with e | e
            · exact e
            · rw [List.getElem?_eq_none (by simp; omega)] at hi; cases hi
          rw [hi0] at hi
          simp only [List.getElem?_cons_zero, Option.some.injEq] at hi
          subst hi
          obtain rfl : i = k := by omega
          exact h4
    obtain ⟨l, h1, h2⟩ := all n (Nat.le_refl _)
    refine ⟨l, some a, n, c, rfl, hl, by omega, ⟨h1, fun hn => ⟨a, rfl, ?_, h2⟩⟩⟩
    obtain ⟨o, h4⟩ := one 0 hn
    have := block_lt_of_cell h4.c0
    rwa [adr_block] at this
end Sn
end Go.Proofs.YtakicogelkdofaaDoor
