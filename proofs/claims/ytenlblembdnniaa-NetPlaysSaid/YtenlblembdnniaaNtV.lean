/- For NetPlays: steps that came in. -/
import Derived.Test.YtenlblembdnniaaNtU
namespace Go.Proofs.Ytenlblembdnniaa
set_option maxRecDepth 100000
open Go.ChangeShapes Go.WideShapes Go.ChangeAt Go.WideMaps Go.WideElems Go.RowKit
open Go.Proofs.Ytenlblembdnniaa.Pk (Rb adr_block ofNat_toNat)
namespace Nt

/-- A step as it stands in memory. -/
structure Stp where
  kind : Int
  fr : Int
  to_ : Int
  k : Int
  A : Option Addr
  m : Nat
  c : Nat
  bs : List UInt8
  up : Bool
def Stp.cells (o : Stp) : Array Value := #[.int .i64 o.kind, .int .i64 o.fr, .int .i64 o.to_, .int .i64 o.k, .slice o.A o.m o.c, .bool o.up]
structure OpAt (w : World) (a : Addr) (i : Nat) (o : Stp) : Prop where
  c0 : w.cell? (a.add (i * 6)) = some (.int .i64 o.kind)
  c1 : w.cell? ⟨(a.add (i * 6)).block, (a.add (i * 6)).off + 1, none⟩ = some (.int .i64 o.fr)
  c2 : w.cell? ⟨(a.add (i * 6)).block, (a.add (i * 6)).off + 2, none⟩ = some (.int .i64 o.to_)
  c3 : w.cell? ⟨(a.add (i * 6)).block, (a.add (i * 6)).off + 3, none⟩ = some (.int .i64 o.k)
  c4 : w.cell? ⟨(a.add (i * 6)).block, (a.add (i * 6)).off + 4, none⟩ = some (.slice o.A o.m o.c)
  c5 : w.cell? ⟨(a.add (i * 6)).block, (a.add (i * 6)).off + 5, none⟩ = some (.bool o.up)
structure OpOk (w : World) (B : Nat) (o : Stp) : Prop where
  mc : o.m ≤ o.c
  cm : o.c ≤ 9223372036854775807
  nil_ : o.A = none → o.c = 0
  rb : Rb w (fun g => g < B) o.A o.m o.bs
/-- A slice of steps that came in. -/
structure Ops (w : World) (B : Nat) (A : Option Addr) (n : Nat) (l : List Stp) : Prop where
  len : l.length = n
  at_ : 0 < n → ∃ a, A = some a ∧ a.block < B ∧ ∀ i o, l[i]? = some o → OpAt w a i o
  ok : ∀ o ∈ l, OpOk w B o
theorem OpAt.same {w w' : World} {a : Addr} {i : Nat} {o : Stp} (h : OpAt w a i o) (hb : w'.heap[a.block]? = w.heap[a.block]?) : OpAt w' a i o := by
  have e : ∀ k, w'.cell? ⟨(a.add (i * 6)).block, (a.add (i * 6)).off + k, none⟩ = w.cell? ⟨(a.add (i * 6)).block, (a.add (i * 6)).off + k, none⟩ := fun k => World.cell?_of_block (by show w'.heap[(a.add (i * 6)).block]? = w.heap[(a.add (i * 6)).block]?; rw [adr_block]; exact hb)
  exact ⟨(World.cell?_of_block (by rw [adr_block]; exact hb)).trans h.c0, (e 1).trans h.c1, (e 2).trans h.c2, (e 3).trans h.c3, (e 4).trans h.c4, (e 5).trans h.c5⟩
def Osrc (w : World) (v : Value) (l : List Stp) : Prop := ∃ A n c, v = .slice A n c ∧ n ≤ c ∧ c ≤ 9223372036854775807 ∧ Ops w w.heap.size A n l
theorem bu8 {x : Int} (h : (Lit.int .u8 x).wf = true) : 0 ≤ x ∧ x < 256 := by
  simp [Lit.wf, IntKind.min, IntKind.max, IntKind.signed, IntKind.bits] at h
  omega
theorem trod_bytes {H : Type} {enc : TypeId × Value → H} {W : World} {sp : Nat → Bool} {held : Bool} {fu : Nat} {u : Value} {y : DataW H × List MemPlace}
    (h2 : DataW.trod enc Try.prog W 0 sp held fu 32 [u] = some y) : ∃ A m c bs, u = .slice A m c ∧ m ≤ c ∧ c ≤ 9223372036854775807 ∧ (A = none → c = 0) ∧ Rb W (fun g => g < W.heap.size) A m bs := by
  have c5 : Try.prog.cellsOf 5 = 1 := by kernel_rfl
  rcases open_ints Try.underlying32 Try.underlying5 c5 h2 with ⟨hcs, _⟩ | ⟨b, len, cap, zs, hcs, _, hl, hm, hz, _, hcell, hwz⟩
  · have e : u = .slice none 0 0 := by simpa using hcs
    exact ⟨none, 0, 0, [], e, Nat.le_refl _, by omega, fun _ => rfl, Rb.none_⟩
  · have e : u = .slice (some b) len cap := by simpa using hcs
    have hle : len ≤ zs.length := by rw [hz]; split <;> omega
    unfold maxLen at hm
    refine ⟨some b, len, cap, (zs.take len).map fun z => UInt8.ofNat z.toNat, e, hl, by omega, (fun h => by cases h), ⟨by simp; omega, fun hn => ⟨b, rfl, ?_, fun j x hj => ?_⟩⟩⟩
    · have := lt_of_cell (hcell 0 (by omega))
      rwa [adr_block] at this
    · rw [List.getElem?_map, List.getElem?_take] at hj
      split at hj
      · have hjz : j < zs.length := by omega
        rw [List.getElem?_eq_getElem hjz] at hj
        simp only [Option.map_some, Option.some.injEq] at hj
        have hw := bu8 (hwz _ (List.getElem_mem hjz))
        rw [hcell j hjz, ← hj, ofNat_toNat (by omega), List.getD_eq_getElem?_getD, List.getElem?_eq_getElem hjz]
        simp only [Option.getD_some]
        congr 2
        omega
      · cases hj
theorem view_ops {H : Type} {enc : TypeId × Value → H} {W : World} {sp : Nat → Bool} {held : Bool} {v : Value} {d : DataW H} {p : List MemPlace} {r : Reach} {b0 : Nat}
    (hv : Value.okWide Try.prog W r b0 22 v) (h : DataW.Trod enc Try.prog W 0 sp held 22 v d p) : ∃ l, Osrc W v l := by
  obtain ⟨A, n, c, rfl⟩ := okWide_slice Try.underlying22 hv
  obtain ⟨fuel, hf⟩ := h
  have c28 : Try.prog.cellsOf 34 = 6 := by kernel_rfl
  have k3 : Try.prog.cellsOf 3 = 1 := by kernel_rfl
  have k4 : Try.prog.cellsOf 4 = 1 := by kernel_rfl
  have k5 : Try.prog.cellsOf 32 = 1 := by kernel_rfl
  rcases Go.Deep.open_slice Try.underlying22 hf with ⟨hcs, _⟩ | ⟨a, len, cap, m, fu, D, Pl, hcs, _, hl, hm, hmm, _, hi⟩
  · obtain ⟨rfl, rfl, rfl⟩ : A = none ∧ n = 0 ∧ c = 0 := by simpa [Value.cells] using hcs
    exact ⟨[], none, 0, 0, rfl, Nat.le_refl _, by omega, ⟨rfl, fun h => absurd h (by omega), fun o h => by cases h⟩⟩
  · obtain ⟨rfl, rfl, rfl⟩ : A = some a ∧ n = len ∧ c = cap := by simpa [Value.cells] using hcs
    have hle : n ≤ m := by rw [hmm]; split <;> omega
    unfold maxLen at hm
    have one : ∀ i, i < n → ∃ o, OpAt W a i o ∧ OpOk W W.heap.size o := by
      intro i hin
      obtain ⟨cs', h1, h2⟩ := hi i (by omega)
      rw [c28] at h1
      obtain ⟨_, hlen, hat⟩ := World.cells?_some h1
      obtain ⟨xs, fn, _, _, _, hxl, hg⟩ := DataW.trod_struct Try.underlying34 h2
      match cs', hlen with
      | [x0, x1, x2, x3, x4, x5], _ =>
        have e0 : DataW.trod enc Try.prog W 0 sp held fn 3 (([x0, x1, x2, x3, x4, x5].drop 0).take (Try.prog.cellsOf 3)) = xs[0]? := hg 0 _ rfl
        rw [k3] at e0
        have e1 : DataW.trod enc Try.prog W 0 sp held fn 3 (([x0, x1, x2, x3, x4, x5].drop 1).take (Try.prog.cellsOf 3)) = xs[1]? := hg 1 _ rfl
        rw [k3] at e1
        have e2 : DataW.trod enc Try.prog W 0 sp held fn 3 (([x0, x1, x2, x3, x4, x5].drop 2).take (Try.prog.cellsOf 3)) = xs[2]? := hg 2 _ rfl
        rw [k3] at e2
        have e3 : DataW.trod enc Try.prog W 0 sp held fn 3 (([x0, x1, x2, x3, x4, x5].drop 3).take (Try.prog.cellsOf 3)) = xs[3]? := hg 3 _ rfl
        rw [k3] at e3
        have e4 : DataW.trod enc Try.prog W 0 sp held fn 32 (([x0, x1, x2, x3, x4, x5].drop 4).take (Try.prog.cellsOf 32)) = xs[4]? := hg 4 _ rfl
        rw [k5] at e4
        have e5 : DataW.trod enc Try.prog W 0 sp held fn 4 (([x0, x1, x2, x3, x4, x5].drop 5).take (Try.prog.cellsOf 4)) = xs[5]? := hg 5 _ rfl
        rw [k4] at e5
        have hx : ∀ j, j < 6 → ∃ y, xs[j]? = some y := fun j hj => ⟨_, List.getElem?_eq_getElem (by rw [hxl]; exact hj)⟩
        obtain ⟨y0, z0⟩ := hx 0 (by omega)
        obtain ⟨y1, z1⟩ := hx 1 (by omega)
        obtain ⟨y2, z2⟩ := hx 2 (by omega)
        obtain ⟨y3, z3⟩ := hx 3 (by omega)
        obtain ⟨y4, z4⟩ := hx 4 (by omega)
        obtain ⟨y5, z5⟩ := hx 5 (by omega)
        simp only [List.drop_zero, List.drop_succ_cons, List.take_succ_cons, List.take_zero] at e0 e1 e2 e3 e4 e5
        obtain ⟨m0, f0, _, _⟩ := DataW.trod_int Try.underlying3 (e0.trans z0)
        obtain ⟨m1, f1, _, _⟩ := DataW.trod_int Try.underlying3 (e1.trans z1)
        obtain ⟨m2, f2, _, _⟩ := DataW.trod_int Try.underlying3 (e2.trans z2)
        obtain ⟨m3, f3, _, _⟩ := DataW.trod_int Try.underlying3 (e3.trans z3)
        obtain ⟨A4, m4, c4, b4, f4, u1, u2, u4, u3⟩ := trod_bytes (e4.trans z4)
        obtain ⟨m5, f5, _⟩ := DataW.trod_bool Try.underlying4 (e5.trans z5)
        simp only [List.cons.injEq, and_true] at f0 f1 f2 f3 f5
        refine ⟨⟨m0, m1, m2, m3, A4, m4, c4, b4, m5⟩, ⟨?_, ?_, ?_, ?_, ?_, ?_⟩, ⟨u1, u2, u4, u3⟩⟩
        · have := hat 0 (by omega); rw [Addr.add_zero'] at this; rw [this, f0]; rfl
        · have := hat 1 (by omega); rw [Addr.add_succ'] at this; rw [this, f1]; rfl
        · have := hat 2 (by omega); rw [Addr.add_succ'] at this; rw [this, f2]; rfl
        · have := hat 3 (by omega); rw [Addr.add_succ'] at this; rw [this, f3]; rfl
        · have := hat 4 (by omega); rw [Addr.add_succ'] at this; rw [this, f4]; rfl
        · have := hat 5 (by omega); rw [Addr.add_succ'] at this; rw [this, f5]; rfl
    have all : ∀ k, k ≤ n → ∃ l : List Stp, l.length = k ∧ (∀ i o, l[i]? = some o → OpAt W a i o) ∧ ∀ o ∈ l, OpOk W W.heap.size o := by
      intro k
      induction k with
      | zero => intro _; exact ⟨[], rfl, fun i o h => by simp at h, fun o h => by cases h⟩
      | succ k ih =>
        intro hk
        obtain ⟨l, h1, h2, h3⟩ := ih (by omega)
        obtain ⟨o, h4, h5⟩ := one k (by omega)
        refine ⟨l ++ [o], by simp [h1], fun i o' hi => ?_, fun o' ho => ?_⟩
        · rw [List.getElem?_append] at hi
          split at hi
          · exact h2 i o' hi
          · rename_i hge
            have hi0 : i - l.length = 0 := by
              rcases Nat.eq_zero_or_pos (i - l.length) with e | e
              · exact e
              · rw [List.getElem?_eq_none (by simp; omega)] at hi; cases hi
            rw [hi0] at hi
            simp only [List.getElem?_cons_zero, Option.some.injEq] at hi
            subst hi
            obtain rfl : i = k := by omega
            exact h4
        · rcases List.mem_append.1 ho with h | h
          · exact h3 o' h
          · rw [List.mem_singleton.1 h]; exact h5
    obtain ⟨l, h1, h2, h3⟩ := all n (Nat.le_refl _)
    refine ⟨l, some a, n, c, rfl, hl, by omega, ⟨h1, fun hn => ⟨a, rfl, ?_, h2⟩, h3⟩⟩
    obtain ⟨o, h4, _⟩ := one 0 hn
    have := lt_of_cell h4.c0
    rwa [adr_block] at this
end Nt
end Go.Proofs.Ytenlblembdnniaa
