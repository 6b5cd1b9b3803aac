/- A slice of steps that came in. -/
import Derived.Test.YtpkjeplhdnbihaaRgG
namespace Go.Proofs.Ytpkjeplhdnbihaa
open Go.ChangeShapes Go.WideShapes Go.ChangeAt Go.WideMaps Go.WideElems Go.RowKit Go.Proofs.Ytpkjeplhdnbihaa.Pk
namespace Dk

/-- A step as it stands in memory. -/
structure Stp where
  kind : Int
  n : Int
  name : ByteArray
  to : ByteArray
  A : Option Addr
  m : Nat
  c : Nat
  bs : Bs
def Stp.cells (o : Stp) : Array Value := #[.int .i64 o.kind, .int .i64 o.n, .string o.name, .string o.to, .slice o.A o.m o.c]
structure StpAt (w : World) (a : Addr) (i : Nat) (o : Stp) : Prop where
  c0 : w.cell? (a.add (i * 5)) = some (.int .i64 o.kind)
  c1 : w.cell? ⟨(a.add (i * 5)).block, (a.add (i * 5)).off + 1, none⟩ = some (.int .i64 o.n)
  c2 : w.cell? ⟨(a.add (i * 5)).block, (a.add (i * 5)).off + 2, none⟩ = some (.string o.name)
  c3 : w.cell? ⟨(a.add (i * 5)).block, (a.add (i * 5)).off + 3, none⟩ = some (.string o.to)
  c4 : w.cell? ⟨(a.add (i * 5)).block, (a.add (i * 5)).off + 4, none⟩ = some (.slice o.A o.m o.c)
structure StpOk (w : World) (B : Nat) (o : Stp) : Prop where
  n1 : -9223372036854775808 ≤ o.n
  n2 : o.n ≤ 9223372036854775807
  s1 : o.name.size ≤ maxLen
  s2 : o.to.size ≤ maxLen
  mc : o.m ≤ o.c
  cm : o.c ≤ 9223372036854775807
  rb : Rb w (fun g => g < B) o.A o.m o.bs
/-- A slice of steps that came in. -/
structure Stps (w : World) (B : Nat) (A : Option Addr) (n : Nat) (l : List Stp) : Prop where
  len : l.length = n
  at_ : 0 < n → ∃ a, A = some a ∧ a.block < B ∧ ∀ i o, l[i]? = some o → StpAt w a i o
  ok : ∀ o ∈ l, StpOk w B o
theorem StpAt.same {w w' : World} {a : Addr} {i : Nat} {o : Stp} (h : StpAt w a i o) (hb : w'.heap[a.block]? = w.heap[a.block]?) : StpAt w' a i o := by
  have e : ∀ k, w'.cell? ⟨(a.add (i * 5)).block, (a.add (i * 5)).off + k, none⟩ = w.cell? ⟨(a.add (i * 5)).block, (a.add (i * 5)).off + k, none⟩ := fun k => World.cell?_of_block (by show w'.heap[(a.add (i * 5)).block]? = w.heap[(a.add (i * 5)).block]?; rw [adr_block]; exact hb)
  exact ⟨(World.cell?_of_block (by rw [adr_block]; exact hb)).trans h.c0, (e 1).trans h.c1, (e 2).trans h.c2, (e 3).trans h.c3, (e 4).trans h.c4⟩
theorem StpOk.below {w w' : World} {B : Nat} {o : Stp} (h : StpOk w B o) (hb : Below B w w') : StpOk w' B o :=
  ⟨h.n1, h.n2, h.s1, h.s2, h.mc, h.cm, h.rb.keep (fun g hg => hb.block g hg) (fun _ hg => hg)⟩
theorem Stps.below {w w' : World} {B : Nat} {A : Option Addr} {n : Nat} {l : List Stp} (h : Stps w B A n l) (hb : Below B w w') : Stps w' B A n l :=
  ⟨h.len, fun hn => by
    obtain ⟨a, e, ha, hc⟩ := h.at_ hn
    exact ⟨a, e, ha, fun i o hi => (hc i o hi).same (hb.block _ ha)⟩, fun o ho => (h.ok o ho).below hb⟩

theorem trod_bytes {H : Type} {enc : TypeId × Value → H} {W : World} {sp : Nat → Bool} {held : Bool} {fu : Nat} {u : Value} {y : DataW H × List MemPlace}
    (h2 : DataW.trod enc Try.prog W 0 sp held fu 31 [u] = some y) : ∃ A m c bs, u = .slice A m c ∧ m ≤ c ∧ c ≤ 9223372036854775807 ∧ Rb W (fun g => g < W.heap.size) A m bs := by
  have c5 : Try.prog.cellsOf 5 = 1 := by kernel_rfl
  rcases open_ints Try.underlying31 Try.underlying5 c5 h2 with ⟨hcs, _⟩ | ⟨b, len, cap, zs, hcs, _, hl, hm, hz, _, hcell, hwz⟩
  · have e : u = .slice none 0 0 := by simpa using hcs
    exact ⟨none, 0, 0, [], e, Nat.le_refl _, by omega, Rb.none_⟩
  · have e : u = .slice (some b) len cap := by simpa using hcs
    have hle : len ≤ zs.length := by rw [hz]; split <;> omega
    unfold maxLen at hm
    refine ⟨some b, len, cap, (zs.take len).map fun z => UInt8.ofNat z.toNat, e, hl, by omega, ⟨by simp; omega, fun hn => ⟨b, rfl, ?_, fun j x hj => ?_⟩⟩⟩
    · have := block_lt_of_cell (hcell 0 (by omega))
      rwa [adr_block] at this
    · rw [List.getElem?_map, List.getElem?_take] at hj
      split at hj
      · have hjz : j < zs.length := by omega
        rw [List.getElem?_eq_getElem hjz] at hj
        simp only [Option.map_some, Option.some.injEq] at hj
        have hw := bounds_u8 (hwz _ (List.getElem_mem hjz))
        rw [hcell j hjz, ← hj, ofNat_toNat (by omega), List.getD_eq_getElem?_getD, List.getElem?_eq_getElem hjz]
        simp only [Option.getD_some]
        congr 2
        omega
      · cases hj
theorem view_steps {H : Type} {enc : TypeId × Value → H} {W : World} {sp : Nat → Bool} {held : Bool} {v : Value} {d : DataW H} {p : List MemPlace} {r : Reach} {b0 : Nat}
    (hv : Value.okWide Try.prog W r b0 22 v) (h : DataW.Trod enc Try.prog W 0 sp held 22 v d p) : ∃ A n c l, v = .slice A n c ∧ n ≤ c ∧ c ≤ 9223372036854775807 ∧ Stps W W.heap.size A n l := by
  obtain ⟨A, n, c, rfl⟩ := okWide_slice Try.underlying22 hv
  obtain ⟨fuel, hf⟩ := h
  have c28 : Try.prog.cellsOf 33 = 5 := by kernel_rfl
  have k3 : Try.prog.cellsOf 3 = 1 := by kernel_rfl
  have k9 : Try.prog.cellsOf 9 = 1 := by kernel_rfl
  have k5 : Try.prog.cellsOf 31 = 1 := by kernel_rfl
  rcases Go.Deep.open_slice Try.underlying22 hf with ⟨hcs, _⟩ | ⟨a, len, cap, m, fu, D, Pl, hcs, _, hl, hm, hmm, _, hi⟩
  · obtain ⟨rfl, rfl, rfl⟩ : A = none ∧ n = 0 ∧ c = 0 := by simpa [Value.cells] using hcs
    exact ⟨none, 0, 0, [], rfl, Nat.le_refl _, by omega, ⟨rfl, fun h => absurd h (by omega), fun o h => by cases h⟩⟩
  · obtain ⟨rfl, rfl, rfl⟩ : A = some a ∧ n = len ∧ c = cap := by simpa [Value.cells] using hcs
    have hle : n ≤ m := by rw [hmm]; split <;> omega
    unfold maxLen at hm
    have one : ∀ i, i < n → ∃ o, StpAt W a i o ∧ StpOk W W.heap.size o := by
      intro i hin
      obtain ⟨cs', h1, h2⟩ := hi i (by omega)
      rw [c28] at h1
      obtain ⟨_, hlen, hat⟩ := World.cells?_some h1
      obtain ⟨xs, fn, _, _, _, hxl, hg⟩ := DataW.trod_struct Try.underlying33 h2
      match cs', hlen with
      | [x0, x1, x2, x3, x4], _ =>
        have e0 : DataW.trod enc Try.prog W 0 sp held fn 3 (([x0, x1, x2, x3, x4].drop 0).take (Try.prog.cellsOf 3)) = xs[0]? := hg 0 _ rfl
        rw [k3] at e0
        have e1 : DataW.trod enc Try.prog W 0 sp held fn 3 (([x0, x1, x2, x3, x4].drop 1).take (Try.prog.cellsOf 3)) = xs[1]? := hg 1 _ rfl
        rw [k3] at e1
        have e2 : DataW.trod enc Try.prog W 0 sp held fn 9 (([x0, x1, x2, x3, x4].drop 2).take (Try.prog.cellsOf 9)) = xs[2]? := hg 2 _ rfl
        rw [k9] at e2
        have e3 : DataW.trod enc Try.prog W 0 sp held fn 9 (([x0, x1, x2, x3, x4].drop 3).take (Try.prog.cellsOf 9)) = xs[3]? := hg 3 _ rfl
        rw [k9] at e3
        have e4 : DataW.trod enc Try.prog W 0 sp held fn 31 (([x0, x1, x2, x3, x4].drop 4).take (Try.prog.cellsOf 31)) = xs[4]? := hg 4 _ rfl
        rw [k5] at e4
        have hx : ∀ j, j < 5 → ∃ y, xs[j]? = some y := fun j hj => ⟨_, List.getElem?_eq_getElem (by rw [hxl]; exact hj)⟩
        obtain ⟨y0, z0⟩ := hx 0 (by omega)
        obtain ⟨y1, z1⟩ := hx 1 (by omega)
        obtain ⟨y2, z2⟩ := hx 2 (by omega)
        obtain ⟨y3, z3⟩ := hx 3 (by omega)
        obtain ⟨y4, z4⟩ := hx 4 (by omega)
        simp only [List.drop_zero, List.drop_succ_cons, List.take_succ_cons, List.take_zero] at e0 e1 e2 e3 e4
        obtain ⟨m0, f0, _, _⟩ := DataW.trod_int Try.underlying3 (e0.trans z0)
        obtain ⟨m1, f1, _, w1⟩ := DataW.trod_int Try.underlying3 (e1.trans z1)
        obtain ⟨m2, f2, _, w2⟩ := DataW.trod_string Try.underlying9 (e2.trans z2)
        obtain ⟨m3, f3, _, w3⟩ := DataW.trod_string Try.underlying9 (e3.trans z3)
        obtain ⟨A4, m4, c4, b4, f4, u1, u2, u3⟩ := trod_bytes (e4.trans z4)
        simp only [List.cons.injEq, and_true] at f0 f1 f2 f3
        have b := bounds_i64 w1
        refine ⟨⟨m0, m1, m2, m3, A4, m4, c4, b4⟩, ⟨?_, ?_, ?_, ?_, ?_⟩, ⟨b.1, b.2, w2, w3, u1, u2, u3⟩⟩
        · have := hat 0 (by omega); rw [Addr.add_zero'] at this; rw [this, f0]; rfl
        · have := hat 1 (by omega); rw [Addr.add_succ'] at this; rw [this, f1]; rfl
        · have := hat 2 (by omega); rw [Addr.add_succ'] at this; rw [this, f2]; rfl
        · have := hat 3 (by omega); rw [Addr.add_succ'] at this; rw [this, f3]; rfl
        · have := hat 4 (by omega); rw [Addr.add_succ'] at this; rw [this, f4]; rfl
    have all : ∀ k, k ≤ n → ∃ l : List Stp, l.length = k ∧ (∀ i o, l[i]? = some o → StpAt W a i o) ∧ ∀ o ∈ l, StpOk W W.heap.size o := by
      intro k
      induction k with
      | zero => intro _; exact ⟨[], rfl, fun i o h => by simp at h, fun o h => by cases h⟩
      | succ k ih =>
        intro hk
        obtain ⟨l, h1, h2, h3⟩ := ih (by omega)
        obtain ⟨o, h4, h5⟩ := one k (by omega)
        refine ⟨l ++ [o], by simp [h1], fun i o' hi => ?_, fun o' ho => ?_⟩
        · rw [List.getElem?_append] at hi
          split at hi
          · exact h2 i o' hi
          · rename_i hge
            have hi0 : i - l.length = 0 := by
              rcases Nat.eq_zero_or_pos (i - l.length) with e | e
              · exact e
              · rw [List.getElem?_eq_none (by simp; omega)] at hi; cases hi
            rw [hi0] at hi
            simp only [List.getElem?_cons_zero, Option.some.injEq] at hi
            subst hi
            obtain rfl : i = k := by omega
            exact h4
        · rcases List.mem_append.1 ho with h | h
          · exact h3 o' h
          · rw [List.mem_singleton.1 h]; exact h5
    obtain ⟨l, h1, h2, h3⟩ := all n (Nat.le_refl _)
    refine ⟨some a, n, c, l, rfl, hl, by omega, ⟨h1, fun hn => ⟨a, rfl, ?_, h2⟩, h3⟩⟩
    obtain ⟨o, h4, _⟩ := one 0 hn
    have := block_lt_of_cell h4.c0
    rwa [adr_block] at this
end Dk
end Go.Proofs.Ytpkjeplhdnbihaa
