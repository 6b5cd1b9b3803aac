/- Proved: behind a crash the state is the last one that was saved, the records are a beginning of those since, with all that were synced (SealKeeps), for any steps, any bytes that stay, the package's table being as the program's text lays it. -/
import Derived.Test.YtbolcapgocjgcaaDoorSeQ
import Derived.Lib.QuietBelow
import Derived.Test.YtbolcapgocjgcaaDoorCards
import Derived.Test.YtbolcapgocjgcaaDoorTie
namespace Go.Proofs.YtbolcapgocjgcaaDoor
set_option maxRecDepth 100000
open Go.ChangeShapes Go.WideShapes Go.ChangeAt Go.WideMaps Go.WideElems Go.RowKit Go.Proofs.YtbolcapgocjgcaaDoor.Pk
namespace Se
open Go.Proofs.YtbolcapgocjgcaaDoor.Dk (Bs)
open Go.Proofs.YtbolcapgocjgcaaDoor.Fr (Txts Ti)

/-- A step as it stands in memory. -/
structure Stp where
  kind : Int
  n : Int
  A : Option Addr
  m : Nat
  c : Nat
  bs : Bs
  Al : Option Addr
  nl : Nat
  cl : Nat
  l : List Bs
def Stp.cells (o : Stp) : Array Value := #[.int .i64 o.kind, .int .i64 o.n, .slice o.A o.m o.c, .slice o.Al o.nl o.cl]
structure StpAt (w : World) (a : Addr) (i : Nat) (o : Stp) : Prop where
  c0 : w.cell? (a.add (i * 4)) = some (.int .i64 o.kind)
  c1 : w.cell? ⟨(a.add (i * 4)).block, (a.add (i * 4)).off + 1, none⟩ = some (.int .i64 o.n)
  c2 : w.cell? ⟨(a.add (i * 4)).block, (a.add (i * 4)).off + 2, none⟩ = some (.slice o.A o.m o.c)
  c3 : w.cell? ⟨(a.add (i * 4)).block, (a.add (i * 4)).off + 3, none⟩ = some (.slice o.Al o.nl o.cl)
structure StpOk (w : World) (B : Nat) (o : Stp) : Prop where
  n1 : -9223372036854775808 ≤ o.n
  n2 : o.n ≤ 9223372036854775807
  mc : o.m ≤ o.c
  cm : o.c ≤ 9223372036854775807
  rb : Rb w (fun g => g < B) o.A o.m o.bs
  lc : o.nl ≤ o.cl
  ul : o.cl ≤ 9223372036854775807
  tx : Txts w B o.Al o.nl o.l
/-- A slice of steps that came in. -/
structure Stps (w : World) (B : Nat) (A : Option Addr) (n : Nat) (l : List Stp) : Prop where
  len : l.length = n
  at_ : 0 < n → ∃ a, A = some a ∧ a.block < B ∧ ∀ i o, l[i]? = some o → StpAt w a i o
  ok : ∀ o ∈ l, StpOk w B o
theorem StpAt.same {w w' : World} {a : Addr} {i : Nat} {o : Stp} (h : StpAt w a i o) (hb : w'.heap[a.block]? = w.heap[a.block]?) : StpAt w' a i o := by
  have e : ∀ k, w'.cell? ⟨(a.add (i * 4)).block, (a.add (i * 4)).off + k, none⟩ = w.cell? ⟨(a.add (i * 4)).block, (a.add (i * 4)).off + k, none⟩ := fun k => World.cell?_of_block (by show w'.heap[(a.add (i * 4)).block]? = w.heap[(a.add (i * 4)).block]?; rw [adr_block]; exact hb)
  exact ⟨(World.cell?_of_block (by rw [adr_block]; exact hb)).trans h.c0, (e 1).trans h.c1, (e 2).trans h.c2, (e 3).trans h.c3⟩
theorem StpOk.below {w w' : World} {B : Nat} {o : Stp} (h : StpOk w B o) (hb : Below B w w') : StpOk w' B o :=
  ⟨h.n1, h.n2, h.mc, h.cm, h.rb.keep (fun g hg => hb.block g hg) (fun _ hg => hg), h.lc, h.ul, h.tx.below hb⟩
theorem Stps.below {w w' : World} {B : Nat} {A : Option Addr} {n : Nat} {l : List Stp} (h : Stps w B A n l) (hb : Below B w w') : Stps w' B A n l :=
  ⟨h.len, fun hn => by
    obtain ⟨a, e, ha, hc⟩ := h.at_ hn
    exact ⟨a, e, ha, fun i o hi => (hc i o hi).same (hb.block _ ha)⟩, fun o ho => (h.ok o ho).below hb⟩

theorem trod_bytes {H : Type} {enc : TypeId × Value → H} {W : World} {sp : Nat → Bool} {held : Bool} {fu : Nat} {u : Value} {y : DataW H × List MemPlace}
    (h2 : DataW.trod enc Tryd.prog W 0 sp held fu 31 [u] = some y) : ∃ A m c bs, u = .slice A m c ∧ m ≤ c ∧ c ≤ 9223372036854775807 ∧ Rb W (fun g => g < W.heap.size) A m bs := by
  have c5 : Tryd.prog.cellsOf 5 = 1 := by kernel_rfl
  rcases open_ints Tryd.underlying31 Tryd.underlying5 c5 h2 with ⟨hcs, _⟩ | ⟨b, len, cap, zs, hcs, _, hl, hm, hz, _, hcell, hwz⟩
  · have e : u = .slice none 0 0 := by simpa using hcs
    exact ⟨none, 0, 0, [], e, Nat.le_refl _, by omega, Rb.none_⟩
  · have e : u = .slice (some b) len cap := by simpa using hcs
    have hle : len ≤ zs.length := by rw [hz]; split <;> omega
    unfold maxLen at hm
    refine ⟨some b, len, cap, (zs.take len).map fun z => UInt8.ofNat z.toNat, e, hl, by omega, ⟨by simp; omega, fun hn => ⟨b, rfl, ?_, fun j x hj => ?_⟩⟩⟩
    · have := block_lt_of_cell (hcell 0 (by omega))
      rwa [adr_block] at this
    · rw [List.getElem?_map, List.getElem?_take] at hj
      split at hj
      · have hjz : j < zs.length := by omega
        rw [List.getElem?_eq_getElem hjz] at hj
        simp only [Option.map_some, Option.some.injEq] at hj
        have hw := bounds_u8 (hwz _ (List.getElem_mem hjz))
        rw [hcell j hjz, ← hj, ofNat_toNat (by omega), List.getD_eq_getElem?_getD, List.getElem?_eq_getElem hjz]
        simp only [Option.getD_some]
        congr 2
        omega
      · cases hj
theorem trod_texts {H : Type} {enc : TypeId × Value → H} {W : World} {sp : Nat → Bool} {held : Bool} {fu : Nat} {u : Value} {d : DataW H × List MemPlace}
    (hf : DataW.trod enc Tryd.prog W 0 sp held fu 27 [u] = some d) : ∃ A n c l, u = .slice A n c ∧ n ≤ c ∧ c ≤ 9223372036854775807 ∧ Txts W W.heap.size A n l := by
  have c22 : Tryd.prog.cellsOf 31 = 1 := by kernel_rfl
  have c5 : Tryd.prog.cellsOf 5 = 1 := by kernel_rfl
  rcases Go.Deep.open_slice1 Tryd.underlying27 c22 hf with ⟨hcs, _⟩ | ⟨a, n, c, m, fu, V, D, Pl, hcs, _, hl, hm, hmm, _, hi⟩
  · have e : u = .slice none 0 0 := by simpa using hcs
    exact ⟨none, 0, 0, [], e, Nat.le_refl _, by omega, ⟨rfl, fun h => absurd h (by omega)⟩⟩
  · have e : u = .slice (some a) n c := by simpa using hcs
    have hle : n ≤ m := by rw [hmm]; split <;> omega
    unfold maxLen at hm
    have one : ∀ i, i < n → ∃ r, Ti W W.heap.size r (V i) := by
      intro i hin
      obtain ⟨_, h2⟩ := hi i (by omega)
      rcases open_ints Tryd.underlying31 Tryd.underlying5 c5 h2 with ⟨hcs, _⟩ | ⟨b, len, cap, zs, hcs, _, hl, hm, hz, _, hcell, hwz⟩
      · have e : V i = .slice none 0 0 := by simpa using hcs
        exact ⟨[], none, 0, e, fun _ => rfl, Nat.le_refl _, by omega, Rb.none_⟩
      · have e : V i = .slice (some b) len cap := by simpa using hcs
        have hle : len ≤ zs.length := by rw [hz]; split <;> omega
        unfold maxLen at hm
        have hlen : ((zs.take len).map fun z => UInt8.ofNat z.toNat).length = len := by simp; omega
        refine ⟨(zs.take len).map fun z => UInt8.ofNat z.toNat, some b, cap, by rw [hlen]; exact e, (fun e => by cases e), by rw [hlen]; exact hl, by omega, ⟨rfl, fun hn => ⟨b, rfl, ?_, fun j x hj => ?_⟩⟩⟩
        · have := block_lt_of_cell (hcell 0 (by omega))
          rwa [adr_block] at this
        · rw [List.getElem?_map, List.getElem?_take] at hj
          split at hj
          · have hjz : j < zs.length := by omega
            rw [List.getElem?_eq_getElem hjz] at hj
            simp only [Option.map_some, Option.some.injEq] at hj
            have hw := bounds_u8 (hwz _ (List.getElem_mem hjz))
            rw [hcell j hjz, ← hj, ofNat_toNat (by omega), List.getD_eq_getElem?_getD, List.getElem?_eq_getElem hjz]
            simp only [Option.getD_some]
            congr 2
            omega
          · cases hj
    have all : ∀ k, k ≤ n → ∃ l : List (List UInt8), l.length = k ∧ ∀ (i : Nat) (r : List UInt8), l[i]? = some r → Ti W W.heap.size r (V i) := by
      intro k
      induction k with
      | zero => intro _; exact ⟨[], rfl, fun i o h => by simp at h⟩
      | succ k ih =>
        intro hk
        obtain ⟨l, h1, h2⟩ := ih (by omega)
        obtain ⟨o, h4⟩ := one k (by omega)
        refine ⟨l ++ [o], by simp [h1], fun i o' hi => ?_⟩
        rw [List.getElem?_append] at hi
        split at hi
        · exact h2 i o' hi
        · rename_i hge
          have hi0 : i - l.length = 0 := by
            rcases Nat.eq_zero_or_pos (i - l.length) with e | e
            · exact e
            · rw [List.getElem?_eq_none (by simp; omega)] at hi; cases hi
          rw [hi0] at hi
          simp only [List.getElem?_cons_zero, Option.some.injEq] at hi
          subst hi
          obtain rfl : i = k := by omega
          exact h4
    obtain ⟨l, h1, h2⟩ := all n (Nat.le_refl _)
    refine ⟨some a, n, c, l, e, hl, by omega, ⟨h1, fun hn => ⟨a, rfl, ?_, fun i r hir => ?_⟩⟩⟩
    · have := block_lt_of_cell (hi 0 (by omega)).1
      rwa [adr_block] at this
    · have hin : i < n := by rw [← h1]; exact (List.getElem?_eq_some_iff.1 hir).1
      exact ⟨V i, (hi i (by omega)).1, h2 i r hir⟩

theorem view_steps {H : Type} {enc : TypeId × Value → H} {W : World} {sp : Nat → Bool} {held : Bool} {v : Value} {d : DataW H} {p : List MemPlace} {r : Reach} {b0 : Nat}
    (hv : Value.okWide Tryd.prog W r b0 22 v) (h : DataW.Trod enc Tryd.prog W 0 sp held 22 v d p) : ∃ A n c l, v = .slice A n c ∧ n ≤ c ∧ c ≤ 9223372036854775807 ∧ Stps W W.heap.size A n l := by
  obtain ⟨A, n, c, rfl⟩ := okWide_slice Tryd.underlying22 hv
  obtain ⟨fuel, hf⟩ := h
  have c28 : Tryd.prog.cellsOf 33 = 4 := by kernel_rfl
  have k3 : Tryd.prog.cellsOf 3 = 1 := by kernel_rfl
  have k9 : Tryd.prog.cellsOf 27 = 1 := by kernel_rfl
  have k5 : Tryd.prog.cellsOf 31 = 1 := by kernel_rfl
  rcases Go.Deep.open_slice Tryd.underlying22 hf with ⟨hcs, _⟩ | ⟨a, len, cap, m, fu, D, Pl, hcs, _, hl, hm, hmm, _, hi⟩
  · obtain ⟨rfl, rfl, rfl⟩ : A = none ∧ n = 0 ∧ c = 0 := by simpa [Value.cells] using hcs
    exact ⟨none, 0, 0, [], rfl, Nat.le_refl _, by omega, ⟨rfl, fun h => absurd h (by omega), fun o h => by cases h⟩⟩
  · obtain ⟨rfl, rfl, rfl⟩ : A = some a ∧ n = len ∧ c = cap := by simpa [Value.cells] using hcs
    have hle : n ≤ m := by rw [hmm]; split <;> omega
    unfold maxLen at hm
    have one : ∀ i, i < n → ∃ o, StpAt W a i o ∧ StpOk W W.heap.size o := by
      intro i hin
      obtain ⟨cs', h1, h2⟩ := hi i (by omega)
      rw [c28] at h1
      obtain ⟨_, hlen, hat⟩ := World.cells?_some h1
      obtain ⟨xs, fn, _, _, _, hxl, hg⟩ := DataW.trod_struct Tryd.underlying33 h2
      match cs', hlen with
      | [x0, x1, x2, x3], _ =>
        have e0 : DataW.trod enc Tryd.prog W 0 sp held fn 3 (([x0, x1, x2, x3].drop 0).take (Tryd.prog.cellsOf 3)) = xs[0]? := hg 0 _ rfl
        rw [k3] at e0
        have e1 : DataW.trod enc Tryd.prog W 0 sp held fn 3 (([x0, x1, x2, x3].drop 1).take (Tryd.prog.cellsOf 3)) = xs[1]? := hg 1 _ rfl
        rw [k3] at e1
        have e2 : DataW.trod enc Tryd.prog W 0 sp held fn 31 (([x0, x1, x2, x3].drop 2).take (Tryd.prog.cellsOf 31)) = xs[2]? := hg 2 _ rfl
        rw [k5] at e2
        have e3 : DataW.trod enc Tryd.prog W 0 sp held fn 27 (([x0, x1, x2, x3].drop 3).take (Tryd.prog.cellsOf 27)) = xs[3]? := hg 3 _ rfl
        rw [k9] at e3
        have hx : ∀ j, j < 4 → ∃ y, xs[j]? = some y := fun j hj => ⟨_, List.getElem?_eq_getElem (by rw [hxl]; exact hj)⟩
        obtain ⟨y0, z0⟩ := hx 0 (by omega)
        obtain ⟨y1, z1⟩ := hx 1 (by omega)
        obtain ⟨y2, z2⟩ := hx 2 (by omega)
        obtain ⟨y3, z3⟩ := hx 3 (by omega)
        simp only [List.drop_zero, List.drop_succ_cons, List.take_succ_cons, List.take_zero] at e0 e1 e2 e3
        obtain ⟨m0, f0, _, _⟩ := DataW.trod_int Tryd.underlying3 (e0.trans z0)
        obtain ⟨m1, f1, _, w1⟩ := DataW.trod_int Tryd.underlying3 (e1.trans z1)
        obtain ⟨A2, m2, c2, b2, f2, u1, u2, u3⟩ := trod_bytes (e2.trans z2)
        obtain ⟨A3, m3, c3, b3, f3, t1, t2, t3⟩ := trod_texts (e3.trans z3)
        simp only [List.cons.injEq, and_true] at f0 f1
        have b := Dk.bounds_i64 w1
        refine ⟨⟨m0, m1, A2, m2, c2, b2, A3, m3, c3, b3⟩, ⟨?_, ?_, ?_, ?_⟩, ⟨b.1, b.2, u1, u2, u3, t1, t2, t3⟩⟩
        · have := hat 0 (by omega); rw [Addr.add_zero'] at this; rw [this, f0]; rfl
        · have := hat 1 (by omega); rw [Addr.add_succ'] at this; rw [this, f1]; rfl
        · have := hat 2 (by omega); rw [Addr.add_succ'] at this; rw [this, f2]; rfl
        · have := hat 3 (by omega); rw [Addr.add_succ'] at this; rw [this, f3]; rfl
    have all : ∀ k, k ≤ n → ∃ l : List Stp, l.length = k ∧ (∀ i o, l[i]? = some o → StpAt W a i o) ∧ ∀ o ∈ l, StpOk W W.heap.size o := by
      intro k
      induction k with
      | zero => intro _; exact ⟨[], rfl, fun i o h => by simp at h, fun o h => by cases h⟩
      | succ k ih =>
        intro hk
        obtain ⟨l, h1, h2, h3⟩ := ih (by omega)
        obtain ⟨o, h4, h5⟩ := one k (by omega)
        refine ⟨l ++ [o], by simp [h1], fun i o' hi => ?_, fun o' ho => ?_⟩
        · rw [List.getElem?_append] at hi
          split at hi
          · exact h2 i o' hi
          · rename_i hge
            have hi0 : i - l.length = 0 := by
              rcases Nat.eq_zero_or_pos (i - l.length) with e | e
              · exact e
              · rw [List.getElem?_eq_none (by simp; omega)] at hi; cases hi
            rw [hi0] at hi
            simp only [List.getElem?_cons_zero, Option.some.injEq] at hi
            subst hi
            obtain rfl : i = k := by omega
            exact h4
        · rcases List.mem_append.1 ho with h | h
          · exact h3 o' h
          · rw [List.mem_singleton.1 h]; exact h5
    obtain ⟨l, h1, h2, h3⟩ := all n (Nat.le_refl _)
    refine ⟨some a, n, c, l, rfl, hl, by omega, ⟨h1, fun hn => ⟨a, rfl, ?_, h2⟩, h3⟩⟩
    obtain ⟨o, h4, _⟩ := one 0 hn
    have := block_lt_of_cell h4.c0
    rwa [adr_block] at this
end Se
end Go.Proofs.YtbolcapgocjgcaaDoor

namespace Go.Proofs.YtbolcapgocjgcaaDoor
set_option maxRecDepth 100000
open Go.RowKit
open Go.Proofs.YtbolcapgocjgcaaDoor.Pk
namespace Se
open Go.Proofs.YtbolcapgocjgcaaDoor.Dk (Bs)
open Go.Proofs.YtbolcapgocjgcaaDoor.Fr (Txts Ti)

def Few (o : Stp) : Prop := o.m ≤ 100 ∧ o.nl ≤ 6 ∧ ∀ r ∈ o.l, r.length ≤ 100
def FwAt (o : Stp) (i : Value) : Prop := ∃ k : Nat, i = .int .i64 k ∧ k ≤ o.nl ∧ ∀ r ∈ o.l.take k, r.length ≤ 100
def FewTo (w : World) (o : Stp) (e : Ending) (w' : World) : Prop := ∃ b, e = .returned (.bool b) ∧ (b = true → Few o) ∧ Below w.heap.size w w'
set_option maxHeartbeats 1600000 in
theorem few_any (w : World) (o : Stp) (B : Nat) (h : StpOk w B o) (hB : B ≤ w.heap.size) :
    Calls Tryd.prog 9 #[.agg #[.int .i64 o.kind, .int .i64 o.n, .slice o.A o.m o.c, .slice o.Al o.nl o.cl]] w (FewTo w o) := by
  have hm : o.m ≤ 9223372036854775807 := by have := h.mc; have := h.cm; omega
  have hn : o.nl ≤ 9223372036854775807 := by have := h.lc; have := h.ul; omega
  have hl := h.tx.len
  obtain ⟨w1, hw1⟩ : ∃ z, z = w.alloc (.cells #[.int .i64 o.kind, .int .i64 o.n, .slice o.A o.m o.c, .slice o.Al o.nl o.cl] 33) := ⟨_, rfl⟩
  have b1 : Hid (Below w.heap.size w w1) := by rw [hw1]; exact (Below.refl _ _).alloc (Nat.le_refl _) _
  have hp : w1.heap[w.heap.size]? = some (.cells #[.int .i64 o.kind, .int .i64 o.n, .slice o.A o.m o.c, .slice o.Al o.nl o.cl] 33 (0, 0)) := by rw [hw1]; exact heap_alloc_new _ _
  have k2 : w1.cell? ⟨w.heap.size, 2, none⟩ = some (.slice o.A o.m o.c) := Pk.one_at hp
  have k3 : w1.cell? ⟨w.heap.size, 3, none⟩ = some (.slice o.Al o.nl o.cl) := Pk.one_at hp
  have P : Hid (∀ k r, o.l[k]? = some r → ∃ ad Ai ci, o.Al = some ad ∧ w1.cell? (ad.add k) = some (.slice Ai r.length ci)) := fun k r hk => by
    have hlt : k < o.l.length := (List.getElem?_eq_some_iff.1 hk).1
    obtain ⟨ad, ha, hab, h2⟩ := h.tx.at_ (by omega)
    obtain ⟨u, hu, Ai, ci, e, _⟩ := h2 k r hk
    exact ⟨ad, Ai, ci, ha, ((b1.out.mono hB).cell (p := ad.add k) (by rw [adr_block]; exact hab)).trans (by rw [hu, e])⟩
  obtain ⟨L, hL⟩ : ∃ z, z = o.l := ⟨_, rfl⟩
  have FD : Hid (Few o ↔ o.m ≤ 100 ∧ o.nl ≤ 6 ∧ ∀ r ∈ L, r.length ≤ 100) := by rw [hL]; exact Iff.rfl
  rw [← hL] at P hl
  have stt : Hid (FwAt ⟨o.kind, o.n, o.A, o.m, o.c, o.bs, o.Al, o.nl, o.cl, L⟩ (.int .i64 0)) := ⟨0, rfl, Nat.zero_le _, (fun r hr => by simp at hr)⟩
  obtain ⟨kind, n, A, m, c, bs, Al, nl, cl, l⟩ := o
  simp only at hL hm hn hl hw1 hp k2 k3 P FD stt ⊢
  clear h hp hL
  by_cases hz : m ≤ 100
  · have d1 : decide ((100 : Int) < (m : Int)) = false := decide_eq_false (by omega)
    by_cases hz2 : nl ≤ 6
    · have d2 : decide ((6 : Int) < (nl : Int)) = false := decide_eq_false (by omega)
      go_enter Tryd.func9, Tryd.ntmps9
      go_upto_region 1 with (fail)
      rw [← hw1]
      clear hw1
      go_wp2_with fail
      go_loop [3] (fun i => FwAt ⟨kind, n, A, m, c, bs, Al, nl, cl, L⟩ i) (fun i => nl - (intOf i).toNat)
      case atStart => exact stt.out
      case round =>
        obtain ⟨k, rfl, hk, hok⟩ := hrel
        simp only at hk hok
        by_cases hlt : k < nl
        · obtain ⟨r, hr⟩ : ∃ r, L[k]? = some r := ⟨_, List.getElem?_eq_getElem (by omega)⟩
          obtain ⟨ad, Ai, ci, rfl, hc⟩ := P.out k r hr
          by_cases h2 : r.length ≤ 100
          · have e2 : decide ((100 : Int) < (r.length : Int)) = false := decide_eq_false (by omega)
            have nx : Hid (FwAt ⟨kind, n, A, m, c, bs, some ad, nl, cl, L⟩ (.int .i64 ((k : Int) + 1))) := ⟨k + 1, by simp, hlt, fun x hx => by
              have hx2 : x ∈ L.take k ++ [r] := by
                have e3 : L.take (k + 1) = L.take k ++ [r] := by rw [List.take_add_one, hr]; rfl
                rw [← e3]; exact hx
              rcases List.mem_append.1 hx2 with hx | hx
              · exact hok x hx
              · rw [List.mem_singleton.1 hx]; exact h2⟩
            clear hr h2 hok
            go_wp2
            exact ⟨nx.out, by simp [intOf]; omega⟩
          · have e2 : decide ((100 : Int) < (r.length : Int)) = true := decide_eq_true (by omega)
            clear hr h2 hok
            go_wp2
            go_ret
            exact ⟨_, rfl, fun h => (by cases h), b1.out⟩
        · obtain rfl : k = nl := by omega
          rw [List.take_of_length_le (by omega)] at hok
          have F : Hid (Few ⟨kind, n, A, m, c, bs, Al, k, cl, l⟩) := FD.out.2 ⟨hz, hz2, hok⟩
          clear hok FD
          go_wp2
          go_ret
          exact ⟨_, rfl, fun _ => F.out, b1.out⟩
    · have d2 : decide ((6 : Int) < (nl : Int)) = true := decide_eq_true (by omega)
      go_enter Tryd.func9, Tryd.ntmps9
      go_upto_region 1 with (fail)
      rw [← hw1]
      clear hw1
      go_wp2
      go_ret
      exact ⟨_, rfl, fun h => (by cases h), b1.out⟩
  · have d1 : decide ((100 : Int) < (m : Int)) = true := decide_eq_true (by omega)
    go_enter Tryd.func9, Tryd.ntmps9
    go_upto_region 1 with (fail)
    rw [← hw1]
    clear hw1
    go_wp2
    go_ret
    exact ⟨_, rfl, fun h => (by cases h), b1.out⟩
end Se
end Go.Proofs.YtbolcapgocjgcaaDoor

namespace Go.Proofs.YtbolcapgocjgcaaDoor.sealKeeps
set_option maxRecDepth 100000
open Go.ChangeShapes Go.WideShapes Go.ChangeAt Go.WideElems Go.RowKit
open Go.Proofs.YtbolcapgocjgcaaDoor.Pk Go.Proofs.YtbolcapgocjgcaaDoor.Se
open Go.Proofs.YtbolcapgocjgcaaDoor.Dk (Bs Live LTo nm used sCrash sApp sSync rb_lit below_alloc)
open Go.Proofs.YtbolcapgocjgcaaDoor.Fr (frames frame Txts view_texts)

/-- So many of the records are synced. -/
def SyOk (a : Ab) (n : Nat) : Prop := n ≤ a.rc.length ∧ (n = 0 ∨ (cnt a.g (some (a.rc.take n))).length ≤ a.sy)
structure Sk (a : Ab) (k : Nat) : Prop where
  ok : a.Ok
  g : a.g ≤ k
  st : ∀ r ∈ a.st, 1 ≤ r.length ∧ r.length ≤ 100
  st6 : a.st.length ≤ 6
  rc : ∀ r ∈ a.rc, 1 ≤ r.length ∧ r.length ≤ 100
  rck : a.rc.length ≤ k
theorem put_rc (a : Ab) (b : Bs) : (a.put b).rc = a.rc ++ [b] := rfl
theorem SyOk.put {a : Ab} {n : Nat} (h : SyOk a n) (b : Bs) : SyOk (a.put b) n := by
  refine ⟨by rw [put_rc]; simp; have := h.1; omega, ?_⟩
  rcases h.2 with h2 | h2
  · exact .inl h2
  · refine .inr ?_
    rw [put_rc, List.take_append_of_le_length h.1]
    exact h2
theorem SyOk.sync (a : Ab) : SyOk a.sync a.rc.length := by
  refine ⟨by rw [sync_rc]; exact Nat.le_refl _, ?_⟩
  rw [sync_rc, List.take_of_length_le (Nat.le_refl _), sync_sy, sync_con]
  unfold Ab.rc
  cases e : a.con with
  | none => exact .inl rfl
  | some l => exact .inr (Nat.le_refl _)
theorem SyOk.save (a : Ab) (st : List Bs) : SyOk (a.save st) 0 := ⟨Nat.zero_le _, .inl rfl⟩
theorem SyOk.zero (a : Ab) : SyOk a 0 := ⟨Nat.zero_le _, .inl rfl⟩
theorem Sk.used {a : Ab} {k : Nat} (h : Sk a k) (hk : k ≤ 50) : Dk.used a.L ≤ 10000 := by
  rw [Ab.used_eq]
  have h1 : (a.snp.getD []).length ≤ 700 := by
    have hs := h.st
    have h1 := h.st6
    unfold Ab.st at hs h1
    unfold Ab.snp
    cases e : a.s with
    | none => exact Nat.zero_le _
    | some st =>
      rw [e] at hs h1
      simp only [Option.getD] at hs h1
      have := cnt_le (g := a.g) (M := 100) (by have := h.g; omega) hs
      have h3 : st.length * (100 + 6) ≤ 6 * 106 := Nat.mul_le_mul_right _ h1
      show (cnt a.g (some st)).length ≤ _
      omega
  have h2 : (cnt a.g a.con).length ≤ 6000 := by
    have hs := h.rc
    have h1 := h.rck
    unfold Ab.rc at hs h1
    cases e : a.con with
    | none => exact Nat.zero_le _
    | some l =>
      rw [e] at hs h1
      simp only [Option.getD] at hs h1
      have := cnt_le (g := a.g) (M := 100) (by have := h.g; omega) hs
      have h3 : l.length * (100 + 6) ≤ 50 * 106 := Nat.mul_le_mul_right _ (by omega)
      omega
  omega
theorem Sk.mono {a : Ab} {k m : Nat} (h : Sk a k) (hk : k ≤ m) : Sk a m := ⟨h.ok, by have := h.g; omega, h.st, h.st6, h.rc, by have := h.rck; omega⟩
theorem Sk.put {a : Ab} {k : Nat} (h : Sk a k) {b : Bs} (h1 : 1 ≤ b.length) (h2 : b.length ≤ 100) : Sk (a.put b) (k + 1) :=
  ⟨h.ok.put (by omega), by show a.g ≤ _; have := h.g; omega, h.st, h.st6, (by
    intro r hr
    rw [put_rc] at hr
    rcases List.mem_append.1 hr with hr | hr
    · exact h.rc r hr
    · rw [List.mem_singleton.1 hr]; exact ⟨h1, h2⟩), by rw [put_rc]; simp; exact h.rck⟩
theorem Sk.sync {a : Ab} {k : Nat} (h : Sk a k) : Sk a.sync k := ⟨h.ok.sync, h.g, h.st, h.st6, (by rw [sync_rc]; exact h.rc), (by rw [sync_rc]; exact h.rck)⟩
theorem Sk.save {a : Ab} {k : Nat} (h : Sk a k) (hk : k ≤ 50) {st : List Bs} (h1 : ∀ r ∈ st, 1 ≤ r.length ∧ r.length ≤ 100) (h2 : st.length ≤ 6) : Sk (a.save st) (k + 1) :=
  ⟨Ab.save_ok (fun r hr => by have := h1 r hr; omega) (by have := h.g; omega), by show a.g + 1 ≤ _; have := h.g; omega, h1, h2, (by rw [save_rc]; intro r hr; cases hr), (by rw [save_rc]; exact Nat.zero_le _)⟩
theorem Sk.pfits {a : Ab} {k : Nat} (h : Sk a k) (hk : k ≤ 50) {b : Bs} (hb : b.length ≤ 100) : Dk.used a.L + a.cost b ≤ 1000000 := by
  have h1 := h.used hk
  have h2 := (enc_ok a.g (by have := h.g; omega)).2
  have h3 : a.cost b ≤ (Pk.encI a.g).length + 6 + (b.length + 6) := by
    unfold Ab.cost
    split
    · exact Nat.le_refl _
    · omega
  omega
theorem Sk.sfits {a : Ab} {k : Nat} (h : Sk a k) (hk : k ≤ 50) {st : List Bs} (h1 : ∀ r ∈ st, 1 ≤ r.length ∧ r.length ≤ 100) (h2 : st.length ≤ 6) : Dk.used a.L + (cnt (a.g + 1) (some st)).length ≤ 1000000 := by
  have h3 := h.used hk
  have h4 := cnt_le (g := a.g + 1) (M := 100) (by have := h.g; omega) h1
  have h5 : st.length * (100 + 6) ≤ 6 * 106 := Nat.mul_le_mul_right _ h2
  omega
theorem sk0 : Sk ab0 0 := ⟨ab0_ok, Nat.le_refl _, (fun r hr => by cases hr), Nat.zero_le _, (fun r hr => by cases hr), Nat.zero_le _⟩
/-- Behind a crash, and Open. -/
theorem ke_crash {a : Ab} {k n : Nat} (h : Sk a k) (keep : Int) (hn : SyOk a n) : ∃ a' : Ab, pOpen (sCrash keep a.L) = (a'.L, a.st, a'.rc) ∧ Sk a' k ∧ a'.st = a.st ∧ a'.rc.length ≤ a.rc.length ∧ a'.rc = a.rc.take a'.rc.length ∧ n ≤ a'.rc.length := by
  obtain ⟨c, h1, h2, h3, h4, h5⟩ := h.ok.crash_open keep
  obtain ⟨a', ha'⟩ : ∃ z, z = (⟨a.g, a.s, a.lg.map fun _ => (c, (cnt a.g c).length)⟩ : Ab) := ⟨_, rfl⟩
  have hcon : a'.con = c := by
    rw [ha']
    unfold Ab.con
    cases e : a.lg with
    | none => rw [h3 e]; rfl
    | some x => rfl
  have hrc : a'.rc = c.getD [] := by unfold Ab.rc; rw [hcon]
  have hst : a'.st = a.st := by rw [ha']; rfl
  have hg : a'.g = a.g := by rw [ha']
  have htake : ∃ j, j ≤ a.rc.length ∧ a'.rc = a.rc.take j := by
    rw [hrc]
    rcases h2 with h2 | ⟨j, hj, h2⟩
    · exact ⟨0, Nat.zero_le _, by rw [h2]; rfl⟩
    · exact ⟨j, hj, by rw [h2]; rfl⟩
  obtain ⟨j, hj, hjt⟩ := htake
  have hjl : a'.rc.length = j := by rw [hjt, List.length_take]; omega
  have hsub : ∀ r ∈ a'.rc, r ∈ a.rc := fun r hr => by rw [hjt] at hr; exact List.mem_of_mem_take hr
  have hsy : a'.sy ≤ (cnt a'.g a'.con).length := by
    rw [hcon, hg, ha']
    unfold Ab.sy
    cases a.lg with
    | none => exact Nat.zero_le _
    | some x => exact Nat.le_refl _
  refine ⟨a', ?_, ⟨⟨by rw [ha']; exact h.ok.none_, by rw [hg]; exact h.ok.g, by rw [hst]; exact h.ok.st, fun r hr => h.ok.rc r (hsub r hr), hsy⟩, by rw [hg]; exact h.g, by rw [hst]; exact h.st, by rw [hst]; exact h.st6, fun r hr => h.rc r (hsub r hr), by have := h.rck; omega⟩, hst, by omega, by rw [hjl]; exact hjt, ?_⟩
  · rw [h1, hrc, ha']
  · rcases hn.2 with h0 | h0
    · omega
    · by_cases hc : a.con = none
      · have : a.rc.length = 0 := by unfold Ab.rc; rw [hc]; rfl
        have := hn.1
        omega
      · rw [hrc]
        exact h5 n hn.1 hc (by omega)
theorem slices_run (A : Option Addr) (n c k : Nat) (hA : A = none → c = 0) (hk : k ≤ c) (W : World) : (Instr.slice 30 (.slice A n c) none (some (.int .i64 (k : Int))) none).run Tryd.prog W = .ok (.slice A k c) W := by
  rw [run_slice_h W 30 A n c (by kernel_rfl) .i64 (k : Int) (by omega) (by omega)]
  have e : (sizeOf (Tryd.prog.elem 30)).run Tryd.prog W = .ok 1 W := by kernel_rfl
  rw [e]
  simp only [Result.andThen, sliced]
  cases A with
  | none =>
    have := hA rfl
    simp
  | some a => by_cases hc : c = 0 <;> simp [hc, Addr.add]

theorem lr_txts {W : World} {B : Nat} {A : Option Addr} {n c : Nat} {l : List Bs} (h : Txts W B A n l) (hB : B ≤ W.heap.size) : Fr.Lr W (.slice A n c) l := by
  refine ⟨A, c, by rw [h.len], fun hn => ?_⟩
  obtain ⟨a, ha, hab, h2⟩ := h.at_ (by have := h.len; omega)
  refine ⟨a, ha, Nat.lt_of_lt_of_le hab hB, fun i r hi => ?_⟩
  obtain ⟨u, hu, Ai, ci, e, _, _, _, hR⟩ := h2 i r hi
  exact ⟨Ai, ci, by rw [hu, e], hR.keep (fun _ _ => rfl) (fun g hg => Nat.lt_of_lt_of_le hg hB)⟩
/-- How far the loop has come: what was saved, what was put since, how many of these are synced. -/
def KeAt (w : World) (p q : Nat) (l : List Stp) (vs va vn i : Value) (wr : World) : Prop :=
  ∃ (k n : Nat) (a : Ab) (X : Nat → Prop), i = .int .i64 k ∧ k ≤ l.length ∧ k ≤ 40 ∧ vn = .int .i64 (n : Nat) ∧ Sk a k ∧ SyOk a n ∧ Lg w wr p 1000000 a.L X q a.rc.length ∧ OwnX w wr X q vs a.st ∧ OwnX w wr X q va a.rc ∧ ∀ g, vs.ownBlock = some g → va.ownBlock ≠ some g

set_option maxHeartbeats 6400000 in
theorem walk (A0 : Option Addr) (n0 c0 : Nat) (l : List Stp) (keep : Int) (w : World) (T0 : Stps w w.heap.size A0 n0 l) (ht : Tab w) (hc0 : n0 ≤ 9223372036854775807) (hk1 : -9223372036854775808 ≤ keep) (hk2 : keep ≤ 9223372036854775807) :
    Calls Tryd.prog 3 #[.slice A0 n0 c0, .int .i64 keep] w fun e w' => e = .returned (.bool true) ∧ Below w.heap.size w w' := by
  have N0 := Lib.hid (Dk.l_new w 1000000 (by omega) (Below.refl w.heap.size w))
  have TA : Hid (∀ w', Below w.heap.size w w' → Calls Tryd.prog 10 #[] w' fun e w'' => e = .returned (.bool true) ∧ Below w'.heap.size w' w'') := fun w' hb => Se.told_any w' (ht.below hb)
  have y0 := T0.len
  subst y0
  have P0 : Hid (∀ (k : Nat) (o : Stp), l[k]? = some o → ∃ ad, A0 = some ad ∧ ∀ w', Below w.heap.size w w' → StpAt w' ad k o ∧ StpOk w' w.heap.size o) := fun k o hk => by
    have hlt : k < l.length := (List.getElem?_eq_some_iff.1 hk).1
    obtain ⟨ad, ha, hab, h2⟩ := T0.at_ (by omega)
    exact ⟨ad, ha, fun w' hb => ⟨(h2 k o hk).same (hb.block _ hab), (T0.ok o (List.mem_of_getElem? hk)).below hb⟩⟩
  obtain ⟨i0, hi, hz0, hz1, hz2⟩ := info_parts Fr.s_info
  replace hi := Lib.hid hi
  replace hz0 := Lib.hid hz0
  replace hz1 := Lib.hid hz1
  replace hz2 := Lib.hid hz2
  replace ht := Lib.hid ht
  replace hk1 := Lib.hid hk1
  replace hk2 := Lib.hid hk2
  clear T0
  go_enter Tryd.func3, Tryd.ntmps3
  go_wp2_with fail
  refine N0.out.mono ?_
  rintro e w1 ⟨p, rfl, V1⟩
  have C1 := Lib.hid (a_open (a := ab0) V1 ab0_ok ht.out)
  clear N0 V1
  go_wp2_with fail
  refine C1.out.mono ?_
  rintro e w2 h2
  obtain ⟨q, B1, d1, B2, d2, X2, rfl, G2, _⟩ := open_lg h2
  rw [show ab0.st.length = 0 from rfl, show ab0.rc.length = 0 from rfl]
  have st : Hid (KeAt w p q l (.slice none 0 0) (.slice none 0 0) (.int .i64 0) (.int .i64 0) w2) := ⟨0, 0, ab0, X2, rfl, Nat.zero_le _, Nat.zero_le _, rfl, sk0, SyOk.zero _, G2, OwnX.nil, OwnX.nil, fun g hg => by simp [Value.ownBlock] at hg⟩
  clear C1 h2 G2
  go_wp2_with fail
  go_loopw [11, 12, 13, 14] (fun vs va vn i wr => KeAt w p q l vs va vn i wr) (fun _ _ _ i _ => 40 - (intOf i).toNat)
  case atStart => exact st.out
  case round =>
    obtain ⟨k, n, a, X, rfl, hk, hk40, rfl, S, Y, G, Os, Oa, ap⟩ := hrel
    clear st
    have b0 : Hid (Below w.heap.size w wr) := G.live.be
    have hst6 := S.st6
    have hrck := S.rck
    obtain ⟨As, cs, e1⟩ := own_form Os.row
    obtain ⟨Aa, ca, e2⟩ := own_form Oa.row
    subst e1 e2
    by_cases hlt : k < l.length ∧ k < 40
    · obtain ⟨hl, hl40⟩ := hlt
      obtain ⟨o, ho⟩ : ∃ r, l[k]? = some r := ⟨_, List.getElem?_eq_getElem hl⟩
      obtain ⟨ad, rfl, hc⟩ := P0.out k o ho
      obtain ⟨hat, hok⟩ := hc wr b0.out
      obtain ⟨e0, e1, e2, e3⟩ := hat
      obtain ⟨w3, hw3⟩ : ∃ z, z = wr.alloc (.cells #[.int .i64 o.kind, .int .i64 o.n, .slice o.A o.m o.c, .slice o.Al o.nl o.cl] 33) := ⟨_, rfl⟩
      have b3 : Below wr.heap.size wr w3 := by rw [hw3]; exact below_alloc wr _
      have p3 : w3.heap[wr.heap.size]? = some (.cells #[.int .i64 o.kind, .int .i64 o.n, .slice o.A o.m o.c, .slice o.Al o.nl o.cl] 33 (0, 0)) := by rw [hw3]; exact heap_alloc_new _ _
      have FW := Lib.hid (few_any w3 o w.heap.size (hok.below (b3.mono b0.out.size)) (Nat.le_trans b0.out.size b3.size))
      replace p3 := Lib.hid p3
      replace b3 := Lib.hid b3
      go_upto_region 13 with (fail)
      rw [← hw3]
      clear hw3 e0 e1 e2 e3
      have k0 : w3.cell? ⟨wr.heap.size, 0, none⟩ = some (.int .i64 o.kind) := Pk.one_at p3.out
      have k1 : w3.cell? ⟨wr.heap.size, 1, none⟩ = some (.int .i64 o.n) := Pk.one_at p3.out
      have k2 : w3.cell? ⟨wr.heap.size, 2, none⟩ = some (.slice o.A o.m o.c) := Pk.one_at p3.out
      have k3 : w3.cell? ⟨wr.heap.size, 3, none⟩ = some (.slice o.Al o.nl o.cl) := Pk.one_at p3.out
      go_wp2_with fail
      refine FW.out.mono ?_
      rintro e w4 ⟨b, rfl, hb, b4⟩
      have b34 : Below wr.heap.size wr w4 := b3.out.trans (b4.mono b3.out.size)
      have hqw := lt_some G.at_
      have G4 := G.more b34
      have xs0 := G.live.xs
      obtain ⟨X4, hX4⟩ : ∃ z, z = fun g => X g ∨ (wr.heap.size ≤ g ∧ g < w4.heap.size) := ⟨_, rfl⟩
      rw [← hX4] at G4
      have Os4 : Hid (OwnX w w4 X4 q (.slice As a.st.length cs) a.st) := Os.keep (fun g hg _ => b34.block g (xs0 g hg)) (fun g h1 h2 => ⟨by rw [hX4]; exact .inl h1, h2⟩)
      have Oa4 : Hid (OwnX w w4 X4 q (.slice Aa a.rc.length ca) a.rc) := Oa.keep (fun g hg _ => b34.block g (xs0 g hg)) (fun g h1 h2 => ⟨by rw [hX4]; exact .inl h1, h2⟩)
      have p4 : Hid (w4.heap[wr.heap.size]? = some (.cells #[.int .i64 o.kind, .int .i64 o.n, .slice o.A o.m o.c, .slice o.Al o.nl o.cl] 33 (0, 0))) := (b4.block _ (lt_some p3.out)).trans p3.out
      have xob : Hid (X4 wr.heap.size ∧ wr.heap.size ≠ q) := ⟨by rw [hX4]; exact .inr ⟨Nat.le_refl _, lt_some p4.out⟩, by omega⟩
      have b04 : Hid (Below w.heap.size w w4) := G4.live.be
      replace hok := Lib.hid (hc w4 b04.out).2
      replace G4 := Lib.hid G4
      replace S := Lib.hid S
      replace Y := Lib.hid Y
      replace ap := Lib.hid ap
      clear FW b3 p3 k0 k1 k2 k3 G Os Oa hX4 xs0 hqw b34 b4 hc ho b0
      cases b with
      | false =>
        have Ca := Lib.hid (TA.out w4 b04.out)
        clear hb
        go_wp2_with fail
        refine Ca.out.mono ?_
        rintro e wa ⟨rfl, ba⟩
        have be : Hid (Below w.heap.size w wa) := b04.out.trans (ba.mono b04.out.size)
        clear ba Ca
        go_wp2
        go_ret
        exact ⟨rfl, be.out⟩
      | true =>
        obtain ⟨hm, hn6, hl100⟩ := hb rfl
        clear hb
        replace hl100 := Lib.hid hl100
        have j0 : w4.cell? ⟨wr.heap.size, 0, none⟩ = some (.int .i64 o.kind) := Pk.one_at p4.out
        have j2 : w4.cell? ⟨wr.heap.size, 2, none⟩ = some (.slice o.A o.m o.c) := Pk.one_at p4.out
        have j3 : w4.cell? ⟨wr.heap.size, 3, none⟩ = some (.slice o.Al o.nl o.cl) := Pk.one_at p4.out
        have nx0 : Hid (KeAt w p q l (.slice As a.st.length cs) (.slice Aa a.rc.length ca) (.int .i64 (n : Nat)) (.int .i64 ((k : Int) + 1)) w4) := ⟨k + 1, n, a, X4, by simp, hl, hl40, rfl, S.out.mono (Nat.le_succ _), Y.out, G4.out, Os4.out, Oa4.out, ap.out⟩
        by_cases q0 : o.kind = 0
        · have e0 : (o.kind == 0) = true := by simpa using q0
          have hbl := hok.out.rb.len
          by_cases hv : 1 ≤ o.m
          · have C5 := Lib.hid (a_put G4.out S.out.ok ht.out o.A o.m o.c o.bs hok.out.rb (fun g hg => Nat.lt_of_lt_of_le hg b04.out.size) (by omega) (by omega) (S.out.pfits (by omega) (by omega)))
            have S5 := Lib.hid (S.out.put (b := o.bs) (by omega) (by omega))
            have Y5 := Lib.hid (Y.out.put o.bs)
            clear q0 nx0 hbl
            go_wp2_with fail
            refine C5.out.mono ?_
            rintro e w5 ⟨rfl, T5⟩
            have G5 : Hid (Lg w w5 p 1000000 (a.put o.bs).L X4 q (a.put o.bs).rc.length) := T5.1
            have Os5 : Hid (OwnX w w5 X4 q (.slice As a.st.length cs) a.st) := Os4.out.keep T5.2.1 (fun _ h1 h2 => ⟨h1, h2⟩)
            have Oa5 : Hid (OwnX w w5 X4 q (.slice Aa a.rc.length ca) a.rc) := Oa4.out.keep T5.2.1 (fun _ h1 h2 => ⟨h1, h2⟩)
            have p5 := (T5.2.1 _ xob.out.1 xob.out.2).trans p4.out
            have m2 : w5.cell? ⟨wr.heap.size, 2, none⟩ = some (.slice o.A o.m o.c) := Pk.one_at p5
            have R5 := hok.out.rb.keep (w' := w5) (T' := fun g => g < w.heap.size) (fun g hg => (G5.out.live.be.block g hg).trans (b04.out.block g hg).symm) (fun _ h => h)
            have s5 := str_run (c := o.c) (T := fun g => g < w.heap.size) ⟨R5.len, R5.at_⟩
            have z5 : w.heap.size ≤ w5.heap.size := G5.out.live.be.size
            have nx : Hid (∀ v' w', w'.ownsRow w.heap.size 9 1 v' (a.rc.length + 1) (Fr.strs a.rc ++ [.string (str o.bs)]) → (w5.alloc (.cells #[.string (str o.bs)] 9)).grownBy w' (Value.slice Aa a.rc.length ca).ownBlock → (v'.ownBlock = (Value.slice Aa a.rc.length ca).ownBlock ∨ ∃ g, v'.ownBlock = some g ∧ w5.heap.size ≤ g) → KeAt w p q l (.slice As a.st.length cs) v' (.int .i64 (n : Nat)) (.int .i64 ((k : Int) + 1)) w') := fun v' w' h1 h2 h3 => by
              obtain ⟨g1, g2⟩ := Oa5.out.snoc G5.out h1 h2 h3
              have hgr : w5.grownBy w' (Value.slice Aa a.rc.length ca).ownBlock := grown_trans (below_grown (below_alloc w5 (.cells #[.string (str o.bs)] 9)) _) h2
              refine ⟨k + 1, n, a.put o.bs, _, by simp, hl, hl40, rfl, S5.out, Y5.out, g1, ?_, g2, fun g hg => ?_⟩
              · refine ⟨Dk.own_same Os5.out.row fun g hg => hgr.block g (G5.out.live.xs g (Os5.out.inx g hg).1) (fun e => ap.out g hg e.symm), fun g hg => ?_⟩
                have := Os5.out.inx g hg
                exact ⟨.inl this.1, this.2⟩
              · rcases h3 with h3 | ⟨g3, e3, h3⟩
                · rw [h3]; exact ap.out g hg
                · rw [e3]
                  intro e
                  injection e with e
                  have := G5.out.live.xs g (Os5.out.inx g hg).1
                  omega
            obtain ⟨nr, hnr⟩ : ∃ z, z = a.rc.length := ⟨_, rfl⟩
            obtain ⟨xs', hxs'⟩ : ∃ z, z = Fr.strs a.rc := ⟨_, rfl⟩
            have O6 : Hid (w5.ownsRow w.heap.size 9 1 (.slice Aa nr ca) nr xs') := by rw [hnr, hxs']; exact Oa5.out.row
            rw [← hnr, ← hxs'] at nx
            rw [← hnr] at hrck ⊢
            clear hnr hxs' Oa5 Os5 T5 C5 p5 R5 G5 Os4 Oa4 G4 j0 j2 j3 S5 Y5 S Y
            go_wp2_with (at_builtin; go_loud (refine wpList_append_1x w5 rfl (.tmp 73) (.tmp 77) 30 rfl w.heap.size 9 i0 (.string ByteArray.empty) 16 Tryd.underlying30 hi.out hz0.out hz1.out hz2.out rfl _ nr xs' (.string (str o.bs)) rfl O6.out rfl rfl (by unfold maxLen; omega) (by omega) z5 ?_); intro v6 w6 h6 g6 at6; have f6 : Hid _ := nx.out v6 w6 h6 g6 at6; clear h6 g6 at6)
            go_roundw
            case rel => exact f6.out
            case measure => simp [intOf]; omega
          · have hm0 : o.m = 0 := by omega
            have C5 := Lib.hid (put_bad G4.out.at_ o.A o.m o.c (by omega) (by omega))
            have d5 : decide (0 < o.m) = false := decide_eq_false (by omega)
            have d6 : decide ((0 : Int) < (o.m : Int)) = false := decide_eq_false (by omega)
            clear q0 hbl hm0 hv
            go_wp2_with fail
            refine C5.out.mono ?_
            rintro e w' ⟨rfl, rfl⟩
            clear C5
            go_wp2
            exact ⟨nx0.out, by simp [intOf]; omega⟩
        · have e0 : (o.kind == 0) = false := by simpa using q0
          by_cases q1 : o.kind = 1
          · have e1 : (o.kind == 1) = true := by simpa using q1
            have C5 := Lib.hid (a_sync G4.out)
            have S5 := Lib.hid (S.out.sync.mono (Nat.le_succ k))
            have Y5 := Lib.hid (SyOk.sync a)
            clear q0 q1 nx0
            go_wp2_with fail
            refine C5.out.mono ?_
            rintro e w5 ⟨rfl, T5⟩
            have nx : Hid (KeAt w p q l (.slice As a.st.length cs) (.slice Aa a.rc.length ca) (.int .i64 (a.rc.length : Nat)) (.int .i64 ((k : Int) + 1)) w5) := ⟨k + 1, a.rc.length, a.sync, X4, by simp, hl, hl40, rfl, S5.out, Y5.out, T5.1, Os4.out.keep T5.2.1 (fun _ h1 h2 => ⟨h1, h2⟩), by rw [sync_rc]; exact Oa4.out.keep T5.2.1 (fun _ h1 h2 => ⟨h1, h2⟩), ap.out⟩
            clear C5 T5 S5 Y5
            go_wp2
            exact ⟨nx.out, by simp [intOf]; omega⟩
          · have e1 : (o.kind == 1) = false := by simpa using q1
            by_cases q2 : o.kind = 2
            · have e2 : (o.kind == 2) = true := by simpa using q2
              have hll := hok.out.tx.len
              have RL := lr_txts (c := o.cl) hok.out.tx b04.out.size
              by_cases hv : Fr.Ok o.l
              · have hv2 : ∀ r ∈ o.l, 1 ≤ r.length ∧ r.length ≤ 100 := fun r hr => ⟨(hv r hr).1, hl100.out r hr⟩
                have C5 := Lib.hid (a_save G4.out S.out.ok ht.out (.slice o.Al o.nl o.cl) o.l RL (by omega) hv (S.out.sfits (by omega) hv2 (by omega)))
                have S5 := Lib.hid (S.out.save (by omega) hv2 (by omega))
                clear q0 q1 q2 nx0 hv hv2 RL
                go_wp2_with fail
                refine C5.out.mono ?_
                rintro e w5 ⟨rfl, T5⟩
                have G5 : Hid (Lg w w5 p 1000000 (a.save o.l).L X4 q (a.save o.l).rc.length) := T5.1
                have p5 := (T5.2.1 _ xob.out.1 xob.out.2).trans p4.out
                have m3 : w5.cell? ⟨wr.heap.size, 3, none⟩ = some (.slice o.Al o.nl o.cl) := Pk.one_at p5
                have tx5 : Txts w5 w.heap.size o.Al o.nl o.l := hok.out.tx.below (w' := w5) (by
                  have h5 := G5.out.live.be
                  have h4 := b04.out
                  exact ⟨h5.os.trans h4.os.symm, h5.tape.trans h4.tape.symm, h5.output.trans h4.output.symm, T5.2.2, fun g hg => (h5.block g hg).trans (h4.block g hg).symm⟩)
                have C6 := textsof_any w5 (.slice o.Al o.nl o.cl) o.l (lr_txts tx5 G5.out.live.be.size) (by omega)
                rw [hll] at C6
                replace C6 := Lib.hid C6
                clear C5 T5 p5 tx5
                go_wp2_with fail
                refine C6.out.mono ?_
                rintro e w6 ⟨u6, rfl, o6, b6⟩
                have hq5 := lt_some G5.out.at_
                have nx : Hid (KeAt w p q l u6 (.slice none 0 0) (.int .i64 0) (.int .i64 ((k : Int) + 1)) w6) := by
                  have hst : (a.save o.l).st = o.l := rfl
                  refine ⟨k + 1, 0, a.save o.l, _, by simp, hl, hl40, rfl, S5.out, SyOk.save a o.l, G5.out.more b6, ⟨?_, fun g hg => ?_⟩, by rw [save_rc]; exact OwnX.nil, fun g _ => by simp [Value.ownBlock]⟩
                  · rw [hst, hll]; exact Dk.own_mono o6 G5.out.live.be.size
                  · have h1 := o6.lt g hg
                    exact ⟨.inr ⟨h1.1, h1.2⟩, by omega, by have := G5.out.live.be.size; omega⟩
                obtain ⟨A6, c6, e6⟩ := own_form o6
                subst e6
                clear C6 o6 b6 G5 S5 hll
                go_wp2
                exact ⟨nx.out, by simp [intOf]; omega⟩
              · have C5 := Lib.hid (a_sbad G4.out S.out.ok ht.out (.slice o.Al o.nl o.cl) o.l RL (by omega) (fun r hr => by have := hl100.out r hr; omega) hv)
                have S5 := Lib.hid (S.out.mono (Nat.le_succ k))
                clear q0 q1 q2 nx0 hv RL hll
                go_wp2_with fail
                refine C5.out.mono ?_
                rintro e w5 ⟨rfl, T5⟩
                have nx : Hid (KeAt w p q l (.slice As a.st.length cs) (.slice Aa a.rc.length ca) (.int .i64 (n : Nat)) (.int .i64 ((k : Int) + 1)) w5) := ⟨k + 1, n, a, X4, by simp, hl, hl40, rfl, S5.out, Y.out, T5.1, Os4.out.keep T5.2.1 (fun _ h1 h2 => ⟨h1, h2⟩), Oa4.out.keep T5.2.1 (fun _ h1 h2 => ⟨h1, h2⟩), ap.out⟩
                clear C5 T5 S5
                go_wp2
                exact ⟨nx.out, by simp [intOf]; omega⟩
            · have e2 : (o.kind == 2) = false := by simpa using q2
              clear q0 q1 q2
              go_wp2
              exact ⟨nx0.out, by simp [intOf]; omega⟩
    · have bo : k = l.length ∨ (k < l.length ∧ k = 40) := by omega
      have Os' := Lib.hid Os
      have Oa' := Lib.hid Oa
      have G' := Lib.hid G
      obtain ⟨a', ho1, S1, hst1, hrl, hrt, hnl⟩ := ke_crash S keep Y
      have CC := Lib.hid (Dk.l_crash G.live keep (by have := a.len_L; omega) hk1.out hk2.out)
      replace ho1 := Lib.hid ho1
      replace S1 := Lib.hid S1
      replace hst1 := Lib.hid hst1
      replace hrt := Lib.hid hrt
      have hcl : Hid ((sCrash keep a.L).length ≤ 900) := by
        have h1 : (sCrash keep a.L).length = a.L.length := by simp [sCrash, Dk.vals]
        have h2 := a.len_L
        show _ ≤ _
        omega
      clear S Y G Os Oa ap hlt
      rcases bo with rfl | ⟨hl, rfl⟩
      · clear P0
        go_wp2_with fail
        refine CC.out.mono ?_
        rintro e w3 ⟨rfl, T3⟩
        have xq : X q := G'.out.inx
        have Os3 := Os'.out.keep (w2 := w3) (X2 := X) (q2 := q) (fun g hg _ => T3.2.1 g hg) (fun _ h1 h2 => ⟨h1, h2⟩)
        have Oa3 := Oa'.out.keep (w2 := w3) (X2 := X) (q2 := q) (fun g hg _ => T3.2.1 g hg) (fun _ h1 h2 => ⟨h1, h2⟩)
        have C4 := open_any T3.1 ht.out hcl.out
        rw [ho1.out] at C4
        replace C4 := Lib.hid C4
        have xs3 := T3.1.xs
        clear CC T3 xq b0
        go_wp2_with fail
        refine C4.out.mono ?_
        rintro e w4 h4
        obtain ⟨q2, E1, f1, E2, f2, X4, rfl, G4, hq2, hx4, U1, U2, k4, _⟩ := open_lg h4
        have Os4 := Os3.keep (w2 := w4) (X2 := X4) (q2 := q2) (fun g hg _ => k4 g hg) (fun g h1 _ => ⟨hx4 g h1, by have := xs3 g h1; omega⟩)
        have Oa4 := Oa3.keep (w2 := w4) (X2 := X4) (q2 := q2) (fun g hg _ => k4 g hg) (fun g h1 _ => ⟨hx4 g h1, by have := xs3 g h1; omega⟩)
        obtain ⟨_, _, eA, hnc, hcm, hA0⟩ := Dk.own_head Oa4.row
        injection eA with eA1 _ eA3
        subst eA1 eA3
        have be4 : Hid (Below w.heap.size w w4) := G4.live.be
        have L1 := Lib.hid ((U1.keep (w' := w4) (fun _ _ => rfl) (fun g h => (G4.live.xs g h.1 : g < w4.heap.size))).lr (fun _ h => h))
        have L2 := Lib.hid ((U2.keep (w' := w4) (fun _ _ => rfl) (fun g h => (G4.live.xs g h.1 : g < w4.heap.size))).lr (fun _ h => h))
        have SA := Lib.hid Os4.sr
        have SB := Oa4.sr.take (k := a'.rc.length) hrl
        rw [← hrt.out] at SB
        replace SB := Lib.hid SB
        have C5 := Lib.hid (Fr.texts_any w4 (.slice E1 a.st.length f1) (.slice As a.st.length cs) a.st L1.out SA.out (by omega))
        have G4' := Lib.hid G4
        have Os4' := Lib.hid Os4
        have U1' := Lib.hid U1
        have d1 : decide (a'.rc.length < n) = false := decide_eq_false (by omega)
        have d2 : decide (a.rc.length < a'.rc.length) = false := decide_eq_false (by omega)
        have i1 : (0 : Int) ≤ (a'.rc.length : Int) := by omega
        have i2 : ((a'.rc.length : Nat) : Int) ≤ (ca : Int) := by omega
        have i3 : (ca : Int) ≤ 9223372036854775807 := by omega
        have sl := slices_run Aa a.rc.length ca a'.rc.length hA0 (by omega)
        have hr40 : Hid (a'.rc.length ≤ 40) := by show _ ≤ _; omega
        have hs6 : Hid (a.st.length ≤ 6) := hst6
        generalize hRL : a'.rc.length = rl at *
        generalize a.rc.length = arl at *
        generalize hSL : a.st.length = sl' at *
        replace hRL := Lib.hid hRL
        replace hSL := Lib.hid hSL
        clear h4 C4 G4 U1 U2 Oa4 Os4 Os3 Oa3 hx4 k4 hq2 xs3 hrt
        go_wp2_with fail
        refine C5.out.mono ?_
        rintro e w5 ⟨rfl, b5⟩
        have C6 := Fr.texts_any w5 (.slice E2 rl f2) (.slice Aa rl ca) a'.rc (L2.out.below b5) (SB.out.below b5) (by have := hRL.out; omega)
        have b5' : Hid (Below w4.heap.size w4 w5) := b5
        replace C6 := Lib.hid C6
        clear b5 C5
        go_wp2_with fail
        refine C6.out.mono ?_
        rintro e w6 ⟨rfl, b6⟩
        have b46 : Below w4.heap.size w4 w6 := b5'.out.trans (b6.mono b5'.out.size)
        have xs4 := G4'.out.live.xs
        have Os6 : OwnX w w6 X4 q2 (.slice As sl' cs) a.st := Os4'.out.keep (fun g hg _ => b46.block g (xs4 g hg)) (fun _ h1 h2 => ⟨h1, h2⟩)
        have G6 := (G4'.out.below b46).below (below_alloc w6 (.cells (u8s [109, 111, 114, 101]).toArray 5 (4, 5)))
        rw [← hRL.out] at G6
        have C7 := Lib.hid (a_put G6 S1.out.ok ht.out _ 4 4 [109, 111, 114, 101] (rb_lit w6 [109, 111, 114, 101] (4, 5)) (fun g hg => by subst hg; simp) (by omega) (by decide) (S1.out.pfits (by omega) (by decide)))
        have kc := fun (w : World) (C : Array Value) (n c : Nat) => Lib.run_convert_bytes_const (P := Tryd.prog) w 31 5 C n c Tryd.underlying31 Tryd.underlying5
        have Os6a : Hid (OwnX w (w6.alloc (.cells (u8s [109, 111, 114, 101]).toArray 5 (4, 5))) X4 q2 (.slice As sl' cs) a.st) := Os6.keep (fun g hg _ => heap_alloc_old _ _ (Nat.lt_of_lt_of_le (xs4 g hg) b46.size)) (fun _ h1 h2 => ⟨h1, h2⟩)
        have S7 := Lib.hid (S1.out.put (b := [109, 111, 114, 101]) (by decide) (by decide))
        clear b6 C6 b5' Os6 G6 Os4' G4' SA SB L1 L2 sl d1 d2 xs4 b46
        go_wp2_with fail
        refine C7.out.mono ?_
        rintro e w7 ⟨rfl, T7⟩
        have G7 : Hid (Lg w w7 p 1000000 (a'.put [109, 111, 114, 101]).L X4 q2 (a'.put [109, 111, 114, 101]).rc.length) := T7.1
        have Os7 : Hid (OwnX w w7 X4 q2 (.slice As sl' cs) a.st) := Os6a.out.keep T7.2.1 (fun _ h1 h2 => ⟨h1, h2⟩)
        have C8 := Lib.hid (a_sync G7.out)
        clear C7 T7 Os6a kc G7
        go_wp2_with fail
        refine C8.out.mono ?_
        rintro e w8 ⟨rfl, T8⟩
        have G8 := T8.1
        have C9 := Dk.l_crash G8.live 0 (by have := (a'.put [109, 111, 114, 101]).sync.len_L; omega) (by omega) (by omega)
        rw [crash_all 0 (sync_sy _)] at C9
        have Os8 : Hid (OwnX w w8 X4 q2 (.slice As sl' cs) a.st) := Os7.out.keep T8.2.1 (fun _ h1 h2 => ⟨h1, h2⟩)
        replace C9 := Lib.hid C9
        replace G8 := Lib.hid G8
        clear C8 T8 Os7
        go_wp2_with fail
        refine C9.out.mono ?_
        rintro e w9 ⟨rfl, T9⟩
        have C10 := a_open T9.1 S7.out.sync.ok ht.out
        have est : (a'.put [109, 111, 114, 101]).sync.st = a.st := hst1.out
        have erc : (a'.put [109, 111, 114, 101]).sync.rc = a'.rc ++ [[109, 111, 114, 101]] := by rw [sync_rc, put_rc]
        rw [est, erc] at C10
        have Os9 : OwnX w w9 X4 q2 (.slice As sl' cs) a.st := Os8.out.keep (fun g hg _ => T9.2.1 g hg) (fun _ h1 h2 => ⟨h1, h2⟩)
        have xs9 := T9.1.xs
        replace C10 := Lib.hid C10
        clear C9 T9 Os8 G8 S7 est erc
        go_wp2_with fail
        refine C10.out.mono ?_
        rintro e wd hd
        obtain ⟨q3, E3, f3, E4, f4, X5, rfl, Gd, hq3, hx5, U3, U4, k5, _⟩ := open_lg hd
        have Osd : OwnX w wd X5 q3 (.slice As sl' cs) a.st := Os9.keep (fun g hg _ => k5 g hg) (fun g h1 _ => ⟨hx5 g h1, by have := xs9 g h1; omega⟩)
        have bed : Hid (Below w.heap.size w wd) := Gd.live.be
        have hlen : (a'.rc ++ [[109, 111, 114, (101 : UInt8)]]).length = rl + 1 := by rw [List.length_append, hRL.out]; rfl
        have L3 := (U3.keep (w' := wd) (fun _ _ => rfl) (fun g h => (Gd.live.xs g h.1 : g < wd.heap.size))).lr (fun _ h => h)
        obtain ⟨E4', f4', e4, hu4⟩ := U4.keep (w' := wd) (fun _ _ => rfl) (fun g h => (Gd.live.xs g h.1 : g < wd.heap.size))
        injection e4 with e41 e42 e43
        clear e42
        subst e41 e43
        obtain ⟨ad4, rfl, hab4, hu4⟩ := hu4 (by rw [hlen]; omega)
        obtain ⟨Ai, ci, k4, _, _, R4⟩ := hu4 rl [109, 111, 114, 101] (by rw [← hRL.out, List.getElem?_append_right (Nat.le_refl _), Nat.sub_self]; rfl)
        rw [show [109, 111, 114, (101 : UInt8)].length = 4 from rfl] at k4
        have FZ : Hid (∀ w', Below wd.heap.size wd w' → w'.cell? (ad4.add rl) = some (.slice Ai 4 ci) ∧ ∀ W, Below w'.heap.size w' W → (convert 31 9 (.slice Ai 4 ci)).run Tryd.prog W = .ok (.string (str [109, 111, 114, 101])) W) := fun w' hb => ⟨(World.cell?_of_block (by rw [adr_block]; exact hb.block _ hab4)).trans k4, fun W hW => str_run (c := ci) (T := fun _ => True) ((R4.keep (w' := W) (fun g hg => ((hb.trans (hW.mono hb.size)).block g hg)) (fun _ _ => trivial)))⟩
        have Ca := Lib.hid (TA.out wd bed.out)
        rw [hSL.out] at L3 ⊢
        rw [hlen]
        have L3' := Lib.hid L3
        have SAd := Lib.hid Osd.sr
        clear hd C10 Gd U3 U4 k5 hx5 hq3 Os9 Osd xs9 hu4 R4 k4 hab4 hlen L3 TA ht
        go_wp2_with fail
        refine Ca.out.mono ?_
        rintro e we ⟨rfl, ba⟩
        have bae : Hid (Below wd.heap.size wd we) := ba
        have Cb := Fr.texts_any we (.slice E3 sl' f3) (.slice As sl' cs) a.st (L3'.out.below ba) (SAd.out.below ba) (by have := hSL.out; have := hs6.out; omega)
        replace Cb := Lib.hid Cb
        clear Ca ba L3' SAd
        go_wp2_with fail
        refine Cb.out.mono ?_
        rintro e wf ⟨rfl, bf⟩
        have bfe : Hid (Below wd.heap.size wd wf) := bae.out.trans (bf.mono bae.out.size)
        obtain ⟨kz, sz⟩ := FZ.out wf bfe.out
        have sz0 := sz wf (Below.refl _ _)
        have yz := Dk.str_toList [109, 111, 114, 101]
        have bef : Hid (Below w.heap.size w wf) := bed.out.trans (bfe.out.mono bed.out.size)
        have hr40' := hr40.out
        clear Cb bf bae FZ sz
        go_wp2
        go_ret
        exact ⟨rfl, bef.out⟩
      · clear P0
        go_wp2_with fail
        refine CC.out.mono ?_
        rintro e w3 ⟨rfl, T3⟩
        have xq : X q := G'.out.inx
        have Os3 := Os'.out.keep (w2 := w3) (X2 := X) (q2 := q) (fun g hg _ => T3.2.1 g hg) (fun _ h1 h2 => ⟨h1, h2⟩)
        have Oa3 := Oa'.out.keep (w2 := w3) (X2 := X) (q2 := q) (fun g hg _ => T3.2.1 g hg) (fun _ h1 h2 => ⟨h1, h2⟩)
        have C4 := open_any T3.1 ht.out hcl.out
        rw [ho1.out] at C4
        replace C4 := Lib.hid C4
        have xs3 := T3.1.xs
        clear CC T3 xq b0
        go_wp2_with fail
        refine C4.out.mono ?_
        rintro e w4 h4
        obtain ⟨q2, E1, f1, E2, f2, X4, rfl, G4, hq2, hx4, U1, U2, k4, _⟩ := open_lg h4
        have Os4 := Os3.keep (w2 := w4) (X2 := X4) (q2 := q2) (fun g hg _ => k4 g hg) (fun g h1 _ => ⟨hx4 g h1, by have := xs3 g h1; omega⟩)
        have Oa4 := Oa3.keep (w2 := w4) (X2 := X4) (q2 := q2) (fun g hg _ => k4 g hg) (fun g h1 _ => ⟨hx4 g h1, by have := xs3 g h1; omega⟩)
        obtain ⟨_, _, eA, hnc, hcm, hA0⟩ := Dk.own_head Oa4.row
        injection eA with eA1 _ eA3
        subst eA1 eA3
        have be4 : Hid (Below w.heap.size w w4) := G4.live.be
        have L1 := Lib.hid ((U1.keep (w' := w4) (fun _ _ => rfl) (fun g h => (G4.live.xs g h.1 : g < w4.heap.size))).lr (fun _ h => h))
        have L2 := Lib.hid ((U2.keep (w' := w4) (fun _ _ => rfl) (fun g h => (G4.live.xs g h.1 : g < w4.heap.size))).lr (fun _ h => h))
        have SA := Lib.hid Os4.sr
        have SB := Oa4.sr.take (k := a'.rc.length) hrl
        rw [← hrt.out] at SB
        replace SB := Lib.hid SB
        have C5 := Lib.hid (Fr.texts_any w4 (.slice E1 a.st.length f1) (.slice As a.st.length cs) a.st L1.out SA.out (by omega))
        have G4' := Lib.hid G4
        have Os4' := Lib.hid Os4
        have U1' := Lib.hid U1
        have d1 : decide (a'.rc.length < n) = false := decide_eq_false (by omega)
        have d2 : decide (a.rc.length < a'.rc.length) = false := decide_eq_false (by omega)
        have i1 : (0 : Int) ≤ (a'.rc.length : Int) := by omega
        have i2 : ((a'.rc.length : Nat) : Int) ≤ (ca : Int) := by omega
        have i3 : (ca : Int) ≤ 9223372036854775807 := by omega
        have sl := slices_run Aa a.rc.length ca a'.rc.length hA0 (by omega)
        have hr40 : Hid (a'.rc.length ≤ 40) := by show _ ≤ _; omega
        have hs6 : Hid (a.st.length ≤ 6) := hst6
        generalize hRL : a'.rc.length = rl at *
        generalize a.rc.length = arl at *
        generalize hSL : a.st.length = sl' at *
        replace hRL := Lib.hid hRL
        replace hSL := Lib.hid hSL
        clear h4 C4 G4 U1 U2 Oa4 Os4 Os3 Oa3 hx4 k4 hq2 xs3 hrt
        go_wp2_with fail
        refine C5.out.mono ?_
        rintro e w5 ⟨rfl, b5⟩
        have C6 := Fr.texts_any w5 (.slice E2 rl f2) (.slice Aa rl ca) a'.rc (L2.out.below b5) (SB.out.below b5) (by have := hRL.out; omega)
        have b5' : Hid (Below w4.heap.size w4 w5) := b5
        replace C6 := Lib.hid C6
        clear b5 C5
        go_wp2_with fail
        refine C6.out.mono ?_
        rintro e w6 ⟨rfl, b6⟩
        have b46 : Below w4.heap.size w4 w6 := b5'.out.trans (b6.mono b5'.out.size)
        have xs4 := G4'.out.live.xs
        have Os6 : OwnX w w6 X4 q2 (.slice As sl' cs) a.st := Os4'.out.keep (fun g hg _ => b46.block g (xs4 g hg)) (fun _ h1 h2 => ⟨h1, h2⟩)
        have G6 := (G4'.out.below b46).below (below_alloc w6 (.cells (u8s [109, 111, 114, 101]).toArray 5 (4, 5)))
        rw [← hRL.out] at G6
        have C7 := Lib.hid (a_put G6 S1.out.ok ht.out _ 4 4 [109, 111, 114, 101] (rb_lit w6 [109, 111, 114, 101] (4, 5)) (fun g hg => by subst hg; simp) (by omega) (by decide) (S1.out.pfits (by omega) (by decide)))
        have kc := fun (w : World) (C : Array Value) (n c : Nat) => Lib.run_convert_bytes_const (P := Tryd.prog) w 31 5 C n c Tryd.underlying31 Tryd.underlying5
        have Os6a : Hid (OwnX w (w6.alloc (.cells (u8s [109, 111, 114, 101]).toArray 5 (4, 5))) X4 q2 (.slice As sl' cs) a.st) := Os6.keep (fun g hg _ => heap_alloc_old _ _ (Nat.lt_of_lt_of_le (xs4 g hg) b46.size)) (fun _ h1 h2 => ⟨h1, h2⟩)
        have S7 := Lib.hid (S1.out.put (b := [109, 111, 114, 101]) (by decide) (by decide))
        clear b6 C6 b5' Os6 G6 Os4' G4' SA SB L1 L2 sl d1 d2 xs4 b46
        go_wp2_with fail
        refine C7.out.mono ?_
        rintro e w7 ⟨rfl, T7⟩
        have G7 : Hid (Lg w w7 p 1000000 (a'.put [109, 111, 114, 101]).L X4 q2 (a'.put [109, 111, 114, 101]).rc.length) := T7.1
        have Os7 : Hid (OwnX w w7 X4 q2 (.slice As sl' cs) a.st) := Os6a.out.keep T7.2.1 (fun _ h1 h2 => ⟨h1, h2⟩)
        have C8 := Lib.hid (a_sync G7.out)
        clear C7 T7 Os6a kc G7
        go_wp2_with fail
        refine C8.out.mono ?_
        rintro e w8 ⟨rfl, T8⟩
        have G8 := T8.1
        have C9 := Dk.l_crash G8.live 0 (by have := (a'.put [109, 111, 114, 101]).sync.len_L; omega) (by omega) (by omega)
        rw [crash_all 0 (sync_sy _)] at C9
        have Os8 : Hid (OwnX w w8 X4 q2 (.slice As sl' cs) a.st) := Os7.out.keep T8.2.1 (fun _ h1 h2 => ⟨h1, h2⟩)
        replace C9 := Lib.hid C9
        replace G8 := Lib.hid G8
        clear C8 T8 Os7
        go_wp2_with fail
        refine C9.out.mono ?_
        rintro e w9 ⟨rfl, T9⟩
        have C10 := a_open T9.1 S7.out.sync.ok ht.out
        have est : (a'.put [109, 111, 114, 101]).sync.st = a.st := hst1.out
        have erc : (a'.put [109, 111, 114, 101]).sync.rc = a'.rc ++ [[109, 111, 114, 101]] := by rw [sync_rc, put_rc]
        rw [est, erc] at C10
        have Os9 : OwnX w w9 X4 q2 (.slice As sl' cs) a.st := Os8.out.keep (fun g hg _ => T9.2.1 g hg) (fun _ h1 h2 => ⟨h1, h2⟩)
        have xs9 := T9.1.xs
        replace C10 := Lib.hid C10
        clear C9 T9 Os8 G8 S7 est erc
        go_wp2_with fail
        refine C10.out.mono ?_
        rintro e wd hd
        obtain ⟨q3, E3, f3, E4, f4, X5, rfl, Gd, hq3, hx5, U3, U4, k5, _⟩ := open_lg hd
        have Osd : OwnX w wd X5 q3 (.slice As sl' cs) a.st := Os9.keep (fun g hg _ => k5 g hg) (fun g h1 _ => ⟨hx5 g h1, by have := xs9 g h1; omega⟩)
        have bed : Hid (Below w.heap.size w wd) := Gd.live.be
        have hlen : (a'.rc ++ [[109, 111, 114, (101 : UInt8)]]).length = rl + 1 := by rw [List.length_append, hRL.out]; rfl
        have L3 := (U3.keep (w' := wd) (fun _ _ => rfl) (fun g h => (Gd.live.xs g h.1 : g < wd.heap.size))).lr (fun _ h => h)
        obtain ⟨E4', f4', e4, hu4⟩ := U4.keep (w' := wd) (fun _ _ => rfl) (fun g h => (Gd.live.xs g h.1 : g < wd.heap.size))
        injection e4 with e41 e42 e43
        clear e42
        subst e41 e43
        obtain ⟨ad4, rfl, hab4, hu4⟩ := hu4 (by rw [hlen]; omega)
        obtain ⟨Ai, ci, k4, _, _, R4⟩ := hu4 rl [109, 111, 114, 101] (by rw [← hRL.out, List.getElem?_append_right (Nat.le_refl _), Nat.sub_self]; rfl)
        rw [show [109, 111, 114, (101 : UInt8)].length = 4 from rfl] at k4
        have FZ : Hid (∀ w', Below wd.heap.size wd w' → w'.cell? (ad4.add rl) = some (.slice Ai 4 ci) ∧ ∀ W, Below w'.heap.size w' W → (convert 31 9 (.slice Ai 4 ci)).run Tryd.prog W = .ok (.string (str [109, 111, 114, 101])) W) := fun w' hb => ⟨(World.cell?_of_block (by rw [adr_block]; exact hb.block _ hab4)).trans k4, fun W hW => str_run (c := ci) (T := fun _ => True) ((R4.keep (w' := W) (fun g hg => ((hb.trans (hW.mono hb.size)).block g hg)) (fun _ _ => trivial)))⟩
        have Ca := Lib.hid (TA.out wd bed.out)
        rw [hSL.out] at L3 ⊢
        rw [hlen]
        have L3' := Lib.hid L3
        have SAd := Lib.hid Osd.sr
        clear hd C10 Gd U3 U4 k5 hx5 hq3 Os9 Osd xs9 hu4 R4 k4 hab4 hlen L3 TA ht
        go_wp2_with fail
        refine Ca.out.mono ?_
        rintro e we ⟨rfl, ba⟩
        have bae : Hid (Below wd.heap.size wd we) := ba
        have Cb := Fr.texts_any we (.slice E3 sl' f3) (.slice As sl' cs) a.st (L3'.out.below ba) (SAd.out.below ba) (by have := hSL.out; have := hs6.out; omega)
        replace Cb := Lib.hid Cb
        clear Ca ba L3' SAd
        go_wp2_with fail
        refine Cb.out.mono ?_
        rintro e wf ⟨rfl, bf⟩
        have bfe : Hid (Below wd.heap.size wd wf) := bae.out.trans (bf.mono bae.out.size)
        obtain ⟨kz, sz⟩ := FZ.out wf bfe.out
        have sz0 := sz wf (Below.refl _ _)
        have yz := Dk.str_toList [109, 111, 114, 101]
        have bef : Hid (Below w.heap.size w wf) := bed.out.trans (bfe.out.mono bed.out.size)
        have hr40' := hr40.out
        clear Cb bf bae FZ sz
        go_wp2
        go_ret
        exact ⟨rfl, bef.out⟩

theorem walkd (v0 : Value) (A0 : Option Addr) (n0 c0 : Nat) (l0 : List Stp) (e0 : v0 = .slice A0 n0 c0) (lc0 : n0 ≤ c0) (uc0 : c0 ≤ 9223372036854775807) {W' : World} (w0 : Stps W' W'.heap.size A0 n0 l0) (a1 : Int) (w1 : (Lit.int .i64 a1).wf = true) (W : World) (hW : W = W') (ht : Tab W) :
    Calls Tryd.prog 3 #[v0, .int .i64 a1] W fun e w' => e = .returned (.bool true) ∧ Below W.heap.size W w' := by
  subst hW
  subst e0
  have hI := Dk.bounds_i64 w1
  exact walk A0 n0 c0 l0 a1 _ w0 ht (by omega) hI.1 hI.2

/-! The row: every input, the listed variable as the condition has it. -/
set_option linter.unusedVariables false
set_option maxRecDepth 100000 in
theorem lifted (os : Os) (started : os.Started) (H : Type) (enc : TypeId × Value → H) :
    ReturnsInHanded {} Tryd.checked os 3 .any (fun w args => (Rows.sealKeepsSpec.pre enc Tryd.prog Tryd.f3 [] false w args ∧ laidMetH Tryd.prog laids w) ∧ sizedMet enc Tryd.prog Tryd.f3 (OpenSpec.ofChange Rows.sealKeepsSpec) false w args)
      (Rows.sealKeepsSpec.post enc Tryd.prog Tryd.f3 false true false false) := by
  refine returnsInHanded_of_change_and (C := Tryd.checked) (X := fun w _ => laidMetH Tryd.prog laids w) (fun _ _ _ hh h => h.of_heap hh) own started (by kernel_rfl) Tryd.func3
    (ChangeSpec.witness_shaped (enc := enc) (C := Tryd.checked) (os := os) (X := fun w _ => laidMetH Tryd.prog laids w) false (World.doorLaid Tryd.prog 400 os) #[.slice none 0 0, .int .i64 0] 8 rfl (World.shaped_of_RefB (by kernel_rfl) (by kernel_rfl)) (by kernel_rfl) (by kernel_rfl) (by kernel_rfl) (door_met os _)) ?_
  intro W base args ds gs before hval0 hW _ _ hL _
  have hval : ∀ (j : Nat) t v, Tryd.f3.params[j]? = some t → args[j]? = some v → Value.okWide Tryd.prog W .any base t v := hval0
  have hW' := hW
  obtain ⟨p, q, hA0, hV, rfl, hfz, hnd⟩ := hW
  have hA : DataW.TrodAll enc Tryd.prog W 0 (fun _ => true) true Tryd.f3.params.toList args.toList ds p := hA0
  rw [Tryd.params3] at hA hval
  obtain ⟨v0, vs0, d0, ds0, p0, q0, hargs, rfl, rfl, h0, r0⟩ := trodAll_cons hA
  obtain ⟨v1, vs1, d1, ds1, p1, q1, rfl, rfl, rfl, h1, r1⟩ := trodAll_cons r0
  obtain ⟨rfl, rfl, rfl⟩ := trodAll_nil r1
  obtain rfl : args = #[v0, v1] := by cases args; simp_all
  obtain ⟨rfl, rfl⟩ := trodVars_none hV
  obtain ⟨A0, n0, c0, a0, e0, lc0, uc0, w0⟩ := view_steps (hval 0 22 v0 rfl rfl) h0
  obtain ⟨a1, rfl, rfl, rfl, w1⟩ := open_int Tryd.underlying3 (hval 1 3 v1 rfl rfl) h1
  clear hA0 hval0
  simp only [List.append_nil] at hW'
  refine (walkd v0 A0 n0 c0 a0 e0 lc0 uc0 w0 a1 w1 W rfl (of_laid hL)).mono fun e W' ⟨he, hb⟩ => ?_
  subst he
  exact ⟨_, rfl, post_below (pa := p0 ++ ([] ++ [])) (pv := []) hW' (fun _ _ _ => (trodAll_cons_mk (shut_bool Tryd.underlying4 _) trodAll_mk0)) (fun sp hsp => (trodAll_cons_mk (Trod_stays laidOut (by kernel_rfl) (of_decide_eq_true (by kernel_rfl)) h0 (fun x hx => hb.same (hW'.lt x (by simp [hx]))) (fun x hx => hsp x (by simp [hx]))) (trodAll_cons_mk (shut_int Tryd.underlying3 w1) trodAll_mk0))) (fun _ _ => rfl) (by simp)
    hb (ok_one (by kernel_rfl) rfl (okWide_bool_mk Tryd.underlying4 _))⟩

theorem over : Rows.sealKeepsRow.holds Tryd.pinned (OpenSpec.ofChange Rows.sealKeepsSpec) :=
  OpenClaim.holds_of_wide 3 Tryd.f3 rfl rfl rfl rfl rfl rfl rfl ⟨rfl, rfl, rfl, rfl, rfl⟩ rfl rfl rfl rfl rfl (by kernel_rfl) Tryd.func3 (by kernel_rfl)
    (of_decide_eq_true (by kernel_rfl)) (by unfold Func.isWrapper; first | (rw [if_pos (by decide +kernel)]; kernel_rfl) | (rw [if_neg (by decide +kernel)]; exact ⟨rfl, rfl⟩))
    (fun os started H enc _ => lifted os started H enc)

/-- The tied card. -/
theorem proved : Rows.SealKeepsCardSaid :=
  Claim7.holds_tied_plain_at .later [] [.data] true _ false
    over (fun _ h => by cases h) (by kernel_rfl) (fun _ h => by cases h) sealKeeps_row_tie rfl ⟨rfl, rfl⟩ (by kernel_rfl) rfl
    (fun f fn hf hfn => by
      obtain rfl : f = 3 := Option.some.inj ((show Tryd.prog.funcNamed "sojourn/sojournlaw6.SealKeeps" = some 3 by kernel_rfl).symm.trans hf) |>.symm
      obtain rfl : fn = Tryd.f3 := (Option.some.inj (Tryd.func3.symm.trans hfn)).symm
      exact ⟨by kernel_rfl, fun j t ht => by
        rw [Tryd.params3] at ht
        have hm : t ∈ [22, 3] := by simpa using Array.mem_of_getElem? ht
        have hall : ([22, 3].all fun u => !Tryd.prog.wantsStandIn u) = true := by kernel_rfl
        exact (show Tryd.prog.wantsStandIn t = false by simpa using List.all_eq_true.1 hall t hm)⟩)
    (by kernel_rfl)
#print axioms proved

end Go.Proofs.YtbolcapgocjgcaaDoor.sealKeeps
