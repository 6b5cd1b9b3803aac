/- What comes in: operations, steps, slices of numbers; small words for the rows; numbers brought small. -/
import Derived.Test.YtchlbkfkecpodaaStT
import Derived.ProofKit
import Derived.OpenShut
import Derived.Deep.Slices
import Derived.Carry
import Derived.Laws.BitsLemmas
namespace Go.Proofs.Ytchlbkfkecpodaa
set_option maxRecDepth 100000
open Go.ChangeShapes Go.WideShapes Go.ChangeAt Go.WideMaps Go.WideElems Go.RowKit
open Go.Proofs.Ytchlbkfkecpodaa.Pk (Rb adr_block one_at one_free one_set lt_some grown_set grown_trans below_grown grown_refl)
namespace St

/-- The slice value '.slice A n c' reads as the numbers zs; what it lies in is a block of T. -/
structure Rr (w : World) (T : Nat → Prop) (A : Option Addr) (n : Nat) (zs : List Int) : Prop where
  len : zs.length = n
  at_ : 0 < n → ∃ ad, A = some ad ∧ T ad.block ∧ ∀ j z, zs[j]? = some z → w.cell? (ad.add j) = some (.int .i64 z)
section
variable {w w' : World} {T T' : Nat → Prop} {A : Option Addr} {n : Nat} {zs : List Int}
theorem Rr.keep (h : Rr w T A n zs) (hk : ∀ g, T g → w'.heap[g]? = w.heap[g]?) (hT : ∀ g, T g → T' g) : Rr w' T' A n zs :=
  ⟨h.len, fun h0 => by
    obtain ⟨ad, e, ht, hc⟩ := h.at_ h0
    refine ⟨ad, e, hT _ ht, fun j c hj => ?_⟩
    rw [← hc j c hj]
    exact World.cell?_of_block (by rw [adr_block]; exact hk _ ht)⟩
theorem Rr.mono (h : Rr w T A n zs) (hT : ∀ g, T g → T' g) : Rr w T' A n zs := h.keep (fun _ _ => rfl) hT
theorem Rr.below {B : Nat} (h : Rr w (fun g => g < B) A n zs) (hb : Below B w w') : Rr w' (fun g => g < B) A n zs := h.keep (fun g hg => hb.block g hg) fun _ h => h
theorem Rr.nil (w : World) (T : Nat → Prop) (A : Option Addr) : Rr w T A 0 [] := ⟨rfl, fun h => absurd h (by omega)⟩
theorem Rr.cell {ad : Addr} {k : Nat} {z : Int} (h : Rr w T (some ad) n zs) (hz : zs[k]? = some z) : w.cell? (ad.add k) = some (.int .i64 z) := by
  have hk : k < n := by rw [← h.len]; exact (List.getElem?_eq_some_iff.1 hz).1
  obtain ⟨ad', e, _, hc⟩ := h.at_ (by omega)
  injection e with e
  subst e
  exact hc k z hz
end
def nums (zs : List Int) : List Value := zs.map fun z => .int .i64 z
def arr (zs : List Int) : Array Value := (nums zs).toArray
theorem arr_at {zs : List Int} {k : Nat} {z : Int} (h : zs[k]? = some z) : (arr zs)[k]? = some (.int .i64 z) := by simp [arr, nums, h]
theorem arr_set (zs : List Int) (k : Nat) (z : Int) : (arr zs).setIfInBounds k (.int .i64 z) = arr (zs.set k z) := by
  apply Array.ext'
  simp [arr, nums, List.map_set]
theorem own : ownKnob Try.prog.godebug = none := by kernel_rfl
theorem laidOut : laidOutB Try.prog = true := by kernel_rfl
theorem bnd {x : Int} (h : (Lit.int .i64 x).wf = true) : -9223372036854775808 ≤ x ∧ x ≤ 9223372036854775807 := by
  simp [Lit.wf, IntKind.min, IntKind.max, IntKind.signed, IntKind.bits] at h
  omega
/-- A slice of numbers that came in. -/
def Src (w : World) (v : Value) (zs : List Int) : Prop := ∃ A n c, v = .slice A n c ∧ n ≤ c ∧ c ≤ 9223372036854775807 ∧ Rr w (fun g => g < w.heap.size) A n zs ∧ ∀ z ∈ zs, -9223372036854775808 ≤ z ∧ z ≤ 9223372036854775807
theorem lt_of_cell {w : World} {a : Addr} {v : Value} (h : w.cell? a = some v) : a.block < w.heap.size := by
  rcases Nat.lt_or_ge a.block w.heap.size with e | e
  · exact e
  · simp [World.cell?, Array.getElem?_eq_none e] at h
theorem view_nums {H : Type} {enc : TypeId × Value → H} {W : World} {sp : Nat → Bool} {held : Bool} {v : Value} {d : DataW H} {p : List MemPlace} {r : Reach} {b0 : Nat}
    (hv : Value.okWide Try.prog W r b0 37 v) (h : DataW.Trod enc Try.prog W 0 sp held 37 v d p) : ∃ zs, Src W v zs := by
  obtain ⟨A, n, c, rfl⟩ := okWide_slice Try.underlying37 hv
  obtain ⟨fuel, hf⟩ := h
  have c5 : Try.prog.cellsOf 3 = 1 := by kernel_rfl
  rcases open_ints Try.underlying37 Try.underlying3 c5 hf with ⟨hcs, _⟩ | ⟨a, len, cap, zs, hcs, _, hl, hm, hz, _, hcell, hwz⟩
  · obtain ⟨rfl, rfl, rfl⟩ : A = none ∧ n = 0 ∧ c = 0 := by simpa [Value.cells] using hcs
    exact ⟨[], none, 0, 0, rfl, Nat.le_refl _, by omega, Rr.nil _ _ _, fun z h => by cases h⟩
  · obtain ⟨rfl, rfl, rfl⟩ : A = some a ∧ n = len ∧ c = cap := by simpa [Value.cells] using hcs
    have hle : n ≤ zs.length := by rw [hz]; split <;> omega
    unfold maxLen at hm
    refine ⟨zs.take n, some a, n, c, rfl, hl, by omega, ⟨by simp; omega, fun hn => ⟨a, rfl, ?_, fun j x hj => ?_⟩⟩, fun z hz => bnd (hwz z (List.mem_of_mem_take hz))⟩
    · have := lt_of_cell (hcell 0 (by omega))
      rwa [adr_block] at this
    · rw [List.getElem?_take] at hj
      split at hj
      · have hjz : j < zs.length := by omega
        rw [hcell j hjz, List.getD_eq_getElem?_getD, hj]
        rfl
      · cases hj

variable {H : Type} {enc : TypeId × Value → H} {P : Program}
/-- The row's last step where all that was there is as it was. -/
theorem post_below {f : Func} {s : ChangeSpec} {apart fresh handsOn again : Bool} {W W' : World} {args : Array Value} {v : Value} {ds gs : List (DataW H)} {before pa pv : List MemPlace}
    (hW : DataW.Whole enc P f.params.toList s.vars apart W args.toList ds gs before)
    (hres : ∀ (b : Nat) (sp : Nat → Bool) (hd : Bool), DataW.TrodAll enc P W' b sp hd f.resultTypes.toList (v.resultList f.resultTypes.size) (s.fn H (ds ++ gs)).results [])
    (hargs : ∀ sp : Nat → Bool, (∀ p ∈ before, sp p.block = true) → DataW.TrodAll enc P W' 0 sp true f.params.toList args.toList (s.fn H (ds ++ gs)).args pa)
    (hvars : ∀ sp : Nat → Bool, (∀ p ∈ before, sp p.block = true) → DataW.TrodVars enc P W' sp s.vars (s.fn H (ds ++ gs)).vars pv)
    (hps : before = pa ++ pv) (hb : Below W.heap.size W W')
    (hok : ∀ (j : Nat) (t : TypeId) (r : Value), f.resultTypes[j]? = some t → (v.resultList f.resultTypes.size)[j]? = some r → Value.okWide P W' .any 0 t r) :
    s.post enc P f apart fresh handsOn again W args v W' := by
  have lower : ∀ p ∈ before, p.block < W.heap.size := fun p hp => hW.lt p hp
  have within : ∀ p ∈ before, (fun b => decide (b < W.heap.size)) p.block = true := fun p hp => decide_eq_true (lower p hp)
  refine ⟨ds, gs, before, [], pa, pv, hW, hres _ _ _, hargs _ within, hvars _ within, ?_, fun _ => ?_⟩
  · refine World.keptBut_mono (fun p hp => ⟨hp, ?_⟩) (hb.frame (· ∈ before))
    rw [hps, List.mem_append] at hp
    exact .inr hp
  · obtain ⟨_, _, _, _, _, marks, once⟩ := hW
    refine ⟨hok, _, _, ([] ++ pa) ++ pv, ⟨[] ++ pa, pv, trodAll_append (hargs _ (fun _ _ => rfl)) (hres _ _ _), hvars _ (fun _ _ => rfl), rfl, fun b off hp => ?_, fun ha => ?_⟩, fun p hp _ => ?_⟩
    · have hin : MemPlace.cell b off ∈ before := by simpa [hps] using hp
      exact (hb.frozen (lower _ hin)).trans (marks b off hin)
    · simpa [hps] using once ha
    · simpa [hps] using hp
/-- int(uint(z) % n). -/
def usm (z : Int) (n : Nat) : Nat := ((z % 18446744073709551616) % (n : Int)).toNat
theorem usm_lt (z : Int) {n : Nat} (hn : 0 < n) : usm z n < n := by
  have h1 := Int.emod_nonneg (z % 18446744073709551616) (b := (n : Int)) (by omega)
  have h2 := Int.emod_lt_of_pos (z % 18446744073709551616) (b := (n : Int)) (by omega)
  unfold usm
  omega
theorem usm_is (z : Int) {n : Nat} (hn : 0 < n) : ((z % 18446744073709551616) % (n : Int)) = (usm z n : Int) := by
  have h1 := Int.emod_nonneg (z % 18446744073709551616) (b := (n : Int)) (by omega)
  unfold usm
  omega
theorem usm_slot (z : Int) {n : Nat} (hn : 0 < n) (hs : n ≤ 1000000) : wrap64 ((IntKind.u64.wrap z).tmod (n : Int)) = (usm z n : Int) := by
  have h0 : 0 ≤ IntKind.u64.wrap z := by rw [IntKind.wrap_u64]; omega
  have h1 := usm_lt z hn
  rw [Int.tmod_eq_emod_of_nonneg h0, IntKind.wrap_u64, usm_is z hn, IntWalk.wrap64_in _ (by omega)]
theorem i64_and1 (n : Int) : bits .and .i64 n 1 = n % 2 := by
  have h1 : (BitVec.ofInt 64 1).toNat = 2 ^ 1 - 1 := by decide
  have key : (BitVec.ofInt 64 n &&& BitVec.ofInt 64 1).toNat = (n % ((2 ^ 64 : Nat) : Int)).toNat % 2 ^ 1 := by
    rw [BitVec.toNat_and, BitVec.toNat_ofInt, h1, Nat.and_two_pow_sub_one_eq_mod]
  show IntKind.i64.wrap ((BitVec.ofInt 64 n &&& BitVec.ofInt 64 1).toNat : Nat) = n % 2
  rw [key, IntKind.wrap_i64]
  omega
theorem i64_and3 (n : Int) : bits .and .i64 n 3 = n % 4 := by
  have h3 : (BitVec.ofInt 64 3).toNat = 2 ^ 2 - 1 := by decide
  have key : (BitVec.ofInt 64 n &&& BitVec.ofInt 64 3).toNat = (n % ((2 ^ 64 : Nat) : Int)).toNat % 2 ^ 2 := by
    rw [BitVec.toNat_and, BitVec.toNat_ofInt, h3, Nat.and_two_pow_sub_one_eq_mod]
  show IntKind.i64.wrap ((BitVec.ofInt 64 n &&& BitVec.ofInt 64 3).toNat : Nat) = n % 4
  rw [key, IntKind.wrap_i64]
  omega
open Wt (Opn)
theorem trod_op5 {H : Type} {enc : TypeId × Value → H} {W : World} {sp : Nat → Bool} {held : Bool} {fu : Nat} {x0 x1 x2 x3 x4 : Value} {y : DataW H × List MemPlace}
    (h : DataW.trod enc Try.prog W 0 sp held fu 30 [x0, x1, x2, x3, x4] = some y) : ∃ o : Opn, x0 = .int .i64 o.kind ∧ x1 = .int .i64 o.book ∧ x2 = .int .i64 o.units ∧ x3 = .int .i64 o.cust ∧ x4 = .int .i64 o.amount := by
  have k3 : Try.prog.cellsOf 3 = 1 := by kernel_rfl
  have k2 : Try.prog.cellsOf 2 = 1 := by kernel_rfl
  obtain ⟨xs, fn, _, _, _, hxl, hg⟩ := DataW.trod_struct Try.underlying30 h
  have e0 : DataW.trod enc Try.prog W 0 sp held fn 3 (([x0, x1, x2, x3, x4].drop 0).take (Try.prog.cellsOf 3)) = xs[0]? := hg 0 _ rfl
  have e1 : DataW.trod enc Try.prog W 0 sp held fn 3 (([x0, x1, x2, x3, x4].drop 1).take (Try.prog.cellsOf 3)) = xs[1]? := hg 1 _ rfl
  have e2 : DataW.trod enc Try.prog W 0 sp held fn 3 (([x0, x1, x2, x3, x4].drop 2).take (Try.prog.cellsOf 3)) = xs[2]? := hg 2 _ rfl
  have e3 : DataW.trod enc Try.prog W 0 sp held fn 3 (([x0, x1, x2, x3, x4].drop 3).take (Try.prog.cellsOf 3)) = xs[3]? := hg 3 _ rfl
  have e4 : DataW.trod enc Try.prog W 0 sp held fn 2 (([x0, x1, x2, x3, x4].drop 4).take (Try.prog.cellsOf 2)) = xs[4]? := hg 4 _ rfl
  rw [k3] at e0 e1 e2 e3
  rw [k2] at e4
  simp only [List.drop_zero, List.drop_succ_cons, List.take_succ_cons, List.take_zero] at e0 e1 e2 e3 e4
  have hx : ∀ j, j < 5 → ∃ y, xs[j]? = some y := fun j hj => ⟨_, List.getElem?_eq_getElem (by rw [hxl]; exact hj)⟩
  obtain ⟨y0, z0⟩ := hx 0 (by omega)
  obtain ⟨y1, z1⟩ := hx 1 (by omega)
  obtain ⟨y2, z2⟩ := hx 2 (by omega)
  obtain ⟨y3, z3⟩ := hx 3 (by omega)
  obtain ⟨y4, z4⟩ := hx 4 (by omega)
  obtain ⟨m0, f0, _, _⟩ := DataW.trod_int Try.underlying3 (e0.trans z0)
  obtain ⟨m1, f1, _, _⟩ := DataW.trod_int Try.underlying3 (e1.trans z1)
  obtain ⟨m2, f2, _, _⟩ := DataW.trod_int Try.underlying3 (e2.trans z2)
  obtain ⟨m3, f3, _, _⟩ := DataW.trod_int Try.underlying3 (e3.trans z3)
  obtain ⟨m4, f4, _, _⟩ := DataW.trod_int Try.underlying2 (e4.trans z4)
  simp only [List.cons.injEq, and_true] at f0 f1 f2 f3 f4
  exact ⟨⟨m0, m1, m2, m3, m4⟩, f0, f1, f2, f3, f4⟩
theorem view_op {H : Type} {enc : TypeId × Value → H} {W : World} {sp : Nat → Bool} {held : Bool} {v : Value} {d : DataW H} {p : List MemPlace} {r : Reach} {b0 : Nat}
    (hv : Value.okWide Try.prog W r b0 30 v) (h : DataW.Trod enc Try.prog W 0 sp held 30 v d p) : ∃ o : Opn, v = opv o := by
  obtain ⟨cs, rfl, hsz⟩ := okWide_struct Try.underlying30 hv
  have c7 : Try.prog.cellsOf 30 = 5 := by kernel_rfl
  rw [c7] at hsz
  obtain ⟨fuel, hf⟩ := h
  obtain ⟨l, rfl⟩ : ∃ l : List Value, cs = l.toArray := ⟨cs.toList, by simp⟩
  match l, (by simpa using hsz : l.length = 5) with
  | [x0, x1, x2, x3, x4], _ =>
    have hf' : DataW.trod enc Try.prog W 0 sp held fuel 30 [x0, x1, x2, x3, x4] = some (d, p) := by simpa [Value.cells] using hf
    obtain ⟨o, rfl, rfl, rfl, rfl, rfl⟩ := trod_op5 hf'
    exact ⟨o, rfl⟩
theorem view_stock {H : Type} {enc : TypeId × Value → H} {W : World} {sp : Nat → Bool} {held : Bool} {v : Value} {d : DataW H} {p : List MemPlace} {r : Reach} {b0 : Nat}
    (hv : Value.okWide Try.prog W r b0 27 v) (h : DataW.Trod enc Try.prog W 0 sp held 27 v d p) : ∃ x : Int × Int, v = .agg #[.int .i64 x.1, .int .i64 x.2] := by
  obtain ⟨cs, rfl, hsz⟩ := okWide_struct Try.underlying27 hv
  have c7 : Try.prog.cellsOf 27 = 2 := by kernel_rfl
  have k3 : Try.prog.cellsOf 3 = 1 := by kernel_rfl
  rw [c7] at hsz
  obtain ⟨fuel, hf⟩ := h
  obtain ⟨l, rfl⟩ : ∃ l : List Value, cs = l.toArray := ⟨cs.toList, by simp⟩
  match l, (by simpa using hsz : l.length = 2) with
  | [x0, x1], _ =>
    have hf' : DataW.trod enc Try.prog W 0 sp held fuel 27 [x0, x1] = some (d, p) := by simpa [Value.cells] using hf
    obtain ⟨xs, fn, _, _, _, hxl, hg⟩ := DataW.trod_struct Try.underlying27 hf'
    have e0 : DataW.trod enc Try.prog W 0 sp held fn 3 (([x0, x1].drop 0).take (Try.prog.cellsOf 3)) = xs[0]? := hg 0 _ rfl
    have e1 : DataW.trod enc Try.prog W 0 sp held fn 3 (([x0, x1].drop 1).take (Try.prog.cellsOf 3)) = xs[1]? := hg 1 _ rfl
    rw [k3] at e0 e1
    simp only [List.drop_zero, List.drop_succ_cons, List.take_succ_cons, List.take_zero] at e0 e1
    have hx : ∀ j, j < 2 → ∃ y, xs[j]? = some y := fun j hj => ⟨_, List.getElem?_eq_getElem (by rw [hxl]; exact hj)⟩
    obtain ⟨y0, z0⟩ := hx 0 (by omega)
    obtain ⟨y1, z1⟩ := hx 1 (by omega)
    obtain ⟨m0, f0, _, _⟩ := DataW.trod_int Try.underlying3 (e0.trans z0)
    obtain ⟨m1, f1, _, _⟩ := DataW.trod_int Try.underlying3 (e1.trans z1)
    simp only [List.cons.injEq, and_true] at f0 f1
    exact ⟨(m0, m1), by rw [f0, f1]⟩

/-! ### steps -/
structure Stp where
  kind : Int
  o : Opn
  d : Int
  now : Int
  raw : Bool
structure OpAt (w : World) (a : Addr) (i : Nat) (o : Stp) : Prop where
  c0 : w.cell? (a.add (i * 9)) = some (.int .i64 o.kind)
  c1 : w.cell? ⟨(a.add (i * 9)).block, (a.add (i * 9)).off + 1, none⟩ = some (.int .i64 o.o.kind)
  c2 : w.cell? ⟨(a.add (i * 9)).block, (a.add (i * 9)).off + 2, none⟩ = some (.int .i64 o.o.book)
  c3 : w.cell? ⟨(a.add (i * 9)).block, (a.add (i * 9)).off + 3, none⟩ = some (.int .i64 o.o.units)
  c4 : w.cell? ⟨(a.add (i * 9)).block, (a.add (i * 9)).off + 4, none⟩ = some (.int .i64 o.o.cust)
  c5 : w.cell? ⟨(a.add (i * 9)).block, (a.add (i * 9)).off + 5, none⟩ = some (.int .i64 o.o.amount)
  c6 : w.cell? ⟨(a.add (i * 9)).block, (a.add (i * 9)).off + 6, none⟩ = some (.int .i64 o.d)
  c7 : w.cell? ⟨(a.add (i * 9)).block, (a.add (i * 9)).off + 7, none⟩ = some (.int .i64 o.now)
  c8 : w.cell? ⟨(a.add (i * 9)).block, (a.add (i * 9)).off + 8, none⟩ = some (.bool o.raw)
/-- A slice of steps that came in. -/
structure Ops (w : World) (B : Nat) (A : Option Addr) (n : Nat) (l : List Stp) : Prop where
  len : l.length = n
  at_ : 0 < n → ∃ a, A = some a ∧ a.block < B ∧ ∀ i o, l[i]? = some o → OpAt w a i o
theorem OpAt.same {w w' : World} {a : Addr} {i : Nat} {o : Stp} (h : OpAt w a i o) (hb : w'.heap[a.block]? = w.heap[a.block]?) : OpAt w' a i o := by
  have e : ∀ k, w'.cell? ⟨(a.add (i * 9)).block, (a.add (i * 9)).off + k, none⟩ = w.cell? ⟨(a.add (i * 9)).block, (a.add (i * 9)).off + k, none⟩ := fun k => World.cell?_of_block (by show w'.heap[(a.add (i * 9)).block]? = w.heap[(a.add (i * 9)).block]?; rw [adr_block]; exact hb)
  exact ⟨(World.cell?_of_block (by rw [adr_block]; exact hb)).trans h.c0, (e 1).trans h.c1, (e 2).trans h.c2, (e 3).trans h.c3, (e 4).trans h.c4, (e 5).trans h.c5, (e 6).trans h.c6, (e 7).trans h.c7, (e 8).trans h.c8⟩
theorem Ops.below {w w' : World} {B : Nat} {A : Option Addr} {n : Nat} {l : List Stp} (h : Ops w B A n l) (hb : Below B w w') : Ops w' B A n l :=
  ⟨h.len, fun hn => by
    obtain ⟨a, e, h1, h2⟩ := h.at_ hn
    exact ⟨a, e, h1, fun i o hi => (h2 i o hi).same (hb.block _ h1)⟩⟩
def Osrc (w : World) (v : Value) (l : List Stp) : Prop := ∃ A n c, v = .slice A n c ∧ n ≤ c ∧ c ≤ 9223372036854775807 ∧ Ops w w.heap.size A n l
theorem view_sops {H : Type} {enc : TypeId × Value → H} {W : World} {sp : Nat → Bool} {held : Bool} {v : Value} {d : DataW H} {p : List MemPlace} {r : Reach} {b0 : Nat}
    (hv : Value.okWide Try.prog W r b0 22 v) (h : DataW.Trod enc Try.prog W 0 sp held 22 v d p) : ∃ l, Osrc W v l := by
  obtain ⟨A, n, c, rfl⟩ := okWide_slice Try.underlying22 hv
  obtain ⟨fuel, hf⟩ := h
  have c28 : Try.prog.cellsOf 32 = 9 := by kernel_rfl
  have k3 : Try.prog.cellsOf 3 = 1 := by kernel_rfl
  have k4 : Try.prog.cellsOf 4 = 1 := by kernel_rfl
  have k5 : Try.prog.cellsOf 30 = 5 := by kernel_rfl
  rcases Go.Deep.open_slice Try.underlying22 hf with ⟨hcs, _⟩ | ⟨a, len, cap, m, fu, D, Pl, hcs, _, hl, hm, hmm, _, hi⟩
  · obtain ⟨rfl, rfl, rfl⟩ : A = none ∧ n = 0 ∧ c = 0 := by simpa [Value.cells] using hcs
    exact ⟨[], none, 0, 0, rfl, Nat.le_refl _, by omega, ⟨rfl, fun h => absurd h (by omega)⟩⟩
  · obtain ⟨rfl, rfl, rfl⟩ : A = some a ∧ n = len ∧ c = cap := by simpa [Value.cells] using hcs
    have hle : n ≤ m := by rw [hmm]; split <;> omega
    unfold maxLen at hm
    have one : ∀ i, i < n → ∃ o, OpAt W a i o := by
      intro i hin
      obtain ⟨cs', h1, h2⟩ := hi i (by omega)
      rw [c28] at h1
      obtain ⟨_, hlen, hat⟩ := World.cells?_some h1
      obtain ⟨xs, fn, _, _, _, hxl, hg⟩ := DataW.trod_struct Try.underlying32 h2
      match cs', hlen with
      | [x0, x1, x2, x3, x4, x5, x6, x7, x8], _ =>
        have e0 : DataW.trod enc Try.prog W 0 sp held fn 3 (([x0, x1, x2, x3, x4, x5, x6, x7, x8].drop 0).take (Try.prog.cellsOf 3)) = xs[0]? := hg 0 _ rfl
        rw [k3] at e0
        have e1 : DataW.trod enc Try.prog W 0 sp held fn 30 (([x0, x1, x2, x3, x4, x5, x6, x7, x8].drop 1).take (Try.prog.cellsOf 30)) = xs[1]? := hg 1 _ rfl
        rw [k5] at e1
        have e2 : DataW.trod enc Try.prog W 0 sp held fn 3 (([x0, x1, x2, x3, x4, x5, x6, x7, x8].drop 6).take (Try.prog.cellsOf 3)) = xs[2]? := hg 2 _ rfl
        rw [k3] at e2
        have e3 : DataW.trod enc Try.prog W 0 sp held fn 3 (([x0, x1, x2, x3, x4, x5, x6, x7, x8].drop 7).take (Try.prog.cellsOf 3)) = xs[3]? := hg 3 _ rfl
        rw [k3] at e3
        have e4 : DataW.trod enc Try.prog W 0 sp held fn 4 (([x0, x1, x2, x3, x4, x5, x6, x7, x8].drop 8).take (Try.prog.cellsOf 4)) = xs[4]? := hg 4 _ rfl
        rw [k4] at e4
        have hx : ∀ j, j < 5 → ∃ y, xs[j]? = some y := fun j hj => ⟨_, List.getElem?_eq_getElem (by rw [hxl]; exact hj)⟩
        obtain ⟨y0, z0⟩ := hx 0 (by omega)
        obtain ⟨y1, z1⟩ := hx 1 (by omega)
        obtain ⟨y2, z2⟩ := hx 2 (by omega)
        obtain ⟨y3, z3⟩ := hx 3 (by omega)
        obtain ⟨y4, z4⟩ := hx 4 (by omega)
        simp only [List.drop_zero, List.drop_succ_cons, List.take_succ_cons, List.take_zero] at e0 e1 e2 e3 e4
        obtain ⟨m0, f0, _, _⟩ := DataW.trod_int Try.underlying3 (e0.trans z0)
        obtain ⟨o, g1, g2, g3, g4, g5⟩ := trod_op5 (e1.trans z1)
        obtain ⟨m6, f6, _, _⟩ := DataW.trod_int Try.underlying3 (e2.trans z2)
        obtain ⟨m7, f7, _, _⟩ := DataW.trod_int Try.underlying3 (e3.trans z3)
        obtain ⟨m8, f8, _⟩ := DataW.trod_bool Try.underlying4 (e4.trans z4)
        simp only [List.cons.injEq, and_true] at f0 f6 f7 f8
        refine ⟨⟨m0, o, m6, m7, m8⟩, ⟨?_, ?_, ?_, ?_, ?_, ?_, ?_, ?_, ?_⟩⟩
        · have := hat 0 (by omega); rw [Addr.add_zero'] at this; rw [this, f0]; rfl
        · have := hat 1 (by omega); rw [Addr.add_succ'] at this; rw [this, g1]; rfl
        · have := hat 2 (by omega); rw [Addr.add_succ'] at this; rw [this, g2]; rfl
        · have := hat 3 (by omega); rw [Addr.add_succ'] at this; rw [this, g3]; rfl
        · have := hat 4 (by omega); rw [Addr.add_succ'] at this; rw [this, g4]; rfl
        · have := hat 5 (by omega); rw [Addr.add_succ'] at this; rw [this, g5]; rfl
        · have := hat 6 (by omega); rw [Addr.add_succ'] at this; rw [this, f6]; rfl
        · have := hat 7 (by omega); rw [Addr.add_succ'] at this; rw [this, f7]; rfl
        · have := hat 8 (by omega); rw [Addr.add_succ'] at this; rw [this, f8]; rfl
    have all : ∀ k, k ≤ n → ∃ l : List Stp, l.length = k ∧ (∀ i o, l[i]? = some o → OpAt W a i o) := by
      intro k
      induction k with
      | zero => intro _; exact ⟨[], rfl, fun i o h => by simp at h⟩
      | succ k ih =>
        intro hk
        obtain ⟨l, h1, h2⟩ := ih (by omega)
        obtain ⟨o, h4⟩ := one k (by omega)
        refine ⟨l ++ [o], by simp [h1], fun i o' hi => ?_⟩
        rw [List.getElem?_append] at hi
        split at hi
        · exact h2 i o' hi
        · rename_i hge
          have hi0 : i - l.length = 0 := by
            rcases Nat.eq_zero_or_pos (i - l.length) with e | e
            · exact e
            · rw [List.getElem?_eq_none (by simp; omega)] at hi; cases hi
          rw [hi0] at hi
          simp only [List.getElem?_cons_zero, Option.some.injEq] at hi
          subst hi
          obtain rfl : i = k := by omega
          exact h4
    obtain ⟨l, h1, h2⟩ := all n (Nat.le_refl _)
    refine ⟨l, some a, n, c, rfl, hl, by omega, ⟨h1, fun hn => ⟨a, rfl, ?_, h2⟩⟩⟩
    obtain ⟨o, h4⟩ := one 0 hn
    have := lt_of_cell h4.c0
    rwa [adr_block] at this
end St
end Go.Proofs.Ytchlbkfkecpodaa
