/- Two ledgers of the call's own, apart from each other. -/
import Derived.Test.YtchlbkfkecpodaaGreatStK
import Derived.ProofKit
import Derived.OpenShut
import Derived.Deep.Slices
import Derived.Carry
import Derived.Laws.BitsLemmas
namespace Go.Proofs.YtchlbkfkecpodaaGreat
set_option maxRecDepth 100000
open Go.RowKit
open Go.Sort (grow)
open Go.Proofs.YtchlbkfkecpodaaGreat.Pk (one_at one_free one_set lt_some grown_set grown_trans below_grown grown_refl u8s adr_block own_form)
namespace St
open Wt (Opn mayOp)

def tf1 : F := (dstp 2 1 fz ⟨1, 1, 2, 0, 0⟩ 5).1
def tf2 : F := (dstp 2 1 tf1 ⟨1, 2, 2, 0, 0⟩ 5).1
def tf3 : F := (dstp 2 1 tf2 ⟨2, 1, 0, 0, 0⟩ 64).1
def tf4 : F := (dstp 2 1 tf3 ⟨1, 3, 1, 0, 0⟩ 7).1
def tf5 : F := swF tf4 67
def tf6 : F := (dstp 2 1 tf5 ⟨3, 9, 0, 0, 0⟩ 70).1
theorem ta1 : (dstp 2 1 fz ⟨1, 1, 2, 0, 0⟩ 5).2 = 1 := by kernel_rfl
theorem ta2 : (dstp 2 1 tf1 ⟨1, 2, 2, 0, 0⟩ 5).2 = 2 := by kernel_rfl
theorem ta3 : (dstp 2 1 tf2 ⟨2, 1, 0, 0, 0⟩ 64).2 = 1 := by kernel_rfl
theorem ta4 : (dstp 2 1 tf3 ⟨1, 3, 1, 0, 0⟩ 7).2 = 1 := by kernel_rfl
theorem tl5 : swL tf4 67 = [3] := by kernel_rfl
theorem tr5 : room 2 1 tf5 = 1 := by kernel_rfl
theorem tu1 : uni 1 tf5 = 0 := by kernel_rfl
theorem tu2 : uni 2 tf5 = 2 := by kernel_rfl
theorem te2 : tf5 2 = eg := by kernel_rfl
theorem ta6 : (dstp 2 1 tf5 ⟨3, 9, 0, 0, 0⟩ 70).2 = 1 := by kernel_rfl
theorem te9 : tf6 9 = eg := by kernel_rfl
theorem gone_run (w : World) : (Instr.field 32 (.agg #[.int .i64 3, .int .i64 0, .int .i64 0, .int .i64 0, .int .i64 0]) 0).run Tryz.prog w = .ok (.int .i64 3) w := by kernel_rfl
end St
end Go.Proofs.YtchlbkfkecpodaaGreat

namespace Go.Proofs.YtchlbkfkecpodaaGreat
set_option maxRecDepth 100000
open Go.ChangeShapes Go.WideShapes Go.ChangeAt Go.WideMaps Go.WideElems Go.RowKit
open Go.Proofs.YtchlbkfkecpodaaGreat.Pk (Rb adr_block one_at one_free one_set lt_some grown_set grown_trans below_grown grown_refl)
namespace St

/-- The slice value '.slice A n c' reads as the numbers zs; what it lies in is a block of T. -/
structure Rr (w : World) (T : Nat → Prop) (A : Option Addr) (n : Nat) (zs : List Int) : Prop where
  len : zs.length = n
  at_ : 0 < n → ∃ ad, A = some ad ∧ T ad.block ∧ ∀ j z, zs[j]? = some z → w.cell? (ad.add j) = some (.int .i64 z)
section
variable {w w' : World} {T T' : Nat → Prop} {A : Option Addr} {n : Nat} {zs : List Int}
theorem Rr.keep (h : Rr w T A n zs) (hk : ∀ g, T g → w'.heap[g]? = w.heap[g]?) (hT : ∀ g, T g → T' g) : Rr w' T' A n zs :=
  ⟨h.len, fun h0 => by
    obtain ⟨ad, e, ht, hc⟩ := h.at_ h0
    refine ⟨ad, e, hT _ ht, fun j c hj => ?_⟩
    rw [← hc j c hj]
    exact World.cell?_of_block (by rw [adr_block]; exact hk _ ht)⟩
theorem Rr.mono (h : Rr w T A n zs) (hT : ∀ g, T g → T' g) : Rr w T' A n zs := h.keep (fun _ _ => rfl) hT
theorem Rr.below {B : Nat} (h : Rr w (fun g => g < B) A n zs) (hb : Below B w w') : Rr w' (fun g => g < B) A n zs := h.keep (fun g hg => hb.block g hg) fun _ h => h
theorem Rr.nil (w : World) (T : Nat → Prop) (A : Option Addr) : Rr w T A 0 [] := ⟨rfl, fun h => absurd h (by omega)⟩
theorem Rr.cell {ad : Addr} {k : Nat} {z : Int} (h : Rr w T (some ad) n zs) (hz : zs[k]? = some z) : w.cell? (ad.add k) = some (.int .i64 z) := by
  have hk : k < n := by rw [← h.len]; exact (List.getElem?_eq_some_iff.1 hz).1
  obtain ⟨ad', e, _, hc⟩ := h.at_ (by omega)
  injection e with e
  subst e
  exact hc k z hz
end
def nums (zs : List Int) : List Value := zs.map fun z => .int .i64 z
def arr (zs : List Int) : Array Value := (nums zs).toArray
theorem arr_at {zs : List Int} {k : Nat} {z : Int} (h : zs[k]? = some z) : (arr zs)[k]? = some (.int .i64 z) := by simp [arr, nums, h]
theorem arr_set (zs : List Int) (k : Nat) (z : Int) : (arr zs).setIfInBounds k (.int .i64 z) = arr (zs.set k z) := by
  apply Array.ext'
  simp [arr, nums, List.map_set]
theorem own : ownKnob Tryz.prog.godebug = none := by kernel_rfl
theorem laidOut : laidOutB Tryz.prog = true := by kernel_rfl
theorem bnd {x : Int} (h : (Lit.int .i64 x).wf = true) : -9223372036854775808 ≤ x ∧ x ≤ 9223372036854775807 := by
  simp [Lit.wf, IntKind.min, IntKind.max, IntKind.signed, IntKind.bits] at h
  omega
/-- A slice of numbers that came in. -/
def Src (w : World) (v : Value) (zs : List Int) : Prop := ∃ A n c, v = .slice A n c ∧ n ≤ c ∧ c ≤ 9223372036854775807 ∧ Rr w (fun g => g < w.heap.size) A n zs ∧ ∀ z ∈ zs, -9223372036854775808 ≤ z ∧ z ≤ 9223372036854775807
theorem lt_of_cell {w : World} {a : Addr} {v : Value} (h : w.cell? a = some v) : a.block < w.heap.size := by
  rcases Nat.lt_or_ge a.block w.heap.size with e | e
  · exact e
  · simp [World.cell?, Array.getElem?_eq_none e] at h
theorem view_nums {H : Type} {enc : TypeId × Value → H} {W : World} {sp : Nat → Bool} {held : Bool} {v : Value} {d : DataW H} {p : List MemPlace} {r : Reach} {b0 : Nat}
    (hv : Value.okWide Tryz.prog W r b0 47 v) (h : DataW.Trod enc Tryz.prog W 0 sp held 47 v d p) : ∃ zs, Src W v zs := by
  obtain ⟨A, n, c, rfl⟩ := okWide_slice Tryz.underlying47 hv
  obtain ⟨fuel, hf⟩ := h
  have c5 : Tryz.prog.cellsOf 3 = 1 := by kernel_rfl
  rcases open_ints Tryz.underlying47 Tryz.underlying3 c5 hf with ⟨hcs, _⟩ | ⟨a, len, cap, zs, hcs, _, hl, hm, hz, _, hcell, hwz⟩
  · obtain ⟨rfl, rfl, rfl⟩ : A = none ∧ n = 0 ∧ c = 0 := by simpa [Value.cells] using hcs
    exact ⟨[], none, 0, 0, rfl, Nat.le_refl _, by omega, Rr.nil _ _ _, fun z h => by cases h⟩
  · obtain ⟨rfl, rfl, rfl⟩ : A = some a ∧ n = len ∧ c = cap := by simpa [Value.cells] using hcs
    have hle : n ≤ zs.length := by rw [hz]; split <;> omega
    unfold maxLen at hm
    refine ⟨zs.take n, some a, n, c, rfl, hl, by omega, ⟨by simp; omega, fun hn => ⟨a, rfl, ?_, fun j x hj => ?_⟩⟩, fun z hz => bnd (hwz z (List.mem_of_mem_take hz))⟩
    · have := lt_of_cell (hcell 0 (by omega))
      rwa [adr_block] at this
    · rw [List.getElem?_take] at hj
      split at hj
      · have hjz : j < zs.length := by omega
        rw [hcell j hjz, List.getD_eq_getElem?_getD, hj]
        rfl
      · cases hj

variable {H : Type} {enc : TypeId × Value → H} {P : Program}
/-- The row's last step where all that was there is as it was. -/
theorem post_below {f : Func} {s : ChangeSpec} {apart fresh handsOn again : Bool} {W W' : World} {args : Array Value} {v : Value} {ds gs : List (DataW H)} {before pa pv : List MemPlace}
    (hW : DataW.Whole enc P f.params.toList s.vars apart W args.toList ds gs before)
    (hres : ∀ (b : Nat) (sp : Nat → Bool) (hd : Bool), DataW.TrodAll enc P W' b sp hd f.resultTypes.toList (v.resultList f.resultTypes.size) (s.fn H (ds ++ gs)).results [])
    (hargs : ∀ sp : Nat → Bool, (∀ p ∈ before, sp p.block = true) → DataW.TrodAll enc P W' 0 sp true f.params.toList args.toList (s.fn H (ds ++ gs)).args pa)
    (hvars : ∀ sp : Nat → Bool, (∀ p ∈ before, sp p.block = true) → DataW.TrodVars enc P W' sp s.vars (s.fn H (ds ++ gs)).vars pv)
    (hps : before = pa ++ pv) (hb : Below W.heap.size W W')
    (hok : ∀ (j : Nat) (t : TypeId) (r : Value), f.resultTypes[j]? = some t → (v.resultList f.resultTypes.size)[j]? = some r → Value.okWide P W' .any 0 t r) :
    s.post enc P f apart fresh handsOn again W args v W' := by
  have lower : ∀ p ∈ before, p.block < W.heap.size := fun p hp => hW.lt p hp
  have within : ∀ p ∈ before, (fun b => decide (b < W.heap.size)) p.block = true := fun p hp => decide_eq_true (lower p hp)
  refine ⟨ds, gs, before, [], pa, pv, hW, hres _ _ _, hargs _ within, hvars _ within, ?_, fun _ => ?_⟩
  · refine World.keptBut_mono (fun p hp => ⟨hp, ?_⟩) (hb.frame (· ∈ before))
    rw [hps, List.mem_append] at hp
    exact .inr hp
  · obtain ⟨_, _, _, _, _, marks, once⟩ := hW
    refine ⟨hok, _, _, ([] ++ pa) ++ pv, ⟨[] ++ pa, pv, trodAll_append (hargs _ (fun _ _ => rfl)) (hres _ _ _), hvars _ (fun _ _ => rfl), rfl, fun b off hp => ?_, fun ha => ?_⟩, fun p hp _ => ?_⟩
    · have hin : MemPlace.cell b off ∈ before := by simpa [hps] using hp
      exact (hb.frozen (lower _ hin)).trans (marks b off hin)
    · simpa [hps] using once ha
    · simpa [hps] using hp
/-- int(uint(z) % n). -/
def usm (z : Int) (n : Nat) : Nat := ((z % 18446744073709551616) % (n : Int)).toNat
theorem usm_lt (z : Int) {n : Nat} (hn : 0 < n) : usm z n < n := by
  have h1 := Int.emod_nonneg (z % 18446744073709551616) (b := (n : Int)) (by omega)
  have h2 := Int.emod_lt_of_pos (z % 18446744073709551616) (b := (n : Int)) (by omega)
  unfold usm
  omega
theorem usm_is (z : Int) {n : Nat} (hn : 0 < n) : ((z % 18446744073709551616) % (n : Int)) = (usm z n : Int) := by
  have h1 := Int.emod_nonneg (z % 18446744073709551616) (b := (n : Int)) (by omega)
  unfold usm
  omega
theorem usm_slot (z : Int) {n : Nat} (hn : 0 < n) (hs : n ≤ 1000000) : wrap64 ((IntKind.u64.wrap z).tmod (n : Int)) = (usm z n : Int) := by
  have h0 : 0 ≤ IntKind.u64.wrap z := by rw [IntKind.wrap_u64]; omega
  have h1 := usm_lt z hn
  rw [Int.tmod_eq_emod_of_nonneg h0, IntKind.wrap_u64, usm_is z hn, IntWalk.wrap64_in _ (by omega)]
theorem i64_and1 (n : Int) : bits .and .i64 n 1 = n % 2 := by
  have h1 : (BitVec.ofInt 64 1).toNat = 2 ^ 1 - 1 := by decide
  have key : (BitVec.ofInt 64 n &&& BitVec.ofInt 64 1).toNat = (n % ((2 ^ 64 : Nat) : Int)).toNat % 2 ^ 1 := by
    rw [BitVec.toNat_and, BitVec.toNat_ofInt, h1, Nat.and_two_pow_sub_one_eq_mod]
  show IntKind.i64.wrap ((BitVec.ofInt 64 n &&& BitVec.ofInt 64 1).toNat : Nat) = n % 2
  rw [key, IntKind.wrap_i64]
  omega
theorem i64_and3 (n : Int) : bits .and .i64 n 3 = n % 4 := by
  have h3 : (BitVec.ofInt 64 3).toNat = 2 ^ 2 - 1 := by decide
  have key : (BitVec.ofInt 64 n &&& BitVec.ofInt 64 3).toNat = (n % ((2 ^ 64 : Nat) : Int)).toNat % 2 ^ 2 := by
    rw [BitVec.toNat_and, BitVec.toNat_ofInt, h3, Nat.and_two_pow_sub_one_eq_mod]
  show IntKind.i64.wrap ((BitVec.ofInt 64 n &&& BitVec.ofInt 64 3).toNat : Nat) = n % 4
  rw [key, IntKind.wrap_i64]
  omega
open Wt (Opn)
theorem trod_op5 {H : Type} {enc : TypeId × Value → H} {W : World} {sp : Nat → Bool} {held : Bool} {fu : Nat} {x0 x1 x2 x3 x4 : Value} {y : DataW H × List MemPlace}
    (h : DataW.trod enc Tryz.prog W 0 sp held fu 43 [x0, x1, x2, x3, x4] = some y) : ∃ o : Opn, x0 = .int .i64 o.kind ∧ x1 = .int .i64 o.book ∧ x2 = .int .i64 o.units ∧ x3 = .int .i64 o.cust ∧ x4 = .int .i64 o.amount := by
  have k3 : Tryz.prog.cellsOf 3 = 1 := by kernel_rfl
  have k2 : Tryz.prog.cellsOf 2 = 1 := by kernel_rfl
  obtain ⟨xs, fn, _, _, _, hxl, hg⟩ := DataW.trod_struct Tryz.underlying43 h
  have e0 : DataW.trod enc Tryz.prog W 0 sp held fn 3 (([x0, x1, x2, x3, x4].drop 0).take (Tryz.prog.cellsOf 3)) = xs[0]? := hg 0 _ rfl
  have e1 : DataW.trod enc Tryz.prog W 0 sp held fn 3 (([x0, x1, x2, x3, x4].drop 1).take (Tryz.prog.cellsOf 3)) = xs[1]? := hg 1 _ rfl
  have e2 : DataW.trod enc Tryz.prog W 0 sp held fn 3 (([x0, x1, x2, x3, x4].drop 2).take (Tryz.prog.cellsOf 3)) = xs[2]? := hg 2 _ rfl
  have e3 : DataW.trod enc Tryz.prog W 0 sp held fn 3 (([x0, x1, x2, x3, x4].drop 3).take (Tryz.prog.cellsOf 3)) = xs[3]? := hg 3 _ rfl
  have e4 : DataW.trod enc Tryz.prog W 0 sp held fn 2 (([x0, x1, x2, x3, x4].drop 4).take (Tryz.prog.cellsOf 2)) = xs[4]? := hg 4 _ rfl
  rw [k3] at e0 e1 e2 e3
  rw [k2] at e4
  simp only [List.drop_zero, List.drop_succ_cons, List.take_succ_cons, List.take_zero] at e0 e1 e2 e3 e4
  have hx : ∀ j, j < 5 → ∃ y, xs[j]? = some y := fun j hj => ⟨_, List.getElem?_eq_getElem (by rw [hxl]; exact hj)⟩
  obtain ⟨y0, z0⟩ := hx 0 (by omega)
  obtain ⟨y1, z1⟩ := hx 1 (by omega)
  obtain ⟨y2, z2⟩ := hx 2 (by omega)
  obtain ⟨y3, z3⟩ := hx 3 (by omega)
  obtain ⟨y4, z4⟩ := hx 4 (by omega)
  obtain ⟨m0, f0, _, _⟩ := DataW.trod_int Tryz.underlying3 (e0.trans z0)
  obtain ⟨m1, f1, _, _⟩ := DataW.trod_int Tryz.underlying3 (e1.trans z1)
  obtain ⟨m2, f2, _, _⟩ := DataW.trod_int Tryz.underlying3 (e2.trans z2)
  obtain ⟨m3, f3, _, _⟩ := DataW.trod_int Tryz.underlying3 (e3.trans z3)
  obtain ⟨m4, f4, _, _⟩ := DataW.trod_int Tryz.underlying2 (e4.trans z4)
  simp only [List.cons.injEq, and_true] at f0 f1 f2 f3 f4
  exact ⟨⟨m0, m1, m2, m3, m4⟩, f0, f1, f2, f3, f4⟩
theorem view_op {H : Type} {enc : TypeId × Value → H} {W : World} {sp : Nat → Bool} {held : Bool} {v : Value} {d : DataW H} {p : List MemPlace} {r : Reach} {b0 : Nat}
    (hv : Value.okWide Tryz.prog W r b0 43 v) (h : DataW.Trod enc Tryz.prog W 0 sp held 43 v d p) : ∃ o : Opn, v = opv o := by
  obtain ⟨cs, rfl, hsz⟩ := okWide_struct Tryz.underlying43 hv
  have c7 : Tryz.prog.cellsOf 43 = 5 := by kernel_rfl
  rw [c7] at hsz
  obtain ⟨fuel, hf⟩ := h
  obtain ⟨l, rfl⟩ : ∃ l : List Value, cs = l.toArray := ⟨cs.toList, by simp⟩
  match l, (by simpa using hsz : l.length = 5) with
  | [x0, x1, x2, x3, x4], _ =>
    have hf' : DataW.trod enc Tryz.prog W 0 sp held fuel 43 [x0, x1, x2, x3, x4] = some (d, p) := by simpa [Value.cells] using hf
    obtain ⟨o, rfl, rfl, rfl, rfl, rfl⟩ := trod_op5 hf'
    exact ⟨o, rfl⟩
theorem view_stock {H : Type} {enc : TypeId × Value → H} {W : World} {sp : Nat → Bool} {held : Bool} {v : Value} {d : DataW H} {p : List MemPlace} {r : Reach} {b0 : Nat}
    (hv : Value.okWide Tryz.prog W r b0 23 v) (h : DataW.Trod enc Tryz.prog W 0 sp held 23 v d p) : ∃ x : Int × Int, v = .agg #[.int .i64 x.1, .int .i64 x.2] := by
  obtain ⟨cs, rfl, hsz⟩ := okWide_struct Tryz.underlying23 hv
  have c7 : Tryz.prog.cellsOf 23 = 2 := by kernel_rfl
  have k3 : Tryz.prog.cellsOf 3 = 1 := by kernel_rfl
  rw [c7] at hsz
  obtain ⟨fuel, hf⟩ := h
  obtain ⟨l, rfl⟩ : ∃ l : List Value, cs = l.toArray := ⟨cs.toList, by simp⟩
  match l, (by simpa using hsz : l.length = 2) with
  | [x0, x1], _ =>
    have hf' : DataW.trod enc Tryz.prog W 0 sp held fuel 23 [x0, x1] = some (d, p) := by simpa [Value.cells] using hf
    obtain ⟨xs, fn, _, _, _, hxl, hg⟩ := DataW.trod_struct Tryz.underlying23 hf'
    have e0 : DataW.trod enc Tryz.prog W 0 sp held fn 3 (([x0, x1].drop 0).take (Tryz.prog.cellsOf 3)) = xs[0]? := hg 0 _ rfl
    have e1 : DataW.trod enc Tryz.prog W 0 sp held fn 3 (([x0, x1].drop 1).take (Tryz.prog.cellsOf 3)) = xs[1]? := hg 1 _ rfl
    rw [k3] at e0 e1
    simp only [List.drop_zero, List.drop_succ_cons, List.take_succ_cons, List.take_zero] at e0 e1
    have hx : ∀ j, j < 2 → ∃ y, xs[j]? = some y := fun j hj => ⟨_, List.getElem?_eq_getElem (by rw [hxl]; exact hj)⟩
    obtain ⟨y0, z0⟩ := hx 0 (by omega)
    obtain ⟨y1, z1⟩ := hx 1 (by omega)
    obtain ⟨m0, f0, _, _⟩ := DataW.trod_int Tryz.underlying3 (e0.trans z0)
    obtain ⟨m1, f1, _, _⟩ := DataW.trod_int Tryz.underlying3 (e1.trans z1)
    simp only [List.cons.injEq, and_true] at f0 f1
    exact ⟨(m0, m1), by rw [f0, f1]⟩

/-! ### steps -/
structure Stp where
  kind : Int
  o : Opn
  d : Int
  now : Int
  raw : Bool
structure OpAt (w : World) (a : Addr) (i : Nat) (o : Stp) : Prop where
  c0 : w.cell? (a.add (i * 9)) = some (.int .i64 o.kind)
  c1 : w.cell? ⟨(a.add (i * 9)).block, (a.add (i * 9)).off + 1, none⟩ = some (.int .i64 o.o.kind)
  c2 : w.cell? ⟨(a.add (i * 9)).block, (a.add (i * 9)).off + 2, none⟩ = some (.int .i64 o.o.book)
  c3 : w.cell? ⟨(a.add (i * 9)).block, (a.add (i * 9)).off + 3, none⟩ = some (.int .i64 o.o.units)
  c4 : w.cell? ⟨(a.add (i * 9)).block, (a.add (i * 9)).off + 4, none⟩ = some (.int .i64 o.o.cust)
  c5 : w.cell? ⟨(a.add (i * 9)).block, (a.add (i * 9)).off + 5, none⟩ = some (.int .i64 o.o.amount)
  c6 : w.cell? ⟨(a.add (i * 9)).block, (a.add (i * 9)).off + 6, none⟩ = some (.int .i64 o.d)
  c7 : w.cell? ⟨(a.add (i * 9)).block, (a.add (i * 9)).off + 7, none⟩ = some (.int .i64 o.now)
  c8 : w.cell? ⟨(a.add (i * 9)).block, (a.add (i * 9)).off + 8, none⟩ = some (.bool o.raw)
/-- A slice of steps that came in. -/
structure Ops (w : World) (B : Nat) (A : Option Addr) (n : Nat) (l : List Stp) : Prop where
  len : l.length = n
  at_ : 0 < n → ∃ a, A = some a ∧ a.block < B ∧ ∀ i o, l[i]? = some o → OpAt w a i o
theorem OpAt.same {w w' : World} {a : Addr} {i : Nat} {o : Stp} (h : OpAt w a i o) (hb : w'.heap[a.block]? = w.heap[a.block]?) : OpAt w' a i o := by
  have e : ∀ k, w'.cell? ⟨(a.add (i * 9)).block, (a.add (i * 9)).off + k, none⟩ = w.cell? ⟨(a.add (i * 9)).block, (a.add (i * 9)).off + k, none⟩ := fun k => World.cell?_of_block (by show w'.heap[(a.add (i * 9)).block]? = w.heap[(a.add (i * 9)).block]?; rw [adr_block]; exact hb)
  exact ⟨(World.cell?_of_block (by rw [adr_block]; exact hb)).trans h.c0, (e 1).trans h.c1, (e 2).trans h.c2, (e 3).trans h.c3, (e 4).trans h.c4, (e 5).trans h.c5, (e 6).trans h.c6, (e 7).trans h.c7, (e 8).trans h.c8⟩
theorem Ops.below {w w' : World} {B : Nat} {A : Option Addr} {n : Nat} {l : List Stp} (h : Ops w B A n l) (hb : Below B w w') : Ops w' B A n l :=
  ⟨h.len, fun hn => by
    obtain ⟨a, e, h1, h2⟩ := h.at_ hn
    exact ⟨a, e, h1, fun i o hi => (h2 i o hi).same (hb.block _ h1)⟩⟩
def Osrc (w : World) (v : Value) (l : List Stp) : Prop := ∃ A n c, v = .slice A n c ∧ n ≤ c ∧ c ≤ 9223372036854775807 ∧ Ops w w.heap.size A n l
theorem view_sops {H : Type} {enc : TypeId × Value → H} {W : World} {sp : Nat → Bool} {held : Bool} {v : Value} {d : DataW H} {p : List MemPlace} {r : Reach} {b0 : Nat}
    (hv : Value.okWide Tryz.prog W r b0 24 v) (h : DataW.Trod enc Tryz.prog W 0 sp held 24 v d p) : ∃ l, Osrc W v l := by
  obtain ⟨A, n, c, rfl⟩ := okWide_slice Tryz.underlying24 hv
  obtain ⟨fuel, hf⟩ := h
  have c28 : Tryz.prog.cellsOf 45 = 9 := by kernel_rfl
  have k3 : Tryz.prog.cellsOf 3 = 1 := by kernel_rfl
  have k4 : Tryz.prog.cellsOf 4 = 1 := by kernel_rfl
  have k5 : Tryz.prog.cellsOf 43 = 5 := by kernel_rfl
  rcases Go.Deep.open_slice Tryz.underlying24 hf with ⟨hcs, _⟩ | ⟨a, len, cap, m, fu, D, Pl, hcs, _, hl, hm, hmm, _, hi⟩
  · obtain ⟨rfl, rfl, rfl⟩ : A = none ∧ n = 0 ∧ c = 0 := by simpa [Value.cells] using hcs
    exact ⟨[], none, 0, 0, rfl, Nat.le_refl _, by omega, ⟨rfl, fun h => absurd h (by omega)⟩⟩
  · obtain ⟨rfl, rfl, rfl⟩ : A = some a ∧ n = len ∧ c = cap := by simpa [Value.cells] using hcs
    have hle : n ≤ m := by rw [hmm]; split <;> omega
    unfold maxLen at hm
    have one : ∀ i, i < n → ∃ o, OpAt W a i o := by
      intro i hin
      obtain ⟨cs', h1, h2⟩ := hi i (by omega)
      rw [c28] at h1
      obtain ⟨_, hlen, hat⟩ := World.cells?_some h1
      obtain ⟨xs, fn, _, _, _, hxl, hg⟩ := DataW.trod_struct Tryz.underlying45 h2
      match cs', hlen with
      | [x0, x1, x2, x3, x4, x5, x6, x7, x8], _ =>
        have e0 : DataW.trod enc Tryz.prog W 0 sp held fn 3 (([x0, x1, x2, x3, x4, x5, x6, x7, x8].drop 0).take (Tryz.prog.cellsOf 3)) = xs[0]? := hg 0 _ rfl
        rw [k3] at e0
        have e1 : DataW.trod enc Tryz.prog W 0 sp held fn 43 (([x0, x1, x2, x3, x4, x5, x6, x7, x8].drop 1).take (Tryz.prog.cellsOf 43)) = xs[1]? := hg 1 _ rfl
        rw [k5] at e1
        have e2 : DataW.trod enc Tryz.prog W 0 sp held fn 3 (([x0, x1, x2, x3, x4, x5, x6, x7, x8].drop 6).take (Tryz.prog.cellsOf 3)) = xs[2]? := hg 2 _ rfl
        rw [k3] at e2
        have e3 : DataW.trod enc Tryz.prog W 0 sp held fn 3 (([x0, x1, x2, x3, x4, x5, x6, x7, x8].drop 7).take (Tryz.prog.cellsOf 3)) = xs[3]? := hg 3 _ rfl
        rw [k3] at e3
        have e4 : DataW.trod enc Tryz.prog W 0 sp held fn 4 (([x0, x1, x2, x3, x4, x5, x6, x7, x8].drop 8).take (Tryz.prog.cellsOf 4)) = xs[4]? := hg 4 _ rfl
        rw [k4] at e4
        have hx : ∀ j, j < 5 → ∃ y, xs[j]? = some y := fun j hj => ⟨_, List.getElem?_eq_getElem (by rw [hxl]; exact hj)⟩
        obtain ⟨y0, z0⟩ := hx 0 (by omega)
        obtain ⟨y1, z1⟩ := hx 1 (by omega)
        obtain ⟨y2, z2⟩ := hx 2 (by omega)
        obtain ⟨y3, z3⟩ := hx 3 (by omega)
        obtain ⟨y4, z4⟩ := hx 4 (by omega)
        simp only [List.drop_zero, List.drop_succ_cons, List.take_succ_cons, List.take_zero] at e0 e1 e2 e3 e4
        obtain ⟨m0, f0, _, _⟩ := DataW.trod_int Tryz.underlying3 (e0.trans z0)
        obtain ⟨o, g1, g2, g3, g4, g5⟩ := trod_op5 (e1.trans z1)
        obtain ⟨m6, f6, _, _⟩ := DataW.trod_int Tryz.underlying3 (e2.trans z2)
        obtain ⟨m7, f7, _, _⟩ := DataW.trod_int Tryz.underlying3 (e3.trans z3)
        obtain ⟨m8, f8, _⟩ := DataW.trod_bool Tryz.underlying4 (e4.trans z4)
        simp only [List.cons.injEq, and_true] at f0 f6 f7 f8
        refine ⟨⟨m0, o, m6, m7, m8⟩, ⟨?_, ?_, ?_, ?_, ?_, ?_, ?_, ?_, ?_⟩⟩
        · have := hat 0 (by omega); rw [Addr.add_zero'] at this; rw [this, f0]; rfl
        · have := hat 1 (by omega); rw [Addr.add_succ'] at this; rw [this, g1]; rfl
        · have := hat 2 (by omega); rw [Addr.add_succ'] at this; rw [this, g2]; rfl
        · have := hat 3 (by omega); rw [Addr.add_succ'] at this; rw [this, g3]; rfl
        · have := hat 4 (by omega); rw [Addr.add_succ'] at this; rw [this, g4]; rfl
        · have := hat 5 (by omega); rw [Addr.add_succ'] at this; rw [this, g5]; rfl
        · have := hat 6 (by omega); rw [Addr.add_succ'] at this; rw [this, f6]; rfl
        · have := hat 7 (by omega); rw [Addr.add_succ'] at this; rw [this, f7]; rfl
        · have := hat 8 (by omega); rw [Addr.add_succ'] at this; rw [this, f8]; rfl
    have all : ∀ k, k ≤ n → ∃ l : List Stp, l.length = k ∧ (∀ i o, l[i]? = some o → OpAt W a i o) := by
      intro k
      induction k with
      | zero => intro _; exact ⟨[], rfl, fun i o h => by simp at h⟩
      | succ k ih =>
        intro hk
        obtain ⟨l, h1, h2⟩ := ih (by omega)
        obtain ⟨o, h4⟩ := one k (by omega)
        refine ⟨l ++ [o], by simp [h1], fun i o' hi => ?_⟩
        rw [List.getElem?_append] at hi
        split at hi
        · exact h2 i o' hi
        · rename_i hge
          have hi0 : i - l.length = 0 := by
            rcases Nat.eq_zero_or_pos (i - l.length) with e | e
            · exact e
            · rw [List.getElem?_eq_none (by simp; omega)] at hi; cases hi
          rw [hi0] at hi
          simp only [List.getElem?_cons_zero, Option.some.injEq] at hi
          subst hi
          obtain rfl : i = k := by omega
          exact h4
    obtain ⟨l, h1, h2⟩ := all n (Nat.le_refl _)
    refine ⟨l, some a, n, c, rfl, hl, by omega, ⟨h1, fun hn => ⟨a, rfl, ?_, h2⟩⟩⟩
    obtain ⟨o, h4⟩ := one 0 hn
    have := lt_of_cell h4.c0
    rwa [adr_block] at this
end St
end Go.Proofs.YtchlbkfkecpodaaGreat

namespace Go.Proofs.YtchlbkfkecpodaaGreat
set_option maxRecDepth 100000
open Go.RowKit
namespace St
theorem eq_ent_run (w : World) (a u t a' u' t' : Int) : (Op.equalIn 10000 32 (.agg #[.int .i64 a, .int .i64 u, .int .i64 t, .int .i64 0, .int .i64 0]) (.agg #[.int .i64 a', .int .i64 u', .int .i64 t', .int .i64 0, .int .i64 0])).run Tryz.prog w = .ok (decide ((⟨a, u, t⟩ : E) = ⟨a', u', t'⟩)) w := by
  have u3 := Tryz.underlying3
  have a3 := Tryz.isAgg3
  have z3 := Tryz.sizeOf3
  have u2 := Tryz.underlying2
  have a2 := Tryz.isAgg2
  have z2 := Tryz.sizeOf2
  have hS : Tryz.prog.underlying 32 = some (.struct (Tryz.prog.fieldsOf 32)) := by kernel_rfl
  rw [show (10000 : Nat) = 9999 + 1 from rfl, run_equalIn_agg w 9999 32 _ _ hS Tryz.stoodInHeld32]
  simp only [Program.fieldsOf, Tryz.underlying32]
  go_simp
  by_cases h1 : a = a' <;> by_cases h2 : u = u' <;> by_cases h3 : t = t' <;> simp [h1, h2, h3]
end St
end Go.Proofs.YtchlbkfkecpodaaGreat

namespace Go.Proofs.YtchlbkfkecpodaaGreat
set_option maxRecDepth 100000
namespace St
open Wt (Opn mayOp inR)

theorem rise_ext {xs ys : List Int} (hx : xs.Pairwise (· < ·)) (hy : ys.Pairwise (· < ·)) (h : ∀ x, x ∈ xs ↔ x ∈ ys) : xs = ys := by
  have nx : xs.Nodup := hx.imp fun {a b} h => by omega
  have ny : ys.Nodup := hy.imp fun {a b} h => by omega
  exact List.Perm.eq_of_pairwise (le := fun a b => a < b) (fun a b _ _ h1 h2 => by omega) hx hy ((List.perm_ext_iff_of_nodup nx ny).2 h)
theorem upd_upd (f : F) (b : Int) (e e' : E) : upd (upd f b e) b e' = upd f b e' := by
  funext k
  unfold upd
  split <;> rfl
theorem hold_may {b u : Int} (b1 : 1 ≤ b) (b2 : b ≤ 200) (u1 : 1 ≤ u) (u2 : u ≤ 1000) : mayOp ⟨1, b, u, 0, 0⟩ = true := by
  unfold mayOp inR
  simp
  omega
theorem conf_may {b : Int} (b1 : 1 ≤ b) (b2 : b ≤ 200) : mayOp ⟨2, b, 0, 0, 0⟩ = true := by
  unfold mayOp inR
  simp
  omega
theorem rel_may {b : Int} (b1 : 1 ≤ b) (b2 : b ≤ 200) : mayOp ⟨3, b, 0, 0, 0⟩ = true := by
  unfold mayOp inR
  simp
  omega
theorem tick_of {n : Int} (h0 : 0 ≤ n) (h1 : n ≤ 1099511627776) : tick n = true := tick_iff.2 ⟨h0, h1⟩
section
variable {cap over now b u : Int} {f : F}
theorem d_hold_yes (b1 : 1 ≤ b) (b2 : b ≤ 200) (u1 : 1 ≤ u) (u2 : u ≤ 1000) (ht : tick now = true) (h0 : (f b).st = 0) (hr : u ≤ room cap over f) : dstp cap over f ⟨1, b, u, 0, 0⟩ now = (upd f b ⟨1, u, now + 60⟩, 1) := by
  unfold dstp stp
  rw [hold_may b1 b2 u1 u2, ht]
  simp only [Bool.and_self, Bool.true_eq_false, if_false, if_true]
  rw [if_pos h0, if_pos hr]
theorem d_hold_no (b1 : 1 ≤ b) (b2 : b ≤ 200) (u1 : 1 ≤ u) (u2 : u ≤ 1000) (ht : tick now = true) (h0 : (f b).st = 0) (hr : ¬ u ≤ room cap over f) : dstp cap over f ⟨1, b, u, 0, 0⟩ now = (upd f b eg, 2) := by
  unfold dstp stp
  rw [hold_may b1 b2 u1 u2, ht]
  simp only [Bool.and_self, Bool.true_eq_false, if_false, if_true]
  rw [if_pos h0, if_neg hr]
theorem d_rel (b1 : 1 ≤ b) (b2 : b ≤ 200) (ht : tick now = true) : dstp cap over f ⟨3, b, 0, 0, 0⟩ now = (upd f b eg, 1) := by
  unfold dstp stp
  rw [rel_may b1 b2, ht]
  rfl
theorem d_conf_have (b1 : 1 ≤ b) (b2 : b ≤ 200) (ht : tick now = true) (h2 : (f b).st = 2) : dstp cap over f ⟨2, b, 0, 0, 0⟩ now = (f, 1) := by
  unfold dstp stp
  rw [conf_may b1 b2, ht]
  simp only [Bool.and_self, Bool.true_eq_false, if_false]
  rw [if_neg (by decide), if_pos trivial, if_pos h2]
theorem d_conf_yes (b1 : 1 ≤ b) (b2 : b ≤ 200) (ht : tick now = true) (h1 : (f b).st = 1) (hu : now < (f b).ut) : dstp cap over f ⟨2, b, 0, 0, 0⟩ now = (upd f b ⟨2, (f b).un, 0⟩, 1) := by
  unfold dstp stp
  rw [conf_may b1 b2, ht]
  simp only [Bool.and_self, Bool.true_eq_false, if_false]
  rw [if_neg (by decide), if_pos trivial, if_neg (by omega), if_pos ⟨h1, hu⟩]
theorem d_conf_no (b1 : 1 ≤ b) (b2 : b ≤ 200) (ht : tick now = true) (h2 : (f b).st ≠ 2) (h1 : ¬ ((f b).st = 1 ∧ now < (f b).ut)) : dstp cap over f ⟨2, b, 0, 0, 0⟩ now = (upd f b eg, 2) := by
  unfold dstp stp
  rw [conf_may b1 b2, ht]
  simp only [Bool.and_self, Bool.true_eq_false, if_false]
  rw [if_neg (by decide), if_pos trivial, if_neg h2, if_neg h1]
end
theorem ovr_ez (now : Int) : ovr now ez = false := by simp [ovr, ez]
theorem sel_one {p : E → Bool} (hp : p ez = false) {b : Int} (b1 : 1 ≤ b) (b2 : b ≤ 200) (e : E) : sel p (upd fz b e) 200 = if p e = true then [b] else [] := by
  refine rise_ext (sel_rise _ _ _) ?_ fun x => ?_
  · split
    · exact List.pairwise_singleton _ _
    · exact List.Pairwise.nil
  · rw [mem_sel]
    by_cases hx : x = b
    · subst hx
      rw [upd_same]
      split
      · rename_i h; simp [h]; omega
      · rename_i h; simp [h]
    · rw [upd_other hx]
      show _ ∧ p (fz x) = true ↔ _
      rw [show fz x = ez from rfl, hp]
      split <;> simp [hx]
theorem swl_one {b now : Int} (b1 : 1 ≤ b) (b2 : b ≤ 200) (e : E) (ht : tick now = true) : swL (upd fz b e) now = if ovr now e = true then [b] else [] := by
  unfold swL ovs
  rw [if_pos ht]
  exact sel_one (ovr_ez now) b1 b2 e
theorem swp_one (b now : Int) (e : E) : swp (upd fz b e) now = upd fz b (if ovr now e = true then eg else e) := by
  funext k
  unfold swp
  by_cases hk : k = b
  · subst hk
    rw [upd_same, upd_same]
  · rw [upd_other hk, upd_other hk, show fz k = ez from rfl, ovr_ez]
    rfl
theorem swf_one {b now : Int} (e : E) (ht : tick now = true) : swF (upd fz b e) now = if ovr now e = true then upd fz b eg else upd fz b e := by
  unfold swF
  rw [if_pos ht, swp_one]
  split <;> rfl
theorem uni_one {s b : Int} (b1 : 1 ≤ b) (b2 : b ≤ 200) (e : E) : uni s (upd fz b e) = hu s e := by
  rw [uni_upd s fz e b1 b2, uni_z]
  have : hu s (fz b) = 0 := by unfold hu fz ez; split <;> rfl
  omega
theorem room_z (cap over : Int) : room cap over fz = cap + over := by
  unfold room
  rw [uni_z, uni_z]
  omega
end St
end Go.Proofs.YtchlbkfkecpodaaGreat

namespace Go.Proofs.YtchlbkfkecpodaaGreat
set_option maxRecDepth 100000
open Go.RowKit
open Go.Proofs.YtchlbkfkecpodaaGreat.Pk (one_at one_free one_set lt_some adr_block)
namespace St
open Wt (Opn mayOp)

section
variable {B : Nat} {X X' : Nat → Prop} {w0 w w' : World} {q : Nat} {cap over : Int} {f : F}
theorem Ow.add (O : Ow B X w0 w q cap over f) (hb : Below w.heap.size w w') : Ow B (fun g => X g ∨ (w.heap.size ≤ g ∧ g < w'.heap.size)) w0 w' q cap over f := by
  obtain ⟨fp, L, hf⟩ := O.ex
  refine ⟨⟨fp, L.below hb, fun g hg => ⟨(hf g hg).1, fun h => ?_⟩⟩, O.be.trans (hb.mono O.bs), Nat.le_trans O.bs hb.size, fun g hg => ?_⟩
  · rcases h with h | ⟨h, _⟩
    · exact (hf g hg).2 h
    · have := L.size g hg
      omega
  · rcases hg with hg | ⟨_, hg⟩
    · exact Nat.lt_of_lt_of_le (O.xs g hg) hb.size
    · exact hg
theorem Ow.less (O : Ow B X w0 w q cap over f) (h : ∀ g, X' g → X g) : Ow B X' w0 w q cap over f := by
  obtain ⟨fp, L, hf⟩ := O.ex
  exact ⟨⟨fp, L, fun g hg => ⟨(hf g hg).1, fun hx => (hf g hg).2 (h g hx)⟩⟩, O.be, O.bs, fun g hg => O.xs g (h g hg)⟩
theorem OwTo.less {w1 : World} (O : OwTo B X w0 w q cap over f w1) (h : ∀ g, X' g → X g) : OwTo B X' w0 w q cap over f w1 := ⟨O.1.less h, O.2.1, fun g hg => O.2.2 g (h g hg)⟩
end
set_option maxHeartbeats 800000 in
theorem refMayStock_any (w : World) (cap over : Int) : Calls Tryz.prog 5 #[.agg #[.int .i64 cap, .int .i64 over]] w fun e w' => e = .returned (.bool (mayS cap over)) ∧ Below w.heap.size w w' := by
  have HB : Hid (Below w.heap.size w (w.alloc (.cells #[.int .i64 cap, .int .i64 over] 23))) := (Below.refl _ _).alloc (Nat.le_refl _) _
  have F : Hid (mayS cap over = (decide (0 ≤ cap) && decide (cap ≤ 1000000) && decide (0 ≤ over) && decide (over ≤ 1000000))) := by unfold mayS inb; rw [Bool.and_assoc, Bool.and_assoc, Bool.and_assoc]; rfl
  obtain ⟨c1, h1⟩ : ∃ c, c = decide (0 ≤ cap) := ⟨_, rfl⟩
  obtain ⟨c2, h2⟩ : ∃ c, c = decide (cap ≤ 1000000) := ⟨_, rfl⟩
  obtain ⟨c3, h3⟩ : ∃ c, c = decide (0 ≤ over) := ⟨_, rfl⟩
  obtain ⟨c4, h4⟩ : ∃ c, c = decide (over ≤ 1000000) := ⟨_, rfl⟩
  rw [← h1, ← h2, ← h3, ← h4] at F
  have g1 := h1.symm
  have g2 := h2.symm
  have g3 := h3.symm
  have g4 := h4.symm
  clear h1 h2 h3 h4
  cases c1 <;> cases c2 <;> cases c3
  all_goals
    go_enter Tryz.func5, Tryz.ntmps5
    go_wp2
    go_ret
    rw [F.out]
    exact ⟨rfl, HB.out⟩

/-! ### what is gone -/
theorem swF_gone {f : F} {b now : Int} (h : f b = eg) : swF f now b = eg := by
  unfold swF
  split
  · unfold swp
    rw [h]
    rfl
  · exact h
theorem gone_do {cap over now b : Int} {f : F} {o : Opn} (h : f b = eg) (ht : tick now = true) :
    (dstp cap over f o now).1 b = eg ∧ (o.book = b → ((dstp cap over f o now).2 == 1) = ((o.kind == 3) && mayOp o)) := by
  unfold dstp stp
  rw [ht, Bool.and_true]
  cases hm : mayOp o with
  | false =>
    rw [if_pos rfl]
    exact ⟨h, fun _ => by simp⟩
  | true =>
    rw [if_neg (by simp), Bool.and_true]
    by_cases hb : o.book = b
    · rw [hb, h]
      have e0 : eg.st = 3 := rfl
      rw [e0]
      by_cases k1 : o.kind = 1
      · rw [if_pos k1, if_neg (by decide), if_neg (fun h => h.1 rfl)]
        exact ⟨h, fun _ => by rw [k1]; rfl⟩
      · rw [if_neg k1]
        by_cases k2 : o.kind = 2
        · rw [if_pos k2, if_neg (by decide), if_neg (fun h => by have := h.1; omega)]
          exact ⟨upd_same _ _ _, fun _ => by rw [k2]; rfl⟩
        · rw [if_neg k2]
          by_cases k3 : o.kind = 3
          · rw [if_pos k3]
            exact ⟨upd_same _ _ _, fun _ => by rw [k3]; rfl⟩
          · rw [if_neg k3]
            exact ⟨h, fun _ => by
              have : (o.kind == 3) = false := by simpa using k3
              rw [this]
              rfl⟩
    · refine ⟨?_, fun e => absurd e hb⟩
      have hne : b ≠ o.book := fun e => hb e.symm
      split
      · split
        · split
          · exact (upd_other hne).trans h
          · exact (upd_other hne).trans h
        · split <;> exact h
      · split
        · split
          · exact h
          · split
            · exact (upd_other hne).trans h
            · exact (upd_other hne).trans h
        · split
          · exact (upd_other hne).trans h
          · exact h
end St
end Go.Proofs.YtchlbkfkecpodaaGreat

namespace Go.Proofs.YtchlbkfkecpodaaGreat
set_option maxRecDepth 100000
open Go.RowKit
open Go.Proofs.YtchlbkfkecpodaaGreat.Pk (one_at one_free one_set lt_some adr_block)
namespace St
open Wt (Opn mayOp)

structure Tw (B : Nat) (w0 w : World) (qa qc : Nat) (cap over : Int) (fa fc : F) : Prop where
  ex : ∃ pa pc, Led w qa cap over fa pa ∧ Led w qc cap over fc pc ∧ (∀ g, pa g → B ≤ g) ∧ (∀ g, pc g → B ≤ g) ∧ ∀ g, pa g → ¬ pc g
  be : Below B w0 w
  bs : B ≤ w.heap.size
section
variable {B : Nat} {w0 w w' : World} {qa qc : Nat} {cap over : Int} {fa fc : F}
theorem Tw.swap (T : Tw B w0 w qa qc cap over fa fc) : Tw B w0 w qc qa cap over fc fa := by
  obtain ⟨pa, pc, h1, h2, h3, h4, h5⟩ := T.ex
  exact ⟨⟨pc, pa, h2, h1, h4, h3, fun g hc ha => h5 g ha hc⟩, T.be, T.bs⟩
theorem Tw.below (T : Tw B w0 w qa qc cap over fa fc) (hb : Below w.heap.size w w') : Tw B w0 w' qa qc cap over fa fc := by
  obtain ⟨pa, pc, h1, h2, h3, h4, h5⟩ := T.ex
  exact ⟨⟨pa, pc, h1.below hb, h2.below hb, h3, h4, h5⟩, T.be.trans (hb.mono T.bs), Nat.le_trans T.bs hb.size⟩
theorem Tw.one (T : Tw B w0 w qa qc cap over fa fc) : ∃ pa, Led w qa cap over fa pa ∧ (∀ g, pa g → B ≤ g) ∧ Ow B pa w0 w qc cap over fc := by
  obtain ⟨pa, pc, h1, h2, h3, h4, h5⟩ := T.ex
  exact ⟨pa, h1, h3, ⟨pc, h2, fun g hg => ⟨h4 g hg, fun ha => h5 g ha hg⟩⟩, T.be, T.bs, fun g hg => h1.size g hg⟩
theorem Tw.of_ow {f' : F} {pa : Nat → Prop} (h1 : Led w qa cap over fa pa) (h3 : ∀ g, pa g → B ≤ g) (O : OwTo B pa w0 w qc cap over f' w') : Tw B w0 w' qa qc cap over fa f' := by
  obtain ⟨⟨⟨pc, L, hf⟩, be, bs, xs⟩, K⟩ := O
  exact ⟨⟨pa, pc, h1.keep K.1 K.2, L, h3, fun g hg => (hf g hg).1, fun g ha hc => (hf g hc).2 ha⟩, be, bs⟩
theorem tw_do (T : Tw B w0 w qa qc cap over fa fc) (o : Opn) (now : Int) : Calls Tryz.prog 16 #[.pointer (some ⟨qc, 0, none⟩), opv o, .int .i64 now] w fun e w' => e = .returned (.int .i64 (dstp cap over fc o now).2) ∧ Tw B w0 w' qa qc cap over fa (dstp cap over fc o now).1 := by
  obtain ⟨pa, h1, h3, O⟩ := T.one
  refine (ow_do O o now).mono ?_
  rintro e w' ⟨rfl, h⟩
  exact ⟨rfl, .of_ow h1 h3 h⟩
theorem tw_sweep (T : Tw B w0 w qa qc cap over fa fc) (now : Int) : Calls Tryz.prog 19 #[.pointer (some ⟨qc, 0, none⟩), .int .i64 now] w fun e w' => ∃ v, e = .returned v ∧ RowI w' w.heap.size v (swL fc now).length (ivs (swL fc now)) ∧ Tw B w0 w' qa qc cap over fa (swF fc now) := by
  obtain ⟨pa, h1, h3, O⟩ := T.one
  refine (ow_sweep O now).mono ?_
  rintro e w' ⟨v, rfl, hr, h⟩
  exact ⟨v, rfl, hr, .of_ow h1 h3 h⟩
theorem tw_bytes (T : Tw B w0 w qa qc cap over fa fc) : Calls Tryz.prog 31 #[.pointer (some ⟨qc, 0, none⟩)] w (ByTo w (bts cap over fc 200)) := by
  obtain ⟨pa, h1, h3, O⟩ := T.one
  exact ow_bytes O
theorem tw_entry (T : Tw B w0 w qa qc cap over fa fc) (k : Int) (hk : Bd k) : Calls Tryz.prog 38 #[.pointer (some ⟨qc, 0, none⟩), .int .i64 k] w fun e w' => e = .returned (cell (fc k)) ∧ Below w.heap.size w w' := by
  obtain ⟨pa, h1, h3, O⟩ := T.one
  exact ow_entry O k hk
end
/-- What a copy leaves. -/
theorem ow_copy {B : Nat} {X : Nat → Prop} {w0 w : World} {q : Nat} {cap over : Int} {f : F} (O : Ow B X w0 w q cap over f) : Calls Tryz.prog 29 #[.pointer (some ⟨q, 0, none⟩)] w fun e w' => ∃ q', e = .returned (.pointer (some ⟨q', 0, none⟩)) ∧ Tw B w0 w' q q' cap over f f := by
  obtain ⟨fp, L, hf⟩ := O.ex
  refine (copy_any w q cap over f fp L).mono ?_
  rintro e w' ⟨q', fp', rfl, hn, L', hb⟩
  exact ⟨q', rfl, ⟨fp, fp', L.below hb, L', fun g hg => (hf g hg).1, fun g hg => Nat.le_trans O.bs (hn g hg), fun g hg hg' => by
    have := L.size g hg
    have := hn g hg'
    omega⟩, O.be.trans (hb.mono O.bs), Nat.le_trans O.bs hb.size⟩
/-- A row of bytes, as a string. -/
theorem by_str {w w' : World} {bs : Bs} {e : Ending} (h : ByTo w bs e w') : ∃ A n c, e = .returned (.slice A n c) ∧ (convert 54 9 (.slice A n c)).run Tryz.prog w' = .ok (.string (Pk.str bs)) w' ∧ Below w.heap.size w w' := by
  obtain ⟨v, rfl, hr, hb⟩ := h
  obtain ⟨A, c, rfl⟩ := Pk.own_form hr
  exact ⟨A, _, c, rfl, Pk.str_run (Pk.Rb.of_own hr), hb⟩
end St
end Go.Proofs.YtchlbkfkecpodaaGreat
