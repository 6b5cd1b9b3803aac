/- What comes in: a record, an operation. -/
import Derived.Test.YtidfpbnepdjagaaDoorSgF
import Derived.ProofKit
import Derived.OpenShut
import Derived.Deep.Slices
import Derived.Carry
import Derived.Laws.IdiomArrays
import Derived.Laws.BitsLemmas
import Derived.Test.YtidfpbnepdjagaaDoorSbM
import Derived.Laws.Tables
import Derived.Test.YtidfpbnepdjagaaDoorSgC
import Derived.Test.YtidfpbnepdjagaaDoorSbX
import Derived.Test.YtidfpbnepdjagaaDoorWtRX
import Derived.Test.YtidfpbnepdjagaaDoorPkU
import Derived.Deep.MidRow
import Derived.Test.YtidfpbnepdjagaaDoorSgQ0
import Derived.Test.YtidfpbnepdjagaaDoorWtE
namespace Go.Proofs.YtidfpbnepdjagaaDoor
set_option maxRecDepth 100000
open Go.ChangeShapes Go.WideShapes Go.ChangeAt Go.WideMaps Go.WideElems Go.RowKit
namespace Sg
open Wt (Wan may Opn mayOp)
open Pl (Stp spv)

theorem own : ownKnob Tryd.prog.godebug = none := by kernel_rfl
theorem laidOut : laidOutB Tryd.prog = true := by kernel_rfl
theorem bnd {x : Int} (h : (Lit.int .i64 x).wf = true) : -9223372036854775808 ≤ x ∧ x ≤ 9223372036854775807 := by
  simp [Lit.wf, IntKind.min, IntKind.max, IntKind.signed, IntKind.bits] at h
  omega
section
variable {H : Type} {enc : TypeId × Value → H} {W : World} {sp : Nat → Bool} {held : Bool}
theorem seen_want {fuel : Nat} {x0 x1 x2 x3 x4 x5 x6 : Value} {d : DataW H} {p : List MemPlace} (hf' : DataW.trod enc Tryd.prog W 0 sp held fuel 26 [x0, x1, x2, x3, x4, x5, x6] = some (d, p)) : ∃ x : Wan, x0 = .int .i64 x.book ∧ x1 = .int .i64 x.cust ∧ x2 = .int .i64 x.dead ∧ x3 = .int .i64 x.u0 ∧ x4 = .int .i64 x.u1 ∧ x5 = .int .i64 x.u2 ∧ x6 = .int .i64 x.price := by
  have k3 : Tryd.prog.cellsOf 3 = 1 := by kernel_rfl
  have k2 : Tryd.prog.cellsOf 2 = 1 := by kernel_rfl
  have ka : Tryd.prog.cellsOf 24 = 3 := by kernel_rfl
  obtain ⟨xs, fn, _, _, _, hxl, hg⟩ := DataW.trod_struct Tryd.underlying26 hf'
  have e0 : DataW.trod enc Tryd.prog W 0 sp held fn 3 (([x0, x1, x2, x3, x4, x5, x6].drop 0).take (Tryd.prog.cellsOf 3)) = xs[0]? := hg 0 _ rfl
  have e1 : DataW.trod enc Tryd.prog W 0 sp held fn 3 (([x0, x1, x2, x3, x4, x5, x6].drop 1).take (Tryd.prog.cellsOf 3)) = xs[1]? := hg 1 _ rfl
  have e2 : DataW.trod enc Tryd.prog W 0 sp held fn 3 (([x0, x1, x2, x3, x4, x5, x6].drop 2).take (Tryd.prog.cellsOf 3)) = xs[2]? := hg 2 _ rfl
  have e3 : DataW.trod enc Tryd.prog W 0 sp held fn 24 (([x0, x1, x2, x3, x4, x5, x6].drop 3).take (Tryd.prog.cellsOf 24)) = xs[3]? := hg 3 _ rfl
  have e4 : DataW.trod enc Tryd.prog W 0 sp held fn 2 (([x0, x1, x2, x3, x4, x5, x6].drop 6).take (Tryd.prog.cellsOf 2)) = xs[4]? := hg 4 _ rfl
  rw [k3] at e0 e1 e2
  rw [ka] at e3
  rw [k2] at e4
  simp only [List.drop_zero, List.drop_succ_cons, List.take_succ_cons, List.take_zero] at e0 e1 e2 e3 e4
  have hx : ∀ j, j < 5 → ∃ y, xs[j]? = some y := fun j hj => ⟨_, List.getElem?_eq_getElem (by rw [hxl]; exact hj)⟩
  obtain ⟨y0, z0⟩ := hx 0 (by omega)
  obtain ⟨y1, z1⟩ := hx 1 (by omega)
  obtain ⟨y2, z2⟩ := hx 2 (by omega)
  obtain ⟨y3, z3⟩ := hx 3 (by omega)
  obtain ⟨y4, z4⟩ := hx 4 (by omega)
  obtain ⟨q0, q1, q2, nn, _, r0, r1, r2⟩ := trod_array3 Tryd.underlying24 k3 (e3.trans z3)
  obtain ⟨m0, f0, _, _⟩ := DataW.trod_int Tryd.underlying3 (e0.trans z0)
  obtain ⟨m1, f1, _, _⟩ := DataW.trod_int Tryd.underlying3 (e1.trans z1)
  obtain ⟨m2, f2, _, _⟩ := DataW.trod_int Tryd.underlying3 (e2.trans z2)
  obtain ⟨m3, f3, _, _⟩ := DataW.trod_int Tryd.underlying3 r0
  obtain ⟨m4, f4, _, _⟩ := DataW.trod_int Tryd.underlying3 r1
  obtain ⟨m5, f5, _, _⟩ := DataW.trod_int Tryd.underlying3 r2
  obtain ⟨m6, f6, _, _⟩ := DataW.trod_int Tryd.underlying2 (e4.trans z4)
  simp only [List.cons.injEq, and_true] at f0 f1 f2 f3 f4 f5 f6
  exact ⟨⟨m0, m1, m2, m3, m4, m5, m6⟩, f0, f1, f2, f3, f4, f5, f6⟩
theorem seen_op {fuel : Nat} {x0 x1 x2 x3 x4 : Value} {d : DataW H} {p : List MemPlace} (hf' : DataW.trod enc Tryd.prog W 0 sp held fuel 23 [x0, x1, x2, x3, x4] = some (d, p)) : ∃ x : Opn, x0 = .int .i64 x.kind ∧ x1 = .int .i64 x.book ∧ x2 = .int .i64 x.units ∧ x3 = .int .i64 x.cust ∧ x4 = .int .i64 x.amount := by
  have k3 : Tryd.prog.cellsOf 3 = 1 := by kernel_rfl
  have k2 : Tryd.prog.cellsOf 2 = 1 := by kernel_rfl
  obtain ⟨xs, fn, _, _, _, hxl, hg⟩ := DataW.trod_struct Tryd.underlying23 hf'
  have e0 : DataW.trod enc Tryd.prog W 0 sp held fn 3 (([x0, x1, x2, x3, x4].drop 0).take (Tryd.prog.cellsOf 3)) = xs[0]? := hg 0 _ rfl
  have e1 : DataW.trod enc Tryd.prog W 0 sp held fn 3 (([x0, x1, x2, x3, x4].drop 1).take (Tryd.prog.cellsOf 3)) = xs[1]? := hg 1 _ rfl
  have e2 : DataW.trod enc Tryd.prog W 0 sp held fn 3 (([x0, x1, x2, x3, x4].drop 2).take (Tryd.prog.cellsOf 3)) = xs[2]? := hg 2 _ rfl
  have e3 : DataW.trod enc Tryd.prog W 0 sp held fn 3 (([x0, x1, x2, x3, x4].drop 3).take (Tryd.prog.cellsOf 3)) = xs[3]? := hg 3 _ rfl
  have e4 : DataW.trod enc Tryd.prog W 0 sp held fn 2 (([x0, x1, x2, x3, x4].drop 4).take (Tryd.prog.cellsOf 2)) = xs[4]? := hg 4 _ rfl
  rw [k3] at e0 e1 e2 e3
  rw [k2] at e4
  simp only [List.drop_zero, List.drop_succ_cons, List.take_succ_cons, List.take_zero] at e0 e1 e2 e3 e4
  have hx : ∀ j, j < 5 → ∃ y, xs[j]? = some y := fun j hj => ⟨_, List.getElem?_eq_getElem (by rw [hxl]; exact hj)⟩
  obtain ⟨y0, z0⟩ := hx 0 (by omega)
  obtain ⟨m0, f0, _, _⟩ := DataW.trod_int Tryd.underlying3 (e0.trans z0)
  obtain ⟨y1, z1⟩ := hx 1 (by omega)
  obtain ⟨m1, f1, _, _⟩ := DataW.trod_int Tryd.underlying3 (e1.trans z1)
  obtain ⟨y2, z2⟩ := hx 2 (by omega)
  obtain ⟨m2, f2, _, _⟩ := DataW.trod_int Tryd.underlying3 (e2.trans z2)
  obtain ⟨y3, z3⟩ := hx 3 (by omega)
  obtain ⟨m3, f3, _, _⟩ := DataW.trod_int Tryd.underlying3 (e3.trans z3)
  obtain ⟨y4, z4⟩ := hx 4 (by omega)
  obtain ⟨m4, f4, _, _⟩ := DataW.trod_int Tryd.underlying2 (e4.trans z4)
  simp only [List.cons.injEq, and_true] at f0 f1 f2 f3 f4
  exact ⟨⟨m0, m1, m2, m3, m4⟩, f0, f1, f2, f3, f4⟩
theorem view_want {v : Value} {d : DataW H} {p : List MemPlace} {r : Reach} {b0 : Nat}
    (hv : Value.okWide Tryd.prog W r b0 26 v) (h : DataW.Trod enc Tryd.prog W 0 sp held 26 v d p) : ∃ x : Wan, v = .agg #[.int .i64 x.book, .int .i64 x.cust, .int .i64 x.dead, .int .i64 x.u0, .int .i64 x.u1, .int .i64 x.u2, .int .i64 x.price] := by
  obtain ⟨cs, rfl, hsz⟩ := okWide_struct Tryd.underlying26 hv
  have c7 : Tryd.prog.cellsOf 26 = 7 := by kernel_rfl
  rw [c7] at hsz
  obtain ⟨fuel, hf⟩ := h
  obtain ⟨l, rfl⟩ : ∃ l : List Value, cs = l.toArray := ⟨cs.toList, by simp⟩
  match l, (by simpa using hsz : l.length = 7) with
  | [x0, x1, x2, x3, x4, x5, x6], _ =>
    obtain ⟨x, f0, f1, f2, f3, f4, f5, f6⟩ := seen_want (by simpa [Value.cells] using hf : DataW.trod enc Tryd.prog W 0 sp held fuel 26 [x0, x1, x2, x3, x4, x5, x6] = some (d, p))
    exact ⟨x, by rw [f0, f1, f2, f3, f4, f5, f6]⟩
theorem view_ask {v : Value} {d : DataW H} {p : List MemPlace} {r : Reach} {b0 : Nat}
    (hv : Value.okWide Tryd.prog W r b0 118 v) (h : DataW.Trod enc Tryd.prog W 0 sp held 118 v d p) : ∃ x : Stp, v = spv x := by
  obtain ⟨cs, rfl, hsz⟩ := okWide_struct Tryd.underlying118 hv
  have c6 : Tryd.prog.cellsOf 118 = 6 := by kernel_rfl
  have k3 : Tryd.prog.cellsOf 3 = 1 := by kernel_rfl
  have k5 : Tryd.prog.cellsOf 23 = 5 := by kernel_rfl
  rw [c6] at hsz
  obtain ⟨fuel, hf⟩ := h
  obtain ⟨l, rfl⟩ : ∃ l : List Value, cs = l.toArray := ⟨cs.toList, by simp⟩
  match l, (by simpa using hsz : l.length = 6) with
  | [x0, x1, x2, x3, x4, x5], _ =>
    have hf' : DataW.trod enc Tryd.prog W 0 sp held fuel 118 [x0, x1, x2, x3, x4, x5] = some (d, p) := by simpa [Value.cells] using hf
    obtain ⟨xs, fn, _, _, _, hxl, hg⟩ := DataW.trod_struct Tryd.underlying118 hf'
    have e0 : DataW.trod enc Tryd.prog W 0 sp held fn 3 (([x0, x1, x2, x3, x4, x5].drop 0).take (Tryd.prog.cellsOf 3)) = xs[0]? := hg 0 _ rfl
    have e1 : DataW.trod enc Tryd.prog W 0 sp held fn 23 (([x0, x1, x2, x3, x4, x5].drop 1).take (Tryd.prog.cellsOf 23)) = xs[1]? := hg 1 _ rfl
    rw [k3] at e0
    rw [k5] at e1
    simp only [List.drop_zero, List.drop_succ_cons, List.take_succ_cons, List.take_zero] at e0 e1
    have hx : ∀ j, j < 2 → ∃ y, xs[j]? = some y := fun j hj => ⟨_, List.getElem?_eq_getElem (by rw [hxl]; exact hj)⟩
    obtain ⟨y0, z0⟩ := hx 0 (by omega)
    obtain ⟨y1, z1⟩ := hx 1 (by omega)
    obtain ⟨m0, f0, _, _⟩ := DataW.trod_int Tryd.underlying3 (e0.trans z0)
    obtain ⟨o, f1, f2, f3, f4, f5⟩ := seen_op (e1.trans z1)
    simp only [List.cons.injEq, and_true] at f0
    exact ⟨⟨m0, o⟩, by rw [f0, f1, f2, f3, f4, f5]⟩
theorem view_saga {v : Value} {d : DataW H} {p : List MemPlace} {r : Reach} {b0 : Nat}
    (hv : Value.okWide Tryd.prog W r b0 28 v) (h : DataW.Trod enc Tryd.prog W 0 sp held 28 v d p) : ∃ x : Sag, v = sgv x := by
  obtain ⟨cs, rfl, hsz⟩ := okWide_struct Tryd.underlying28 hv
  have c11 : Tryd.prog.cellsOf 28 = 11 := by kernel_rfl
  have k3 : Tryd.prog.cellsOf 3 = 1 := by kernel_rfl
  have k7 : Tryd.prog.cellsOf 26 = 7 := by kernel_rfl
  rw [c11] at hsz
  obtain ⟨fuel, hf⟩ := h
  obtain ⟨l, rfl⟩ : ∃ l : List Value, cs = l.toArray := ⟨cs.toList, by simp⟩
  match l, (by simpa using hsz : l.length = 11) with
  | [x0, x1, x2, x3, x4, x5, x6, x7, x8, x9, x10], _ =>
    have hf' : DataW.trod enc Tryd.prog W 0 sp held fuel 28 [x0, x1, x2, x3, x4, x5, x6, x7, x8, x9, x10] = some (d, p) := by simpa [Value.cells] using hf
    obtain ⟨xs, fn, _, _, _, hxl, hg⟩ := DataW.trod_struct Tryd.underlying28 hf'
    have e0 : DataW.trod enc Tryd.prog W 0 sp held fn 26 (([x0, x1, x2, x3, x4, x5, x6, x7, x8, x9, x10].drop 0).take (Tryd.prog.cellsOf 26)) = xs[0]? := hg 0 _ rfl
    have e1 : DataW.trod enc Tryd.prog W 0 sp held fn 3 (([x0, x1, x2, x3, x4, x5, x6, x7, x8, x9, x10].drop 7).take (Tryd.prog.cellsOf 3)) = xs[1]? := hg 1 _ rfl
    have e2 : DataW.trod enc Tryd.prog W 0 sp held fn 3 (([x0, x1, x2, x3, x4, x5, x6, x7, x8, x9, x10].drop 8).take (Tryd.prog.cellsOf 3)) = xs[2]? := hg 2 _ rfl
    have e3 : DataW.trod enc Tryd.prog W 0 sp held fn 3 (([x0, x1, x2, x3, x4, x5, x6, x7, x8, x9, x10].drop 9).take (Tryd.prog.cellsOf 3)) = xs[3]? := hg 3 _ rfl
    have e4 : DataW.trod enc Tryd.prog W 0 sp held fn 3 (([x0, x1, x2, x3, x4, x5, x6, x7, x8, x9, x10].drop 10).take (Tryd.prog.cellsOf 3)) = xs[4]? := hg 4 _ rfl
    rw [k7] at e0
    rw [k3] at e1 e2 e3 e4
    simp only [List.drop_zero, List.drop_succ_cons, List.take_succ_cons, List.take_zero] at e0 e1 e2 e3 e4
    have hx : ∀ j, j < 5 → ∃ y, xs[j]? = some y := fun j hj => ⟨_, List.getElem?_eq_getElem (by rw [hxl]; exact hj)⟩
    obtain ⟨y0, z0⟩ := hx 0 (by omega)
    obtain ⟨o, f0, f1, f2, f3, f4, f5, f6⟩ := seen_want (e0.trans z0)
    obtain ⟨y1, z1⟩ := hx 1 (by omega)
    obtain ⟨m1, g1, _, _⟩ := DataW.trod_int Tryd.underlying3 (e1.trans z1)
    obtain ⟨y2, z2⟩ := hx 2 (by omega)
    obtain ⟨m2, g2, _, _⟩ := DataW.trod_int Tryd.underlying3 (e2.trans z2)
    obtain ⟨y3, z3⟩ := hx 3 (by omega)
    obtain ⟨m3, g3, _, _⟩ := DataW.trod_int Tryd.underlying3 (e3.trans z3)
    obtain ⟨y4, z4⟩ := hx 4 (by omega)
    obtain ⟨m4, g4, _, _⟩ := DataW.trod_int Tryd.underlying3 (e4.trans z4)
    simp only [List.cons.injEq, and_true] at g1 g2 g3 g4
    exact ⟨⟨o, m1, m2, m3, m4⟩, by rw [f0, f1, f2, f3, f4, f5, f6, g1, g2, g3, g4]⟩
end
section
variable {H : Type} {enc : TypeId × Value → H} {P : Program}
/-- The row's last step where all that was there is as it was. -/
theorem post_below {f : Func} {s : ChangeSpec} {apart fresh handsOn again : Bool} {W W' : World} {args : Array Value} {v : Value} {ds gs : List (DataW H)} {before pa pv : List MemPlace}
    (hW : DataW.Whole enc P f.params.toList s.vars apart W args.toList ds gs before)
    (hres : ∀ (b : Nat) (sp : Nat → Bool) (hd : Bool), DataW.TrodAll enc P W' b sp hd f.resultTypes.toList (v.resultList f.resultTypes.size) (s.fn H (ds ++ gs)).results [])
    (hargs : ∀ sp : Nat → Bool, (∀ p ∈ before, sp p.block = true) → DataW.TrodAll enc P W' 0 sp true f.params.toList args.toList (s.fn H (ds ++ gs)).args pa)
    (hvars : ∀ sp : Nat → Bool, (∀ p ∈ before, sp p.block = true) → DataW.TrodVars enc P W' sp s.vars (s.fn H (ds ++ gs)).vars pv)
    (hps : before = pa ++ pv) (hb : Below W.heap.size W W')
    (hok : ∀ (j : Nat) (t : TypeId) (r : Value), f.resultTypes[j]? = some t → (v.resultList f.resultTypes.size)[j]? = some r → Value.okWide P W' .any 0 t r) :
    s.post enc P f apart fresh handsOn again W args v W' := by
  have lower : ∀ p ∈ before, p.block < W.heap.size := fun p hp => hW.lt p hp
  have within : ∀ p ∈ before, (fun b => decide (b < W.heap.size)) p.block = true := fun p hp => decide_eq_true (lower p hp)
  refine ⟨ds, gs, before, [], pa, pv, hW, hres _ _ _, hargs _ within, hvars _ within, ?_, fun _ => ?_⟩
  · refine World.keptBut_mono (fun p hp => ⟨hp, ?_⟩) (hb.frame (· ∈ before))
    rw [hps, List.mem_append] at hp
    exact .inr hp
  · obtain ⟨_, _, _, _, _, marks, once⟩ := hW
    refine ⟨hok, _, _, ([] ++ pa) ++ pv, ⟨[] ++ pa, pv, trodAll_append (hargs _ (fun _ _ => rfl)) (hres _ _ _), hvars _ (fun _ _ => rfl), rfl, fun b off hp => ?_, fun ha => ?_⟩, fun p hp _ => ?_⟩
    · have hin : MemPlace.cell b off ∈ before := by simpa [hps] using hp
      exact (hb.frozen (lower _ hin)).trans (marks b off hin)
    · simpa [hps] using once ha
    · simpa [hps] using hp
end
/-- int(uint(z) % n). -/
def usm (z : Int) (n : Nat) : Nat := ((z % 18446744073709551616) % (n : Int)).toNat
theorem usm_lt (z : Int) {n : Nat} (hn : 0 < n) : usm z n < n := by
  have h1 := Int.emod_nonneg (z % 18446744073709551616) (b := (n : Int)) (by omega)
  have h2 := Int.emod_lt_of_pos (z % 18446744073709551616) (b := (n : Int)) (by omega)
  unfold usm
  omega
theorem usm_is (z : Int) {n : Nat} (hn : 0 < n) : ((z % 18446744073709551616) % (n : Int)) = (usm z n : Int) := by
  have h1 := Int.emod_nonneg (z % 18446744073709551616) (b := (n : Int)) (by omega)
  unfold usm
  omega
theorem usm_slot (z : Int) {n : Nat} (hn : 0 < n) (hs : n ≤ 1000000) : wrap64 ((IntKind.u64.wrap z).tmod (n : Int)) = (usm z n : Int) := by
  have h0 : 0 ≤ IntKind.u64.wrap z := by rw [IntKind.wrap_u64]; omega
  have h1 := usm_lt z hn
  rw [Int.tmod_eq_emod_of_nonneg h0, IntKind.wrap_u64, usm_is z hn, IntWalk.wrap64_in _ (by omega)]
end Sg
end Go.Proofs.YtidfpbnepdjagaaDoor

namespace Go.Proofs.YtidfpbnepdjagaaDoor
open Go.RowKit
open Go.Proofs.YtidfpbnepdjagaaDoor.Pk
namespace Re
open Go.Proofs.YtidfpbnepdjagaaDoor.Sg (Sag sz smay)
open Go.Proofs.YtidfpbnepdjagaaDoor.Sb (sput sget sget_put sget_inv sput_len)
open Wt (Opn mayOp inR rawOp getO getO_raw rEnd_zero rInt_enc rawOp_len oz oz_of opnOf rdk rdk_inv rdk_len I)

/-- A record: its kind, time, answer, operation, saga. -/
structure Rec where
  kd : Int
  now : Int
  an : Int
  op : Opn
  sg : Sag
deriving DecidableEq
def o0 : Opn := ⟨0, 0, 0, 0, 0⟩
def r0 : Rec := ⟨0, 0, 0, o0, sz⟩
def rmay (r : Rec) : Bool := inR r.now 0 1099511627776 &&
  (if r.kd = 1 then mayOp r.op && (r.an == 1 || r.an == 2) && decide (r.sg = sz)
  else if r.kd = 2 then decide (r.op = o0) && r.an == 0 && decide (r.sg = sz)
  else if r.kd = 3 then decide (r.op = o0) && r.an == 0 && smay r.sg
  else false)
/-- What stands behind its kind and time. -/
def rtail (r : Rec) : List UInt8 := if r.kd = 1 then encT (rawOp r.op) ++ encI r.an else if r.kd = 3 then encT (sput r.sg) else []
def rput (r : Rec) : List UInt8 := encI r.kd ++ encI r.now ++ rtail r
abbrev rI (s : St) : Int × St := rInt (-9223372036854775808) 9223372036854775807 s
/-- What is read; what is left. -/
def rrd (s : St) : Option Rec × St :=
  if (rI s).1 = 1 then ((getO (some (rText 1000 (rI (rI s).2).2).1)).map fun o => ⟨1, (rI (rI s).2).1, (rI (rText 1000 (rI (rI s).2).2).2).1, o, sz⟩, (rI (rText 1000 (rI (rI s).2).2).2).2)
  else if (rI s).1 = 3 then ((sget (rText 1000 (rI (rI s).2).2).1).map fun x => ⟨3, (rI (rI s).2).1, 0, o0, x⟩, (rText 1000 (rI (rI s).2).2).2)
  else (some ⟨(rI s).1, (rI (rI s).2).1, 0, o0, sz⟩, (rI (rI s).2).2)
def rfin (q : Option Rec × St) : Option Rec := match q with
  | (some r, some []) => if rmay r = true then some r else none
  | _ => none
def rget (l : List UInt8) : Option Rec := rfin (rrd (some l))

theorem rtext_enc {s : List UInt8} {most : Int} (h : (s.length : Int) ≤ most) (hm : most ≤ 9223372036854775807) (r : List UInt8) : rText most (some (encT s ++ r)) = (s, some r) := by
  unfold rText encT
  rw [List.append_assoc, rInt_enc (by omega) (by omega) (by omega)]
  simp
theorem rInt_inv2 {lo hi : Int} {l r : List UInt8} {v : Int} (h : rInt lo hi (some l) = (v, some r)) : l = encI v ++ r := by
  unfold rInt at h
  simp only at h
  split at h
  · cases h
  · rename_i u q hd
    split at h
    · injection h with h1 h2
      injection h2 with h2
      subst h1 h2
      obtain ⟨y, hy, hl, _⟩ := enc_of_dec l 0 0 u _ (by omega) hd
      simp at hy
      subst hy
      rw [encI, zz_uz]; exact hl
    · cases h
theorem rInt_bd {lo hi : Int} {l r : List UInt8} {v : Int} (h : rInt lo hi (some l) = (v, some r)) : lo ≤ v ∧ v ≤ hi := by
  unfold rInt at h
  simp only at h
  split at h
  · cases h
  · split at h
    · rename_i hb
      injection h with h1 h2
      omega
    · cases h
theorem rtext_inv {most : Int} {l t r : List UInt8} (h : rText most (some l) = (t, some r)) : l = encT t ++ r := by
  unfold rText at h
  split at h
  · cases h
  · rename_i n l' hq
    split at h
    · rename_i hn
      injection h with h1 h2
      injection h2 with h2
      have e := rInt_inv2 hq
      have hb := rInt_bd hq
      have hl : (t.length : Int) = n := by rw [← h1, List.length_take]; omega
      unfold encT
      rw [hl, e, ← h1, ← h2, List.append_assoc, List.take_append_drop]
    · cases h
theorem rI_some {s : St} {v : Int} {r : List UInt8} (h : rI s = (v, some r)) : ∃ l, s = some l ∧ l = encI v ++ r := by
  cases s with
  | none => cases h
  | some l => exact ⟨l, rfl, rInt_inv2 h⟩
theorem rtext_some {s : St} {t r : List UInt8} (h : rText 1000 s = (t, some r)) : ∃ l, s = some l ∧ l = encT t ++ r := by
  cases s with
  | none => cases h
  | some l => exact ⟨l, rfl, rtext_inv h⟩

theorem rmay_now {r : Rec} (h : rmay r = true) : 0 ≤ r.now ∧ r.now ≤ 1099511627776 := by
  unfold rmay inR at h
  simp only [Bool.and_eq_true, decide_eq_true_iff] at h
  exact h.1
theorem rmay_cases {r : Rec} (h : rmay r = true) : (r.kd = 1 ∧ mayOp r.op = true ∧ (r.an = 1 ∨ r.an = 2) ∧ r.sg = sz) ∨ (r.kd = 2 ∧ r.op = o0 ∧ r.an = 0 ∧ r.sg = sz) ∨ (r.kd = 3 ∧ r.op = o0 ∧ r.an = 0 ∧ smay r.sg = true) := by
  unfold rmay at h
  rw [Bool.and_eq_true] at h
  have h2 := h.2
  split at h2
  · simp only [Bool.and_eq_true, Bool.or_eq_true, decide_eq_true_iff, beq_iff_eq] at h2
    rename_i hk
    exact .inl ⟨hk, h2.1.1, h2.1.2, h2.2⟩
  · split at h2
    · simp only [Bool.and_eq_true, decide_eq_true_iff, beq_iff_eq] at h2
      rename_i hk
      exact .inr (.inl ⟨hk, h2.1.1, h2.1.2, h2.2⟩)
    · split at h2
      · simp only [Bool.and_eq_true, decide_eq_true_iff, beq_iff_eq] at h2
        rename_i hk
        exact .inr (.inr ⟨hk, h2.1.1, h2.1.2, h2.2⟩)
      · cases h2
theorem encT_len {s : List UInt8} (h : s.length ≤ 1000) : (encT s).length ≤ s.length + 10 := by
  have := encI_len (s.length : Int) (by omega) (by omega)
  unfold encT
  rw [List.length_append]
  omega
theorem rput_len {r : Rec} (h : rmay r = true) : 0 < (rput r).length ∧ (rput r).length ≤ 140 := by
  have hn := rmay_now h
  have h1 := encI_len r.now (by omega) (by omega)
  have e0 := enc_ne (zz r.kd)
  unfold rput rtail
  rw [List.length_append, List.length_append]
  unfold encI at e0 ⊢
  refine ⟨by omega, ?_⟩
  rcases rmay_cases h with ⟨hk, ho, ha, -⟩ | ⟨hk, -⟩ | ⟨hk, -, -, hs⟩
  · have h0 := encI_len r.kd (by omega) (by omega)
    have h2 := encI_len r.an (by omega) (by omega)
    have h3 := (rawOp_len ho).2
    have h4 := encT_len (s := rawOp r.op) (by omega)
    rw [if_pos hk, List.length_append]
    unfold encI at h0 h1 h2
    omega
  · have h0 := encI_len r.kd (by omega) (by omega)
    rw [if_neg (by omega), if_neg (by omega)]
    unfold encI at h0 h1
    simp
    omega
  · have h0 := encI_len r.kd (by omega) (by omega)
    have h3 := sput_len hs
    have h4 := encT_len (s := sput r.sg) (by omega)
    rw [if_neg (by omega), if_pos hk]
    unfold encI at h0 h1
    omega
theorem rrd_put {r : Rec} (h : rmay r = true) (q : List UInt8) : rrd (some (rput r ++ q)) = (some r, some q) := by
  have hn := rmay_now h
  have e2 : ∀ t, rI (some (encI r.now ++ t)) = (r.now, some t) := fun t => rInt_enc (by omega) (by omega) (by omega) t
  obtain ⟨k, now, an, op, sg⟩ := r
  simp only at hn e2
  rcases rmay_cases h with ⟨hk, ho, ha, hs⟩ | ⟨hk, ho, ha, hs⟩ | ⟨hk, ho, ha, hs⟩
  · simp only at hk ho ha hs
    subst hk hs
    have e1 : ∀ t, rI (some (encI 1 ++ t)) = (1, some t) := fun t => rInt_enc (by omega) (by omega) (by omega) t
    have e3 : ∀ t, rText 1000 (some (encT (rawOp op) ++ t)) = (rawOp op, some t) := fun t => rtext_enc (by have := (rawOp_len ho).2; omega) (by omega) t
    have e4 : ∀ t, rI (some (encI an ++ t)) = (an, some t) := fun t => rInt_enc (by omega) (by omega) (by omega) t
    have ef : rput ⟨1, now, an, op, sz⟩ ++ q = encI 1 ++ (encI now ++ (encT (rawOp op) ++ (encI an ++ q))) := by simp [rput, rtail, List.append_assoc]
    rw [ef]
    simp only [rrd, e1, e2, e3, e4, if_true, getO_raw ho, Option.map_some]
  · simp only at hk ho ha hs
    subst hk hs ho ha
    have e1 : ∀ t, rI (some (encI 2 ++ t)) = (2, some t) := fun t => rInt_enc (by omega) (by omega) (by omega) t
    have ef : rput ⟨2, now, 0, o0, sz⟩ ++ q = encI 2 ++ (encI now ++ q) := by simp [rput, rtail, List.append_assoc]
    rw [ef]
    simp only [rrd, e1, e2]
    rw [if_neg (by omega), if_neg (by omega)]
  · simp only at hk ho ha hs
    subst hk ho ha
    have e1 : ∀ t, rI (some (encI 3 ++ t)) = (3, some t) := fun t => rInt_enc (by omega) (by omega) (by omega) t
    have e3 : ∀ t, rText 1000 (some (encT (sput sg) ++ t)) = (sput sg, some t) := fun t => rtext_enc (by have := sput_len hs; omega) (by omega) t
    have ef : rput ⟨3, now, 0, o0, sg⟩ ++ q = encI 3 ++ (encI now ++ (encT (sput sg) ++ q)) := by simp [rput, rtail, List.append_assoc]
    rw [ef]
    simp only [rrd, e1, e2, e3]
    rw [if_neg (by omega), if_pos trivial, sget_put hs, Option.map_some]
theorem rget_put {r : Rec} (h : rmay r = true) : rget (rput r) = some r := by
  have := rrd_put h []
  rw [List.append_nil] at this
  unfold rget
  rw [this]
  simp only [rfin, h, if_true]
theorem getO_inv {l : List UInt8} {x : Opn} (h : getO (some l) = some x) : mayOp x = true ∧ rawOp x = l := by
  unfold getO at h
  split at h
  · rename_i hh
    injection h with h
    have e := rdk_inv 5 l [] (rEnd_zero hh.1)
    rw [List.append_nil] at e
    refine ⟨by rw [← h]; exact hh.2, ?_⟩
    rw [← h, rawOp, oz_of (rdk_len 5 _), ← e]
  · cases h
theorem rfin_inv {q : Option Rec × St} {r : Rec} (h : rfin q = some r) : q = (some r, some []) ∧ rmay r = true := by
  unfold rfin at h
  split at h
  · split at h
    · injection h with h
      subst h
      rename_i hm
      exact ⟨rfl, hm⟩
    · cases h
  · cases h
theorem rget_inv {l : List UInt8} {r : Rec} (h : rget l = some r) : rmay r = true ∧ rput r = l := by
  obtain ⟨hq, hm⟩ := rfin_inv h
  refine ⟨hm, ?_⟩
  unfold rrd at hq
  rcases h1 : rI (some l) with ⟨k, s1⟩
  rcases h2 : rI s1 with ⟨n, s2⟩
  rcases h3 : rText 1000 s2 with ⟨t, s3⟩
  rcases h4 : rI s3 with ⟨a, s4⟩
  simp only [h1, h2, h3, h4] at hq
  split at hq
  · rename_i hk
    subst hk
    obtain ⟨hq1, rfl⟩ := Prod.mk.inj hq
    rcases ho : getO (some t) with _ | o
    · rw [ho] at hq1; cases hq1
    · rw [ho, Option.map_some] at hq1
      injection hq1 with hq1
      obtain ⟨l3, rfl, e4⟩ := rI_some h4
      obtain ⟨l2, rfl, e3⟩ := rtext_some h3
      obtain ⟨l1, rfl, e2⟩ := rI_some h2
      obtain ⟨l0, e0, e1⟩ := rI_some h1
      injection e0 with e0
      subst e0 hq1
      obtain ⟨-, hr⟩ := getO_inv ho
      rw [e1, e2, e3, e4, List.append_nil, ← hr]
      simp [rput, rtail, List.append_assoc]
  · split at hq
    · rename_i hk
      subst hk
      obtain ⟨hq1, rfl⟩ := Prod.mk.inj hq
      rcases ho : sget t with _ | x
      · rw [ho] at hq1; cases hq1
      · rw [ho, Option.map_some] at hq1
        injection hq1 with hq1
        obtain ⟨l2, rfl, e3⟩ := rtext_some h3
        obtain ⟨l1, rfl, e2⟩ := rI_some h2
        obtain ⟨l0, e0, e1⟩ := rI_some h1
        injection e0 with e0
        subst e0 hq1
        obtain ⟨-, hr⟩ := sget_inv ho
        rw [e1, e2, e3, List.append_nil, ← hr]
        simp [rput, rtail, List.append_assoc]
    · rename_i n1 n3
      obtain ⟨hq1, rfl⟩ := Prod.mk.inj hq
      injection hq1 with hq1
      obtain ⟨l1, rfl, e2⟩ := rI_some h2
      obtain ⟨l0, e0, e1⟩ := rI_some h1
      injection e0 with e0
      subst e0 hq1
      rw [e1, e2, List.append_nil]
      simp [rput, rtail, n1, n3]
/-- No record's bytes are a beginning of another one's. -/
theorem rput_pre {r r' : Rec} {q : List UInt8} (h : rmay r = true) (h' : rmay r' = true) (e : rput r = rput r' ++ q) : r = r' ∧ q = [] := by
  have h1 := rrd_put h []
  rw [List.append_nil, e, rrd_put h' q] at h1
  injection h1 with h1 h2
  injection h1 with h1
  injection h2 with h2
  exact ⟨h1.symm, h2⟩
theorem rput_inj {r r' : Rec} (h : rmay r = true) (h' : rmay r' = true) (e : rput r = rput r') : r = r' := (rput_pre (q := []) h h' (by rw [e, List.append_nil])).1
theorem rget_cut {r : Rec} (h : rmay r = true) {k : Nat} (hk : k < (rput r).length) : rget ((rput r).take k) = none := by
  cases hg : rget ((rput r).take k) with
  | none => rfl
  | some r' =>
    obtain ⟨h1, h2⟩ := rget_inv hg
    have := (rput_pre (r := r) (r' := r') (q := (rput r).drop k) h h1 (by rw [h2, List.take_append_drop])).2
    rw [List.drop_eq_nil_iff] at this
    omega
theorem rget_more {r : Rec} (h : rmay r = true) (c : UInt8) : rget (rput r ++ [c]) = none := by
  cases hg : rget (rput r ++ [c]) with
  | none => rfl
  | some r' =>
    obtain ⟨h1, h2⟩ := rget_inv hg
    have := (rput_pre (r := r') (r' := r) (q := [c]) h1 h h2).2
    cases this
theorem rget_nil : rget [] = none := by decide
/-- Whoever reads what was put as it was put, and answers only what may be and puts these bytes, answers the same. -/
theorem rget_same {l : List UInt8} {t : Rec} (ht : ∀ r, rmay r = true → rput r = l → t = r) : (if rmay t = true ∧ rput t = l then some t else none) = rget l := by
  cases h : rget l with
  | some s =>
    obtain ⟨h1, h2⟩ := rget_inv h
    rw [ht s h1 h2, if_pos ⟨h1, h2⟩]
  | none =>
    rw [if_neg]
    rintro ⟨h1, h2⟩
    rw [← h2, rget_put h1] at h
    cases h
end Re
end Go.Proofs.YtidfpbnepdjagaaDoor

namespace Go.Proofs.YtidfpbnepdjagaaDoor
set_option maxRecDepth 100000
open Go.RowKit
open Go.Proofs.YtidfpbnepdjagaaDoor.Pk (one_at one_free one_set lt_some)
namespace Re
open Go.Proofs.YtidfpbnepdjagaaDoor.Sg (Sag sz smay sgc sgv)
open Wt (Wan Opn mayOp)

abbrev rcc (r : Rec) : Array Value := #[.int .i64 r.kd, .int .i64 r.now, .int .i64 r.an, .int .i64 r.op.kind, .int .i64 r.op.book, .int .i64 r.op.units, .int .i64 r.op.cust, .int .i64 r.op.amount, .int .i64 r.sg.w.book, .int .i64 r.sg.w.cust, .int .i64 r.sg.w.dead, .int .i64 r.sg.w.u0, .int .i64 r.sg.w.u1, .int .i64 r.sg.w.u2, .int .i64 r.sg.w.price, .int .i64 r.sg.ph, .int .i64 r.sg.st, .int .i64 r.sg.rs, .int .i64 r.sg.si]
abbrev rcv (r : Rec) : Value := .agg (rcc r)
abbrev opv (o : Opn) : Value := .agg #[.int .i64 o.kind, .int .i64 o.book, .int .i64 o.units, .int .i64 o.cust, .int .i64 o.amount]
/-- A record in a box. -/
def BoxR (w : World) (g : Nat) (r : Rec) : Prop := w.heap[g]? = some (.cells (rcc r) 30 (0, 0))
structure CellR (w : World) (g : Nat) (r : Rec) : Prop where
  c0 : w.cell? ⟨g, 0, none⟩ = some (.int .i64 r.kd)
  c1 : w.cell? ⟨g, 1, none⟩ = some (.int .i64 r.now)
  c2 : w.cell? ⟨g, 2, none⟩ = some (.int .i64 r.an)
  c3 : w.cell? ⟨g, 3, none⟩ = some (.int .i64 r.op.kind)
  c4 : w.cell? ⟨g, 4, none⟩ = some (.int .i64 r.op.book)
  c5 : w.cell? ⟨g, 5, none⟩ = some (.int .i64 r.op.units)
  c6 : w.cell? ⟨g, 6, none⟩ = some (.int .i64 r.op.cust)
  c7 : w.cell? ⟨g, 7, none⟩ = some (.int .i64 r.op.amount)
  c8 : w.cell? ⟨g, 8, none⟩ = some (.int .i64 r.sg.w.book)
  c9 : w.cell? ⟨g, 9, none⟩ = some (.int .i64 r.sg.w.cust)
  c10 : w.cell? ⟨g, 10, none⟩ = some (.int .i64 r.sg.w.dead)
  c11 : w.cell? ⟨g, 11, none⟩ = some (.int .i64 r.sg.w.u0)
  c12 : w.cell? ⟨g, 12, none⟩ = some (.int .i64 r.sg.w.u1)
  c13 : w.cell? ⟨g, 13, none⟩ = some (.int .i64 r.sg.w.u2)
  c14 : w.cell? ⟨g, 14, none⟩ = some (.int .i64 r.sg.w.price)
  c15 : w.cell? ⟨g, 15, none⟩ = some (.int .i64 r.sg.ph)
  c16 : w.cell? ⟨g, 16, none⟩ = some (.int .i64 r.sg.st)
  c17 : w.cell? ⟨g, 17, none⟩ = some (.int .i64 r.sg.rs)
  c18 : w.cell? ⟨g, 18, none⟩ = some (.int .i64 r.sg.si)
section
variable {w w' : World} {g B : Nat} {r : Rec}
theorem BoxR.lt (h : BoxR w g r) : g < w.heap.size := lt_some h
theorem BoxR.below (h : BoxR w g r) (hb : Below w.heap.size w w') : BoxR w' g r := (hb.block g h.lt).trans h
theorem BoxR.cells (h : BoxR w g r) : CellR w g r := ⟨one_at h, one_at h, one_at h, one_at h, one_at h, one_at h, one_at h, one_at h, one_at h, one_at h, one_at h, one_at h, one_at h, one_at h, one_at h, one_at h, one_at h, one_at h, one_at h⟩
end
theorem rec_size : (Tryd.prog.info? 30).map (·.size) = some 19 := by kernel_rfl
theorem one19 (r : Rec) : (rcc r).all (·.oneCell') = true := by simp [rcc, Value.oneCell']

theorem eq_arr7 (w : World) (a b c x y z : Int) : (Op.equalIn 9997 24 (.agg #[.int .i64 a, .int .i64 b, .int .i64 c]) (.agg #[.int .i64 x, .int .i64 y, .int .i64 z])).run Tryd.prog w = .ok (a == x && (b == y && c == z)) w := by
  have u3 := Tryd.underlying3
  have a3 := Tryd.isAgg3
  have z3 := Tryd.sizeOf3
  rw [show (9997 : Nat) = 9996 + 1 from rfl, Op.equalIn]
  simp only [Sem.run_bind, run_underlying Tryd.underlying24, Result.andThen_ok]
  simp only [Std.Legacy.Range.forIn_eq_forIn_range', Std.Legacy.Range.size, Nat.sub_zero, Nat.add_sub_cancel, Nat.div_one, List.range'_succ, List.range'_zero, List.forIn_cons, List.forIn_nil]
  go_simp
  by_cases h1 : a = x <;> by_cases h2 : b = y <;> by_cases h3 : c = z <;> simp [h1, h2, h3]
theorem eq_wan8 (w : World) (x y : Wan) : (Op.equalIn 9998 26 (.agg #[.int .i64 x.book, .int .i64 x.cust, .int .i64 x.dead, .int .i64 x.u0, .int .i64 x.u1, .int .i64 x.u2, .int .i64 x.price]) (.agg #[.int .i64 y.book, .int .i64 y.cust, .int .i64 y.dead, .int .i64 y.u0, .int .i64 y.u1, .int .i64 y.u2, .int .i64 y.price])).run Tryd.prog w = .ok (decide (x = y)) w := by
  have q22 := eq_arr7
  have u3 := Tryd.underlying3
  have a3 := Tryd.isAgg3
  have z3 := Tryd.sizeOf3
  have u2 := Tryd.underlying2
  have a2 := Tryd.isAgg2
  have z2 := Tryd.sizeOf2
  have a22 := Tryd.isAgg24
  have z22 := Tryd.sizeOf24
  have hS : Tryd.prog.underlying 26 = some (.struct (Tryd.prog.fieldsOf 26)) := by kernel_rfl
  rw [show (9998 : Nat) = 9997 + 1 from rfl, run_equalIn_agg w 9997 26 _ _ hS Tryd.stoodInHeld26]
  simp only [Program.fieldsOf, Tryd.underlying26]
  go_simp
  obtain ⟨a, b, c, d, e, f, g⟩ := x
  obtain ⟨a', b', c', d', e', f', g'⟩ := y
  simp only [Wan.mk.injEq]
  by_cases h1 : a = a' <;> by_cases h2 : b = b' <;> by_cases h3 : c = c' <;> by_cases h4 : d = d' <;> by_cases h5 : e = e' <;> by_cases h6 : f = f' <;> by_cases h7 : g = g' <;> simp [h1, h2, h3, h4, h5, h6, h7]
theorem eq_sag9 (w : World) (s t : Sag) : (Op.equalIn 9999 28 (sgv s) (sgv t)).run Tryd.prog w = .ok (decide (s = t)) w := by
  have u3 := Tryd.underlying3
  have a3 := Tryd.isAgg3
  have z3 := Tryd.sizeOf3
  have aW := Tryd.isAgg26
  have zW := Tryd.sizeOf26
  have EW := eq_wan8
  have hS : Tryd.prog.underlying 28 = some (.struct (Tryd.prog.fieldsOf 28)) := by kernel_rfl
  unfold sgv sgc
  rw [show (9999 : Nat) = 9998 + 1 from rfl, run_equalIn_agg w 9998 28 _ _ hS Tryd.stoodInHeld28]
  simp only [Program.fieldsOf, Tryd.underlying28]
  go_simp
  obtain ⟨x, a, b, c, d⟩ := s
  obtain ⟨x', a', b', c', d'⟩ := t
  simp only [Sag.mk.injEq]
  by_cases h0 : x = x' <;> by_cases h1 : a = a' <;> by_cases h2 : b = b' <;> by_cases h3 : c = c' <;> by_cases h4 : d = d' <;> simp [h0, h1, h2, h3, h4]
theorem eq_rec (w : World) (r t : Rec) : (Op.equalIn 10000 30 (rcv r) (rcv t)).run Tryd.prog w = .ok (decide (r = t)) w := by
  have u3 := Tryd.underlying3
  have a3 := Tryd.isAgg3
  have z3 := Tryd.sizeOf3
  have aO := Tryd.isAgg23
  have zO := Tryd.sizeOf23
  have aS := Tryd.isAgg28
  have zS := Tryd.sizeOf28
  have EO := Sg.eq_op9
  have ES := eq_sag9
  unfold sgv sgc at ES
  have hS : Tryd.prog.underlying 30 = some (.struct (Tryd.prog.fieldsOf 30)) := by kernel_rfl
  unfold rcv rcc
  rw [show (10000 : Nat) = 9999 + 1 from rfl, run_equalIn_agg w 9999 30 _ _ hS Tryd.stoodInHeld30]
  simp only [Program.fieldsOf, Tryd.underlying30]
  go_simp
  obtain ⟨a, b, c, o, s⟩ := r
  obtain ⟨a', b', c', o', s'⟩ := t
  simp only [Rec.mk.injEq]
  by_cases h0 : a = a' <;> by_cases h1 : b = b' <;> by_cases h2 : c = c' <;> by_cases h3 : o = o' <;> by_cases h4 : s = s' <;> simp [h0, h1, h2, h3, h4]
theorem eq_op10 (w : World) (x y : Opn) : (Op.equalIn 10000 23 (opv x) (opv y)).run Tryd.prog w = .ok (decide (x = y)) w := by
  have u3 := Tryd.underlying3
  have a3 := Tryd.isAgg3
  have z3 := Tryd.sizeOf3
  have u2 := Tryd.underlying2
  have a2 := Tryd.isAgg2
  have z2 := Tryd.sizeOf2
  have hS : Tryd.prog.underlying 23 = some (.struct (Tryd.prog.fieldsOf 23)) := by kernel_rfl
  unfold opv
  rw [show (10000 : Nat) = 9999 + 1 from rfl, run_equalIn_agg w 9999 23 _ _ hS Tryd.stoodInHeld23]
  simp only [Program.fieldsOf, Tryd.underlying23]
  go_simp
  obtain ⟨a, b, c, d, e⟩ := x
  obtain ⟨a', b', c', d', e'⟩ := y
  simp only [Opn.mk.injEq]
  by_cases h1 : a = a' <;> by_cases h2 : b = b' <;> by_cases h3 : c = c' <;> by_cases h4 : d = d' <;> by_cases h5 : e = e' <;> simp [h1, h2, h3, h4, h5]
/-! What struct literals build, told once for all: the walk's own way over nineteen cells is too long for the kernel. -/
theorem built_0 : Tryd.prog.built 30 [] = some #[.int .i64 0, .int .i64 0, .int .i64 0, .int .i64 0, .int .i64 0, .int .i64 0, .int .i64 0, .int .i64 0, .int .i64 0, .int .i64 0, .int .i64 0, .int .i64 0, .int .i64 0, .int .i64 0, .int .i64 0, .int .i64 0, .int .i64 0, .int .i64 0, .int .i64 0] := by kernel_rfl
@[go_sem high] theorem build_0 (w : World) : (Instr.build 30 #[]).run Tryd.prog w = .ok (.agg #[.int .i64 0, .int .i64 0, .int .i64 0, .int .i64 0, .int .i64 0, .int .i64 0, .int .i64 0, .int .i64 0, .int .i64 0, .int .i64 0, .int .i64 0, .int .i64 0, .int .i64 0, .int .i64 0, .int .i64 0, .int .i64 0, .int .i64 0, .int .i64 0, .int .i64 0]) w := run_build w 30 _ _ (built_0)
theorem built_k (k : Int) : Tryd.prog.built 30 [(0, .int .i64 k)] = some #[.int .i64 k, .int .i64 0, .int .i64 0, .int .i64 0, .int .i64 0, .int .i64 0, .int .i64 0, .int .i64 0, .int .i64 0, .int .i64 0, .int .i64 0, .int .i64 0, .int .i64 0, .int .i64 0, .int .i64 0, .int .i64 0, .int .i64 0, .int .i64 0, .int .i64 0] := by kernel_rfl
@[go_sem high] theorem build_k (k : Int) (w : World) : (Instr.build 30 #[(0, .int .i64 k)]).run Tryd.prog w = .ok (.agg #[.int .i64 k, .int .i64 0, .int .i64 0, .int .i64 0, .int .i64 0, .int .i64 0, .int .i64 0, .int .i64 0, .int .i64 0, .int .i64 0, .int .i64 0, .int .i64 0, .int .i64 0, .int .i64 0, .int .i64 0, .int .i64 0, .int .i64 0, .int .i64 0, .int .i64 0]) w := run_build w 30 _ _ (built_k k)
theorem built_kn (k n : Int) : Tryd.prog.built 30 [(0, .int .i64 k), (1, .int .i64 n)] = some #[.int .i64 k, .int .i64 n, .int .i64 0, .int .i64 0, .int .i64 0, .int .i64 0, .int .i64 0, .int .i64 0, .int .i64 0, .int .i64 0, .int .i64 0, .int .i64 0, .int .i64 0, .int .i64 0, .int .i64 0, .int .i64 0, .int .i64 0, .int .i64 0, .int .i64 0] := by kernel_rfl
@[go_sem high] theorem build_kn (k n : Int) (w : World) : (Instr.build 30 #[(0, .int .i64 k), (1, .int .i64 n)]).run Tryd.prog w = .ok (.agg #[.int .i64 k, .int .i64 n, .int .i64 0, .int .i64 0, .int .i64 0, .int .i64 0, .int .i64 0, .int .i64 0, .int .i64 0, .int .i64 0, .int .i64 0, .int .i64 0, .int .i64 0, .int .i64 0, .int .i64 0, .int .i64 0, .int .i64 0, .int .i64 0, .int .i64 0]) w := run_build w 30 _ _ (built_kn k n)
theorem built_ka (k a : Int) : Tryd.prog.built 30 [(0, .int .i64 k), (2, .int .i64 a)] = some #[.int .i64 k, .int .i64 0, .int .i64 a, .int .i64 0, .int .i64 0, .int .i64 0, .int .i64 0, .int .i64 0, .int .i64 0, .int .i64 0, .int .i64 0, .int .i64 0, .int .i64 0, .int .i64 0, .int .i64 0, .int .i64 0, .int .i64 0, .int .i64 0, .int .i64 0] := by kernel_rfl
@[go_sem high] theorem build_ka (k a : Int) (w : World) : (Instr.build 30 #[(0, .int .i64 k), (2, .int .i64 a)]).run Tryd.prog w = .ok (.agg #[.int .i64 k, .int .i64 0, .int .i64 a, .int .i64 0, .int .i64 0, .int .i64 0, .int .i64 0, .int .i64 0, .int .i64 0, .int .i64 0, .int .i64 0, .int .i64 0, .int .i64 0, .int .i64 0, .int .i64 0, .int .i64 0, .int .i64 0, .int .i64 0, .int .i64 0]) w := run_build w 30 _ _ (built_ka k a)
theorem built_koa (k a o0 o1 o2 o3 o4 : Int) : Tryd.prog.built 30 [(0, .int .i64 k), (3, .agg #[.int .i64 o0, .int .i64 o1, .int .i64 o2, .int .i64 o3, .int .i64 o4]), (2, .int .i64 a)] = some #[.int .i64 k, .int .i64 0, .int .i64 a, .int .i64 o0, .int .i64 o1, .int .i64 o2, .int .i64 o3, .int .i64 o4, .int .i64 0, .int .i64 0, .int .i64 0, .int .i64 0, .int .i64 0, .int .i64 0, .int .i64 0, .int .i64 0, .int .i64 0, .int .i64 0, .int .i64 0] := by kernel_rfl
@[go_sem high] theorem build_koa (k a o0 o1 o2 o3 o4 : Int) (w : World) : (Instr.build 30 #[(0, .int .i64 k), (3, .agg #[.int .i64 o0, .int .i64 o1, .int .i64 o2, .int .i64 o3, .int .i64 o4]), (2, .int .i64 a)]).run Tryd.prog w = .ok (.agg #[.int .i64 k, .int .i64 0, .int .i64 a, .int .i64 o0, .int .i64 o1, .int .i64 o2, .int .i64 o3, .int .i64 o4, .int .i64 0, .int .i64 0, .int .i64 0, .int .i64 0, .int .i64 0, .int .i64 0, .int .i64 0, .int .i64 0, .int .i64 0, .int .i64 0, .int .i64 0]) w := run_build w 30 _ _ (built_koa k a o0 o1 o2 o3 o4)
theorem built_ks (k s0 s1 s2 s3 s4 s5 s6 s7 s8 s9 s10 : Int) : Tryd.prog.built 30 [(0, .int .i64 k), (4, .agg #[.int .i64 s0, .int .i64 s1, .int .i64 s2, .int .i64 s3, .int .i64 s4, .int .i64 s5, .int .i64 s6, .int .i64 s7, .int .i64 s8, .int .i64 s9, .int .i64 s10])] = some #[.int .i64 k, .int .i64 0, .int .i64 0, .int .i64 0, .int .i64 0, .int .i64 0, .int .i64 0, .int .i64 0, .int .i64 s0, .int .i64 s1, .int .i64 s2, .int .i64 s3, .int .i64 s4, .int .i64 s5, .int .i64 s6, .int .i64 s7, .int .i64 s8, .int .i64 s9, .int .i64 s10] := by kernel_rfl
@[go_sem high] theorem build_ks (k s0 s1 s2 s3 s4 s5 s6 s7 s8 s9 s10 : Int) (w : World) : (Instr.build 30 #[(0, .int .i64 k), (4, .agg #[.int .i64 s0, .int .i64 s1, .int .i64 s2, .int .i64 s3, .int .i64 s4, .int .i64 s5, .int .i64 s6, .int .i64 s7, .int .i64 s8, .int .i64 s9, .int .i64 s10])]).run Tryd.prog w = .ok (.agg #[.int .i64 k, .int .i64 0, .int .i64 0, .int .i64 0, .int .i64 0, .int .i64 0, .int .i64 0, .int .i64 0, .int .i64 s0, .int .i64 s1, .int .i64 s2, .int .i64 s3, .int .i64 s4, .int .i64 s5, .int .i64 s6, .int .i64 s7, .int .i64 s8, .int .i64 s9, .int .i64 s10]) w := run_build w 30 _ _ (built_ks k s0 s1 s2 s3 s4 s5 s6 s7 s8 s9 s10)
theorem built_ksa (k a s0 s1 s2 s3 s4 s5 s6 s7 s8 s9 s10 : Int) : Tryd.prog.built 30 [(0, .int .i64 k), (4, .agg #[.int .i64 s0, .int .i64 s1, .int .i64 s2, .int .i64 s3, .int .i64 s4, .int .i64 s5, .int .i64 s6, .int .i64 s7, .int .i64 s8, .int .i64 s9, .int .i64 s10]), (2, .int .i64 a)] = some #[.int .i64 k, .int .i64 0, .int .i64 a, .int .i64 0, .int .i64 0, .int .i64 0, .int .i64 0, .int .i64 0, .int .i64 s0, .int .i64 s1, .int .i64 s2, .int .i64 s3, .int .i64 s4, .int .i64 s5, .int .i64 s6, .int .i64 s7, .int .i64 s8, .int .i64 s9, .int .i64 s10] := by kernel_rfl
@[go_sem high] theorem build_ksa (k a s0 s1 s2 s3 s4 s5 s6 s7 s8 s9 s10 : Int) (w : World) : (Instr.build 30 #[(0, .int .i64 k), (4, .agg #[.int .i64 s0, .int .i64 s1, .int .i64 s2, .int .i64 s3, .int .i64 s4, .int .i64 s5, .int .i64 s6, .int .i64 s7, .int .i64 s8, .int .i64 s9, .int .i64 s10]), (2, .int .i64 a)]).run Tryd.prog w = .ok (.agg #[.int .i64 k, .int .i64 0, .int .i64 a, .int .i64 0, .int .i64 0, .int .i64 0, .int .i64 0, .int .i64 0, .int .i64 s0, .int .i64 s1, .int .i64 s2, .int .i64 s3, .int .i64 s4, .int .i64 s5, .int .i64 s6, .int .i64 s7, .int .i64 s8, .int .i64 s9, .int .i64 s10]) w := run_build w 30 _ _ (built_ksa k a s0 s1 s2 s3 s4 s5 s6 s7 s8 s9 s10)
theorem built_knoa (k n a o0 o1 o2 o3 o4 : Int) : Tryd.prog.built 30 [(0, .int .i64 k), (1, .int .i64 n), (3, .agg #[.int .i64 o0, .int .i64 o1, .int .i64 o2, .int .i64 o3, .int .i64 o4]), (2, .int .i64 a)] = some #[.int .i64 k, .int .i64 n, .int .i64 a, .int .i64 o0, .int .i64 o1, .int .i64 o2, .int .i64 o3, .int .i64 o4, .int .i64 0, .int .i64 0, .int .i64 0, .int .i64 0, .int .i64 0, .int .i64 0, .int .i64 0, .int .i64 0, .int .i64 0, .int .i64 0, .int .i64 0] := by kernel_rfl
@[go_sem high] theorem build_knoa (k n a o0 o1 o2 o3 o4 : Int) (w : World) : (Instr.build 30 #[(0, .int .i64 k), (1, .int .i64 n), (3, .agg #[.int .i64 o0, .int .i64 o1, .int .i64 o2, .int .i64 o3, .int .i64 o4]), (2, .int .i64 a)]).run Tryd.prog w = .ok (.agg #[.int .i64 k, .int .i64 n, .int .i64 a, .int .i64 o0, .int .i64 o1, .int .i64 o2, .int .i64 o3, .int .i64 o4, .int .i64 0, .int .i64 0, .int .i64 0, .int .i64 0, .int .i64 0, .int .i64 0, .int .i64 0, .int .i64 0, .int .i64 0, .int .i64 0, .int .i64 0]) w := run_build w 30 _ _ (built_knoa k n a o0 o1 o2 o3 o4)
section
variable {ops : Array Oper} {rest : List Oper} {o : Oper} {a : Act} {w : World} {Q : Exit → Act → World → Prop} {K : Act → World → Prop}
theorem wp_rload (x : Operand) (ho : o.op = .load 30 x) (g : Nat) (hx : a.eval x = .pointer (some ⟨g, 0, none⟩)) (r : Rec) (hg : BoxR w g r)
    (h : K (a.put o.dst (rcv r)) w) : o.wp Tryd.prog a w K Q :=
  wp_load_row 30 x ho g hx 30 (rcc r) (0, 0) _ hg Tryd.underlying30 rfl rec_size h
theorem rload_yields (x : Operand) (ho : o.op = .load 30 x) (g : Nat) (hx : a.eval x = .pointer (some ⟨g, 0, none⟩)) (r : Rec) (hg : BoxR w g r) :
    (execOp a.eval o).run Tryd.prog w = .ok (.value (rcv r)) w := by
  unfold execOp
  simp only [ho, hx, Instr.loadAt, Instr.sureAddr, Sem.run_bind, Sem.run_pure, Result.andThen_ok, run_loadVar_row w g 30 30 (rcc r) (0, 0) _ hg Tryd.underlying30 rfl rec_size]
theorem wpList_rload (hgd : o.guard = none) (x : Operand) (ho : o.op = .load 30 x) (g : Nat) (hx : a.eval x = .pointer (some ⟨g, 0, none⟩)) (r : Rec) (hg : BoxR w g r)
    (h : wpList Tryd.prog ops Q rest (a.put o.dst (rcv r)) w) : wpList Tryd.prog ops Q (o :: rest) a w :=
  wpList_plain hgd fun _ hK => wp_rload x ho g hx r hg (hK _ _ h)
theorem wpList_rload_g (x : Operand) (ho : o.op = .load 30 x) (hw : Region.wanted o (yielded ops a.tmps) = true) (g : Nat) (hx : a.eval x = .pointer (some ⟨g, 0, none⟩)) (r : Rec) (hg : BoxR w g r)
    (h : wpList Tryd.prog ops Q rest (a.put o.dst (rcv r)) w) : wpList Tryd.prog ops Q (o :: rest) a w :=
  BigFrame.wpList_want hw fun _ hK => wp_rload x ho g hx r hg (hK _ _ h)
theorem wpList_rstore (hgd : o.guard = none) (x y : Operand) (ho : o.op = .store 30 x y) (g : Nat) (hx : a.eval x = .pointer (some ⟨g, 0, none⟩)) (r : Rec) (hy : a.eval y = rcv r) (s : Rec) (hg : BoxR w g s)
    (h : wpList Tryd.prog ops Q rest (a.put o.dst undef) (w.setRow g (rcc r))) : wpList Tryd.prog ops Q (o :: rest) a w :=
  Pl.wpList_store_row hgd 30 x y ho g (rcc r) hx hy 30 (rcc s) hg rec_size rfl (one19 r) h
end
end Re
end Go.Proofs.YtidfpbnepdjagaaDoor

namespace Go.Proofs.YtidfpbnepdjagaaDoor
set_option maxRecDepth 100000
open Go.RowKit
open Go.Proofs.YtidfpbnepdjagaaDoor.Pk (one_at one_free one_set lt_some)
namespace Re
open Go.Proofs.YtidfpbnepdjagaaDoor.Sg (Sag sz smay sgc sgv eq_sag rsmay_any)
open Wt (Wan Opn mayOp refmayop_any inR)

theorem rmay_out {r : Rec} (h : r.now < 0 ∨ 1099511627776 < r.now) : rmay r = false := by
  unfold rmay inR
  rw [decide_eq_false (by omega)]
  rfl
theorem rmay_in {r : Rec} (h0 : 0 ≤ r.now) (h1 : r.now ≤ 1099511627776) : rmay r =
    (if r.kd = 1 then mayOp r.op && (r.an == 1 || r.an == 2) && decide (r.sg = sz)
    else if r.kd = 2 then decide (r.op = o0) && r.an == 0 && decide (r.sg = sz)
    else if r.kd = 3 then decide (r.op = o0) && r.an == 0 && smay r.sg
    else false) := by
  unfold rmay inR
  rw [decide_eq_true ⟨h0, h1⟩]
  rfl
theorem rmay_1 {r : Rec} (h0 : 0 ≤ r.now) (h1 : r.now ≤ 1099511627776) (k : r.kd = 1) : rmay r = (mayOp r.op && (r.an == 1 || r.an == 2) && decide (r.sg = sz)) := by rw [rmay_in h0 h1, if_pos k]
theorem rmay_2 {r : Rec} (h0 : 0 ≤ r.now) (h1 : r.now ≤ 1099511627776) (k : r.kd = 2) : rmay r = (decide (r.op = o0) && r.an == 0 && decide (r.sg = sz)) := by rw [rmay_in h0 h1, if_neg (by omega), if_pos k]
theorem rmay_3 {r : Rec} (h0 : 0 ≤ r.now) (h1 : r.now ≤ 1099511627776) (k : r.kd = 3) : rmay r = (decide (r.op = o0) && r.an == 0 && smay r.sg) := by rw [rmay_in h0 h1, if_neg (by omega), if_neg (by omega), if_pos k]
theorem rmay_4 {r : Rec} (h0 : 0 ≤ r.now) (h1 : r.now ≤ 1099511627776) (k1 : r.kd ≠ 1) (k2 : r.kd ≠ 2) (k3 : r.kd ≠ 3) : rmay r = false := by rw [rmay_in h0 h1, if_neg k1, if_neg k2, if_neg k3]

set_option maxHeartbeats 12800000 in
theorem rmayrec_any (w : World) (r : Rec) : Calls Tryd.prog 7 #[rcv r] w fun e w' => e = .returned (.bool (rmay r)) ∧ Below w.heap.size w w' := by
  obtain ⟨w0, e0⟩ : ∃ z, z = w.alloc (.cells (rcc r) 30) := ⟨_, rfl⟩
  have be0 : Hid (Below w.heap.size w w0) := by rw [e0]; exact (Below.refl _ w).alloc (Nat.le_refl _) _
  have hB : BoxR w0 w.heap.size r := by rw [e0]; exact heap_alloc_new _ _
  have ES : ∀ w, (Op.equalIn 10000 28 (.agg #[.int .i64 r.sg.w.book, .int .i64 r.sg.w.cust, .int .i64 r.sg.w.dead, .int .i64 r.sg.w.u0, .int .i64 r.sg.w.u1, .int .i64 r.sg.w.u2, .int .i64 r.sg.w.price, .int .i64 r.sg.ph, .int .i64 r.sg.st, .int .i64 r.sg.rs, .int .i64 r.sg.si]) (.agg #[.int .i64 0, .int .i64 0, .int .i64 0, .int .i64 0, .int .i64 0, .int .i64 0, .int .i64 0, .int .i64 0, .int .i64 0, .int .i64 0, .int .i64 0])).run Tryd.prog w = .ok (decide (r.sg = sz)) w := fun w => eq_sag w r.sg sz
  have EO : ∀ w, (Op.equalIn 10000 23 (.agg #[.int .i64 r.op.kind, .int .i64 r.op.book, .int .i64 r.op.units, .int .i64 r.op.cust, .int .i64 r.op.amount]) (.agg #[.int .i64 0, .int .i64 0, .int .i64 0, .int .i64 0, .int .i64 0])).run Tryd.prog w = .ok (decide (r.op = o0)) w := fun w => eq_op10 w r.op o0
  have MO : ∀ w, Calls Tryd.prog 14 #[.agg #[.int .i64 r.op.kind, .int .i64 r.op.book, .int .i64 r.op.units, .int .i64 r.op.cust, .int .i64 r.op.amount]] w fun e w' => e = .returned (.bool (mayOp r.op)) ∧ Below w.heap.size w w' := fun w => refmayop_any w r.op
  have MS : ∀ w, Calls Tryd.prog 15 #[.agg #[.int .i64 r.sg.w.book, .int .i64 r.sg.w.cust, .int .i64 r.sg.w.dead, .int .i64 r.sg.w.u0, .int .i64 r.sg.w.u1, .int .i64 r.sg.w.u2, .int .i64 r.sg.w.price, .int .i64 r.sg.ph, .int .i64 r.sg.st, .int .i64 r.sg.rs, .int .i64 r.sg.si]] w fun e w' => e = .returned (.bool (smay r.sg)) ∧ Below w.heap.size w w' := fun w => rsmay_any w r.sg
  have CB : Hid (∀ w', Below w0.heap.size w0 w' → CellR w' w.heap.size r) := fun w' h => (hB.below h).cells
  have hsz : w.heap.size < w0.heap.size := hB.lt
  obtain ⟨c0, c1, c2, c3, c4, c5, c6, c7, c8, c9, c10, c11, c12, c13, c14, c15, c16, c17, c18⟩ := hB.cells
  have F1 := Lib.hid (@rmay_out r)
  unfold rcv rcc at *
  replace e0 := Lib.hid e0
  clear hB
  rcases Int.lt_or_le r.now 0 with h0 | h0
  · have F := Lib.hid (F1.out (.inl h0))
    clear MO MS CB ES EO F1
    go_enter Tryd.func7, Tryd.ntmps7
    go_upto_region 1 with fail
    rw [← e0.out]
    go_wp2
    go_ret
    rw [F.out]
    exact ⟨rfl, be0.out⟩
  rcases Int.lt_or_le 1099511627776 r.now with h1 | h1
  · have F := Lib.hid (F1.out (.inr h1))
    clear MO MS CB ES EO F1
    go_enter Tryd.func7, Tryd.ntmps7
    go_upto_region 1 with fail
    rw [← e0.out]
    go_wp2
    go_ret
    rw [F.out]
    exact ⟨rfl, be0.out⟩
  clear F1
  by_cases k1 : r.kd = 1
  · have F := Lib.hid (rmay_1 h0 h1 k1)
    rw [k1] at c0
    clear EO MS k1
    generalize decide (r.sg = sz) = ds at ES F
    cases hm : mayOp r.op with
    | false =>
      rw [hm] at F MO
      clear ES hm CB
      go_enter Tryd.func7, Tryd.ntmps7
      go_upto_region 1 with fail
      rw [← e0.out]
      go_wp2_with fail
      refine (MO _).mono ?_
      rintro e w1 ⟨rfl, h⟩
      have be1 : Hid (Below w.heap.size w w1) := be0.out.trans (h.mono be0.out.size)
      clear MO h c0 c1 c2 c3 c4 c5 c6 c7 c8 c9 c10 c11 c12 c13 c14 c15 c16 c17 c18
      go_wp2
      go_ret
      rw [F.out]
      exact ⟨rfl, be1.out⟩
    | true =>
      rw [hm] at F MO
      clear hm
      go_enter Tryd.func7, Tryd.ntmps7
      go_upto_region 1 with fail
      rw [← e0.out]
      go_wp2_with fail
      refine (MO _).mono ?_
      rintro e w1 ⟨rfl, h⟩
      have be1 : Hid (Below w.heap.size w w1) := be0.out.trans (h.mono be0.out.size)
      have hsz1 : w.heap.size < w1.heap.size := Nat.lt_of_lt_of_le hsz h.size
      clear c0 c1 c2 c3 c4 c5 c6 c7 c8 c9 c10 c11 c12 c13 c14 c15 c16 c17 c18
      obtain ⟨c0, c1, c2, c3, c4, c5, c6, c7, c8, c9, c10, c11, c12, c13, c14, c15, c16, c17, c18⟩ := CB.out _ h
      clear MO h CB hsz e0
      by_cases a1 : r.an = 1
      · rw [a1] at c2 F
        cases ds with
        | false =>
          go_wp2
          go_ret
          rw [F.out]
          exact ⟨rfl, be1.out⟩
        | true =>
          go_wp2
          go_ret
          rw [F.out]
          exact ⟨rfl, be1.out⟩
      by_cases a2 : r.an = 2
      · rw [a2] at c2 F
        cases ds with
        | false =>
          go_wp2
          go_ret
          rw [F.out]
          exact ⟨rfl, be1.out⟩
        | true =>
          go_wp2
          go_ret
          rw [F.out]
          exact ⟨rfl, be1.out⟩
      have F2 : rmay r = false := by rw [F.out]; simp [a1, a2]
      replace F2 := Lib.hid F2
      clear F
      go_wp2
      go_ret
      rw [F2.out]
      exact ⟨rfl, be1.out⟩
  by_cases k2 : r.kd = 2
  · have F := Lib.hid (rmay_2 h0 h1 k2)
    rw [k2] at c0
    clear MO MS k1 k2 CB
    generalize decide (r.sg = sz) = ds at ES F
    generalize decide (r.op = o0) = dop at EO F
    by_cases a0 : r.an = 0
    · rw [a0] at c2 F
      clear a0
      cases ds <;> cases dop
      all_goals
        go_enter Tryd.func7, Tryd.ntmps7
        go_upto_region 1 with fail
        rw [← e0.out]
        go_wp2
        go_ret
        rw [F.out]
        exact ⟨rfl, be0.out⟩
    · have F2 : rmay r = false := by rw [F.out]; simp [a0]
      replace F2 := Lib.hid F2
      clear F
      cases dop
      all_goals
        go_enter Tryd.func7, Tryd.ntmps7
        go_upto_region 1 with fail
        rw [← e0.out]
        go_wp2
        go_ret
        rw [F2.out]
        exact ⟨rfl, be0.out⟩
  by_cases k3 : r.kd = 3
  · have F := Lib.hid (rmay_3 h0 h1 k3)
    rw [k3] at c0
    clear MO ES k1 k2 k3 CB
    generalize decide (r.op = o0) = dop at EO F
    by_cases a0 : r.an = 0
    · rw [a0] at c2 F
      clear a0
      cases dop with
      | false =>
        go_enter Tryd.func7, Tryd.ntmps7
        go_upto_region 1 with fail
        rw [← e0.out]
        go_wp2
        go_ret
        rw [F.out]
        exact ⟨rfl, be0.out⟩
      | true =>
        go_enter Tryd.func7, Tryd.ntmps7
        go_upto_region 1 with fail
        rw [← e0.out]
        go_wp2_with fail
        refine (MS _).mono ?_
        rintro e w1 ⟨rfl, h⟩
        have be1 : Hid (Below w.heap.size w w1) := be0.out.trans (h.mono be0.out.size)
        clear MS h EO c0 c1 c2 c3 c4 c5 c6 c7 c8 c9 c10 c11 c12 c13 c14 c15 c16 c17 c18
        cases hm : smay r.sg with
        | false =>
          rw [hm] at F
          go_wp2
          go_ret
          rw [F.out]
          exact ⟨rfl, be1.out⟩
        | true =>
          rw [hm] at F
          go_wp2
          go_ret
          rw [F.out]
          exact ⟨rfl, be1.out⟩
    · have F2 : rmay r = false := by rw [F.out]; simp [a0]
      replace F2 := Lib.hid F2
      clear F
      cases dop
      all_goals
        go_enter Tryd.func7, Tryd.ntmps7
        go_upto_region 1 with fail
        rw [← e0.out]
        go_wp2
        go_ret
        rw [F2.out]
        exact ⟨rfl, be0.out⟩
  have F := Lib.hid (rmay_4 h0 h1 k1 k2 k3)
  clear MO MS ES EO CB
  go_enter Tryd.func7, Tryd.ntmps7
  go_upto_region 1 with fail
  rw [← e0.out]
  go_wp2
  go_ret
  rw [F.out]
  exact ⟨rfl, be0.out⟩
end Re
end Go.Proofs.YtidfpbnepdjagaaDoor

namespace Go.Proofs.YtidfpbnepdjagaaDoor
set_option maxRecDepth 100000
open Go.RowKit
open Go.Sort (grow)
open Go.Proofs.YtidfpbnepdjagaaDoor.Pk
namespace Re
open Go.Proofs.YtidfpbnepdjagaaDoor.Sg (Sag sz smay sgc sgv)
open Go.Proofs.YtidfpbnepdjagaaDoor.Sb (sput sput_len)
open Wt (Opn mayOp rawOp rawOp_len mayop_I I)

theorem rmay_k1 {r : Rec} (h : rmay r = true) (k : r.kd = 1) : mayOp r.op = true ∧ (r.an = 1 ∨ r.an = 2) := by
  rcases rmay_cases h with h | h | h
  · exact ⟨h.2.1, h.2.2.1⟩
  · omega
  · omega
theorem rmay_k3 {r : Rec} (h : rmay r = true) (k : r.kd = 3) : smay r.sg = true := by
  rcases rmay_cases h with h | h | h
  · omega
  · omega
  · exact h.2.2.2
theorem rput_1 {r : Rec} (k : r.kd = 1) : rput r = encI 1 ++ encI r.now ++ encT (rawOp r.op) ++ encI r.an := by unfold rput rtail; rw [if_pos k, k]; simp [List.append_assoc]
theorem rput_2 {r : Rec} (k : r.kd = 2) : rput r = encI 2 ++ encI r.now := by unfold rput rtail; rw [if_neg (by omega), if_neg (by omega), k, List.append_nil]
theorem rput_3 {r : Rec} (k : r.kd = 3) : rput r = encI 3 ++ encI r.now ++ encT (sput r.sg) := by unfold rput rtail; rw [if_neg (by omega), if_pos k, k]

set_option maxHeartbeats 12800000 in
theorem rputrec_any (w : World) (r : Rec) (hr : rmay r = true) : Calls Tryd.prog 10 #[rcv r] w fun e w' => e = .returned (.string (str (rput r))) ∧ Below w.heap.size w w' := by
  obtain ⟨w0, e0⟩ : ∃ z, z = w.alloc (.cells (rcc r) 30) := ⟨_, rfl⟩
  have be0 : Hid (Below w.heap.size w w0) := by rw [e0]; exact (Below.refl _ w).alloc (Nat.le_refl _) _
  have hB : Hid (BoxR w0 w.heap.size r) := by rw [e0]; exact heap_alloc_new _ _
  have hn := rmay_now hr
  have hkd : 1 ≤ r.kd ∧ r.kd ≤ 3 := by rcases rmay_cases hr with h | h | h <;> omega
  have C : ∀ (w0 : World) (v : Int) (bs : List UInt8), I v → bs = encI v → ∀ d os, Calls Tryd.prog 25 #[.int .i64 v] (grow (redrawn w0 d) os) fun e w'' => e = .returned (.string (str bs)) ∧ ∃ q : Regrown, w'' = grow (redrawn w0 q.d) q.os := fun w0 v bs hv hb d os => Calls.regrown_of (by rw [hb]; exact refint _ v hv.1 hv.2)
  have i0 : I r.kd := by unfold I; omega
  have i1 : I r.now := by unfold I; omega
  obtain ⟨b0, e0'⟩ : ∃ b, b = encI r.kd := ⟨_, rfl⟩
  obtain ⟨b1, e1'⟩ : ∃ b, b = encI r.now := ⟨_, rfl⟩
  have l0 : b0.length ≤ 10 := by rw [e0']; exact encI_len _ i0.1 i0.2
  have l1 : b1.length ≤ 10 := by rw [e1']; exact encI_len _ i1.1 i1.2
  obtain ⟨s1, f1⟩ : ∃ s, s = b0 ++ b1 := ⟨_, rfl⟩
  have m1 : s1.length ≤ 20 := by rw [f1, List.length_append]; omega
  have a1 := str_add b0 b1 (by omega)
  have q1 := Wt.size_add (a := b0) (b := b1) (by omega)
  have t1 := str_cat b0 b1
  rw [← f1] at a1 t1
  have C0 := C w0 _ b0 i0 e0'
  have C1 := C w0 _ b1 i1 e1'
  have CB : Hid (∀ w', Below w0.heap.size w0 w' → CellR w' w.heap.size r) := fun w' h => (hB.out.below h).cells
  have hl0 := hB.out.lt
  obtain ⟨c0, c1, c2, c3, c4, c5, c6, c7, c8, c9, c10, c11, c12, c13, c14, c15, c16, c17, c18⟩ := hB.out.cells
  have k0 := cell_regrown c0
  have k1 := cell_regrown c1
  have k2 := cell_regrown c2
  have k3 := cell_regrown c3
  have k4 := cell_regrown c4
  have k5 := cell_regrown c5
  have k6 := cell_regrown c6
  have k7 := cell_regrown c7
  have k8 := cell_regrown c8
  have k9 := cell_regrown c9
  have k10 := cell_regrown c10
  have k11 := cell_regrown c11
  have k12 := cell_regrown c12
  have k13 := cell_regrown c13
  have k14 := cell_regrown c14
  have k15 := cell_regrown c15
  have k16 := cell_regrown c16
  have k17 := cell_regrown c17
  have k18 := cell_regrown c18
  clear c0 c1 c2 c3 c4 c5 c6 c7 c8 c9 c10 c11 c12 c13 c14 c15 c16 c17 c18
  unfold rcv rcc
  replace m1 := Lib.hid m1
  replace C := Lib.hid C
  replace hr := Lib.hid hr
  replace e1' := Lib.hid e1'
  replace f1 := Lib.hid f1
  replace e0' := Lib.hid e0'
  replace CB := Lib.hid CB
  replace hkd := Lib.hid hkd
  replace hn := Lib.hid hn
  replace i0 := Lib.hid i0
  replace i1 := Lib.hid i1
  clear l0 l1 hB
  go_enter Tryd.func10, Tryd.ntmps10
  go_upto_region 1 with fail
  unfold rcc at e0
  rw [← e0]
  clear e0
  refine wp_region_quiet_below (by kernel_rfl) (by kernel_rfl) ?_
  repeat (go_big_quiet_step (first | with_reducible exact C0 _ _ | with_reducible exact C1 _ _))
  refine wpQuiet_nil ?_
  intro w2 hw'
  obtain ⟨⟨dq, osq⟩, hw''⟩ := hw'
  have b2 : Below w0.heap.size w0 w2 := by rw [hw'']; exact below_regrown w0 dq osq
  have be2 : Hid (Below w.heap.size w w2) := be0.out.trans (b2.mono be0.out.size)
  have hl2 : w.heap.size < w2.heap.size := Nat.lt_of_lt_of_le hl0 b2.size
  have CB2 : Hid (∀ w', Below w2.heap.size w2 w' → CellR w' w.heap.size r) := fun w' h => CB.out.out w' (b2.trans (h.mono b2.size))
  clear hw'' be0 C0 C1 CB a1 q1 t1 hl0 k0 k1 k2 k3 k4 k5 k6 k7 k8 k9 k10 k11 k12 k13 k14 k15 k16 k17 k18
  obtain ⟨c0, c1, c2, c3, c4, c5, c6, c7, c8, c9, c10, c11, c12, c13, c14, c15, c16, c17, c18⟩ := CB2.out w2 (Below.refl _ _)
  rcases (show r.kd = 1 ∨ r.kd = 2 ∨ r.kd = 3 by have := hkd.out; omega) with hk | hk | hk
  · have F := rput_1 hk
    have hm := rmay_k1 hr.out hk
    have ia : I r.an := by unfold I; omega
    obtain ⟨T0, eT0⟩ : ∃ b, b = rawOp r.op := ⟨_, rfl⟩
    have lT0 : T0.length ≤ 50 := by rw [eT0]; exact (rawOp_len hm.1).2
    obtain ⟨T1, eT1⟩ : ∃ b, b = encT T0 := ⟨_, rfl⟩
    have lT1 : T1.length ≤ 60 := by rw [eT1]; have := encT_len (s := T0) (by omega); omega
    obtain ⟨b3, e3'⟩ : ∃ b, b = encI r.an := ⟨_, rfl⟩
    have l3 : b3.length ≤ 10 := by rw [e3']; exact encI_len _ ia.1 ia.2
    have PO : ∀ d os, Calls Tryd.prog 27 #[.agg #[.int .i64 r.op.kind, .int .i64 r.op.book, .int .i64 r.op.units, .int .i64 r.op.cust, .int .i64 r.op.amount]] (grow (redrawn w2 d) os) fun e w'' => e = .returned (.string (str T0)) ∧ ∃ q : Regrown, w'' = grow (redrawn w2 q.d) q.os := fun d os => Calls.regrown_of (by rw [eT0]; exact Wt.rputop_any _ r.op (mayop_I hm.1))
    have PT : ∀ d os, Calls Tryd.prog 26 #[.string (str T0)] (grow (redrawn w2 d) os) fun e w'' => e = .returned (.string (str T1)) ∧ ∃ q : Regrown, w'' = grow (redrawn w2 q.d) q.os := fun d os => Calls.regrown_of (by rw [eT1]; exact reftext _ T0 (by omega))
    have PA := C.out w2 _ b3 ia e3'
    obtain ⟨s2, f2⟩ : ∃ s, s = s1 ++ T1 := ⟨_, rfl⟩
    have m2 : s2.length ≤ 80 := by have := m1.out; rw [f2, List.length_append]; omega
    have a2 := str_add s1 T1 (by have := m1.out; omega)
    have q2 := Wt.size_add (a := s1) (b := T1) (by have := m1.out; omega)
    have t2 := str_cat s1 T1
    rw [← f2] at a2 t2
    obtain ⟨s3, f3⟩ : ∃ s, s = s2 ++ b3 := ⟨_, rfl⟩
    have a3 := str_add s2 b3 (by omega)
    have q3 := Wt.size_add (a := s2) (b := b3) (by omega)
    have t3 := str_cat s2 b3
    rw [← f3] at a3 t3
    have G : Hid (rput r = s3) := by unfold Hid; rw [F, f3, f2, f1.out, e0'.out, e1'.out, e3', eT1, eT0, hk]
    rw [hk] at c0
    clear F hm ia eT0 lT0 eT1 lT1 e3' l3 f2 m2 f3 hk C hr m1 f1 e0' e1' CB2
    go_upto_region 4 with fail
    have k0 := cell_regrown c0
    have k1 := cell_regrown c1
    have k2 := cell_regrown c2
    have k3 := cell_regrown c3
    have k4 := cell_regrown c4
    have k5 := cell_regrown c5
    have k6 := cell_regrown c6
    have k7 := cell_regrown c7
    have k8 := cell_regrown c8
    have k9 := cell_regrown c9
    have k10 := cell_regrown c10
    have k11 := cell_regrown c11
    have k12 := cell_regrown c12
    have k13 := cell_regrown c13
    have k14 := cell_regrown c14
    have k15 := cell_regrown c15
    have k16 := cell_regrown c16
    have k17 := cell_regrown c17
    have k18 := cell_regrown c18
    clear c0 c1 c2 c3 c4 c5 c6 c7 c8 c9 c10 c11 c12 c13 c14 c15 c16 c17 c18
    refine wp_region_quiet_below (by kernel_rfl) (by kernel_rfl) ?_
    repeat (go_big_quiet_step (first | with_reducible exact PO _ _ | with_reducible exact PT _ _ | with_reducible exact PA _ _))
    refine wpQuiet_nil ?_
    intro w3 hw'
    obtain ⟨⟨dq, osq⟩, hw''⟩ := hw'
    have b3 : Below w2.heap.size w2 w3 := by rw [hw'']; exact below_regrown w2 dq osq
    have be3 : Hid (Below w.heap.size w w3) := be2.out.trans (b3.mono be2.out.size)
    clear hw'' be2 PO PT PA k0 k1 k2 k3 k4 k5 k6 k7 k8 k9 k10 k11 k12 k13 k14 k15 k16 k17 k18
    go_wp2
    go_ret
    rw [G.out]
    exact ⟨rfl, be3.out⟩
  · have F := rput_2 hk
    have G : Hid (rput r = s1) := by unfold Hid; rw [F, f1.out, e0'.out, e1'.out, hk]
    rw [hk] at c0
    clear F hk C hr m1 f1 e0' e1' CB2
    go_wp2
    go_ret
    rw [G.out]
    exact ⟨rfl, be2.out⟩
  · have F := rput_3 hk
    have hm := rmay_k3 hr.out hk
    obtain ⟨T0, eT0⟩ : ∃ b, b = sput r.sg := ⟨_, rfl⟩
    have lT0 : T0.length ≤ 110 := by rw [eT0]; exact sput_len hm
    obtain ⟨T1, eT1⟩ : ∃ b, b = encT T0 := ⟨_, rfl⟩
    have lT1 : T1.length ≤ 120 := by rw [eT1]; have := encT_len (s := T0) (by omega); omega
    have PO : ∀ w, Calls Tryd.prog 28 #[.agg #[.int .i64 r.sg.w.book, .int .i64 r.sg.w.cust, .int .i64 r.sg.w.dead, .int .i64 r.sg.w.u0, .int .i64 r.sg.w.u1, .int .i64 r.sg.w.u2, .int .i64 r.sg.w.price, .int .i64 r.sg.ph, .int .i64 r.sg.st, .int .i64 r.sg.rs, .int .i64 r.sg.si]] w fun e w' => e = .returned (.string (str T0)) ∧ Below w.heap.size w w' := fun w => by rw [eT0]; exact Sb.rput_any w r.sg hm
    have PT : ∀ w, Calls Tryd.prog 26 #[.string (str T0)] w fun e w' => e = .returned (.string (str T1)) ∧ Below w.heap.size w w' := fun w => by rw [eT1]; exact reftext _ T0 (by omega)
    obtain ⟨s2, f2⟩ : ∃ s, s = s1 ++ T1 := ⟨_, rfl⟩
    have a2 := str_add s1 T1 (by have := m1.out; omega)
    have q2 := Wt.size_add (a := s1) (b := T1) (by have := m1.out; omega)
    have t2 := str_cat s1 T1
    rw [← f2] at a2 t2
    have G : Hid (rput r = s2) := by unfold Hid; rw [F, f2, f1.out, e0'.out, e1'.out, eT1, eT0, hk]
    rw [hk] at c0
    clear F hm eT0 lT0 eT1 lT1 f2 hk C hr m1 f1 e0' e1' CB2
    go_wp2_with fail
    refine (PO _).mono ?_
    rintro e w3 ⟨rfl, h⟩
    have be3 : Hid (Below w.heap.size w w3) := be2.out.trans (h.mono be2.out.size)
    clear h PO be2 c0 c1 c2 c3 c4 c5 c6 c7 c8 c9 c10 c11 c12 c13 c14 c15 c16 c17 c18
    go_wp2_with fail
    refine (PT _).mono ?_
    rintro e w4 ⟨rfl, h⟩
    have be4 : Hid (Below w.heap.size w w4) := be3.out.trans (h.mono be3.out.size)
    clear h PT be3
    go_wp2
    go_ret
    rw [G.out]
    exact ⟨rfl, be4.out⟩
end Re
end Go.Proofs.YtidfpbnepdjagaaDoor

namespace Go.Proofs.YtidfpbnepdjagaaDoor
set_option maxRecDepth 100000
open Go.RowKit
open Go.Proofs.YtidfpbnepdjagaaDoor.Pk
namespace Re
open Go.Proofs.YtidfpbnepdjagaaDoor.Sg (Sag sz smay sgc sgv res_row sag_size)
open Go.Proofs.YtidfpbnepdjagaaDoor.Sb (sget SGetTo rgets_any)
open Wt (Opn mayOp getO GetOTo rgetop_any op_info rEnd_zero)
open Pl (wpList_store_row setRow_below)

/-- What Get answers. -/
structure RGetTo (w : World) (q : Option Rec) (e : Ending) (w' : World) : Prop where
  be : Below w.heap.size w w'
  yes : ∀ r, q = some r → e = .returned (.tuple #[rcv r, .int .i64 0])
  no : q = none → e = .returned (.tuple #[rcv r0, .int .i64 2])
theorem rfin_some (r : Rec) (s : St) : rfin (some r, s) = if rEnd s = 0 ∧ rmay r = true then some r else none := by
  match s with
  | none => simp [rfin, rEnd]
  | some [] => simp [rfin, rEnd]
  | some (c :: t) => simp [rfin, rEnd]
theorem rfin_none (s : St) : rfin (none, s) = none := rfl
theorem rget_1 {bs t : List UInt8} {n a : Int} {s1 s2 s3 s4 : St} (q1 : rI (some bs) = (1, s1)) (q2 : rI s1 = (n, s2)) (q3 : rText 1000 s2 = (t, s3)) (q4 : rI s3 = (a, s4)) :
    rget bs = rfin ((getO (some t)).map fun o => ⟨1, n, a, o, sz⟩, s4) := by
  unfold rget rrd
  simp only [q1, q2, q3, q4, if_true]
theorem rget_3 {bs t : List UInt8} {n : Int} {s1 s2 s3 : St} (q1 : rI (some bs) = (3, s1)) (q2 : rI s1 = (n, s2)) (q3 : rText 1000 s2 = (t, s3)) :
    rget bs = rfin ((sget t).map fun x => ⟨3, n, 0, o0, x⟩, s3) := by
  unfold rget rrd
  simp only [q1, q2, q3, if_true]
  rw [if_neg (by decide)]
theorem rget_2 {bs : List UInt8} {k n : Int} {s1 s2 : St} (q1 : rI (some bs) = (k, s1)) (q2 : rI s1 = (n, s2)) (k1 : k ≠ 1) (k3 : k ≠ 3) :
    rget bs = rfin (some ⟨k, n, 0, o0, sz⟩, s2) := by
  unfold rget rrd
  simp only [q1, q2, k1, k3, if_false]
theorem rtext_le {most : Int} {s : St} (h : ∀ l, s = some l → l.length ≤ 400) : (rText most s).1.length ≤ 400 := by
  unfold rText
  split
  · simp
  · rename_i n l hq
    cases s with
    | none => cases hq
    | some l' =>
      have e := rInt_inv2 hq
      have hl := h l' rfl
      rw [e, List.length_append] at hl
      split
      · simp only [List.length_take]; omega
      · simp
theorem rx_le {w : World} {p : Nat} {s : St} (h : Rx w p s) : ∀ l, s = some l → l.length ≤ 400 := by
  obtain ⟨bs, f, -, hl, rfl⟩ := h
  intro l e
  split at e
  · cases e
  · injection e with e; subst e; exact hl

def stv (cs : Array Value) (o : Nat) : List Value → Array Value
  | [] => cs
  | v :: vs => stv (cs.setIfInBounds o v) (o + 1) vs
theorem setCells_heap {b : Nat} {t : TypeId} (vs : List Value) : ∀ (w : World) (o : Nat) (cs : Array Value), w.heap[b]? = some (.cells cs t (0, 0)) → (w.setCells b o vs).heap[b]? = some (.cells (stv cs o vs) t (0, 0)) := by
  induction vs with
  | nil => intro w o cs h; exact h
  | cons v vs ih => intro w o cs h; exact ih _ _ _ (one_set h v)
theorem setCells_grown {b : Nat} (vs : List Value) : ∀ (w : World) (o : Nat), w.grownBy (w.setCells b o vs) (some b) := by
  induction vs with
  | nil => intro w o; exact grown_refl _ _
  | cons v vs ih => intro w o; exact grown_trans (grown_set w b o v) (ih _ _)
theorem stv5 (k n a : Int) (x : Opn) : stv (rcc ⟨k, n, a, o0, sz⟩) 3 [.int .i64 x.kind, .int .i64 x.book, .int .i64 x.units, .int .i64 x.cust, .int .i64 x.amount] = rcc ⟨k, n, a, x, sz⟩ := by simp [stv, rcc, o0, sz]
theorem stv11 (k n a : Int) (x : Sag) : stv (rcc ⟨k, n, a, o0, sz⟩) 8 [.int .i64 x.w.book, .int .i64 x.w.cust, .int .i64 x.w.dead, .int .i64 x.w.u0, .int .i64 x.w.u1, .int .i64 x.w.u2, .int .i64 x.w.price, .int .i64 x.ph, .int .i64 x.st, .int .i64 x.rs, .int .i64 x.si] = rcc ⟨k, n, a, o0, x⟩ := by simp [stv, rcc, o0, sz]
/-- Under way: the result's box, what is read so far, the reader. -/
structure Gq (w wr : World) (b : Nat) (r : Rec) (s : St) : Prop where
  be : Below w.heap.size w wr
  za : BoxR wr w.heap.size r0
  bx : BoxR wr b r
  rx : Rx wr (w.heap.size + 1) s
  lt : w.heap.size + 1 < b
section
variable {w wr w' : World} {b : Nat} {r r' : Rec} {s s' : St}
theorem Gq.read (h : Gq w wr b r s) (k : RxTo wr (w.heap.size + 1) s' w') : Gq w w' b r s' := by
  have hl := h.lt
  refine ⟨h.be.trans ⟨k.gr.os, k.gr.tape, k.gr.output, k.gr.size, fun j hj => k.gr.block j (by have := h.be.size; omega) (fun e => by injection e with e; omega)⟩, ?_, ?_, k.rx, hl⟩
  · exact (k.gr.block _ h.za.lt (fun e => by injection e with e; omega)).trans h.za
  · exact (k.gr.block _ h.bx.lt (fun e => by injection e with e; omega)).trans h.bx
theorem Gq.below (h : Gq w wr b r s) (k : Below wr.heap.size wr w') : Gq w w' b r s :=
  ⟨h.be.trans (k.mono h.be.size), h.za.below k, h.bx.below k, h.rx.same (k.block _ h.rx.lt), h.lt⟩
theorem Gq.grown (h : Gq w wr b r s) (k : wr.grownBy w' (some b)) (hb : BoxR w' b r') : Gq w w' b r' s := by
  have hl := h.lt
  refine ⟨h.be.trans ⟨k.os, k.tape, k.output, k.size, fun j hj => k.block j (by have := h.be.size; omega) (fun e => by injection e with e; omega)⟩, ?_, hb, h.rx.same (k.block _ h.rx.lt (fun e => by injection e with e; omega)), hl⟩
  exact (k.block _ h.za.lt (fun e => by injection e with e; omega)).trans h.za
end
theorem rgetrec_results : Tryd.f12.results = #[.cell 2 30, .tmp 3] := by kernel_rfl

set_option maxHeartbeats 12800000 in
theorem rgetrec_any (w : World) (bs : List UInt8) (hl : bs.length ≤ 400) : Calls Tryd.prog 12 #[.string (str bs)] w (RGetTo w (rget bs)) := by
  obtain ⟨w0, e0⟩ : ∃ z, z = (w.alloc (.cells #[.int .i64 0, .int .i64 0, .int .i64 0, .int .i64 0, .int .i64 0, .int .i64 0, .int .i64 0, .int .i64 0, .int .i64 0, .int .i64 0, .int .i64 0, .int .i64 0, .int .i64 0, .int .i64 0, .int .i64 0, .int .i64 0, .int .i64 0, .int .i64 0, .int .i64 0] 30)).alloc (.cells #[.string (str bs), .bool false] 72) := ⟨_, rfl⟩
  have be0 : Hid (Below w.heap.size w w0) := by rw [e0]; exact ((Below.refl _ w).alloc (Nat.le_refl _) _).alloc (by simp) _
  have ha0 : Hid (BoxR w0 w.heap.size r0) := by rw [e0]; exact heap_alloc2_old _ _ _
  have hR0 : Rx w0 (w.heap.size + 1) (some bs) := by rw [e0]; exact ⟨bs, false, heap_alloc2_new _ _ _, hl, rfl⟩
  obtain ⟨⟨k, s1⟩, q1⟩ : ∃ z, rI (some bs) = z := ⟨_, rfl⟩
  obtain ⟨⟨n, s2⟩, q2⟩ : ∃ z, rI s1 = z := ⟨_, rfl⟩
  have CI : ∀ (p : Nat) (w : World) (s s' : St) (v : Int), rI s = (v, s') → Rx w p s → Calls Tryd.prog 36 #[.pointer (some ⟨p, 0, none⟩), .int .i64 (-9223372036854775808), .int .i64 9223372036854775807] w fun e w' => e = .returned (.int .i64 v) ∧ RxTo w p s' w' := fun p w s s' v h hr => by
    have := xint p w s (-9223372036854775808) 9223372036854775807 hr
    unfold rI at h
    rw [h] at this
    exact this
  have CT : ∀ (p : Nat) (w : World) (s s' : St) (t : List UInt8), rText 1000 s = (t, s') → Rx w p s → Calls Tryd.prog 38 #[.pointer (some ⟨p, 0, none⟩), .int .i64 1000] w fun e w' => e = .returned (.string (str t)) ∧ RxTo w p s' w' := fun p w s s' t h hr => by
    have := xtext p w s 1000 hr
    unfold XtTo at this
    rw [h] at this
    exact this
  have C0 := CI _ w0 _ _ _ q1 hR0
  replace CI := Lib.hid CI
  replace CT := Lib.hid CT
  replace C0 := Lib.hid C0
  replace q1 := Lib.hid q1
  replace q2 := Lib.hid q2
  replace e0 := Lib.hid e0
  clear hR0 hl
  go_enter Tryd.func12, Tryd.ntmps12
  go_wp2_with fail
  rw [← e0.out]
  refine C0.out.mono ?_
  rintro e w1 ⟨rfl, h0⟩
  have hp1 : w.heap.size + 1 < w1.heap.size := h0.rx.lt
  have hsz : w.heap.size + 1 < w0.heap.size := by rw [e0.out]; simp
  have ha1 : Hid (BoxR w1 w.heap.size r0) := (h0.gr.block _ (by omega) (fun e => by injection e with e; omega)).trans ha0.out
  have be1 : Hid (Below w.heap.size w w1) := be0.out.trans ⟨h0.gr.os, h0.gr.tape, h0.gr.output, h0.gr.size, fun i hi => h0.gr.block i (by omega) (fun e => by injection e with e; omega)⟩
  have rx1 := h0.rx
  clear h0 C0 be0 ha0 hsz e0
  have na : (w1.alloc (.cells #[.int .i64 0, .int .i64 0, .int .i64 0, .int .i64 0, .int .i64 0, .int .i64 0, .int .i64 0, .int .i64 0, .int .i64 0, .int .i64 0, .int .i64 0, .int .i64 0, .int .i64 0, .int .i64 0, .int .i64 0, .int .i64 0, .int .i64 0, .int .i64 0, .int .i64 0] 30)).heap[w1.heap.size]? = some (.cells #[.int .i64 0, .int .i64 0, .int .i64 0, .int .i64 0, .int .i64 0, .int .i64 0, .int .i64 0, .int .i64 0, .int .i64 0, .int .i64 0, .int .i64 0, .int .i64 0, .int .i64 0, .int .i64 0, .int .i64 0, .int .i64 0, .int .i64 0, .int .i64 0, .int .i64 0] 30 (0, 0)) := heap_alloc_new _ _
  replace na := Lib.hid na
  go_upto_region 4 with (refine wpList_store_row rfl 30 (.tmp 7) (.tmp 16) rfl w1.heap.size #[.int .i64 k, .int .i64 0, .int .i64 0, .int .i64 0, .int .i64 0, .int .i64 0, .int .i64 0, .int .i64 0, .int .i64 0, .int .i64 0, .int .i64 0, .int .i64 0, .int .i64 0, .int .i64 0, .int .i64 0, .int .i64 0, .int .i64 0, .int .i64 0, .int .i64 0] rfl rfl 30 _ na.out rec_size rfl (by simp [Value.oneCell']) ?_)
  obtain ⟨u0, eu⟩ : ∃ z, z = (w1.alloc (.cells #[.int .i64 0, .int .i64 0, .int .i64 0, .int .i64 0, .int .i64 0, .int .i64 0, .int .i64 0, .int .i64 0, .int .i64 0, .int .i64 0, .int .i64 0, .int .i64 0, .int .i64 0, .int .i64 0, .int .i64 0, .int .i64 0, .int .i64 0, .int .i64 0, .int .i64 0] 30)).setRow w1.heap.size #[.int .i64 k, .int .i64 0, .int .i64 0, .int .i64 0, .int .i64 0, .int .i64 0, .int .i64 0, .int .i64 0, .int .i64 0, .int .i64 0, .int .i64 0, .int .i64 0, .int .i64 0, .int .i64 0, .int .i64 0, .int .i64 0, .int .i64 0, .int .i64 0, .int .i64 0] := ⟨_, rfl⟩
  rw [← eu]
  have G0 : Hid (Gq w u0 w1.heap.size ⟨k, 0, 0, o0, sz⟩ s1) := by
    have al : Below w1.heap.size w1 u0 := by rw [eu]; exact ((Below.refl _ _).alloc (Nat.le_refl _) _).trans (setRow_below _ (Nat.le_refl _))
    exact ⟨be1.out.trans (al.mono be1.out.size), ha1.out.below al, by rw [eu]; exact setRow_heap _ _ _ _ _ _ na.out, rx1.same (al.block _ hp1), hp1⟩
  obtain ⟨b, eb⟩ : ∃ z, z = w1.heap.size := ⟨_, rfl⟩
  rw [← eb] at G0 ⊢
  clear eb eu ha1 be1 rx1 hp1 na
  go_wp2_with fail
  refine (CI.out _ _ _ _ _ q2.out G0.out.rx).mono ?_
  rintro e w2 ⟨rfl, h⟩
  have G1 := Lib.hid (G0.out.read h)
  clear h G0
  have fm : w2.frozen? ⟨b, 1, none⟩ = false := one_free G1.out.bx
  have cm : w2.cell? ⟨b, 1, none⟩ = some (.int .i64 0) := one_at G1.out.bx
  have lm := G1.out.bx.lt
  go_upto_region 5 with fail
  obtain ⟨u1, eu⟩ : ∃ z, z = w2.setCell ⟨b, 1, none⟩ (.int .i64 n) := ⟨_, rfl⟩
  rw [← eu]
  have G2 : Hid (Gq w u1 b ⟨k, n, 0, o0, sz⟩ s2) := by rw [eu]; exact G1.out.grown (grown_set w2 b 1 _) (one_set G1.out.bx _)
  clear eu fm cm lm G1
  have kk : u1.cell? ⟨b, 0, none⟩ = some (.int .i64 k) := one_at G2.out.bx
  have lk := G2.out.bx.lt
  by_cases k1 : k = 1
  · subst k1
    obtain ⟨⟨t, s3⟩, q3⟩ : ∃ z, rText 1000 s2 = z := ⟨_, rfl⟩
    obtain ⟨⟨a, s4⟩, q4⟩ : ∃ z, rI s3 = z := ⟨_, rfl⟩
    have F1 := Lib.hid (rget_1 q1.out q2.out q3 q4)
    have tl : t.length ≤ 400 := by have := rtext_le (most := 1000) (rx_le G2.out.rx); rw [q3] at this; exact this
    have GO := Lib.hid (fun w => rgetop_any w t tl)
    replace q3 := Lib.hid q3
    replace q4 := Lib.hid q4
    clear tl
    go_wp2_with fail
    refine (CT.out _ _ _ _ _ q3.out G2.out.rx).mono ?_
    rintro e w3 ⟨rfl, h⟩
    have G3 := Lib.hid (G2.out.read h)
    clear h G2 kk lk
    go_wp2_with fail
    refine (GO.out _).mono ?_
    intro e w4 h
    have G4 := Lib.hid (G3.out.below h.be)
    have TH : Hid (w4.there b 3 5) := fun j hj => ⟨by rw [one_at G4.out.bx, Array.getElem?_eq_getElem (by simp; omega)]; rfl, one_free G4.out.bx⟩
    rcases ho : getO (some t) with _ | x
    · rw [ho] at h F1
      have hy : e = .returned (.tuple #[.agg #[.int .i64 0, .int .i64 0, .int .i64 0, .int .i64 0, .int .i64 0], .int .i64 2]) := h.no rfl
      subst hy
      have FF : Hid (rget bs = none) := F1.out
      clear h ho GO F1 G3 CT
      go_simp
      iterate 12 go_step
      go_simp
      go_step
      go_simp
      refine wpList_store_mid rfl 23 (.tmp 32) (.tmp 30) rfl b 3 #[.int .i64 0, .int .i64 0, .int .i64 0, .int .i64 0, .int .i64 0] rfl rfl TH.out op_info (by simp [Value.oneCell']) ?_
      go_upto_region 9 with fail
      obtain ⟨u2, hu⟩ : ∃ z, z = w4.setCells b 3 (#[.int .i64 0, .int .i64 0, .int .i64 0, .int .i64 0, .int .i64 0] : Array Value).toList := ⟨_, rfl⟩
      rw [← hu]
      have G5 : Hid (Gq w u2 b ⟨1, n, 0, o0, sz⟩ s3) := by
        rw [hu]
        refine G4.out.grown (setCells_grown _ w4 3) ?_
        have := setCells_heap [.int .i64 0, .int .i64 0, .int .i64 0, .int .i64 0, .int .i64 0] w4 3 _ G4.out.bx
        rw [show stv (rcc ⟨1, n, 0, o0, sz⟩) 3 [.int .i64 0, .int .i64 0, .int .i64 0, .int .i64 0, .int .i64 0] = rcc ⟨1, n, 0, o0, sz⟩ from stv5 1 n 0 o0] at this
        exact this
      clear hu TH G4
      go_wp2_with fail
      refine (CI.out _ _ _ _ _ q4.out G5.out.rx).mono ?_
      rintro e w5 ⟨rfl, h⟩
      have G6 := Lib.hid (G5.out.read h)
      clear h G5
      have fm : w5.frozen? ⟨b, 2, none⟩ = false := one_free G6.out.bx
      have cm : w5.cell? ⟨b, 2, none⟩ = some (.int .i64 0) := one_at G6.out.bx
      have lm := G6.out.bx.lt
      go_upto_region 12 with fail
      obtain ⟨u3, eu⟩ : ∃ z, z = w5.setCell ⟨b, 2, none⟩ (.int .i64 a) := ⟨_, rfl⟩
      rw [← eu]
      have G7 : Hid (Gq w u3 b ⟨1, n, a, o0, sz⟩ s4) := by rw [eu]; exact G6.out.grown (grown_set w5 b 2 _) (one_set G6.out.bx _)
      clear eu fm cm lm G6
      have zz := G7.out.za
      have bb : Hid (Below w.heap.size w _) := G7.out.be
      go_wp2_with (refine wpList_store_row rfl 30 (.tmp 2) (.tmp 59) rfl w.heap.size #[.int .i64 0, .int .i64 0, .int .i64 0, .int .i64 0, .int .i64 0, .int .i64 0, .int .i64 0, .int .i64 0, .int .i64 0, .int .i64 0, .int .i64 0, .int .i64 0, .int .i64 0, .int .i64 0, .int .i64 0, .int .i64 0, .int .i64 0, .int .i64 0, .int .i64 0] rfl rfl 30 _ zz rec_size rfl (by simp [Value.oneCell']) ?_)
      refine bodyPost_ret (res_row rgetrec_results _ _ w.heap.size 30 #[.int .i64 0, .int .i64 0, .int .i64 0, .int .i64 0, .int .i64 0, .int .i64 0, .int .i64 0, .int .i64 0, .int .i64 0, .int .i64 0, .int .i64 0, .int .i64 0, .int .i64 0, .int .i64 0, .int .i64 0, .int .i64 0, .int .i64 0, .int .i64 0, .int .i64 0] (0, 0) _ rfl (setRow_heap _ _ _ _ _ _ zz) Tryd.underlying30 rfl rec_size) rfl ?_
      exact ⟨bb.out.trans (setRow_below _ (Nat.le_refl _)), fun r h => (by rw [FF.out] at h; cases h), fun _ => rfl⟩
    · rw [ho] at h F1
      have hy : e = .returned (.tuple #[.agg #[.int .i64 x.kind, .int .i64 x.book, .int .i64 x.units, .int .i64 x.cust, .int .i64 x.amount], .int .i64 0]) := h.yes x rfl
      subst hy
      have FX : rget bs = rfin (some ⟨1, n, a, x, sz⟩, s4) := F1.out
      replace FX := Lib.hid FX
      clear h ho GO F1 G3 CT
      go_simp
      iterate 12 go_step
      go_simp
      go_step
      go_simp
      refine wpList_store_mid rfl 23 (.tmp 32) (.tmp 30) rfl b 3 #[.int .i64 x.kind, .int .i64 x.book, .int .i64 x.units, .int .i64 x.cust, .int .i64 x.amount] rfl rfl TH.out op_info (by simp [Value.oneCell']) ?_
      go_upto_region 9 with fail
      obtain ⟨u2, hu⟩ : ∃ z, z = w4.setCells b 3 (#[.int .i64 x.kind, .int .i64 x.book, .int .i64 x.units, .int .i64 x.cust, .int .i64 x.amount] : Array Value).toList := ⟨_, rfl⟩
      rw [← hu]
      have G5 : Hid (Gq w u2 b ⟨1, n, 0, x, sz⟩ s3) := by
        rw [hu]
        refine G4.out.grown (setCells_grown _ w4 3) ?_
        have := setCells_heap [.int .i64 x.kind, .int .i64 x.book, .int .i64 x.units, .int .i64 x.cust, .int .i64 x.amount] w4 3 _ G4.out.bx
        rw [stv5 1 n 0 x] at this
        exact this
      clear hu TH G4
      go_wp2_with fail
      refine (CI.out _ _ _ _ _ q4.out G5.out.rx).mono ?_
      rintro e w5 ⟨rfl, h⟩
      have G6 := Lib.hid (G5.out.read h)
      clear h G5
      have fm : w5.frozen? ⟨b, 2, none⟩ = false := one_free G6.out.bx
      have cm : w5.cell? ⟨b, 2, none⟩ = some (.int .i64 0) := one_at G6.out.bx
      have lm := G6.out.bx.lt
      go_upto_region 12 with fail
      obtain ⟨u3, eu⟩ : ∃ z, z = w5.setCell ⟨b, 2, none⟩ (.int .i64 a) := ⟨_, rfl⟩
      rw [← eu]
      have G7 : Hid (Gq w u3 b ⟨1, n, a, x, sz⟩ s4) := by rw [eu]; exact G6.out.grown (grown_set w5 b 2 _) (one_set G6.out.bx _)
      clear eu fm cm lm G6
      have F := rfin_some ⟨1, n, a, x, sz⟩ s4
      rw [← FX.out] at F
      have E := xend _ _ _ G7.out.rx
      have M := Lib.hid (fun w => rmayrec_any w ⟨1, n, a, x, sz⟩)
      obtain ⟨mb, hmb⟩ : ∃ mb, rmay ⟨1, n, a, x, sz⟩ = mb := ⟨_, rfl⟩
      rw [hmb] at M F
      clear hmb
      generalize hen : rEnd s4 = en at *
      clear hen
      replace E := Lib.hid E
      unfold rcv rcc at M
      simp only [sz] at M
      replace F := Lib.hid F
      by_cases he : en = 0
      case neg =>
        have g1 : (en != 0) = true := by simp [he]
        have g2 : (en == 0) = false := by simp [he]
        have FF : Hid (rget bs = none) := by unfold Hid; rw [F.out, if_neg (fun h => he h.1)]
        go_wp2_with fail
        refine E.out.mono ?_
        rintro e v1 ⟨rfl, rfl⟩
        clear E M F
        have zz := G7.out.za
        have bb : Hid (Below w.heap.size w _) := G7.out.be
        go_wp2_with (refine wpList_store_row rfl 30 (.tmp 2) (.tmp 59) rfl w.heap.size #[.int .i64 0, .int .i64 0, .int .i64 0, .int .i64 0, .int .i64 0, .int .i64 0, .int .i64 0, .int .i64 0, .int .i64 0, .int .i64 0, .int .i64 0, .int .i64 0, .int .i64 0, .int .i64 0, .int .i64 0, .int .i64 0, .int .i64 0, .int .i64 0, .int .i64 0] rfl rfl 30 _ zz rec_size rfl (by simp [Value.oneCell']) ?_)
        refine bodyPost_ret (res_row rgetrec_results _ _ w.heap.size 30 #[.int .i64 0, .int .i64 0, .int .i64 0, .int .i64 0, .int .i64 0, .int .i64 0, .int .i64 0, .int .i64 0, .int .i64 0, .int .i64 0, .int .i64 0, .int .i64 0, .int .i64 0, .int .i64 0, .int .i64 0, .int .i64 0, .int .i64 0, .int .i64 0, .int .i64 0] (0, 0) _ rfl (setRow_heap _ _ _ _ _ _ zz) Tryd.underlying30 rfl rec_size) rfl ?_
        exact ⟨bb.out.trans (setRow_below _ (Nat.le_refl _)), fun r h => (by rw [FF.out] at h; cases h), fun _ => rfl⟩
      subst he
      cases mb with
      | false =>
        have FF : Hid (rget bs = none) := by unfold Hid; rw [F.out, if_neg (fun h => by cases h.2)]
        clear F
        go_wp2_with fail
        refine E.out.mono ?_
        rintro e v1 ⟨rfl, rfl⟩
        clear E
        go_wp2_with (refine wpList_rload_g (.tmp 7) rfl rfl b rfl ⟨1, n, a, x, sz⟩ G7.out.bx ?_)
        refine (M.out _).mono ?_
        rintro e v2 ⟨rfl, h⟩
        have G9 := Lib.hid (G7.out.below h)
        clear M h
        have zz := G9.out.za
        have bb : Hid (Below w.heap.size w _) := G9.out.be
        go_wp2_with (refine wpList_store_row rfl 30 (.tmp 2) (.tmp 59) rfl w.heap.size #[.int .i64 0, .int .i64 0, .int .i64 0, .int .i64 0, .int .i64 0, .int .i64 0, .int .i64 0, .int .i64 0, .int .i64 0, .int .i64 0, .int .i64 0, .int .i64 0, .int .i64 0, .int .i64 0, .int .i64 0, .int .i64 0, .int .i64 0, .int .i64 0, .int .i64 0] rfl rfl 30 _ zz rec_size rfl (by simp [Value.oneCell']) ?_)
        refine bodyPost_ret (res_row rgetrec_results _ _ w.heap.size 30 #[.int .i64 0, .int .i64 0, .int .i64 0, .int .i64 0, .int .i64 0, .int .i64 0, .int .i64 0, .int .i64 0, .int .i64 0, .int .i64 0, .int .i64 0, .int .i64 0, .int .i64 0, .int .i64 0, .int .i64 0, .int .i64 0, .int .i64 0, .int .i64 0, .int .i64 0] (0, 0) _ rfl (setRow_heap _ _ _ _ _ _ zz) Tryd.underlying30 rfl rec_size) rfl ?_
        exact ⟨bb.out.trans (setRow_below _ (Nat.le_refl _)), fun r h => (by rw [FF.out] at h; cases h), fun _ => rfl⟩
      | true =>
        have FF : Hid (rget bs = some ⟨1, n, a, x, sz⟩) := by unfold Hid; rw [F.out, if_pos ⟨rfl, rfl⟩]
        clear F
        go_wp2_with fail
        refine E.out.mono ?_
        rintro e v1 ⟨rfl, rfl⟩
        clear E
        go_wp2_with (refine wpList_rload_g (.tmp 7) rfl rfl b rfl ⟨1, n, a, x, sz⟩ G7.out.bx ?_)
        refine (M.out _).mono ?_
        rintro e v2 ⟨rfl, h⟩
        have G9 := Lib.hid (G7.out.below h)
        clear M h
        have zz := G9.out.za
        have bb : Hid (Below w.heap.size w v2) := G9.out.be
        go_wp2_with (first | (refine wpList_rload rfl (.tmp 7) rfl b rfl ⟨1, n, a, x, sz⟩ G9.out.bx ?_) | (refine wpList_store_row rfl 30 (.tmp 2) (.tmp 60) rfl w.heap.size #[.int .i64 1, .int .i64 n, .int .i64 a, .int .i64 x.kind, .int .i64 x.book, .int .i64 x.units, .int .i64 x.cust, .int .i64 x.amount, .int .i64 0, .int .i64 0, .int .i64 0, .int .i64 0, .int .i64 0, .int .i64 0, .int .i64 0, .int .i64 0, .int .i64 0, .int .i64 0, .int .i64 0] rfl rfl 30 _ zz rec_size rfl (by simp [Value.oneCell']) ?_))
        refine bodyPost_ret (res_row rgetrec_results _ _ w.heap.size 30 #[.int .i64 1, .int .i64 n, .int .i64 a, .int .i64 x.kind, .int .i64 x.book, .int .i64 x.units, .int .i64 x.cust, .int .i64 x.amount, .int .i64 0, .int .i64 0, .int .i64 0, .int .i64 0, .int .i64 0, .int .i64 0, .int .i64 0, .int .i64 0, .int .i64 0, .int .i64 0, .int .i64 0] (0, 0) _ rfl (setRow_heap _ _ _ _ _ _ zz) Tryd.underlying30 rfl rec_size) rfl ?_
        exact ⟨bb.out.trans (setRow_below _ (Nat.le_refl _)), (by
          intro r h
          rw [FF.out] at h
          injection h with h
          subst h
          rfl), (by intro h; rw [FF.out] at h; cases h)⟩
  by_cases k3 : k = 3
  · subst k3
    obtain ⟨⟨t, s3⟩, q3⟩ : ∃ z, rText 1000 s2 = z := ⟨_, rfl⟩
    have F1 := Lib.hid (rget_3 q1.out q2.out q3)
    have tl : t.length ≤ 400 := by have := rtext_le (most := 1000) (rx_le G2.out.rx); rw [q3] at this; exact this
    have GO := Lib.hid (fun w => rgets_any w t tl)
    replace q3 := Lib.hid q3
    clear tl k1
    go_wp2_with fail
    refine (CT.out _ _ _ _ _ q3.out G2.out.rx).mono ?_
    rintro e w3 ⟨rfl, h⟩
    have G3 := Lib.hid (G2.out.read h)
    clear h G2 kk lk
    go_wp2_with fail
    refine (GO.out _).mono ?_
    intro e w4 h
    have G4 := Lib.hid (G3.out.below h.be)
    have TH : Hid (w4.there b 8 11) := fun j hj => ⟨by rw [one_at G4.out.bx, Array.getElem?_eq_getElem (by simp; omega)]; rfl, one_free G4.out.bx⟩
    rcases ho : sget t with _ | x
    · rw [ho] at h F1
      have hy : e = .returned (.tuple #[.agg #[.int .i64 0, .int .i64 0, .int .i64 0, .int .i64 0, .int .i64 0, .int .i64 0, .int .i64 0, .int .i64 0, .int .i64 0, .int .i64 0, .int .i64 0], .int .i64 2]) := h.no rfl
      subst hy
      have FF : Hid (rget bs = none) := F1.out
      clear h ho GO F1 G3 CT
      go_simp
      iterate 12 go_step
      go_simp
      go_step
      go_simp
      refine wpList_store_mid rfl 28 (.tmp 46) (.tmp 44) rfl b 8 #[.int .i64 0, .int .i64 0, .int .i64 0, .int .i64 0, .int .i64 0, .int .i64 0, .int .i64 0, .int .i64 0, .int .i64 0, .int .i64 0, .int .i64 0] rfl rfl TH.out sag_size (by simp [Value.oneCell']) ?_
      go_upto_region 12 with fail
      obtain ⟨u2, hu⟩ : ∃ z, z = w4.setCells b 8 (#[.int .i64 0, .int .i64 0, .int .i64 0, .int .i64 0, .int .i64 0, .int .i64 0, .int .i64 0, .int .i64 0, .int .i64 0, .int .i64 0, .int .i64 0] : Array Value).toList := ⟨_, rfl⟩
      rw [← hu]
      have G5 : Hid (Gq w u2 b ⟨3, n, 0, o0, sz⟩ s3) := by
        rw [hu]
        refine G4.out.grown (setCells_grown _ w4 8) ?_
        have := setCells_heap [.int .i64 0, .int .i64 0, .int .i64 0, .int .i64 0, .int .i64 0, .int .i64 0, .int .i64 0, .int .i64 0, .int .i64 0, .int .i64 0, .int .i64 0] w4 8 _ G4.out.bx
        rw [show stv (rcc ⟨3, n, 0, o0, sz⟩) 8 [.int .i64 0, .int .i64 0, .int .i64 0, .int .i64 0, .int .i64 0, .int .i64 0, .int .i64 0, .int .i64 0, .int .i64 0, .int .i64 0, .int .i64 0] = rcc ⟨3, n, 0, o0, sz⟩ from stv11 3 n 0 sz] at this
        exact this
      clear hu TH G4
      have zz := G5.out.za
      have bb : Hid (Below w.heap.size w _) := G5.out.be
      go_wp2_with (refine wpList_store_row rfl 30 (.tmp 2) (.tmp 59) rfl w.heap.size #[.int .i64 0, .int .i64 0, .int .i64 0, .int .i64 0, .int .i64 0, .int .i64 0, .int .i64 0, .int .i64 0, .int .i64 0, .int .i64 0, .int .i64 0, .int .i64 0, .int .i64 0, .int .i64 0, .int .i64 0, .int .i64 0, .int .i64 0, .int .i64 0, .int .i64 0] rfl rfl 30 _ zz rec_size rfl (by simp [Value.oneCell']) ?_)
      refine bodyPost_ret (res_row rgetrec_results _ _ w.heap.size 30 #[.int .i64 0, .int .i64 0, .int .i64 0, .int .i64 0, .int .i64 0, .int .i64 0, .int .i64 0, .int .i64 0, .int .i64 0, .int .i64 0, .int .i64 0, .int .i64 0, .int .i64 0, .int .i64 0, .int .i64 0, .int .i64 0, .int .i64 0, .int .i64 0, .int .i64 0] (0, 0) _ rfl (setRow_heap _ _ _ _ _ _ zz) Tryd.underlying30 rfl rec_size) rfl ?_
      exact ⟨bb.out.trans (setRow_below _ (Nat.le_refl _)), fun r h => (by rw [FF.out] at h; cases h), fun _ => rfl⟩
    · rw [ho] at h F1
      have hy : e = .returned (.tuple #[.agg #[.int .i64 x.w.book, .int .i64 x.w.cust, .int .i64 x.w.dead, .int .i64 x.w.u0, .int .i64 x.w.u1, .int .i64 x.w.u2, .int .i64 x.w.price, .int .i64 x.ph, .int .i64 x.st, .int .i64 x.rs, .int .i64 x.si], .int .i64 0]) := h.yes x rfl
      subst hy
      have FX : rget bs = rfin (some ⟨3, n, 0, o0, x⟩, s3) := F1.out
      replace FX := Lib.hid FX
      clear h ho GO F1 G3 CT
      go_simp
      iterate 12 go_step
      go_simp
      go_step
      go_simp
      refine wpList_store_mid rfl 28 (.tmp 46) (.tmp 44) rfl b 8 #[.int .i64 x.w.book, .int .i64 x.w.cust, .int .i64 x.w.dead, .int .i64 x.w.u0, .int .i64 x.w.u1, .int .i64 x.w.u2, .int .i64 x.w.price, .int .i64 x.ph, .int .i64 x.st, .int .i64 x.rs, .int .i64 x.si] rfl rfl TH.out sag_size (by simp [Value.oneCell']) ?_
      go_upto_region 12 with fail
      obtain ⟨u2, hu⟩ : ∃ z, z = w4.setCells b 8 (#[.int .i64 x.w.book, .int .i64 x.w.cust, .int .i64 x.w.dead, .int .i64 x.w.u0, .int .i64 x.w.u1, .int .i64 x.w.u2, .int .i64 x.w.price, .int .i64 x.ph, .int .i64 x.st, .int .i64 x.rs, .int .i64 x.si] : Array Value).toList := ⟨_, rfl⟩
      rw [← hu]
      have G5 : Hid (Gq w u2 b ⟨3, n, 0, o0, x⟩ s3) := by
        rw [hu]
        refine G4.out.grown (setCells_grown _ w4 8) ?_
        have := setCells_heap [.int .i64 x.w.book, .int .i64 x.w.cust, .int .i64 x.w.dead, .int .i64 x.w.u0, .int .i64 x.w.u1, .int .i64 x.w.u2, .int .i64 x.w.price, .int .i64 x.ph, .int .i64 x.st, .int .i64 x.rs, .int .i64 x.si] w4 8 _ G4.out.bx
        rw [stv11 3 n 0 x] at this
        exact this
      clear hu TH G4
      have F := rfin_some ⟨3, n, 0, o0, x⟩ s3
      rw [← FX.out] at F
      have E := xend _ _ _ G5.out.rx
      have M := Lib.hid (fun w => rmayrec_any w ⟨3, n, 0, o0, x⟩)
      obtain ⟨mb, hmb⟩ : ∃ mb, rmay ⟨3, n, 0, o0, x⟩ = mb := ⟨_, rfl⟩
      rw [hmb] at M F
      clear hmb
      generalize hen : rEnd s3 = en at *
      clear hen
      replace E := Lib.hid E
      unfold rcv rcc at M
      simp only [o0] at M
      replace F := Lib.hid F
      by_cases he : en = 0
      case neg =>
        have g1 : (en != 0) = true := by simp [he]
        have g2 : (en == 0) = false := by simp [he]
        have FF : Hid (rget bs = none) := by unfold Hid; rw [F.out, if_neg (fun h => he h.1)]
        go_wp2_with fail
        refine E.out.mono ?_
        rintro e v1 ⟨rfl, rfl⟩
        clear E M F
        have zz := G5.out.za
        have bb : Hid (Below w.heap.size w _) := G5.out.be
        go_wp2_with (refine wpList_store_row rfl 30 (.tmp 2) (.tmp 59) rfl w.heap.size #[.int .i64 0, .int .i64 0, .int .i64 0, .int .i64 0, .int .i64 0, .int .i64 0, .int .i64 0, .int .i64 0, .int .i64 0, .int .i64 0, .int .i64 0, .int .i64 0, .int .i64 0, .int .i64 0, .int .i64 0, .int .i64 0, .int .i64 0, .int .i64 0, .int .i64 0] rfl rfl 30 _ zz rec_size rfl (by simp [Value.oneCell']) ?_)
        refine bodyPost_ret (res_row rgetrec_results _ _ w.heap.size 30 #[.int .i64 0, .int .i64 0, .int .i64 0, .int .i64 0, .int .i64 0, .int .i64 0, .int .i64 0, .int .i64 0, .int .i64 0, .int .i64 0, .int .i64 0, .int .i64 0, .int .i64 0, .int .i64 0, .int .i64 0, .int .i64 0, .int .i64 0, .int .i64 0, .int .i64 0] (0, 0) _ rfl (setRow_heap _ _ _ _ _ _ zz) Tryd.underlying30 rfl rec_size) rfl ?_
        exact ⟨bb.out.trans (setRow_below _ (Nat.le_refl _)), fun r h => (by rw [FF.out] at h; cases h), fun _ => rfl⟩
      subst he
      cases mb with
      | false =>
        have FF : Hid (rget bs = none) := by unfold Hid; rw [F.out, if_neg (fun h => by cases h.2)]
        clear F
        go_wp2_with fail
        refine E.out.mono ?_
        rintro e v1 ⟨rfl, rfl⟩
        clear E
        go_wp2_with (refine wpList_rload_g (.tmp 7) rfl rfl b rfl ⟨3, n, 0, o0, x⟩ G5.out.bx ?_)
        refine (M.out _).mono ?_
        rintro e v2 ⟨rfl, h⟩
        have G9 := Lib.hid (G5.out.below h)
        clear M h
        have zz := G9.out.za
        have bb : Hid (Below w.heap.size w _) := G9.out.be
        go_wp2_with (refine wpList_store_row rfl 30 (.tmp 2) (.tmp 59) rfl w.heap.size #[.int .i64 0, .int .i64 0, .int .i64 0, .int .i64 0, .int .i64 0, .int .i64 0, .int .i64 0, .int .i64 0, .int .i64 0, .int .i64 0, .int .i64 0, .int .i64 0, .int .i64 0, .int .i64 0, .int .i64 0, .int .i64 0, .int .i64 0, .int .i64 0, .int .i64 0] rfl rfl 30 _ zz rec_size rfl (by simp [Value.oneCell']) ?_)
        refine bodyPost_ret (res_row rgetrec_results _ _ w.heap.size 30 #[.int .i64 0, .int .i64 0, .int .i64 0, .int .i64 0, .int .i64 0, .int .i64 0, .int .i64 0, .int .i64 0, .int .i64 0, .int .i64 0, .int .i64 0, .int .i64 0, .int .i64 0, .int .i64 0, .int .i64 0, .int .i64 0, .int .i64 0, .int .i64 0, .int .i64 0] (0, 0) _ rfl (setRow_heap _ _ _ _ _ _ zz) Tryd.underlying30 rfl rec_size) rfl ?_
        exact ⟨bb.out.trans (setRow_below _ (Nat.le_refl _)), fun r h => (by rw [FF.out] at h; cases h), fun _ => rfl⟩
      | true =>
        have FF : Hid (rget bs = some ⟨3, n, 0, o0, x⟩) := by unfold Hid; rw [F.out, if_pos ⟨rfl, rfl⟩]
        clear F
        go_wp2_with fail
        refine E.out.mono ?_
        rintro e v1 ⟨rfl, rfl⟩
        clear E
        go_wp2_with (refine wpList_rload_g (.tmp 7) rfl rfl b rfl ⟨3, n, 0, o0, x⟩ G5.out.bx ?_)
        refine (M.out _).mono ?_
        rintro e v2 ⟨rfl, h⟩
        have G9 := Lib.hid (G5.out.below h)
        clear M h
        have zz := G9.out.za
        have bb : Hid (Below w.heap.size w v2) := G9.out.be
        go_wp2_with (first | (refine wpList_rload rfl (.tmp 7) rfl b rfl ⟨3, n, 0, o0, x⟩ G9.out.bx ?_) | (refine wpList_store_row rfl 30 (.tmp 2) (.tmp 60) rfl w.heap.size #[.int .i64 3, .int .i64 n, .int .i64 0, .int .i64 0, .int .i64 0, .int .i64 0, .int .i64 0, .int .i64 0, .int .i64 x.w.book, .int .i64 x.w.cust, .int .i64 x.w.dead, .int .i64 x.w.u0, .int .i64 x.w.u1, .int .i64 x.w.u2, .int .i64 x.w.price, .int .i64 x.ph, .int .i64 x.st, .int .i64 x.rs, .int .i64 x.si] rfl rfl 30 _ zz rec_size rfl (by simp [Value.oneCell']) ?_))
        refine bodyPost_ret (res_row rgetrec_results _ _ w.heap.size 30 #[.int .i64 3, .int .i64 n, .int .i64 0, .int .i64 0, .int .i64 0, .int .i64 0, .int .i64 0, .int .i64 0, .int .i64 x.w.book, .int .i64 x.w.cust, .int .i64 x.w.dead, .int .i64 x.w.u0, .int .i64 x.w.u1, .int .i64 x.w.u2, .int .i64 x.w.price, .int .i64 x.ph, .int .i64 x.st, .int .i64 x.rs, .int .i64 x.si] (0, 0) _ rfl (setRow_heap _ _ _ _ _ _ zz) Tryd.underlying30 rfl rec_size) rfl ?_
        exact ⟨bb.out.trans (setRow_below _ (Nat.le_refl _)), (by
          intro r h
          rw [FF.out] at h
          injection h with h
          subst h
          rfl), (by intro h; rw [FF.out] at h; cases h)⟩
  have FX := Lib.hid (rget_2 q1.out q2.out k1 k3)
  have n1 : (k == 1) = false := by simp [k1]
  have n3 : (k == 3) = false := by simp [k3]
  clear CT CI q1 q2
  go_upto_region 12 with fail
  have F := rfin_some ⟨k, n, 0, o0, sz⟩ s2
  rw [← FX.out] at F
  have E := xend _ _ _ G2.out.rx
  have M := Lib.hid (fun w => rmayrec_any w ⟨k, n, 0, o0, sz⟩)
  obtain ⟨mb, hmb⟩ : ∃ mb, rmay ⟨k, n, 0, o0, sz⟩ = mb := ⟨_, rfl⟩
  rw [hmb] at M F
  clear hmb
  generalize hen : rEnd s2 = en at *
  clear hen
  replace E := Lib.hid E
  unfold rcv rcc at M
  simp only [o0, sz] at M
  replace F := Lib.hid F
  by_cases he : en = 0
  case neg =>
    have g1 : (en != 0) = true := by simp [he]
    have g2 : (en == 0) = false := by simp [he]
    have FF : Hid (rget bs = none) := by unfold Hid; rw [F.out, if_neg (fun h => he h.1)]
    go_wp2_with fail
    refine E.out.mono ?_
    rintro e v1 ⟨rfl, rfl⟩
    clear E M F
    have zz := G2.out.za
    have bb : Hid (Below w.heap.size w _) := G2.out.be
    go_wp2_with (refine wpList_store_row rfl 30 (.tmp 2) (.tmp 59) rfl w.heap.size #[.int .i64 0, .int .i64 0, .int .i64 0, .int .i64 0, .int .i64 0, .int .i64 0, .int .i64 0, .int .i64 0, .int .i64 0, .int .i64 0, .int .i64 0, .int .i64 0, .int .i64 0, .int .i64 0, .int .i64 0, .int .i64 0, .int .i64 0, .int .i64 0, .int .i64 0] rfl rfl 30 _ zz rec_size rfl (by simp [Value.oneCell']) ?_)
    refine bodyPost_ret (res_row rgetrec_results _ _ w.heap.size 30 #[.int .i64 0, .int .i64 0, .int .i64 0, .int .i64 0, .int .i64 0, .int .i64 0, .int .i64 0, .int .i64 0, .int .i64 0, .int .i64 0, .int .i64 0, .int .i64 0, .int .i64 0, .int .i64 0, .int .i64 0, .int .i64 0, .int .i64 0, .int .i64 0, .int .i64 0] (0, 0) _ rfl (setRow_heap _ _ _ _ _ _ zz) Tryd.underlying30 rfl rec_size) rfl ?_
    exact ⟨bb.out.trans (setRow_below _ (Nat.le_refl _)), fun r h => (by rw [FF.out] at h; cases h), fun _ => rfl⟩
  subst he
  cases mb with
  | false =>
    have FF : Hid (rget bs = none) := by unfold Hid; rw [F.out, if_neg (fun h => by cases h.2)]
    clear F
    go_wp2_with fail
    refine E.out.mono ?_
    rintro e v1 ⟨rfl, rfl⟩
    clear E
    go_wp2_with (refine wpList_rload_g (.tmp 7) rfl rfl b rfl ⟨k, n, 0, o0, sz⟩ G2.out.bx ?_)
    refine (M.out _).mono ?_
    rintro e v2 ⟨rfl, h⟩
    have G9 := Lib.hid (G2.out.below h)
    clear M h
    have zz := G9.out.za
    have bb : Hid (Below w.heap.size w _) := G9.out.be
    go_wp2_with (refine wpList_store_row rfl 30 (.tmp 2) (.tmp 59) rfl w.heap.size #[.int .i64 0, .int .i64 0, .int .i64 0, .int .i64 0, .int .i64 0, .int .i64 0, .int .i64 0, .int .i64 0, .int .i64 0, .int .i64 0, .int .i64 0, .int .i64 0, .int .i64 0, .int .i64 0, .int .i64 0, .int .i64 0, .int .i64 0, .int .i64 0, .int .i64 0] rfl rfl 30 _ zz rec_size rfl (by simp [Value.oneCell']) ?_)
    refine bodyPost_ret (res_row rgetrec_results _ _ w.heap.size 30 #[.int .i64 0, .int .i64 0, .int .i64 0, .int .i64 0, .int .i64 0, .int .i64 0, .int .i64 0, .int .i64 0, .int .i64 0, .int .i64 0, .int .i64 0, .int .i64 0, .int .i64 0, .int .i64 0, .int .i64 0, .int .i64 0, .int .i64 0, .int .i64 0, .int .i64 0] (0, 0) _ rfl (setRow_heap _ _ _ _ _ _ zz) Tryd.underlying30 rfl rec_size) rfl ?_
    exact ⟨bb.out.trans (setRow_below _ (Nat.le_refl _)), fun r h => (by rw [FF.out] at h; cases h), fun _ => rfl⟩
  | true =>
    have FF : Hid (rget bs = some ⟨k, n, 0, o0, sz⟩) := by unfold Hid; rw [F.out, if_pos ⟨rfl, rfl⟩]
    clear F
    go_wp2_with fail
    refine E.out.mono ?_
    rintro e v1 ⟨rfl, rfl⟩
    clear E
    go_wp2_with (refine wpList_rload_g (.tmp 7) rfl rfl b rfl ⟨k, n, 0, o0, sz⟩ G2.out.bx ?_)
    refine (M.out _).mono ?_
    rintro e v2 ⟨rfl, h⟩
    have G9 := Lib.hid (G2.out.below h)
    clear M h
    have zz := G9.out.za
    have bb : Hid (Below w.heap.size w v2) := G9.out.be
    go_wp2_with (first | (refine wpList_rload rfl (.tmp 7) rfl b rfl ⟨k, n, 0, o0, sz⟩ G9.out.bx ?_) | (refine wpList_store_row rfl 30 (.tmp 2) (.tmp 60) rfl w.heap.size #[.int .i64 k, .int .i64 n, .int .i64 0, .int .i64 0, .int .i64 0, .int .i64 0, .int .i64 0, .int .i64 0, .int .i64 0, .int .i64 0, .int .i64 0, .int .i64 0, .int .i64 0, .int .i64 0, .int .i64 0, .int .i64 0, .int .i64 0, .int .i64 0, .int .i64 0] rfl rfl 30 _ zz rec_size rfl (by simp [Value.oneCell']) ?_))
    refine bodyPost_ret (res_row rgetrec_results _ _ w.heap.size 30 #[.int .i64 k, .int .i64 n, .int .i64 0, .int .i64 0, .int .i64 0, .int .i64 0, .int .i64 0, .int .i64 0, .int .i64 0, .int .i64 0, .int .i64 0, .int .i64 0, .int .i64 0, .int .i64 0, .int .i64 0, .int .i64 0, .int .i64 0, .int .i64 0, .int .i64 0] (0, 0) _ rfl (setRow_heap _ _ _ _ _ _ zz) Tryd.underlying30 rfl rec_size) rfl ?_
    exact ⟨bb.out.trans (setRow_below _ (Nat.le_refl _)), (by
      intro r h
      rw [FF.out] at h
      injection h with h
      subst h
      rfl), (by intro h; rw [FF.out] at h; cases h)⟩
end Re
end Go.Proofs.YtidfpbnepdjagaaDoor

namespace Go.Proofs.YtidfpbnepdjagaaDoor
set_option maxRecDepth 100000
open Go.RowKit
open Go.Proofs.YtidfpbnepdjagaaDoor.Pk
namespace Re
open Go.Proofs.YtidfpbnepdjagaaDoor.Sg (Sag sz smay sgc sgv)
open Wt (Opn mayOp PutTo)
open Pl (wpList_store_row setRow_below)

structure Prg : Prop where
  may : ∀ (w : World) (_ : Sg.Tab w) (r : Rec), Calls Tryd.prog 9 #[rcv r] w fun e w' => e = .returned (.bool (rmay r)) ∧ Below w.heap.size w w'
  put : ∀ (w : World) (_ : Sg.Tab w) (r : Rec), Calls Tryd.prog 8 #[rcv r] w (PutTo w (rmay r) (rput r))
  get : ∀ (w : World) (_ : Sg.Tab w) (A : Option Addr) (n c : Nat) (bs : List UInt8), Rb w (fun g => g < w.heap.size) A n bs → n ≤ 400 → n ≤ c → c ≤ 9223372036854775807 → (A = none → c = 0) → Calls Tryd.prog 11 #[.slice A n c] w (RGetTo w (rget bs))
  same : ∀ (w : World) (_ : Sg.Tab w) (r s : Rec), Calls Tryd.prog 13 #[rcv r, rcv s] w fun e w' => e = .returned (.bool (decide (r = s))) ∧ Below w.heap.size w w'

/-- Under way in a law: the table, records in boxes of the law's own. -/
structure Lw (w wr : World) (l : List (Nat × Rec)) : Prop where
  be : Below w.heap.size w wr
  tb : Sg.Tab wr
  bx : ∀ p ∈ l, BoxR wr p.1 p.2
section
variable {w wr w' : World} {l : List (Nat × Rec)}
theorem Lw.start (h : Sg.Tab w) : Lw w w [] := ⟨Below.refl _ _, h, fun p hp => by cases hp⟩
theorem Lw.below (h : Lw w wr l) (k : Below wr.heap.size wr w') : Lw w w' l := ⟨h.be.trans (k.mono h.be.size), h.tb.below k, fun p hp => (h.bx p hp).below k⟩
theorem Lw.alloc (h : Lw w wr l) (o : Obj) : Lw w (wr.alloc o) l := h.below ((Below.refl _ _).alloc (Nat.le_refl _) _)
/-- A record that came by value is boxed. -/
theorem Lw.box (h : Lw w wr l) (r : Rec) : Lw w (wr.alloc (.cells (rcc r) 30)) ((wr.heap.size, r) :: l) := by
  have h2 := h.alloc (.cells (rcc r) 30)
  refine ⟨h2.be, h2.tb, fun p hp => ?_⟩
  rcases List.mem_cons.1 hp with rfl | hp
  · exact heap_alloc_new _ _
  · exact h2.bx p hp
/-- A new box, in which a record is put. -/
theorem Lw.make (h : Lw w wr l) (r : Rec) : Lw w ((wr.alloc (.cells (rcc r0) 30)).setRow wr.heap.size (rcc r)) ((wr.heap.size, r) :: l) := by
  have al : Below wr.heap.size wr ((wr.alloc (.cells (rcc r0) 30)).setRow wr.heap.size (rcc r)) := ((Below.refl _ _).alloc (Nat.le_refl _) _).trans (setRow_below _ (Nat.le_refl _))
  have h2 := h.below al
  refine ⟨h2.be, h2.tb, fun p hp => ?_⟩
  rcases List.mem_cons.1 hp with rfl | hp
  · exact setRow_heap _ _ _ _ _ _ (heap_alloc_new _ _)
  · exact h2.bx p hp
theorem Lw.at0 {p : Nat × Rec} (h : Lw w wr (p :: l)) : BoxR wr p.1 p.2 := h.bx p (by simp)
theorem Lw.at1 {p q : Nat × Rec} (h : Lw w wr (q :: p :: l)) : BoxR wr p.1 p.2 := h.bx p (by simp)
theorem Lw.at2 {p q s : Nat × Rec} (h : Lw w wr (s :: q :: p :: l)) : BoxR wr p.1 p.2 := h.bx p (by simp)
theorem Lw.at3 {p q s u : Nat × Rec} (h : Lw w wr (u :: s :: q :: p :: l)) : BoxR wr p.1 p.2 := h.bx p (by simp)
theorem rb_below {A : Option Addr} {n : Nat} {bs : List UInt8} (h : Rb w (fun g => g < w.heap.size) A n bs) (b : Below w.heap.size w w') : Rb w' (fun g => g < w'.heap.size) A n bs :=
  h.keep (fun g hg => b.block g hg) (fun _ hg => Nat.lt_of_lt_of_le hg b.size)
end
theorem eq_same (r : Rec) : ∀ w, (Op.equalIn 10000 30 (rcv r) (rcv r)).run Tryd.prog w = .ok true w := fun w => by have := eq_rec w r r; rw [decide_eq_true rfl] at this; exact this

/-! ### a few -/
def ta : Rec := ⟨1, 5, 1, ⟨2, 2, 0, 0, 0⟩, sz⟩
def tb : Rec := ⟨2, 0, 0, o0, sz⟩
def tc : Rec := ⟨2, 0, 1, o0, sz⟩
theorem k_a : rmay ta = true := by decide
theorem k_b : rmay tb = true := by decide
theorem k_c : rmay tc = false := by decide
theorem k_0 : rmay r0 = false := by decide
theorem own_slice {w : World} {base n : Nat} {v : Value} {bs : List UInt8} (h : w.ownsRow base 5 1 v n (u8s bs)) (hl : bs.length = n) :
    ∃ A c, v = .slice A n c ∧ Rb w (fun g => g < w.heap.size) A n bs ∧ (A = none → c = 0) ∧ n ≤ c ∧ c ≤ 9223372036854775807 := by
  subst hl
  obtain ⟨A, c, rfl, R, hA⟩ := Wt.PutTo.rb h
  have := own_cap h
  unfold maxLen at this
  exact ⟨A, c, rfl, R, hA, by omega, by omega⟩

set_option maxHeartbeats 12800000 in
theorem told_any (P : Prg) (w : World) (ht : Sg.Tab w) : Calls Tryd.prog 6 #[] w fun e w' => e = .returned (.bool true) ∧ Below w.heap.size w w' := by
  have E1 := eq_same ta
  have L0 := Lib.hid (Lw.start ht)
  have PM := Lib.hid P.may
  have PS := Lib.hid P.same
  have G1 : Hid (rget (rput ta) = some ta) := rget_put k_a
  have l1 : Hid ((rput ta).length ≤ 140) := (rput_len k_a).2
  clear ht
  go_enter Tryd.func6, Tryd.ntmps6
  go_upto_region 2 with (refine wpList_rstore rfl (.tmp 1) (.tmp 11) rfl w.heap.size rfl ta rfl r0 (heap_alloc_new _ _) ?_)
  obtain ⟨w1, e1⟩ : ∃ z, z = (w.alloc (.cells #[.int .i64 0, .int .i64 0, .int .i64 0, .int .i64 0, .int .i64 0, .int .i64 0, .int .i64 0, .int .i64 0, .int .i64 0, .int .i64 0, .int .i64 0, .int .i64 0, .int .i64 0, .int .i64 0, .int .i64 0, .int .i64 0, .int .i64 0, .int .i64 0, .int .i64 0] 30)).setRow w.heap.size (rcc ta) := ⟨_, rfl⟩
  rw [← e1]
  have b1 : Below w.heap.size w w1 := by rw [e1]; exact ((Below.refl _ _).alloc (Nat.le_refl _) _).trans (setRow_below _ (Nat.le_refl _))
  have L1 : Hid (Lw w w1 [(w.heap.size, ta)]) := by rw [e1]; exact L0.out.make ta
  clear L0 e1 b1
  go_wp2_with (refine wpList_rload rfl (.tmp 1) rfl w.heap.size rfl ta L1.out.at0 ?_)
  refine (P.put _ L1.out.tb ta).mono ?_
  intro e w2 h
  obtain ⟨v, hy, ow⟩ := h.yes k_a
  subst hy
  obtain ⟨A, c, rfl, R2, hA, hc1, hc2⟩ := own_slice ow rfl
  have L2 := Lib.hid (L1.out.below h.be)
  replace R2 := Lib.hid R2
  have hx : Hid ((A = none → c = 0) ∧ (rput ta).length ≤ c ∧ c ≤ 9223372036854775807) := ⟨hA, hc1, hc2⟩
  clear h ow L1 hA hc1 hc2
  generalize rput ta = pb at *
  have GA := P.get _ L2.out.tb A pb.length c pb R2.out (by have := l1.out; omega) hx.out.2.1 hx.out.2.2 hx.out.1
  rw [G1.out] at GA
  replace GA := Lib.hid GA
  go_wp2_with fail
  refine GA.out.mono ?_
  intro e w3 h
  have hy := h.yes ta rfl
  subst hy
  have L3 := Lib.hid (L2.out.below h.be)
  clear h GA R2 hx G1 l1 L2
  go_upto_region 4 with (refine wpList_rstore rfl (.tmp 4) (.tmp 20) rfl w3.heap.size rfl ta rfl r0 (heap_alloc_new _ _) ?_)
  obtain ⟨w4, e4⟩ : ∃ z, z = (w3.alloc (.cells #[.int .i64 0, .int .i64 0, .int .i64 0, .int .i64 0, .int .i64 0, .int .i64 0, .int .i64 0, .int .i64 0, .int .i64 0, .int .i64 0, .int .i64 0, .int .i64 0, .int .i64 0, .int .i64 0, .int .i64 0, .int .i64 0, .int .i64 0, .int .i64 0, .int .i64 0] 30)).setRow w3.heap.size (rcc ta) := ⟨_, rfl⟩
  rw [← e4]
  have b4 : Below w3.heap.size w3 w4 := by rw [e4]; exact ((Below.refl _ _).alloc (Nat.le_refl _) _).trans (setRow_below _ (Nat.le_refl _))
  have L4 : Hid (Lw w w4 [(w3.heap.size, ta), (w.heap.size, ta)]) := by rw [e4]; exact L3.out.make ta
  clear L3 e4 b4
  have GN := P.get _ L4.out.tb none 0 0 [] Rb.none_ (by omega) (by omega) (by omega) (fun _ => rfl)
  rw [rget_nil] at GN
  replace GN := Lib.hid GN
  go_wp2_with fail
  refine GN.out.mono ?_
  intro e w5 h
  have hy := h.no rfl
  subst hy
  have L5 := Lib.hid (L4.out.below h.be)
  clear h GN L4
  go_upto_region 5 with (refine wpList_rstore rfl (.tmp 6) (.tmp 24) rfl w5.heap.size rfl r0 rfl r0 (heap_alloc_new _ _) ?_)
  obtain ⟨w6, e6⟩ : ∃ z, z = (w5.alloc (.cells #[.int .i64 0, .int .i64 0, .int .i64 0, .int .i64 0, .int .i64 0, .int .i64 0, .int .i64 0, .int .i64 0, .int .i64 0, .int .i64 0, .int .i64 0, .int .i64 0, .int .i64 0, .int .i64 0, .int .i64 0, .int .i64 0, .int .i64 0, .int .i64 0, .int .i64 0] 30)).setRow w5.heap.size (rcc r0) := ⟨_, rfl⟩
  rw [← e6]
  have b6 : Below w5.heap.size w5 w6 := by rw [e6]; exact ((Below.refl _ _).alloc (Nat.le_refl _) _).trans (setRow_below _ (Nat.le_refl _))
  have L6 : Hid (Lw w w6 [(w5.heap.size, r0), (w3.heap.size, ta), (w.heap.size, ta)]) := by rw [e6]; exact L5.out.make r0
  clear L5 e6 b6
  go_wp2_with fail
  refine (P.put _ L6.out.tb r0).mono ?_
  intro e w7 h
  have hy := h.no k_0
  subst hy
  have L7 := Lib.hid (L6.out.below h.be)
  clear h L6
  go_wp2_with (first | (refine wpList_rload_g (.tmp 1) rfl rfl w.heap.size rfl ta L7.out.at2 ?_) | (refine wpList_rload_g (.tmp 4) rfl rfl w3.heap.size rfl ta L7.out.at1 ?_))
  have M := P.may _ L7.out.tb ta
  rw [k_a] at M
  refine M.mono ?_
  rintro e w8 ⟨rfl, h⟩
  have L8 := Lib.hid (L7.out.below h)
  clear M h L7
  go_wp2_with (first | (refine wpList_rload_g (.tmp 1) rfl rfl w.heap.size rfl ta L8.out.at2 ?_) | (refine wpList_rload_g (.tmp 4) rfl rfl w3.heap.size rfl ta L8.out.at1 ?_))
  have M := P.may _ L8.out.tb tb
  rw [k_b] at M
  refine M.mono ?_
  rintro e w9 ⟨rfl, h⟩
  have L9 := Lib.hid (L8.out.below h)
  clear M h L8
  go_wp2_with (first | (refine wpList_rload_g (.tmp 1) rfl rfl w.heap.size rfl ta L9.out.at2 ?_) | (refine wpList_rload_g (.tmp 4) rfl rfl w3.heap.size rfl ta L9.out.at1 ?_))
  have M := P.may _ L9.out.tb tc
  rw [k_c] at M
  refine M.mono ?_
  rintro e wA ⟨rfl, h⟩
  have LA := Lib.hid (L9.out.below h)
  clear M h L9
  go_wp2_with (first | (refine wpList_rload_g (.tmp 1) rfl rfl w.heap.size rfl ta LA.out.at2 ?_) | (refine wpList_rload_g (.tmp 4) rfl rfl w3.heap.size rfl ta LA.out.at1 ?_))
  have M := P.same _ LA.out.tb ta ta
  rw [decide_eq_true rfl] at M
  refine M.mono ?_
  rintro e wB ⟨rfl, h⟩
  have LB := Lib.hid (LA.out.below h)
  clear M h LA
  go_wp2_with fail
  go_ret
  exact ⟨rfl, LB.out.be⟩
end Re
end Go.Proofs.YtidfpbnepdjagaaDoor

namespace Go.Proofs.YtidfpbnepdjagaaDoor
set_option maxRecDepth 100000
open Go.ChangeShapes Go.WideShapes Go.ChangeAt Go.WideMaps Go.WideElems Go.RowKit
namespace Re
open Go.Proofs.YtidfpbnepdjagaaDoor.Sg (Sag sgv seen_op seen_want)
open Wt (Opn)
section
variable {H : Type} {enc : TypeId × Value → H} {W : World} {sp : Nat → Bool} {held : Bool}
theorem seen_saga {fuel : Nat} {x0 x1 x2 x3 x4 x5 x6 x7 x8 x9 x10 : Value} {d : DataW H} {p : List MemPlace} (hf' : DataW.trod enc Tryd.prog W 0 sp held fuel 28 [x0, x1, x2, x3, x4, x5, x6, x7, x8, x9, x10] = some (d, p)) :
    ∃ x : Sag, x0 = .int .i64 x.w.book ∧ x1 = .int .i64 x.w.cust ∧ x2 = .int .i64 x.w.dead ∧ x3 = .int .i64 x.w.u0 ∧ x4 = .int .i64 x.w.u1 ∧ x5 = .int .i64 x.w.u2 ∧ x6 = .int .i64 x.w.price ∧ x7 = .int .i64 x.ph ∧ x8 = .int .i64 x.st ∧ x9 = .int .i64 x.rs ∧ x10 = .int .i64 x.si := by
  have k3 : Tryd.prog.cellsOf 3 = 1 := by kernel_rfl
  have k7 : Tryd.prog.cellsOf 26 = 7 := by kernel_rfl
  obtain ⟨xs, fn, _, _, _, hxl, hg⟩ := DataW.trod_struct Tryd.underlying28 hf'
  have e0 : DataW.trod enc Tryd.prog W 0 sp held fn 26 (([x0, x1, x2, x3, x4, x5, x6, x7, x8, x9, x10].drop 0).take (Tryd.prog.cellsOf 26)) = xs[0]? := hg 0 _ rfl
  have e1 : DataW.trod enc Tryd.prog W 0 sp held fn 3 (([x0, x1, x2, x3, x4, x5, x6, x7, x8, x9, x10].drop 7).take (Tryd.prog.cellsOf 3)) = xs[1]? := hg 1 _ rfl
  have e2 : DataW.trod enc Tryd.prog W 0 sp held fn 3 (([x0, x1, x2, x3, x4, x5, x6, x7, x8, x9, x10].drop 8).take (Tryd.prog.cellsOf 3)) = xs[2]? := hg 2 _ rfl
  have e3 : DataW.trod enc Tryd.prog W 0 sp held fn 3 (([x0, x1, x2, x3, x4, x5, x6, x7, x8, x9, x10].drop 9).take (Tryd.prog.cellsOf 3)) = xs[3]? := hg 3 _ rfl
  have e4 : DataW.trod enc Tryd.prog W 0 sp held fn 3 (([x0, x1, x2, x3, x4, x5, x6, x7, x8, x9, x10].drop 10).take (Tryd.prog.cellsOf 3)) = xs[4]? := hg 4 _ rfl
  rw [k7] at e0
  rw [k3] at e1 e2 e3 e4
  simp only [List.drop_zero, List.drop_succ_cons, List.take_succ_cons, List.take_zero] at e0 e1 e2 e3 e4
  have hx : ∀ j, j < 5 → ∃ y, xs[j]? = some y := fun j hj => ⟨_, List.getElem?_eq_getElem (by rw [hxl]; exact hj)⟩
  obtain ⟨y0, z0⟩ := hx 0 (by omega)
  obtain ⟨o, f0, f1, f2, f3, f4, f5, f6⟩ := seen_want (e0.trans z0)
  obtain ⟨y1, z1⟩ := hx 1 (by omega)
  obtain ⟨m1, g1, _, _⟩ := DataW.trod_int Tryd.underlying3 (e1.trans z1)
  obtain ⟨y2, z2⟩ := hx 2 (by omega)
  obtain ⟨m2, g2, _, _⟩ := DataW.trod_int Tryd.underlying3 (e2.trans z2)
  obtain ⟨y3, z3⟩ := hx 3 (by omega)
  obtain ⟨m3, g3, _, _⟩ := DataW.trod_int Tryd.underlying3 (e3.trans z3)
  obtain ⟨y4, z4⟩ := hx 4 (by omega)
  obtain ⟨m4, g4, _, _⟩ := DataW.trod_int Tryd.underlying3 (e4.trans z4)
  simp only [List.cons.injEq, and_true] at g1 g2 g3 g4
  exact ⟨⟨o, m1, m2, m3, m4⟩, f0, f1, f2, f3, f4, f5, f6, g1, g2, g3, g4⟩
theorem view_op {v : Value} {d : DataW H} {p : List MemPlace} {r : Reach} {b0 : Nat}
    (hv : Value.okWide Tryd.prog W r b0 23 v) (h : DataW.Trod enc Tryd.prog W 0 sp held 23 v d p) : ∃ x : Opn, v = opv x := by
  obtain ⟨cs, rfl, hsz⟩ := okWide_struct Tryd.underlying23 hv
  have c5 : Tryd.prog.cellsOf 23 = 5 := by kernel_rfl
  rw [c5] at hsz
  obtain ⟨fuel, hf⟩ := h
  obtain ⟨l, rfl⟩ : ∃ l : List Value, cs = l.toArray := ⟨cs.toList, by simp⟩
  match l, (by simpa using hsz : l.length = 5) with
  | [x0, x1, x2, x3, x4], _ =>
    obtain ⟨x, f0, f1, f2, f3, f4⟩ := seen_op (by simpa [Value.cells] using hf : DataW.trod enc Tryd.prog W 0 sp held fuel 23 [x0, x1, x2, x3, x4] = some (d, p))
    exact ⟨x, by rw [f0, f1, f2, f3, f4]⟩
theorem view_rec {v : Value} {d : DataW H} {p : List MemPlace} {r : Reach} {b0 : Nat}
    (hv : Value.okWide Tryd.prog W r b0 30 v) (h : DataW.Trod enc Tryd.prog W 0 sp held 30 v d p) : ∃ x : Rec, v = rcv x := by
  obtain ⟨cs, rfl, hsz⟩ := okWide_struct Tryd.underlying30 hv
  have c19 : Tryd.prog.cellsOf 30 = 19 := by kernel_rfl
  have k3 : Tryd.prog.cellsOf 3 = 1 := by kernel_rfl
  have k5 : Tryd.prog.cellsOf 23 = 5 := by kernel_rfl
  have k11 : Tryd.prog.cellsOf 28 = 11 := by kernel_rfl
  rw [c19] at hsz
  obtain ⟨fuel, hf⟩ := h
  obtain ⟨l, rfl⟩ : ∃ l : List Value, cs = l.toArray := ⟨cs.toList, by simp⟩
  match l, (by simpa using hsz : l.length = 19) with
  | [x0, x1, x2, x3, x4, x5, x6, x7, x8, x9, x10, x11, x12, x13, x14, x15, x16, x17, x18], _ =>
    have hf' : DataW.trod enc Tryd.prog W 0 sp held fuel 30 [x0, x1, x2, x3, x4, x5, x6, x7, x8, x9, x10, x11, x12, x13, x14, x15, x16, x17, x18] = some (d, p) := by simpa [Value.cells] using hf
    obtain ⟨xs, fn, _, _, _, hxl, hg⟩ := DataW.trod_struct Tryd.underlying30 hf'
    have e0 : DataW.trod enc Tryd.prog W 0 sp held fn 3 (([x0, x1, x2, x3, x4, x5, x6, x7, x8, x9, x10, x11, x12, x13, x14, x15, x16, x17, x18].drop 0).take (Tryd.prog.cellsOf 3)) = xs[0]? := hg 0 _ rfl
    have e1 : DataW.trod enc Tryd.prog W 0 sp held fn 3 (([x0, x1, x2, x3, x4, x5, x6, x7, x8, x9, x10, x11, x12, x13, x14, x15, x16, x17, x18].drop 1).take (Tryd.prog.cellsOf 3)) = xs[1]? := hg 1 _ rfl
    have e2 : DataW.trod enc Tryd.prog W 0 sp held fn 3 (([x0, x1, x2, x3, x4, x5, x6, x7, x8, x9, x10, x11, x12, x13, x14, x15, x16, x17, x18].drop 2).take (Tryd.prog.cellsOf 3)) = xs[2]? := hg 2 _ rfl
    have e3 : DataW.trod enc Tryd.prog W 0 sp held fn 23 (([x0, x1, x2, x3, x4, x5, x6, x7, x8, x9, x10, x11, x12, x13, x14, x15, x16, x17, x18].drop 3).take (Tryd.prog.cellsOf 23)) = xs[3]? := hg 3 _ rfl
    have e4 : DataW.trod enc Tryd.prog W 0 sp held fn 28 (([x0, x1, x2, x3, x4, x5, x6, x7, x8, x9, x10, x11, x12, x13, x14, x15, x16, x17, x18].drop 8).take (Tryd.prog.cellsOf 28)) = xs[4]? := hg 4 _ rfl
    rw [k3] at e0 e1 e2
    rw [k5] at e3
    rw [k11] at e4
    simp only [List.drop_zero, List.drop_succ_cons, List.take_succ_cons, List.take_zero] at e0 e1 e2 e3 e4
    have hx : ∀ j, j < 5 → ∃ y, xs[j]? = some y := fun j hj => ⟨_, List.getElem?_eq_getElem (by rw [hxl]; exact hj)⟩
    obtain ⟨y0, z0⟩ := hx 0 (by omega)
    obtain ⟨m0, g0, _, _⟩ := DataW.trod_int Tryd.underlying3 (e0.trans z0)
    obtain ⟨y1, z1⟩ := hx 1 (by omega)
    obtain ⟨m1, g1, _, _⟩ := DataW.trod_int Tryd.underlying3 (e1.trans z1)
    obtain ⟨y2, z2⟩ := hx 2 (by omega)
    obtain ⟨m2, g2, _, _⟩ := DataW.trod_int Tryd.underlying3 (e2.trans z2)
    obtain ⟨y3, z3⟩ := hx 3 (by omega)
    obtain ⟨o, f0, f1, f2, f3, f4⟩ := seen_op (e3.trans z3)
    obtain ⟨y4, z4⟩ := hx 4 (by omega)
    obtain ⟨s, s0, s1, s2, s3, s4, s5, s6, s7, s8, s9, s10⟩ := seen_saga (e4.trans z4)
    simp only [List.cons.injEq, and_true] at g0 g1 g2
    exact ⟨⟨m0, m1, m2, o, s⟩, by rw [g0, g1, g2, f0, f1, f2, f3, f4, s0, s1, s2, s3, s4, s5, s6, s7, s8, s9, s10]⟩
end
end Re
end Go.Proofs.YtidfpbnepdjagaaDoor
