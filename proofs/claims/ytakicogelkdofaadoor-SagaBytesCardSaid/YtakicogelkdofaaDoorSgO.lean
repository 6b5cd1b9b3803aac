/- What comes in: a saga, a step; small words for the rows; numbers brought small. -/
import Derived.Test.YtakicogelkdofaaDoorSgF
import Derived.ProofKit
import Derived.OpenShut
import Derived.Deep.Slices
import Derived.Carry
import Derived.Laws.IdiomArrays
import Derived.Laws.BitsLemmas
namespace Go.Proofs.YtakicogelkdofaaDoor
set_option maxRecDepth 100000
open Go.ChangeShapes Go.WideShapes Go.ChangeAt Go.WideMaps Go.WideElems Go.RowKit
namespace Sg
open Wt (Wan may Opn mayOp)
open Pl (Stp spv)

theorem own : ownKnob Tryd.prog.godebug = none := by kernel_rfl
theorem laidOut : laidOutB Tryd.prog = true := by kernel_rfl
theorem bnd {x : Int} (h : (Lit.int .i64 x).wf = true) : -9223372036854775808 ≤ x ∧ x ≤ 9223372036854775807 := by
  simp [Lit.wf, IntKind.min, IntKind.max, IntKind.signed, IntKind.bits] at h
  omega
section
variable {H : Type} {enc : TypeId × Value → H} {W : World} {sp : Nat → Bool} {held : Bool}
theorem seen_want {fuel : Nat} {x0 x1 x2 x3 x4 x5 x6 : Value} {d : DataW H} {p : List MemPlace} (hf' : DataW.trod enc Tryd.prog W 0 sp held fuel 24 [x0, x1, x2, x3, x4, x5, x6] = some (d, p)) : ∃ x : Wan, x0 = .int .i64 x.book ∧ x1 = .int .i64 x.cust ∧ x2 = .int .i64 x.dead ∧ x3 = .int .i64 x.u0 ∧ x4 = .int .i64 x.u1 ∧ x5 = .int .i64 x.u2 ∧ x6 = .int .i64 x.price := by
  have k3 : Tryd.prog.cellsOf 3 = 1 := by kernel_rfl
  have k2 : Tryd.prog.cellsOf 2 = 1 := by kernel_rfl
  have ka : Tryd.prog.cellsOf 22 = 3 := by kernel_rfl
  obtain ⟨xs, fn, _, _, _, hxl, hg⟩ := DataW.trod_struct Tryd.underlying24 hf'
  have e0 : DataW.trod enc Tryd.prog W 0 sp held fn 3 (([x0, x1, x2, x3, x4, x5, x6].drop 0).take (Tryd.prog.cellsOf 3)) = xs[0]? := hg 0 _ rfl
  have e1 : DataW.trod enc Tryd.prog W 0 sp held fn 3 (([x0, x1, x2, x3, x4, x5, x6].drop 1).take (Tryd.prog.cellsOf 3)) = xs[1]? := hg 1 _ rfl
  have e2 : DataW.trod enc Tryd.prog W 0 sp held fn 3 (([x0, x1, x2, x3, x4, x5, x6].drop 2).take (Tryd.prog.cellsOf 3)) = xs[2]? := hg 2 _ rfl
  have e3 : DataW.trod enc Tryd.prog W 0 sp held fn 22 (([x0, x1, x2, x3, x4, x5, x6].drop 3).take (Tryd.prog.cellsOf 22)) = xs[3]? := hg 3 _ rfl
  have e4 : DataW.trod enc Tryd.prog W 0 sp held fn 2 (([x0, x1, x2, x3, x4, x5, x6].drop 6).take (Tryd.prog.cellsOf 2)) = xs[4]? := hg 4 _ rfl
  rw [k3] at e0 e1 e2
  rw [ka] at e3
  rw [k2] at e4
  simp only [List.drop_zero, List.drop_succ_cons, List.take_succ_cons, List.take_zero] at e0 e1 e2 e3 e4
  have hx : ∀ j, j < 5 → ∃ y, xs[j]? = some y := fun j hj => ⟨_, List.getElem?_eq_getElem (by rw [hxl]; exact hj)⟩
  obtain ⟨y0, z0⟩ := hx 0 (by omega)
  obtain ⟨y1, z1⟩ := hx 1 (by omega)
  obtain ⟨y2, z2⟩ := hx 2 (by omega)
  obtain ⟨y3, z3⟩ := hx 3 (by omega)
  obtain ⟨y4, z4⟩ := hx 4 (by omega)
  obtain ⟨q0, q1, q2, nn, _, r0, r1, r2⟩ := trod_array3 Tryd.underlying22 k3 (e3.trans z3)
  obtain ⟨m0, f0, _, _⟩ := DataW.trod_int Tryd.underlying3 (e0.trans z0)
  obtain ⟨m1, f1, _, _⟩ := DataW.trod_int Tryd.underlying3 (e1.trans z1)
  obtain ⟨m2, f2, _, _⟩ := DataW.trod_int Tryd.underlying3 (e2.trans z2)
  obtain ⟨m3, f3, _, _⟩ := DataW.trod_int Tryd.underlying3 r0
  obtain ⟨m4, f4, _, _⟩ := DataW.trod_int Tryd.underlying3 r1
  obtain ⟨m5, f5, _, _⟩ := DataW.trod_int Tryd.underlying3 r2
  obtain ⟨m6, f6, _, _⟩ := DataW.trod_int Tryd.underlying2 (e4.trans z4)
  simp only [List.cons.injEq, and_true] at f0 f1 f2 f3 f4 f5 f6
  exact ⟨⟨m0, m1, m2, m3, m4, m5, m6⟩, f0, f1, f2, f3, f4, f5, f6⟩
theorem seen_op {fuel : Nat} {x0 x1 x2 x3 x4 : Value} {d : DataW H} {p : List MemPlace} (hf' : DataW.trod enc Tryd.prog W 0 sp held fuel 28 [x0, x1, x2, x3, x4] = some (d, p)) : ∃ x : Opn, x0 = .int .i64 x.kind ∧ x1 = .int .i64 x.book ∧ x2 = .int .i64 x.units ∧ x3 = .int .i64 x.cust ∧ x4 = .int .i64 x.amount := by
  have k3 : Tryd.prog.cellsOf 3 = 1 := by kernel_rfl
  have k2 : Tryd.prog.cellsOf 2 = 1 := by kernel_rfl
  obtain ⟨xs, fn, _, _, _, hxl, hg⟩ := DataW.trod_struct Tryd.underlying28 hf'
  have e0 : DataW.trod enc Tryd.prog W 0 sp held fn 3 (([x0, x1, x2, x3, x4].drop 0).take (Tryd.prog.cellsOf 3)) = xs[0]? := hg 0 _ rfl
  have e1 : DataW.trod enc Tryd.prog W 0 sp held fn 3 (([x0, x1, x2, x3, x4].drop 1).take (Tryd.prog.cellsOf 3)) = xs[1]? := hg 1 _ rfl
  have e2 : DataW.trod enc Tryd.prog W 0 sp held fn 3 (([x0, x1, x2, x3, x4].drop 2).take (Tryd.prog.cellsOf 3)) = xs[2]? := hg 2 _ rfl
  have e3 : DataW.trod enc Tryd.prog W 0 sp held fn 3 (([x0, x1, x2, x3, x4].drop 3).take (Tryd.prog.cellsOf 3)) = xs[3]? := hg 3 _ rfl
  have e4 : DataW.trod enc Tryd.prog W 0 sp held fn 2 (([x0, x1, x2, x3, x4].drop 4).take (Tryd.prog.cellsOf 2)) = xs[4]? := hg 4 _ rfl
  rw [k3] at e0 e1 e2 e3
  rw [k2] at e4
  simp only [List.drop_zero, List.drop_succ_cons, List.take_succ_cons, List.take_zero] at e0 e1 e2 e3 e4
  have hx : ∀ j, j < 5 → ∃ y, xs[j]? = some y := fun j hj => ⟨_, List.getElem?_eq_getElem (by rw [hxl]; exact hj)⟩
  obtain ⟨y0, z0⟩ := hx 0 (by omega)
  obtain ⟨m0, f0, _, _⟩ := DataW.trod_int Tryd.underlying3 (e0.trans z0)
  obtain ⟨y1, z1⟩ := hx 1 (by omega)
  obtain ⟨m1, f1, _, _⟩ := DataW.trod_int Tryd.underlying3 (e1.trans z1)
  obtain ⟨y2, z2⟩ := hx 2 (by omega)
  obtain ⟨m2, f2, _, _⟩ := DataW.trod_int Tryd.underlying3 (e2.trans z2)
  obtain ⟨y3, z3⟩ := hx 3 (by omega)
  obtain ⟨m3, f3, _, _⟩ := DataW.trod_int Tryd.underlying3 (e3.trans z3)
  obtain ⟨y4, z4⟩ := hx 4 (by omega)
  obtain ⟨m4, f4, _, _⟩ := DataW.trod_int Tryd.underlying2 (e4.trans z4)
  simp only [List.cons.injEq, and_true] at f0 f1 f2 f3 f4
  exact ⟨⟨m0, m1, m2, m3, m4⟩, f0, f1, f2, f3, f4⟩
theorem view_want {v : Value} {d : DataW H} {p : List MemPlace} {r : Reach} {b0 : Nat}
    (hv : Value.okWide Tryd.prog W r b0 24 v) (h : DataW.Trod enc Tryd.prog W 0 sp held 24 v d p) : ∃ x : Wan, v = .agg #[.int .i64 x.book, .int .i64 x.cust, .int .i64 x.dead, .int .i64 x.u0, .int .i64 x.u1, .int .i64 x.u2, .int .i64 x.price] := by
  obtain ⟨cs, rfl, hsz⟩ := okWide_struct Tryd.underlying24 hv
  have c7 : Tryd.prog.cellsOf 24 = 7 := by kernel_rfl
  rw [c7] at hsz
  obtain ⟨fuel, hf⟩ := h
  obtain ⟨l, rfl⟩ : ∃ l : List Value, cs = l.toArray := ⟨cs.toList, by simp⟩
  match l, (by simpa using hsz : l.length = 7) with
  | [x0, x1, x2, x3, x4, x5, x6], _ =>
    obtain ⟨x, f0, f1, f2, f3, f4, f5, f6⟩ := seen_want (by simpa [Value.cells] using hf : DataW.trod enc Tryd.prog W 0 sp held fuel 24 [x0, x1, x2, x3, x4, x5, x6] = some (d, p))
    exact ⟨x, by rw [f0, f1, f2, f3, f4, f5, f6]⟩
theorem view_ask {v : Value} {d : DataW H} {p : List MemPlace} {r : Reach} {b0 : Nat}
    (hv : Value.okWide Tryd.prog W r b0 30 v) (h : DataW.Trod enc Tryd.prog W 0 sp held 30 v d p) : ∃ x : Stp, v = spv x := by
  obtain ⟨cs, rfl, hsz⟩ := okWide_struct Tryd.underlying30 hv
  have c6 : Tryd.prog.cellsOf 30 = 6 := by kernel_rfl
  have k3 : Tryd.prog.cellsOf 3 = 1 := by kernel_rfl
  have k5 : Tryd.prog.cellsOf 28 = 5 := by kernel_rfl
  rw [c6] at hsz
  obtain ⟨fuel, hf⟩ := h
  obtain ⟨l, rfl⟩ : ∃ l : List Value, cs = l.toArray := ⟨cs.toList, by simp⟩
  match l, (by simpa using hsz : l.length = 6) with
  | [x0, x1, x2, x3, x4, x5], _ =>
    have hf' : DataW.trod enc Tryd.prog W 0 sp held fuel 30 [x0, x1, x2, x3, x4, x5] = some (d, p) := by simpa [Value.cells] using hf
    obtain ⟨xs, fn, _, _, _, hxl, hg⟩ := DataW.trod_struct Tryd.underlying30 hf'
    have e0 : DataW.trod enc Tryd.prog W 0 sp held fn 3 (([x0, x1, x2, x3, x4, x5].drop 0).take (Tryd.prog.cellsOf 3)) = xs[0]? := hg 0 _ rfl
    have e1 : DataW.trod enc Tryd.prog W 0 sp held fn 28 (([x0, x1, x2, x3, x4, x5].drop 1).take (Tryd.prog.cellsOf 28)) = xs[1]? := hg 1 _ rfl
    rw [k3] at e0
    rw [k5] at e1
    simp only [List.drop_zero, List.drop_succ_cons, List.take_succ_cons, List.take_zero] at e0 e1
    have hx : ∀ j, j < 2 → ∃ y, xs[j]? = some y := fun j hj => ⟨_, List.getElem?_eq_getElem (by rw [hxl]; exact hj)⟩
    obtain ⟨y0, z0⟩ := hx 0 (by omega)
    obtain ⟨y1, z1⟩ := hx 1 (by omega)
    obtain ⟨m0, f0, _, _⟩ := DataW.trod_int Tryd.underlying3 (e0.trans z0)
    obtain ⟨o, f1, f2, f3, f4, f5⟩ := seen_op (e1.trans z1)
    simp only [List.cons.injEq, and_true] at f0
    exact ⟨⟨m0, o⟩, by rw [f0, f1, f2, f3, f4, f5]⟩
theorem view_saga {v : Value} {d : DataW H} {p : List MemPlace} {r : Reach} {b0 : Nat}
    (hv : Value.okWide Tryd.prog W r b0 26 v) (h : DataW.Trod enc Tryd.prog W 0 sp held 26 v d p) : ∃ x : Sag, v = sgv x := by
  obtain ⟨cs, rfl, hsz⟩ := okWide_struct Tryd.underlying26 hv
  have c11 : Tryd.prog.cellsOf 26 = 11 := by kernel_rfl
  have k3 : Tryd.prog.cellsOf 3 = 1 := by kernel_rfl
  have k7 : Tryd.prog.cellsOf 24 = 7 := by kernel_rfl
  rw [c11] at hsz
  obtain ⟨fuel, hf⟩ := h
  obtain ⟨l, rfl⟩ : ∃ l : List Value, cs = l.toArray := ⟨cs.toList, by simp⟩
  match l, (by simpa using hsz : l.length = 11) with
  | [x0, x1, x2, x3, x4, x5, x6, x7, x8, x9, x10], _ =>
    have hf' : DataW.trod enc Tryd.prog W 0 sp held fuel 26 [x0, x1, x2, x3, x4, x5, x6, x7, x8, x9, x10] = some (d, p) := by simpa [Value.cells] using hf
    obtain ⟨xs, fn, _, _, _, hxl, hg⟩ := DataW.trod_struct Tryd.underlying26 hf'
    have e0 : DataW.trod enc Tryd.prog W 0 sp held fn 24 (([x0, x1, x2, x3, x4, x5, x6, x7, x8, x9, x10].drop 0).take (Tryd.prog.cellsOf 24)) = xs[0]? := hg 0 _ rfl
    have e1 : DataW.trod enc Tryd.prog W 0 sp held fn 3 (([x0, x1, x2, x3, x4, x5, x6, x7, x8, x9, x10].drop 7).take (Tryd.prog.cellsOf 3)) = xs[1]? := hg 1 _ rfl
    have e2 : DataW.trod enc Tryd.prog W 0 sp held fn 3 (([x0, x1, x2, x3, x4, x5, x6, x7, x8, x9, x10].drop 8).take (Tryd.prog.cellsOf 3)) = xs[2]? := hg 2 _ rfl
    have e3 : DataW.trod enc Tryd.prog W 0 sp held fn 3 (([x0, x1, x2, x3, x4, x5, x6, x7, x8, x9, x10].drop 9).take (Tryd.prog.cellsOf 3)) = xs[3]? := hg 3 _ rfl
    have e4 : DataW.trod enc Tryd.prog W 0 sp held fn 3 (([x0, x1, x2, x3, x4, x5, x6, x7, x8, x9, x10].drop 10).take (Tryd.prog.cellsOf 3)) = xs[4]? := hg 4 _ rfl
    rw [k7] at e0
    rw [k3] at e1 e2 e3 e4
    simp only [List.drop_zero, List.drop_succ_cons, List.take_succ_cons, List.take_zero] at e0 e1 e2 e3 e4
    have hx : ∀ j, j < 5 → ∃ y, xs[j]? = some y := fun j hj => ⟨_, List.getElem?_eq_getElem (by rw [hxl]; exact hj)⟩
    obtain ⟨y0, z0⟩ := hx 0 (by omega)
    obtain ⟨o, f0, f1, f2, f3, f4, f5, f6⟩ := seen_want (e0.trans z0)
    obtain ⟨y1, z1⟩ := hx 1 (by omega)
    obtain ⟨m1, g1, _, _⟩ := DataW.trod_int Tryd.underlying3 (e1.trans z1)
    obtain ⟨y2, z2⟩ := hx 2 (by omega)
    obtain ⟨m2, g2, _, _⟩ := DataW.trod_int Tryd.underlying3 (e2.trans z2)
    obtain ⟨y3, z3⟩ := hx 3 (by omega)
    obtain ⟨m3, g3, _, _⟩ := DataW.trod_int Tryd.underlying3 (e3.trans z3)
    obtain ⟨y4, z4⟩ := hx 4 (by omega)
    obtain ⟨m4, g4, _, _⟩ := DataW.trod_int Tryd.underlying3 (e4.trans z4)
    simp only [List.cons.injEq, and_true] at g1 g2 g3 g4
    exact ⟨⟨o, m1, m2, m3, m4⟩, by rw [f0, f1, f2, f3, f4, f5, f6, g1, g2, g3, g4]⟩
end
section
variable {H : Type} {enc : TypeId × Value → H} {P : Program}
/-- The row's last step where all that was there is as it was. -/
theorem post_below {f : Func} {s : ChangeSpec} {apart fresh handsOn again : Bool} {W W' : World} {args : Array Value} {v : Value} {ds gs : List (DataW H)} {before pa pv : List MemPlace}
    (hW : DataW.Whole enc P f.params.toList s.vars apart W args.toList ds gs before)
    (hres : ∀ (b : Nat) (sp : Nat → Bool) (hd : Bool), DataW.TrodAll enc P W' b sp hd f.resultTypes.toList (v.resultList f.resultTypes.size) (s.fn H (ds ++ gs)).results [])
    (hargs : ∀ sp : Nat → Bool, (∀ p ∈ before, sp p.block = true) → DataW.TrodAll enc P W' 0 sp true f.params.toList args.toList (s.fn H (ds ++ gs)).args pa)
    (hvars : ∀ sp : Nat → Bool, (∀ p ∈ before, sp p.block = true) → DataW.TrodVars enc P W' sp s.vars (s.fn H (ds ++ gs)).vars pv)
    (hps : before = pa ++ pv) (hb : Below W.heap.size W W')
    (hok : ∀ (j : Nat) (t : TypeId) (r : Value), f.resultTypes[j]? = some t → (v.resultList f.resultTypes.size)[j]? = some r → Value.okWide P W' .any 0 t r) :
    s.post enc P f apart fresh handsOn again W args v W' := by
  have lower : ∀ p ∈ before, p.block < W.heap.size := fun p hp => hW.lt p hp
  have within : ∀ p ∈ before, (fun b => decide (b < W.heap.size)) p.block = true := fun p hp => decide_eq_true (lower p hp)
  refine ⟨ds, gs, before, [], pa, pv, hW, hres _ _ _, hargs _ within, hvars _ within, ?_, fun _ => ?_⟩
  · refine World.keptBut_mono (fun p hp => ⟨hp, ?_⟩) (hb.frame (· ∈ before))
    rw [hps, List.mem_append] at hp
    exact .inr hp
  · obtain ⟨_, _, _, _, _, marks, once⟩ := hW
    refine ⟨hok, _, _, ([] ++ pa) ++ pv, ⟨[] ++ pa, pv, trodAll_append (hargs _ (fun _ _ => rfl)) (hres _ _ _), hvars _ (fun _ _ => rfl), rfl, fun b off hp => ?_, fun ha => ?_⟩, fun p hp _ => ?_⟩
    · have hin : MemPlace.cell b off ∈ before := by simpa [hps] using hp
      exact (hb.frozen (lower _ hin)).trans (marks b off hin)
    · simpa [hps] using once ha
    · simpa [hps] using hp
end
/-- int(uint(z) % n). -/
def usm (z : Int) (n : Nat) : Nat := ((z % 18446744073709551616) % (n : Int)).toNat
theorem usm_lt (z : Int) {n : Nat} (hn : 0 < n) : usm z n < n := by
  have h1 := Int.emod_nonneg (z % 18446744073709551616) (b := (n : Int)) (by omega)
  have h2 := Int.emod_lt_of_pos (z % 18446744073709551616) (b := (n : Int)) (by omega)
  unfold usm
  omega
theorem usm_is (z : Int) {n : Nat} (hn : 0 < n) : ((z % 18446744073709551616) % (n : Int)) = (usm z n : Int) := by
  have h1 := Int.emod_nonneg (z % 18446744073709551616) (b := (n : Int)) (by omega)
  unfold usm
  omega
theorem usm_slot (z : Int) {n : Nat} (hn : 0 < n) (hs : n ≤ 1000000) : wrap64 ((IntKind.u64.wrap z).tmod (n : Int)) = (usm z n : Int) := by
  have h0 : 0 ≤ IntKind.u64.wrap z := by rw [IntKind.wrap_u64]; omega
  have h1 := usm_lt z hn
  rw [Int.tmod_eq_emod_of_nonneg h0, IntKind.wrap_u64, usm_is z hn, IntWalk.wrap64_in _ (by omega)]
end Sg
end Go.Proofs.YtakicogelkdofaaDoor
