/- What comes in: a booking, an operation, a slice of bytes; and small words for the rows. -/
import Derived.Test.YtakicogelkdofaaDoorWtH
import Derived.ProofKit
import Derived.OpenShut
import Derived.Deep.Slices
import Derived.Carry
import Derived.Laws.IdiomArrays
namespace Go.Proofs.YtakicogelkdofaaDoor
set_option maxRecDepth 100000
open Go.ChangeShapes Go.WideShapes Go.ChangeAt Go.WideMaps Go.WideElems Go.RowKit Go.Proofs.YtakicogelkdofaaDoor.Pk
namespace Wt

theorem own : ownKnob Tryd.prog.godebug = none := by kernel_rfl
theorem laidOut : laidOutB Tryd.prog = true := by kernel_rfl
theorem bounds_i64 {x : Int} (h : (Lit.int .i64 x).wf = true) : I x := by
  simp [Lit.wf, IntKind.min, IntKind.max, IntKind.signed, IntKind.bits] at h
  unfold I; omega
def WanI (x : Wan) : Prop := ∀ z ∈ wz x, I z
def OpnI (o : Opn) : Prop := ∀ z ∈ oz o, I z
theorem view_want {H : Type} {enc : TypeId × Value → H} {W : World} {sp : Nat → Bool} {held : Bool} {v : Value} {d : DataW H} {p : List MemPlace} {r : Reach} {b0 : Nat}
    (hv : Value.okWide Tryd.prog W r b0 24 v) (h : DataW.Trod enc Tryd.prog W 0 sp held 24 v d p) : ∃ x : Wan, v = .agg #[.int .i64 x.book, .int .i64 x.cust, .int .i64 x.dead, .int .i64 x.u0, .int .i64 x.u1, .int .i64 x.u2, .int .i64 x.price] ∧ WanI x := by
  obtain ⟨cs, rfl, hsz⟩ := okWide_struct Tryd.underlying24 hv
  have c7 : Tryd.prog.cellsOf 24 = 7 := by kernel_rfl
  have k3 : Tryd.prog.cellsOf 3 = 1 := by kernel_rfl
  have k2 : Tryd.prog.cellsOf 2 = 1 := by kernel_rfl
  have ka : Tryd.prog.cellsOf 22 = 3 := by kernel_rfl
  rw [c7] at hsz
  obtain ⟨fuel, hf⟩ := h
  obtain ⟨l, rfl⟩ : ∃ l : List Value, cs = l.toArray := ⟨cs.toList, by simp⟩
  match l, (by simpa using hsz : l.length = 7) with
  | [x0, x1, x2, x3, x4, x5, x6], _ =>
    have hf' : DataW.trod enc Tryd.prog W 0 sp held fuel 24 [x0, x1, x2, x3, x4, x5, x6] = some (d, p) := by simpa [Value.cells] using hf
    obtain ⟨xs, fn, _, _, _, hxl, hg⟩ := DataW.trod_struct Tryd.underlying24 hf'
    have e0 : DataW.trod enc Tryd.prog W 0 sp held fn 3 (([x0, x1, x2, x3, x4, x5, x6].drop 0).take (Tryd.prog.cellsOf 3)) = xs[0]? := hg 0 _ rfl
    have e1 : DataW.trod enc Tryd.prog W 0 sp held fn 3 (([x0, x1, x2, x3, x4, x5, x6].drop 1).take (Tryd.prog.cellsOf 3)) = xs[1]? := hg 1 _ rfl
    have e2 : DataW.trod enc Tryd.prog W 0 sp held fn 3 (([x0, x1, x2, x3, x4, x5, x6].drop 2).take (Tryd.prog.cellsOf 3)) = xs[2]? := hg 2 _ rfl
    have e3 : DataW.trod enc Tryd.prog W 0 sp held fn 22 (([x0, x1, x2, x3, x4, x5, x6].drop 3).take (Tryd.prog.cellsOf 22)) = xs[3]? := hg 3 _ rfl
    have e4 : DataW.trod enc Tryd.prog W 0 sp held fn 2 (([x0, x1, x2, x3, x4, x5, x6].drop 6).take (Tryd.prog.cellsOf 2)) = xs[4]? := hg 4 _ rfl
    rw [k3] at e0 e1 e2
    rw [ka] at e3
    rw [k2] at e4
    simp only [List.drop_zero, List.drop_succ_cons, List.take_succ_cons, List.take_zero] at e0 e1 e2 e3 e4
    have hx : ∀ j, j < 5 → ∃ y, xs[j]? = some y := fun j hj => ⟨_, List.getElem?_eq_getElem (by rw [hxl]; exact hj)⟩
    obtain ⟨y0, z0⟩ := hx 0 (by omega)
    obtain ⟨y1, z1⟩ := hx 1 (by omega)
    obtain ⟨y2, z2⟩ := hx 2 (by omega)
    obtain ⟨y3, z3⟩ := hx 3 (by omega)
    obtain ⟨y4, z4⟩ := hx 4 (by omega)
    obtain ⟨q0, q1, q2, nn, _, r0, r1, r2⟩ := trod_array3 Tryd.underlying22 k3 (e3.trans z3)
    obtain ⟨m0, f0, _, g0⟩ := DataW.trod_int Tryd.underlying3 (e0.trans z0)
    obtain ⟨m1, f1, _, g1⟩ := DataW.trod_int Tryd.underlying3 (e1.trans z1)
    obtain ⟨m2, f2, _, g2⟩ := DataW.trod_int Tryd.underlying3 (e2.trans z2)
    obtain ⟨m3, f3, _, g3⟩ := DataW.trod_int Tryd.underlying3 r0
    obtain ⟨m4, f4, _, g4⟩ := DataW.trod_int Tryd.underlying3 r1
    obtain ⟨m5, f5, _, g5⟩ := DataW.trod_int Tryd.underlying3 r2
    obtain ⟨m6, f6, _, g6⟩ := DataW.trod_int Tryd.underlying2 (e4.trans z4)
    simp only [List.cons.injEq, and_true] at f0 f1 f2 f3 f4 f5 f6
    refine ⟨⟨m0, m1, m2, m3, m4, m5, m6⟩, by rw [f0, f1, f2, f3, f4, f5, f6], fun z hz => ?_⟩
    simp only [wz, List.mem_cons, List.not_mem_nil, or_false] at hz
    rcases hz with rfl | rfl | rfl | rfl | rfl | rfl | rfl
    · exact bounds_i64 g0
    · exact bounds_i64 g1
    · exact bounds_i64 g2
    · exact bounds_i64 g3
    · exact bounds_i64 g4
    · exact bounds_i64 g5
    · exact bounds_i64 g6
theorem view_op {H : Type} {enc : TypeId × Value → H} {W : World} {sp : Nat → Bool} {held : Bool} {v : Value} {d : DataW H} {p : List MemPlace} {r : Reach} {b0 : Nat}
    (hv : Value.okWide Tryd.prog W r b0 28 v) (h : DataW.Trod enc Tryd.prog W 0 sp held 28 v d p) : ∃ o : Opn, v = .agg #[.int .i64 o.kind, .int .i64 o.book, .int .i64 o.units, .int .i64 o.cust, .int .i64 o.amount] ∧ OpnI o := by
  obtain ⟨cs, rfl, hsz⟩ := okWide_struct Tryd.underlying28 hv
  have c7 : Tryd.prog.cellsOf 28 = 5 := by kernel_rfl
  have k3 : Tryd.prog.cellsOf 3 = 1 := by kernel_rfl
  have k2 : Tryd.prog.cellsOf 2 = 1 := by kernel_rfl
  rw [c7] at hsz
  obtain ⟨fuel, hf⟩ := h
  obtain ⟨l, rfl⟩ : ∃ l : List Value, cs = l.toArray := ⟨cs.toList, by simp⟩
  match l, (by simpa using hsz : l.length = 5) with
  | [x0, x1, x2, x3, x4], _ =>
    have hf' : DataW.trod enc Tryd.prog W 0 sp held fuel 28 [x0, x1, x2, x3, x4] = some (d, p) := by simpa [Value.cells] using hf
    obtain ⟨xs, fn, _, _, _, hxl, hg⟩ := DataW.trod_struct Tryd.underlying28 hf'
    have e0 : DataW.trod enc Tryd.prog W 0 sp held fn 3 (([x0, x1, x2, x3, x4].drop 0).take (Tryd.prog.cellsOf 3)) = xs[0]? := hg 0 _ rfl
    have e1 : DataW.trod enc Tryd.prog W 0 sp held fn 3 (([x0, x1, x2, x3, x4].drop 1).take (Tryd.prog.cellsOf 3)) = xs[1]? := hg 1 _ rfl
    have e2 : DataW.trod enc Tryd.prog W 0 sp held fn 3 (([x0, x1, x2, x3, x4].drop 2).take (Tryd.prog.cellsOf 3)) = xs[2]? := hg 2 _ rfl
    have e3 : DataW.trod enc Tryd.prog W 0 sp held fn 3 (([x0, x1, x2, x3, x4].drop 3).take (Tryd.prog.cellsOf 3)) = xs[3]? := hg 3 _ rfl
    have e4 : DataW.trod enc Tryd.prog W 0 sp held fn 2 (([x0, x1, x2, x3, x4].drop 4).take (Tryd.prog.cellsOf 2)) = xs[4]? := hg 4 _ rfl
    rw [k3] at e0 e1 e2 e3
    rw [k2] at e4
    simp only [List.drop_zero, List.drop_succ_cons, List.take_succ_cons, List.take_zero] at e0 e1 e2 e3 e4
    have hx : ∀ j, j < 5 → ∃ y, xs[j]? = some y := fun j hj => ⟨_, List.getElem?_eq_getElem (by rw [hxl]; exact hj)⟩
    obtain ⟨y0, z0⟩ := hx 0 (by omega)
    obtain ⟨y1, z1⟩ := hx 1 (by omega)
    obtain ⟨y2, z2⟩ := hx 2 (by omega)
    obtain ⟨y3, z3⟩ := hx 3 (by omega)
    obtain ⟨y4, z4⟩ := hx 4 (by omega)
    obtain ⟨m0, f0, _, g0⟩ := DataW.trod_int Tryd.underlying3 (e0.trans z0)
    obtain ⟨m1, f1, _, g1⟩ := DataW.trod_int Tryd.underlying3 (e1.trans z1)
    obtain ⟨m2, f2, _, g2⟩ := DataW.trod_int Tryd.underlying3 (e2.trans z2)
    obtain ⟨m3, f3, _, g3⟩ := DataW.trod_int Tryd.underlying3 (e3.trans z3)
    obtain ⟨m4, f4, _, g4⟩ := DataW.trod_int Tryd.underlying2 (e4.trans z4)
    simp only [List.cons.injEq, and_true] at f0 f1 f2 f3 f4
    refine ⟨⟨m0, m1, m2, m3, m4⟩, by rw [f0, f1, f2, f3, f4], fun z hz => ?_⟩
    simp only [oz, List.mem_cons, List.not_mem_nil, or_false] at hz
    rcases hz with rfl | rfl | rfl | rfl | rfl
    · exact bounds_i64 g0
    · exact bounds_i64 g1
    · exact bounds_i64 g2
    · exact bounds_i64 g3
    · exact bounds_i64 g4
/-- A slice of bytes that came in reads as a list of bytes. -/
def Src (w : World) (v : Value) (bs : List UInt8) : Prop := ∃ A n c, v = .slice A n c ∧ (A = none → c = 0) ∧ n ≤ c ∧ c ≤ 9223372036854775807 ∧ Rb w (fun g => g < w.heap.size) A n bs
theorem view_bytes {H : Type} {enc : TypeId × Value → H} {W : World} {sp : Nat → Bool} {held : Bool} {v : Value} {d : DataW H} {p : List MemPlace} {r : Reach} {b0 : Nat}
    (hv : Value.okWide Tryd.prog W r b0 48 v) (h : DataW.Trod enc Tryd.prog W 0 sp held 48 v d p) : ∃ bs, Src W v bs := by
  obtain ⟨A, n, c, rfl⟩ := okWide_slice Tryd.underlying48 hv
  obtain ⟨fuel, hf⟩ := h
  have c5 : Tryd.prog.cellsOf 5 = 1 := by kernel_rfl
  rcases open_ints Tryd.underlying48 Tryd.underlying5 c5 hf with ⟨hcs, _⟩ | ⟨a, len, cap, zs, hcs, _, hl, hm, hz, _, hcell, hwz⟩
  · obtain ⟨rfl, rfl, rfl⟩ : A = none ∧ n = 0 ∧ c = 0 := by simpa [Value.cells] using hcs
    exact ⟨[], none, 0, 0, rfl, fun _ => rfl, Nat.le_refl _, by omega, Rb.none_⟩
  · obtain ⟨rfl, rfl, rfl⟩ : A = some a ∧ n = len ∧ c = cap := by simpa [Value.cells] using hcs
    have hle : n ≤ zs.length := by rw [hz]; split <;> omega
    unfold maxLen at hm
    refine ⟨(zs.take n).map fun z => UInt8.ofNat z.toNat, some a, n, c, rfl, (fun e => by cases e), hl, by omega, ⟨by simp; omega, fun hn => ⟨a, rfl, ?_, fun j x hj => ?_⟩⟩⟩
    · have := block_lt_of_cell (hcell 0 (by omega))
      rwa [adr_block] at this
    · rw [List.getElem?_map, List.getElem?_take] at hj
      split at hj
      · have hjz : j < zs.length := by omega
        rw [List.getElem?_eq_getElem hjz] at hj
        simp only [Option.map_some, Option.some.injEq] at hj
        have hw := bounds_u8 (hwz _ (List.getElem_mem hjz))
        rw [hcell j hjz, ← hj, ofNat_toNat (by omega), List.getD_eq_getElem?_getD, List.getElem?_eq_getElem hjz]
        simp only [Option.getD_some]
        congr 2
        omega
      · cases hj


variable {H : Type} {enc : TypeId × Value → H} {P : Program}
/-- The row's last step where all that was there is as it was. -/
theorem post_below {f : Func} {s : ChangeSpec} {apart fresh handsOn again : Bool} {W W' : World} {args : Array Value} {v : Value} {ds gs : List (DataW H)} {before pa pv : List MemPlace}
    (hW : DataW.Whole enc P f.params.toList s.vars apart W args.toList ds gs before)
    (hres : ∀ (b : Nat) (sp : Nat → Bool) (hd : Bool), DataW.TrodAll enc P W' b sp hd f.resultTypes.toList (v.resultList f.resultTypes.size) (s.fn H (ds ++ gs)).results [])
    (hargs : ∀ sp : Nat → Bool, (∀ p ∈ before, sp p.block = true) → DataW.TrodAll enc P W' 0 sp true f.params.toList args.toList (s.fn H (ds ++ gs)).args pa)
    (hvars : ∀ sp : Nat → Bool, (∀ p ∈ before, sp p.block = true) → DataW.TrodVars enc P W' sp s.vars (s.fn H (ds ++ gs)).vars pv)
    (hps : before = pa ++ pv) (hb : Below W.heap.size W W')
    (hok : ∀ (j : Nat) (t : TypeId) (r : Value), f.resultTypes[j]? = some t → (v.resultList f.resultTypes.size)[j]? = some r → Value.okWide P W' .any 0 t r) :
    s.post enc P f apart fresh handsOn again W args v W' := by
  have lower : ∀ p ∈ before, p.block < W.heap.size := fun p hp => hW.lt p hp
  have within : ∀ p ∈ before, (fun b => decide (b < W.heap.size)) p.block = true := fun p hp => decide_eq_true (lower p hp)
  refine ⟨ds, gs, before, [], pa, pv, hW, hres _ _ _, hargs _ within, hvars _ within, ?_, fun _ => ?_⟩
  · refine World.keptBut_mono (fun p hp => ⟨hp, ?_⟩) (hb.frame (· ∈ before))
    rw [hps, List.mem_append] at hp
    exact .inr hp
  · obtain ⟨_, _, _, _, _, marks, once⟩ := hW
    refine ⟨hok, _, _, ([] ++ pa) ++ pv, ⟨[] ++ pa, pv, trodAll_append (hargs _ (fun _ _ => rfl)) (hres _ _ _), hvars _ (fun _ _ => rfl), rfl, fun b off hp => ?_, fun ha => ?_⟩, fun p hp _ => ?_⟩
    · have hin : MemPlace.cell b off ∈ before := by simpa [hps] using hp
      exact (hb.frozen (lower _ hin)).trans (marks b off hin)
    · simpa [hps] using once ha
    · simpa [hps] using hp
end Wt
end Go.Proofs.YtakicogelkdofaaDoor
