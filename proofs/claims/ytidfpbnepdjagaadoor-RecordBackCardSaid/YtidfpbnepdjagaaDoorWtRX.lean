/- The document's own writer of bookings. -/
import Derived.Test.YtidfpbnepdjagaaDoorWtL
import Derived.ProofKit
import Derived.OpenShut
import Derived.Deep.Slices
import Derived.Carry
import Derived.Laws.IdiomArrays
import Derived.Test.YtidfpbnepdjagaaDoorPkT
import Derived.Lib.QuietBelow
import Derived.BigQuiet
namespace Go.Proofs.YtidfpbnepdjagaaDoor
open Go.RowKit Go.Proofs.YtidfpbnepdjagaaDoor.Pk
namespace Wt

def w1_ : Wan := ⟨1, 0, 0, 0, 1, 0, 5⟩
def w2_ : Wan := ⟨1, 0, 0, 0, 0, 0, 0⟩
def o1_ : Opn := ⟨1, 2, 3, 0, 0⟩
def o2_ : Opn := ⟨0, 0, 0, 0, 0⟩
theorem w1_may : may w1_ = true := by decide
theorem w2_may : may w2_ = false := by decide
theorem o1_may : mayOp o1_ = true := by decide
theorem o2_may : mayOp o2_ = false := by decide
theorem PutTo.rb {w' : World} {v : Value} {bs : List UInt8} {B : Nat} (h : w'.ownsRow B 5 1 v bs.length (u8s bs)) : ∃ A c, v = .slice A bs.length c ∧ Rb w' (fun g => g < w'.heap.size) A bs.length bs ∧ (A = none → c = 0) := by
  obtain ⟨A, c, rfl⟩ := own_form h
  refine ⟨A, c, rfl, (Rb.of_own h).keep (fun _ _ => rfl) (fun g hg => hg.2.lt), fun e => ?_⟩
  subst e
  rcases h.2 with ⟨e, _⟩ | ⟨g, cap, cur, e, _⟩
  · injection e
  · injection e with e; cases e

/-- Three numbers are alike. -/
theorem eq_arr (w : World) (a b c x y z : Int) : (Op.equalIn 9999 24 (.agg #[.int .i64 a, .int .i64 b, .int .i64 c]) (.agg #[.int .i64 x, .int .i64 y, .int .i64 z])).run Tryd.prog w = .ok (a == x && (b == y && c == z)) w := by
  have u3 := Tryd.underlying3
  have a3 := Tryd.isAgg3
  have z3 := Tryd.sizeOf3
  rw [show (9999 : Nat) = 9998 + 1 from rfl, Op.equalIn]
  simp only [Sem.run_bind, run_underlying Tryd.underlying24, Result.andThen_ok]
  simp only [Std.Legacy.Range.forIn_eq_forIn_range', Std.Legacy.Range.size, Nat.sub_zero, Nat.add_sub_cancel, Nat.div_one, List.range'_succ, List.range'_zero, List.forIn_cons, List.forIn_nil]
  go_simp
  by_cases h1 : a = x <;> by_cases h2 : b = y <;> by_cases h3 : c = z <;> simp [h1, h2, h3]
theorem stay {w w' : World} {g : Nat} {o : Obj} (h : Hid (w.heap[g]? = some o)) (b : Below w.heap.size w w') : Hid (w'.heap[g]? = some o) := (b.block _ (lt_some h.out)).trans h.out
theorem stay1 {w : World} {g : Nat} {o : Obj} (h : Hid (w.heap[g]? = some o)) (u : Obj) : Hid ((w.alloc u).heap[g]? = some o) := (heap_alloc_old _ _ (lt_some h.out)).trans h.out
theorem lay1 (w : World) (u : Obj) : Hid ((w.alloc u).heap[w.heap.size]? = some u) := heap_alloc_new _ _
end Wt
end Go.Proofs.YtidfpbnepdjagaaDoor

namespace Go.Proofs.YtidfpbnepdjagaaDoor
set_option maxRecDepth 100000
open Go.ChangeShapes Go.WideShapes Go.ChangeAt Go.WideMaps Go.WideElems Go.RowKit Go.Proofs.YtidfpbnepdjagaaDoor.Pk
namespace Wt

theorem own : ownKnob Tryd.prog.godebug = none := by kernel_rfl
theorem laidOut : laidOutB Tryd.prog = true := by kernel_rfl
theorem bounds_i64 {x : Int} (h : (Lit.int .i64 x).wf = true) : I x := by
  simp [Lit.wf, IntKind.min, IntKind.max, IntKind.signed, IntKind.bits] at h
  unfold I; omega
def WanI (x : Wan) : Prop := ∀ z ∈ wz x, I z
def OpnI (o : Opn) : Prop := ∀ z ∈ oz o, I z
theorem view_want {H : Type} {enc : TypeId × Value → H} {W : World} {sp : Nat → Bool} {held : Bool} {v : Value} {d : DataW H} {p : List MemPlace} {r : Reach} {b0 : Nat}
    (hv : Value.okWide Tryd.prog W r b0 26 v) (h : DataW.Trod enc Tryd.prog W 0 sp held 26 v d p) : ∃ x : Wan, v = .agg #[.int .i64 x.book, .int .i64 x.cust, .int .i64 x.dead, .int .i64 x.u0, .int .i64 x.u1, .int .i64 x.u2, .int .i64 x.price] ∧ WanI x := by
  obtain ⟨cs, rfl, hsz⟩ := okWide_struct Tryd.underlying26 hv
  have c7 : Tryd.prog.cellsOf 26 = 7 := by kernel_rfl
  have k3 : Tryd.prog.cellsOf 3 = 1 := by kernel_rfl
  have k2 : Tryd.prog.cellsOf 2 = 1 := by kernel_rfl
  have ka : Tryd.prog.cellsOf 24 = 3 := by kernel_rfl
  rw [c7] at hsz
  obtain ⟨fuel, hf⟩ := h
  obtain ⟨l, rfl⟩ : ∃ l : List Value, cs = l.toArray := ⟨cs.toList, by simp⟩
  match l, (by simpa using hsz : l.length = 7) with
  | [x0, x1, x2, x3, x4, x5, x6], _ =>
    have hf' : DataW.trod enc Tryd.prog W 0 sp held fuel 26 [x0, x1, x2, x3, x4, x5, x6] = some (d, p) := by simpa [Value.cells] using hf
    obtain ⟨xs, fn, _, _, _, hxl, hg⟩ := DataW.trod_struct Tryd.underlying26 hf'
    have e0 : DataW.trod enc Tryd.prog W 0 sp held fn 3 (([x0, x1, x2, x3, x4, x5, x6].drop 0).take (Tryd.prog.cellsOf 3)) = xs[0]? := hg 0 _ rfl
    have e1 : DataW.trod enc Tryd.prog W 0 sp held fn 3 (([x0, x1, x2, x3, x4, x5, x6].drop 1).take (Tryd.prog.cellsOf 3)) = xs[1]? := hg 1 _ rfl
    have e2 : DataW.trod enc Tryd.prog W 0 sp held fn 3 (([x0, x1, x2, x3, x4, x5, x6].drop 2).take (Tryd.prog.cellsOf 3)) = xs[2]? := hg 2 _ rfl
    have e3 : DataW.trod enc Tryd.prog W 0 sp held fn 24 (([x0, x1, x2, x3, x4, x5, x6].drop 3).take (Tryd.prog.cellsOf 24)) = xs[3]? := hg 3 _ rfl
    have e4 : DataW.trod enc Tryd.prog W 0 sp held fn 2 (([x0, x1, x2, x3, x4, x5, x6].drop 6).take (Tryd.prog.cellsOf 2)) = xs[4]? := hg 4 _ rfl
    rw [k3] at e0 e1 e2
    rw [ka] at e3
    rw [k2] at e4
    simp only [List.drop_zero, List.drop_succ_cons, List.take_succ_cons, List.take_zero] at e0 e1 e2 e3 e4
    have hx : ∀ j, j < 5 → ∃ y, xs[j]? = some y := fun j hj => ⟨_, List.getElem?_eq_getElem (by rw [hxl]; exact hj)⟩
    obtain ⟨y0, z0⟩ := hx 0 (by omega)
    obtain ⟨y1, z1⟩ := hx 1 (by omega)
    obtain ⟨y2, z2⟩ := hx 2 (by omega)
    obtain ⟨y3, z3⟩ := hx 3 (by omega)
    obtain ⟨y4, z4⟩ := hx 4 (by omega)
    obtain ⟨q0, q1, q2, nn, _, r0, r1, r2⟩ := trod_array3 Tryd.underlying24 k3 (e3.trans z3)
    obtain ⟨m0, f0, _, g0⟩ := DataW.trod_int Tryd.underlying3 (e0.trans z0)
    obtain ⟨m1, f1, _, g1⟩ := DataW.trod_int Tryd.underlying3 (e1.trans z1)
    obtain ⟨m2, f2, _, g2⟩ := DataW.trod_int Tryd.underlying3 (e2.trans z2)
    obtain ⟨m3, f3, _, g3⟩ := DataW.trod_int Tryd.underlying3 r0
    obtain ⟨m4, f4, _, g4⟩ := DataW.trod_int Tryd.underlying3 r1
    obtain ⟨m5, f5, _, g5⟩ := DataW.trod_int Tryd.underlying3 r2
    obtain ⟨m6, f6, _, g6⟩ := DataW.trod_int Tryd.underlying2 (e4.trans z4)
    simp only [List.cons.injEq, and_true] at f0 f1 f2 f3 f4 f5 f6
    refine ⟨⟨m0, m1, m2, m3, m4, m5, m6⟩, by rw [f0, f1, f2, f3, f4, f5, f6], fun z hz => ?_⟩
    simp only [wz, List.mem_cons, List.not_mem_nil, or_false] at hz
    rcases hz with rfl | rfl | rfl | rfl | rfl | rfl | rfl
    · exact bounds_i64 g0
    · exact bounds_i64 g1
    · exact bounds_i64 g2
    · exact bounds_i64 g3
    · exact bounds_i64 g4
    · exact bounds_i64 g5
    · exact bounds_i64 g6
theorem view_op {H : Type} {enc : TypeId × Value → H} {W : World} {sp : Nat → Bool} {held : Bool} {v : Value} {d : DataW H} {p : List MemPlace} {r : Reach} {b0 : Nat}
    (hv : Value.okWide Tryd.prog W r b0 23 v) (h : DataW.Trod enc Tryd.prog W 0 sp held 23 v d p) : ∃ o : Opn, v = .agg #[.int .i64 o.kind, .int .i64 o.book, .int .i64 o.units, .int .i64 o.cust, .int .i64 o.amount] ∧ OpnI o := by
  obtain ⟨cs, rfl, hsz⟩ := okWide_struct Tryd.underlying23 hv
  have c7 : Tryd.prog.cellsOf 23 = 5 := by kernel_rfl
  have k3 : Tryd.prog.cellsOf 3 = 1 := by kernel_rfl
  have k2 : Tryd.prog.cellsOf 2 = 1 := by kernel_rfl
  rw [c7] at hsz
  obtain ⟨fuel, hf⟩ := h
  obtain ⟨l, rfl⟩ : ∃ l : List Value, cs = l.toArray := ⟨cs.toList, by simp⟩
  match l, (by simpa using hsz : l.length = 5) with
  | [x0, x1, x2, x3, x4], _ =>
    have hf' : DataW.trod enc Tryd.prog W 0 sp held fuel 23 [x0, x1, x2, x3, x4] = some (d, p) := by simpa [Value.cells] using hf
    obtain ⟨xs, fn, _, _, _, hxl, hg⟩ := DataW.trod_struct Tryd.underlying23 hf'
    have e0 : DataW.trod enc Tryd.prog W 0 sp held fn 3 (([x0, x1, x2, x3, x4].drop 0).take (Tryd.prog.cellsOf 3)) = xs[0]? := hg 0 _ rfl
    have e1 : DataW.trod enc Tryd.prog W 0 sp held fn 3 (([x0, x1, x2, x3, x4].drop 1).take (Tryd.prog.cellsOf 3)) = xs[1]? := hg 1 _ rfl
    have e2 : DataW.trod enc Tryd.prog W 0 sp held fn 3 (([x0, x1, x2, x3, x4].drop 2).take (Tryd.prog.cellsOf 3)) = xs[2]? := hg 2 _ rfl
    have e3 : DataW.trod enc Tryd.prog W 0 sp held fn 3 (([x0, x1, x2, x3, x4].drop 3).take (Tryd.prog.cellsOf 3)) = xs[3]? := hg 3 _ rfl
    have e4 : DataW.trod enc Tryd.prog W 0 sp held fn 2 (([x0, x1, x2, x3, x4].drop 4).take (Tryd.prog.cellsOf 2)) = xs[4]? := hg 4 _ rfl
    rw [k3] at e0 e1 e2 e3
    rw [k2] at e4
    simp only [List.drop_zero, List.drop_succ_cons, List.take_succ_cons, List.take_zero] at e0 e1 e2 e3 e4
    have hx : ∀ j, j < 5 → ∃ y, xs[j]? = some y := fun j hj => ⟨_, List.getElem?_eq_getElem (by rw [hxl]; exact hj)⟩
    obtain ⟨y0, z0⟩ := hx 0 (by omega)
    obtain ⟨y1, z1⟩ := hx 1 (by omega)
    obtain ⟨y2, z2⟩ := hx 2 (by omega)
    obtain ⟨y3, z3⟩ := hx 3 (by omega)
    obtain ⟨y4, z4⟩ := hx 4 (by omega)
    obtain ⟨m0, f0, _, g0⟩ := DataW.trod_int Tryd.underlying3 (e0.trans z0)
    obtain ⟨m1, f1, _, g1⟩ := DataW.trod_int Tryd.underlying3 (e1.trans z1)
    obtain ⟨m2, f2, _, g2⟩ := DataW.trod_int Tryd.underlying3 (e2.trans z2)
    obtain ⟨m3, f3, _, g3⟩ := DataW.trod_int Tryd.underlying3 (e3.trans z3)
    obtain ⟨m4, f4, _, g4⟩ := DataW.trod_int Tryd.underlying2 (e4.trans z4)
    simp only [List.cons.injEq, and_true] at f0 f1 f2 f3 f4
    refine ⟨⟨m0, m1, m2, m3, m4⟩, by rw [f0, f1, f2, f3, f4], fun z hz => ?_⟩
    simp only [oz, List.mem_cons, List.not_mem_nil, or_false] at hz
    rcases hz with rfl | rfl | rfl | rfl | rfl
    · exact bounds_i64 g0
    · exact bounds_i64 g1
    · exact bounds_i64 g2
    · exact bounds_i64 g3
    · exact bounds_i64 g4
/-- A slice of bytes that came in reads as a list of bytes. -/
def Src (w : World) (v : Value) (bs : List UInt8) : Prop := ∃ A n c, v = .slice A n c ∧ (A = none → c = 0) ∧ n ≤ c ∧ c ≤ 9223372036854775807 ∧ Rb w (fun g => g < w.heap.size) A n bs
theorem view_bytes {H : Type} {enc : TypeId × Value → H} {W : World} {sp : Nat → Bool} {held : Bool} {v : Value} {d : DataW H} {p : List MemPlace} {r : Reach} {b0 : Nat}
    (hv : Value.okWide Tryd.prog W r b0 31 v) (h : DataW.Trod enc Tryd.prog W 0 sp held 31 v d p) : ∃ bs, Src W v bs := by
  obtain ⟨A, n, c, rfl⟩ := okWide_slice Tryd.underlying31 hv
  obtain ⟨fuel, hf⟩ := h
  have c5 : Tryd.prog.cellsOf 5 = 1 := by kernel_rfl
  rcases open_ints Tryd.underlying31 Tryd.underlying5 c5 hf with ⟨hcs, _⟩ | ⟨a, len, cap, zs, hcs, _, hl, hm, hz, _, hcell, hwz⟩
  · obtain ⟨rfl, rfl, rfl⟩ : A = none ∧ n = 0 ∧ c = 0 := by simpa [Value.cells] using hcs
    exact ⟨[], none, 0, 0, rfl, fun _ => rfl, Nat.le_refl _, by omega, Rb.none_⟩
  · obtain ⟨rfl, rfl, rfl⟩ : A = some a ∧ n = len ∧ c = cap := by simpa [Value.cells] using hcs
    have hle : n ≤ zs.length := by rw [hz]; split <;> omega
    unfold maxLen at hm
    refine ⟨(zs.take n).map fun z => UInt8.ofNat z.toNat, some a, n, c, rfl, (fun e => by cases e), hl, by omega, ⟨by simp; omega, fun hn => ⟨a, rfl, ?_, fun j x hj => ?_⟩⟩⟩
    · have := block_lt_of_cell (hcell 0 (by omega))
      rwa [adr_block] at this
    · rw [List.getElem?_map, List.getElem?_take] at hj
      split at hj
      · have hjz : j < zs.length := by omega
        rw [List.getElem?_eq_getElem hjz] at hj
        simp only [Option.map_some, Option.some.injEq] at hj
        have hw := bounds_u8 (hwz _ (List.getElem_mem hjz))
        rw [hcell j hjz, ← hj, ofNat_toNat (by omega), List.getD_eq_getElem?_getD, List.getElem?_eq_getElem hjz]
        simp only [Option.getD_some]
        congr 2
        omega
      · cases hj


variable {H : Type} {enc : TypeId × Value → H} {P : Program}
/-- The row's last step where all that was there is as it was. -/
theorem post_below {f : Func} {s : ChangeSpec} {apart fresh handsOn again : Bool} {W W' : World} {args : Array Value} {v : Value} {ds gs : List (DataW H)} {before pa pv : List MemPlace}
    (hW : DataW.Whole enc P f.params.toList s.vars apart W args.toList ds gs before)
    (hres : ∀ (b : Nat) (sp : Nat → Bool) (hd : Bool), DataW.TrodAll enc P W' b sp hd f.resultTypes.toList (v.resultList f.resultTypes.size) (s.fn H (ds ++ gs)).results [])
    (hargs : ∀ sp : Nat → Bool, (∀ p ∈ before, sp p.block = true) → DataW.TrodAll enc P W' 0 sp true f.params.toList args.toList (s.fn H (ds ++ gs)).args pa)
    (hvars : ∀ sp : Nat → Bool, (∀ p ∈ before, sp p.block = true) → DataW.TrodVars enc P W' sp s.vars (s.fn H (ds ++ gs)).vars pv)
    (hps : before = pa ++ pv) (hb : Below W.heap.size W W')
    (hok : ∀ (j : Nat) (t : TypeId) (r : Value), f.resultTypes[j]? = some t → (v.resultList f.resultTypes.size)[j]? = some r → Value.okWide P W' .any 0 t r) :
    s.post enc P f apart fresh handsOn again W args v W' := by
  have lower : ∀ p ∈ before, p.block < W.heap.size := fun p hp => hW.lt p hp
  have within : ∀ p ∈ before, (fun b => decide (b < W.heap.size)) p.block = true := fun p hp => decide_eq_true (lower p hp)
  refine ⟨ds, gs, before, [], pa, pv, hW, hres _ _ _, hargs _ within, hvars _ within, ?_, fun _ => ?_⟩
  · refine World.keptBut_mono (fun p hp => ⟨hp, ?_⟩) (hb.frame (· ∈ before))
    rw [hps, List.mem_append] at hp
    exact .inr hp
  · obtain ⟨_, _, _, _, _, marks, once⟩ := hW
    refine ⟨hok, _, _, ([] ++ pa) ++ pv, ⟨[] ++ pa, pv, trodAll_append (hargs _ (fun _ _ => rfl)) (hres _ _ _), hvars _ (fun _ _ => rfl), rfl, fun b off hp => ?_, fun ha => ?_⟩, fun p hp _ => ?_⟩
    · have hin : MemPlace.cell b off ∈ before := by simpa [hps] using hp
      exact (hb.frozen (lower _ hin)).trans (marks b off hin)
    · simpa [hps] using once ha
    · simpa [hps] using hp
end Wt
end Go.Proofs.YtidfpbnepdjagaaDoor

namespace Go.Proofs.YtidfpbnepdjagaaDoor
set_option maxRecDepth 100000
open Go.RowKit Go.Proofs.YtidfpbnepdjagaaDoor.Pk
namespace Wt

/-- What so many reads have done: the numbers lie in block b; block p is the reader's. -/
structure TkX (w : World) (p b : Nat) (Z : Array Value) (t : TypeId) (q : List Int × St) (w' : World) : Prop where
  rx : Rx w' p q.2
  bl : w'.heap[b]? = some (Obj.cells (setL Z 0 q.1) t (0, 0))
  gr : Gr2 w p b w'
theorem tx_step {w wr w2 : World} {p b k : Nat} {Z : Array Value} {t : TypeId} {s : St} (h : TkX w p b Z t (rdk k s) wr) (hpb : p ≠ b)
    (h2 : RxTo wr p (rInt (-9223372036854775808) 9223372036854775807 (rdk k s).2).2 w2) :
    TkX w p b Z t (rdk (k + 1) s) (w2.setCell ⟨b, k, none⟩ (.int .i64 (rInt (-9223372036854775808) 9223372036854775807 (rdk k s).2).1)) := by
  have hb2 : w2.heap[b]? = some (Obj.cells (setL Z 0 (rdk k s).1) t (0, 0)) := (h2.gr.block b (lt_some h.bl) (fun e => hpb (by injection e with e; exact e.symm))).trans h.bl
  refine ⟨h2.rx.same (Below.heap_setCell _ ⟨b, k, none⟩ _ p hpb), ?_, h.gr.trans ((Gr2.of_p h2.gr).trans (Gr2.of_b (grown_set _ b _ _)))⟩
  rw [one_set hb2, rdk, setL_snoc, rdk_len, Nat.zero_add]
theorem tx_first {w w1 : World} {p : Nat} {s : St} {t tz : TypeId} {Z Z' : Array Value} (h1 : RxTo (w.alloc (.cells Z tz)) p (rInt (-9223372036854775808) 9223372036854775807 s).2 w1)
    (hZ : Z' = Z.setIfInBounds 0 (.int .i64 (rInt (-9223372036854775808) 9223372036854775807 s).1)) :
    TkX w p w1.heap.size Z t (rdk 1 s) (w1.alloc (.cells Z' t)) := by
  refine ⟨h1.rx.same (heap_alloc_old _ _ h1.rx.lt), ?_, (Gr2.of_below ((Below.refl _ w).alloc (Nat.le_refl _) _)).trans ((Gr2.of_p h1.gr).trans (Gr2.of_below ((Below.refl _ w1).alloc (Nat.le_refl _) _)))⟩
  rw [heap_alloc_new, hZ]
  rfl
theorem boxW (s : St) (x : Wan) (hx : x = wanOf (rdk 7 s).1) : setL #[.int .i64 0, .int .i64 0, .int .i64 0, .int .i64 0, .int .i64 0, .int .i64 0, .int .i64 0] 0 (rdk 7 s).1 = #[.int .i64 x.book, .int .i64 x.cust, .int .i64 x.dead, .int .i64 x.u0, .int .i64 x.u1, .int .i64 x.u2, .int .i64 x.price] := by
  have hl := rdk_len 7 s
  rw [hx]
  generalize (rdk 7 s).1 = l at hl
  match l, hl with
  | [a, b, c, d, e, f, g], _ => rfl
theorem boxO (s : St) (x : Opn) (hx : x = opnOf (rdk 5 s).1) : setL #[.int .i64 0, .int .i64 0, .int .i64 0, .int .i64 0, .int .i64 0] 0 (rdk 5 s).1 = #[.int .i64 x.kind, .int .i64 x.book, .int .i64 x.units, .int .i64 x.cust, .int .i64 x.amount] := by
  have hl := rdk_len 5 s
  rw [hx]
  generalize (rdk 5 s).1 = l at hl
  match l, hl with
  | [a, b, c, d, e], _ => rfl

theorem take_results : Tryd.f68.results = #[.cell 2 26] := by kernel_rfl
set_option maxHeartbeats 3200000 in
set_option maxRecDepth 100000 in
theorem rtake (p : Nat) (w : World) (s : St) (h : Rx w p s) (x : Wan) (hx : x = wanOf (rdk 7 s).1) :
    Calls Tryd.prog 68 #[.pointer (some ⟨p, 0, none⟩)] w fun e w' => e = .returned (.agg #[.int .i64 x.book, .int .i64 x.cust, .int .i64 x.dead, .int .i64 x.u0, .int .i64 x.u1, .int .i64 x.u2, .int .i64 x.price]) ∧ RxTo w p (rdk 7 s).2 w' := by
  have hpw := h.lt
  obtain ⟨v0, hv0⟩ : ∃ v, v = (rInt (-9223372036854775808) 9223372036854775807 s).1 := ⟨_, rfl⟩
  have C0 : Hid (Calls Tryd.prog 36 #[.pointer (some ⟨p, 0, none⟩), .int .i64 (-9223372036854775808), .int .i64 9223372036854775807] (w.alloc (.cells #[.int .i64 0, .int .i64 0, .int .i64 0, .int .i64 0, .int .i64 0, .int .i64 0, .int .i64 0] 26)) fun e w' => e = .returned (.int .i64 v0) ∧ RxTo (w.alloc (.cells #[.int .i64 0, .int .i64 0, .int .i64 0, .int .i64 0, .int .i64 0, .int .i64 0, .int .i64 0] 26)) p (rInt (-9223372036854775808) 9223372036854775807 s).2 w') := by
    rw [hv0]; exact xint p _ _ _ _ (h.same (heap_alloc_old _ _ hpw))
  replace hv0 := Lib.hid hv0
  go_enter Tryd.func68, Tryd.ntmps68
  go_wp2_with fail
  refine C0.out.mono ?_
  rintro e w1 ⟨rfl, r0⟩
  have ha1 : Hid (w1.heap[w.heap.size]? = some (.cells #[.int .i64 0, .int .i64 0, .int .i64 0, .int .i64 0, .int .i64 0, .int .i64 0, .int .i64 0] 26 (0, 0))) := (r0.gr.block _ (by simp) (fun e => by injection e with e; omega)).trans (heap_alloc_new _ _)
  have la1 := lt_some ha1.out
  have hp1 : p < w1.heap.size := r0.rx.lt
  have h1 : Hid (TkX w p w1.heap.size #[.int .i64 0, .int .i64 0, .int .i64 0, .int .i64 0, .int .i64 0, .int .i64 0, .int .i64 0] 26 (rdk 1 s) (w1.alloc (.cells #[.int .i64 v0, .int .i64 0, .int .i64 0, .int .i64 0, .int .i64 0, .int .i64 0, .int .i64 0] 26))) := tx_first r0 (by rw [hv0.out]; rfl)
  clear r0 C0 hv0
  obtain ⟨W1, eW1⟩ : ∃ z, z = w1.alloc (.cells #[.int .i64 v0, .int .i64 0, .int .i64 0, .int .i64 0, .int .i64 0, .int .i64 0, .int .i64 0] 26) := ⟨_, rfl⟩
  have hpb : p ≠ w1.heap.size := by omega
  have hab : w.heap.size ≠ w1.heap.size := by omega
  have hwb : w.heap.size < w1.heap.size := la1
  have haw : Hid (W1.heap[w.heap.size]? = some (.cells #[.int .i64 0, .int .i64 0, .int .i64 0, .int .i64 0, .int .i64 0, .int .i64 0, .int .i64 0] 26 (0, 0))) := by rw [eW1]; exact stay1 ha1 _
  go_upto_region 3 with fail
  rw [← eW1] at h1 ⊢
  clear eW1
  generalize w1.heap.size = b at *
  generalize hsz : w.heap.size = a at *
  have hap : a ≠ p := by omega
  have ha1' := haw
  clear ha1
  have ha1 := ha1'
  clear ha1' haw la1 hp1
  obtain ⟨v1, hv1⟩ : ∃ v, v = (rInt (-9223372036854775808) 9223372036854775807 (rdk 1 s).2).1 := ⟨_, rfl⟩
  have C1 : Hid (Calls Tryd.prog 36 #[.pointer (some ⟨p, 0, none⟩), .int .i64 (-9223372036854775808), .int .i64 9223372036854775807] W1 fun e w' => e = .returned (.int .i64 v1) ∧ RxTo W1 p (rInt (-9223372036854775808) 9223372036854775807 (rdk 1 s).2).2 w') := by rw [hv1]; exact xint p _ _ _ _ h1.out.rx
  replace hv1 := Lib.hid hv1
  go_wp2_with fail
  refine C1.out.mono ?_
  rintro e u1 ⟨rfl, r1⟩
  have hb1 : u1.heap[b]? = _ := (r1.gr.block b (lt_some h1.out.bl) (fun e => hpb (by injection e with e; exact e.symm))).trans h1.out.bl
  have ha10 : Hid (u1.heap[a]? = some (.cells #[.int .i64 0, .int .i64 0, .int .i64 0, .int .i64 0, .int .i64 0, .int .i64 0, .int .i64 0] 26 (0, 0))) := (r1.gr.block a (lt_some ha1.out) (fun e => hap (by injection e))).trans ha1.out
  have ha2 : Hid ((u1.setCell ⟨b, 1, none⟩ (.int .i64 v1)).heap[a]? = some (.cells #[.int .i64 0, .int .i64 0, .int .i64 0, .int .i64 0, .int .i64 0, .int .i64 0, .int .i64 0] 26 (0, 0))) := (Below.heap_setCell _ ⟨b, 1, none⟩ _ a hab).trans ha10.out
  obtain ⟨y1, hy1⟩ : ∃ y, (setL #[.int .i64 0, .int .i64 0, .int .i64 0, .int .i64 0, .int .i64 0, .int .i64 0, .int .i64 0] 0 (rdk 1 s).1)[1]? = some y := ⟨_, Array.getElem?_eq_getElem (by rw [setL_size]; decide)⟩
  have d1 : u1.cell? ⟨b, 1, none⟩ = some y1 := (one_at hb1).trans hy1
  have f1 : u1.frozen? ⟨b, 1, none⟩ = false := one_free hb1
  have h2 : Hid (TkX w p b #[.int .i64 0, .int .i64 0, .int .i64 0, .int .i64 0, .int .i64 0, .int .i64 0, .int .i64 0] 26 (rdk 2 s) (u1.setCell ⟨b, 1, none⟩ (.int .i64 v1))) := by rw [hv1.out]; exact tx_step h1.out hpb r1
  clear r1 hb1 hy1 C1 h1 hv1 ha1 ha10
  obtain ⟨v2, hv2⟩ : ∃ v, v = (rInt (-9223372036854775808) 9223372036854775807 (rdk 2 s).2).1 := ⟨_, rfl⟩
  have C2 : Hid (Calls Tryd.prog 36 #[.pointer (some ⟨p, 0, none⟩), .int .i64 (-9223372036854775808), .int .i64 9223372036854775807] (u1.setCell ⟨b, 1, none⟩ (.int .i64 v1)) fun e w' => e = .returned (.int .i64 v2) ∧ RxTo (u1.setCell ⟨b, 1, none⟩ (.int .i64 v1)) p (rInt (-9223372036854775808) 9223372036854775807 (rdk 2 s).2).2 w') := by rw [hv2]; exact xint p _ _ _ _ h2.out.rx
  replace hv2 := Lib.hid hv2
  go_wp2_with fail
  refine C2.out.mono ?_
  rintro e u2 ⟨rfl, r2⟩
  have hb2 : u2.heap[b]? = _ := (r2.gr.block b (lt_some h2.out.bl) (fun e => hpb (by injection e with e; exact e.symm))).trans h2.out.bl
  have ha20 : Hid (u2.heap[a]? = some (.cells #[.int .i64 0, .int .i64 0, .int .i64 0, .int .i64 0, .int .i64 0, .int .i64 0, .int .i64 0] 26 (0, 0))) := (r2.gr.block a (lt_some ha2.out) (fun e => hap (by injection e))).trans ha2.out
  have ha3 : Hid ((u2.setCell ⟨b, 2, none⟩ (.int .i64 v2)).heap[a]? = some (.cells #[.int .i64 0, .int .i64 0, .int .i64 0, .int .i64 0, .int .i64 0, .int .i64 0, .int .i64 0] 26 (0, 0))) := (Below.heap_setCell _ ⟨b, 2, none⟩ _ a hab).trans ha20.out
  obtain ⟨y2, hy2⟩ : ∃ y, (setL #[.int .i64 0, .int .i64 0, .int .i64 0, .int .i64 0, .int .i64 0, .int .i64 0, .int .i64 0] 0 (rdk 2 s).1)[2]? = some y := ⟨_, Array.getElem?_eq_getElem (by rw [setL_size]; decide)⟩
  have d2 : u2.cell? ⟨b, 2, none⟩ = some y2 := (one_at hb2).trans hy2
  have f2 : u2.frozen? ⟨b, 2, none⟩ = false := one_free hb2
  have h3 : Hid (TkX w p b #[.int .i64 0, .int .i64 0, .int .i64 0, .int .i64 0, .int .i64 0, .int .i64 0, .int .i64 0] 26 (rdk 3 s) (u2.setCell ⟨b, 2, none⟩ (.int .i64 v2))) := by rw [hv2.out]; exact tx_step h2.out hpb r2
  clear r2 hb2 hy2 C2 h2 hv2 ha2 ha20
  obtain ⟨v3, hv3⟩ : ∃ v, v = (rInt (-9223372036854775808) 9223372036854775807 (rdk 3 s).2).1 := ⟨_, rfl⟩
  have C3 : Hid (Calls Tryd.prog 36 #[.pointer (some ⟨p, 0, none⟩), .int .i64 (-9223372036854775808), .int .i64 9223372036854775807] (u2.setCell ⟨b, 2, none⟩ (.int .i64 v2)) fun e w' => e = .returned (.int .i64 v3) ∧ RxTo (u2.setCell ⟨b, 2, none⟩ (.int .i64 v2)) p (rInt (-9223372036854775808) 9223372036854775807 (rdk 3 s).2).2 w') := by rw [hv3]; exact xint p _ _ _ _ h3.out.rx
  replace hv3 := Lib.hid hv3
  go_wp2_with fail
  refine wp_loop_rounds 4 ?_
  rw [rounds_succ]
  go_wp2_with fail
  refine C3.out.mono ?_
  rintro e u3 ⟨rfl, r3⟩
  have hb3 : u3.heap[b]? = _ := (r3.gr.block b (lt_some h3.out.bl) (fun e => hpb (by injection e with e; exact e.symm))).trans h3.out.bl
  have ha30 : Hid (u3.heap[a]? = some (.cells #[.int .i64 0, .int .i64 0, .int .i64 0, .int .i64 0, .int .i64 0, .int .i64 0, .int .i64 0] 26 (0, 0))) := (r3.gr.block a (lt_some ha3.out) (fun e => hap (by injection e))).trans ha3.out
  have ha4 : Hid ((u3.setCell ⟨b, 3, none⟩ (.int .i64 v3)).heap[a]? = some (.cells #[.int .i64 0, .int .i64 0, .int .i64 0, .int .i64 0, .int .i64 0, .int .i64 0, .int .i64 0] 26 (0, 0))) := (Below.heap_setCell _ ⟨b, 3, none⟩ _ a hab).trans ha30.out
  obtain ⟨y3, hy3⟩ : ∃ y, (setL #[.int .i64 0, .int .i64 0, .int .i64 0, .int .i64 0, .int .i64 0, .int .i64 0, .int .i64 0] 0 (rdk 3 s).1)[3]? = some y := ⟨_, Array.getElem?_eq_getElem (by rw [setL_size]; decide)⟩
  have d3 : u3.cell? ⟨b, 3, none⟩ = some y3 := (one_at hb3).trans hy3
  have f3 : u3.frozen? ⟨b, 3, none⟩ = false := one_free hb3
  have h4 : Hid (TkX w p b #[.int .i64 0, .int .i64 0, .int .i64 0, .int .i64 0, .int .i64 0, .int .i64 0, .int .i64 0] 26 (rdk 4 s) (u3.setCell ⟨b, 3, none⟩ (.int .i64 v3))) := by rw [hv3.out]; exact tx_step h3.out hpb r3
  clear r3 hb3 hy3 C3 h3 hv3 ha3 ha30
  obtain ⟨v4, hv4⟩ : ∃ v, v = (rInt (-9223372036854775808) 9223372036854775807 (rdk 4 s).2).1 := ⟨_, rfl⟩
  have C4 : Hid (Calls Tryd.prog 36 #[.pointer (some ⟨p, 0, none⟩), .int .i64 (-9223372036854775808), .int .i64 9223372036854775807] (u3.setCell ⟨b, 3, none⟩ (.int .i64 v3)) fun e w' => e = .returned (.int .i64 v4) ∧ RxTo (u3.setCell ⟨b, 3, none⟩ (.int .i64 v3)) p (rInt (-9223372036854775808) 9223372036854775807 (rdk 4 s).2).2 w') := by rw [hv4]; exact xint p _ _ _ _ h4.out.rx
  replace hv4 := Lib.hid hv4
  go_wp2_with fail
  rw [rounds_succ]
  go_wp2_with fail
  refine C4.out.mono ?_
  rintro e u4 ⟨rfl, r4⟩
  have hb4 : u4.heap[b]? = _ := (r4.gr.block b (lt_some h4.out.bl) (fun e => hpb (by injection e with e; exact e.symm))).trans h4.out.bl
  have ha40 : Hid (u4.heap[a]? = some (.cells #[.int .i64 0, .int .i64 0, .int .i64 0, .int .i64 0, .int .i64 0, .int .i64 0, .int .i64 0] 26 (0, 0))) := (r4.gr.block a (lt_some ha4.out) (fun e => hap (by injection e))).trans ha4.out
  have ha5 : Hid ((u4.setCell ⟨b, 4, none⟩ (.int .i64 v4)).heap[a]? = some (.cells #[.int .i64 0, .int .i64 0, .int .i64 0, .int .i64 0, .int .i64 0, .int .i64 0, .int .i64 0] 26 (0, 0))) := (Below.heap_setCell _ ⟨b, 4, none⟩ _ a hab).trans ha40.out
  obtain ⟨y4, hy4⟩ : ∃ y, (setL #[.int .i64 0, .int .i64 0, .int .i64 0, .int .i64 0, .int .i64 0, .int .i64 0, .int .i64 0] 0 (rdk 4 s).1)[4]? = some y := ⟨_, Array.getElem?_eq_getElem (by rw [setL_size]; decide)⟩
  have d4 : u4.cell? ⟨b, 4, none⟩ = some y4 := (one_at hb4).trans hy4
  have f4 : u4.frozen? ⟨b, 4, none⟩ = false := one_free hb4
  have h5 : Hid (TkX w p b #[.int .i64 0, .int .i64 0, .int .i64 0, .int .i64 0, .int .i64 0, .int .i64 0, .int .i64 0] 26 (rdk 5 s) (u4.setCell ⟨b, 4, none⟩ (.int .i64 v4))) := by rw [hv4.out]; exact tx_step h4.out hpb r4
  clear r4 hb4 hy4 C4 h4 hv4 ha4 ha40
  obtain ⟨v5, hv5⟩ : ∃ v, v = (rInt (-9223372036854775808) 9223372036854775807 (rdk 5 s).2).1 := ⟨_, rfl⟩
  have C5 : Hid (Calls Tryd.prog 36 #[.pointer (some ⟨p, 0, none⟩), .int .i64 (-9223372036854775808), .int .i64 9223372036854775807] (u4.setCell ⟨b, 4, none⟩ (.int .i64 v4)) fun e w' => e = .returned (.int .i64 v5) ∧ RxTo (u4.setCell ⟨b, 4, none⟩ (.int .i64 v4)) p (rInt (-9223372036854775808) 9223372036854775807 (rdk 5 s).2).2 w') := by rw [hv5]; exact xint p _ _ _ _ h5.out.rx
  replace hv5 := Lib.hid hv5
  go_wp2_with fail
  rw [rounds_succ]
  go_wp2_with fail
  refine C5.out.mono ?_
  rintro e u5 ⟨rfl, r5⟩
  have hb5 : u5.heap[b]? = _ := (r5.gr.block b (lt_some h5.out.bl) (fun e => hpb (by injection e with e; exact e.symm))).trans h5.out.bl
  have ha50 : Hid (u5.heap[a]? = some (.cells #[.int .i64 0, .int .i64 0, .int .i64 0, .int .i64 0, .int .i64 0, .int .i64 0, .int .i64 0] 26 (0, 0))) := (r5.gr.block a (lt_some ha5.out) (fun e => hap (by injection e))).trans ha5.out
  have ha6 : Hid ((u5.setCell ⟨b, 5, none⟩ (.int .i64 v5)).heap[a]? = some (.cells #[.int .i64 0, .int .i64 0, .int .i64 0, .int .i64 0, .int .i64 0, .int .i64 0, .int .i64 0] 26 (0, 0))) := (Below.heap_setCell _ ⟨b, 5, none⟩ _ a hab).trans ha50.out
  obtain ⟨y5, hy5⟩ : ∃ y, (setL #[.int .i64 0, .int .i64 0, .int .i64 0, .int .i64 0, .int .i64 0, .int .i64 0, .int .i64 0] 0 (rdk 5 s).1)[5]? = some y := ⟨_, Array.getElem?_eq_getElem (by rw [setL_size]; decide)⟩
  have d5 : u5.cell? ⟨b, 5, none⟩ = some y5 := (one_at hb5).trans hy5
  have f5 : u5.frozen? ⟨b, 5, none⟩ = false := one_free hb5
  have h6 : Hid (TkX w p b #[.int .i64 0, .int .i64 0, .int .i64 0, .int .i64 0, .int .i64 0, .int .i64 0, .int .i64 0] 26 (rdk 6 s) (u5.setCell ⟨b, 5, none⟩ (.int .i64 v5))) := by rw [hv5.out]; exact tx_step h5.out hpb r5
  clear r5 hb5 hy5 C5 h5 hv5 ha5 ha50
  obtain ⟨v6, hv6⟩ : ∃ v, v = (rInt (-9223372036854775808) 9223372036854775807 (rdk 6 s).2).1 := ⟨_, rfl⟩
  have C6 : Hid (Calls Tryd.prog 36 #[.pointer (some ⟨p, 0, none⟩), .int .i64 (-9223372036854775808), .int .i64 9223372036854775807] (u5.setCell ⟨b, 5, none⟩ (.int .i64 v5)) fun e w' => e = .returned (.int .i64 v6) ∧ RxTo (u5.setCell ⟨b, 5, none⟩ (.int .i64 v5)) p (rInt (-9223372036854775808) 9223372036854775807 (rdk 6 s).2).2 w') := by rw [hv6]; exact xint p _ _ _ _ h6.out.rx
  replace hv6 := Lib.hid hv6
  go_wp2_with fail
  rw [rounds_succ]
  go_wp2_with fail
  refine C6.out.mono ?_
  rintro e u6 ⟨rfl, r6⟩
  have hb6 : u6.heap[b]? = _ := (r6.gr.block b (lt_some h6.out.bl) (fun e => hpb (by injection e with e; exact e.symm))).trans h6.out.bl
  have ha60 : Hid (u6.heap[a]? = some (.cells #[.int .i64 0, .int .i64 0, .int .i64 0, .int .i64 0, .int .i64 0, .int .i64 0, .int .i64 0] 26 (0, 0))) := (r6.gr.block a (lt_some ha6.out) (fun e => hap (by injection e))).trans ha6.out
  have ha7 : Hid ((u6.setCell ⟨b, 6, none⟩ (.int .i64 v6)).heap[a]? = some (.cells #[.int .i64 0, .int .i64 0, .int .i64 0, .int .i64 0, .int .i64 0, .int .i64 0, .int .i64 0] 26 (0, 0))) := (Below.heap_setCell _ ⟨b, 6, none⟩ _ a hab).trans ha60.out
  obtain ⟨y6, hy6⟩ : ∃ y, (setL #[.int .i64 0, .int .i64 0, .int .i64 0, .int .i64 0, .int .i64 0, .int .i64 0, .int .i64 0] 0 (rdk 6 s).1)[6]? = some y := ⟨_, Array.getElem?_eq_getElem (by rw [setL_size]; decide)⟩
  have d6 : u6.cell? ⟨b, 6, none⟩ = some y6 := (one_at hb6).trans hy6
  have f6 : u6.frozen? ⟨b, 6, none⟩ = false := one_free hb6
  have h7 : Hid (TkX w p b #[.int .i64 0, .int .i64 0, .int .i64 0, .int .i64 0, .int .i64 0, .int .i64 0, .int .i64 0] 26 (rdk 7 s) (u6.setCell ⟨b, 6, none⟩ (.int .i64 v6))) := by rw [hv6.out]; exact tx_step h6.out hpb r6
  clear r6 hb6 hy6 C6 h6 hv6 ha6 ha60
  have hb7 : Hid ((u6.setCell ⟨b, 6, none⟩ (.int .i64 v6)).heap[b]? = some (.cells #[.int .i64 x.book, .int .i64 x.cust, .int .i64 x.dead, .int .i64 x.u0, .int .i64 x.u1, .int .i64 x.u2, .int .i64 x.price] 26 (0, 0))) := by unfold Hid; rw [h7.out.bl, boxW s x hx]
  have g7 : Hid (RxTo w p (rdk 7 s).2 ((u6.setCell ⟨b, 6, none⟩ (.int .i64 v6)).setRow a #[.int .i64 x.book, .int .i64 x.cust, .int .i64 x.dead, .int .i64 x.u0, .int .i64 x.u1, .int .i64 x.u2, .int .i64 x.price])) := by
    have hg := h7.out.gr
    refine ⟨h7.out.rx.same (setRow_other _ _ _ _ (fun e => hap e.symm)), hg.os, hg.tape, hg.output, by have := hg.size; simpa [World.setRow] using this, fun i hi hne => ?_⟩
    rw [setRow_other _ _ _ _ (by omega : i ≠ a)]
    exact hg.block i hi (fun e => hne (by rw [e])) (by omega)
  go_wp2_with (first | (refine wpList_load_row rfl 26 (.tmp 5) rfl b rfl 26 #[.int .i64 x.book, .int .i64 x.cust, .int .i64 x.dead, .int .i64 x.u0, .int .i64 x.u1, .int .i64 x.u2, .int .i64 x.price] (0, 0) _ hb7.out Tryd.underlying26 rfl want_info ?_) | (refine wpList_store_row rfl 26 (.tmp 2) (.tmp 38) rfl a #[.int .i64 x.book, .int .i64 x.cust, .int .i64 x.dead, .int .i64 x.u0, .int .i64 x.u1, .int .i64 x.u2, .int .i64 x.price] rfl rfl 26 #[.int .i64 0, .int .i64 0, .int .i64 0, .int .i64 0, .int .i64 0, .int .i64 0, .int .i64 0] ha7.out want_info rfl (one7 _ _ _ _ _ _ _) ?_))
  refine bodyPost_ret (results_cell_row take_results _ _ a 26 #[.int .i64 x.book, .int .i64 x.cust, .int .i64 x.dead, .int .i64 x.u0, .int .i64 x.u1, .int .i64 x.u2, .int .i64 x.price] (0, 0) _ rfl (setRow_heap _ _ _ _ _ _ ha7.out) Tryd.underlying26 rfl want_info) rfl ?_
  exact ⟨rfl, g7.out⟩
end Wt
end Go.Proofs.YtidfpbnepdjagaaDoor

namespace Go.Proofs.YtidfpbnepdjagaaDoor
open Go.RowKit Go.Proofs.YtidfpbnepdjagaaDoor.Pk
namespace Wt

theorem rgetop_results : Tryd.f37.results = #[.cell 2 23, .tmp 3] := by kernel_rfl
set_option maxHeartbeats 6400000 in
set_option maxRecDepth 100000 in
theorem rgetop_any (w : World) (bs : List UInt8) (hl : bs.length ≤ 400) :
    Calls Tryd.prog 37 #[.string (str bs)] w (GetOTo w (getO (some bs))) := by
  obtain ⟨w0, e0⟩ : ∃ z, z = (w.alloc (.cells #[.int .i64 0, .int .i64 0, .int .i64 0, .int .i64 0, .int .i64 0] 23)).alloc (.cells #[.string (str bs), .bool false] 72) := ⟨_, rfl⟩
  have be0 : Hid (Below w.heap.size w w0) := by rw [e0]; exact ((Below.refl _ w).alloc (Nat.le_refl _) _).alloc (by simp) _
  have ha0 : Hid (w0.heap[w.heap.size]? = some (.cells #[.int .i64 0, .int .i64 0, .int .i64 0, .int .i64 0, .int .i64 0] 23 (0, 0))) := by rw [e0]; exact heap_alloc2_old _ _ _
  have hR0 : Rx w0 (w.heap.size + 1) (some bs) := by rw [e0]; exact ⟨bs, false, heap_alloc2_new _ _ _, hl, rfl⟩
  have hsz : w.heap.size + 1 < w0.heap.size := by rw [e0]; simp
  obtain ⟨v0, hv0⟩ : ∃ v, v = (rInt (-9223372036854775808) 9223372036854775807 (some bs)).1 := ⟨_, rfl⟩
  have C0 : Hid (Calls Tryd.prog 36 #[.pointer (some ⟨w.heap.size + 1, 0, none⟩), .int .i64 (-9223372036854775808), .int .i64 9223372036854775807] w0 fun e w' => e = .returned (.int .i64 v0) ∧ RxTo w0 (w.heap.size + 1) (rInt (-9223372036854775808) 9223372036854775807 (some bs)).2 w') := by
    rw [hv0]; exact xint _ _ _ _ _ hR0
  rw [e0] at C0
  replace hv0 := Lib.hid hv0
  clear hR0
  go_enter Tryd.func37, Tryd.ntmps37
  go_wp2_with fail
  refine C0.out.mono ?_
  rintro e w1 ⟨rfl, r0⟩
  rw [← e0] at r0
  have ha1x : Hid (w1.heap[w.heap.size]? = some (.cells #[.int .i64 0, .int .i64 0, .int .i64 0, .int .i64 0, .int .i64 0] 23 (0, 0))) := (r0.gr.block _ (by omega) (fun e => by injection e with e; omega)).trans ha0.out
  have hp1 : w.heap.size + 1 < w1.heap.size := r0.rx.lt
  have be1 : Hid (Below w.heap.size w w1) := be0.out.trans ⟨r0.gr.os, r0.gr.tape, r0.gr.output, r0.gr.size, fun i hi => r0.gr.block i (by omega) (fun e => by injection e with e; omega)⟩
  have h1 : Hid (TkX w1 (w.heap.size + 1) w1.heap.size #[.int .i64 0, .int .i64 0, .int .i64 0, .int .i64 0, .int .i64 0] 23 (rdk 1 (some bs)) (w1.alloc (.cells #[.int .i64 v0, .int .i64 0, .int .i64 0, .int .i64 0, .int .i64 0] 23))) := by
    refine ⟨r0.rx.same (heap_alloc_old _ _ r0.rx.lt), ?_, Gr2.of_below ((Below.refl _ w1).alloc (Nat.le_refl _) _)⟩
    rw [heap_alloc_new, hv0.out]
    rfl
  clear r0 C0 hv0 be0 ha0 hsz e0
  obtain ⟨W1, eW1⟩ : ∃ z, z = w1.alloc (.cells #[.int .i64 v0, .int .i64 0, .int .i64 0, .int .i64 0, .int .i64 0] 23) := ⟨_, rfl⟩
  have ha1 : Hid (W1.heap[w.heap.size]? = some (.cells #[.int .i64 0, .int .i64 0, .int .i64 0, .int .i64 0, .int .i64 0] 23 (0, 0))) := by rw [eW1]; exact stay1 ha1x _
  clear ha1x
  go_upto_region 4 with fail
  rw [← eW1] at h1 ⊢
  clear eW1
  have bsz := be1.out.size
  obtain ⟨p, ep⟩ : ∃ z, z = w.heap.size + 1 := ⟨_, rfl⟩
  obtain ⟨b, eb⟩ : ∃ z, z = w1.heap.size := ⟨_, rfl⟩
  obtain ⟨a, ea⟩ : ∃ z, z = w.heap.size := ⟨_, rfl⟩
  have hpb : p ≠ b := by omega
  have hap : a ≠ p := by omega
  have hab : a ≠ b := by omega
  have hpa : a ≤ p := by omega
  have hba : a ≤ b := by omega
  rw [← ep, ← eb] at h1
  rw [← ep]
  rw [← eb]
  rw [← ea] at ha1
  rw [← ea]
  replace ep := Lib.hid ep
  replace ea := Lib.hid ea
  replace eb := Lib.hid eb
  clear hp1 bsz
  obtain ⟨v1, hv1⟩ : ∃ v, v = (rInt (-9223372036854775808) 9223372036854775807 (rdk 1 (some bs)).2).1 := ⟨_, rfl⟩
  have C1 : Hid (Calls Tryd.prog 36 #[.pointer (some ⟨p, 0, none⟩), .int .i64 (-9223372036854775808), .int .i64 9223372036854775807] W1 fun e w' => e = .returned (.int .i64 v1) ∧ RxTo W1 p (rInt (-9223372036854775808) 9223372036854775807 (rdk 1 (some bs)).2).2 w') := by rw [hv1]; exact xint p _ _ _ _ h1.out.rx
  replace hv1 := Lib.hid hv1
  go_wp2_with fail
  refine C1.out.mono ?_
  rintro e u1 ⟨rfl, r1⟩
  have hb1 : u1.heap[b]? = _ := (r1.gr.block b (lt_some h1.out.bl) (fun e => hpb (by injection e with e; exact e.symm))).trans h1.out.bl
  have ha10 : Hid (u1.heap[a]? = some (.cells #[.int .i64 0, .int .i64 0, .int .i64 0, .int .i64 0, .int .i64 0] 23 (0, 0))) := (r1.gr.block a (lt_some ha1.out) (fun e => hap (by injection e))).trans ha1.out
  have ha2 : Hid ((u1.setCell ⟨b, 1, none⟩ (.int .i64 v1)).heap[a]? = some (.cells #[.int .i64 0, .int .i64 0, .int .i64 0, .int .i64 0, .int .i64 0] 23 (0, 0))) := (Below.heap_setCell _ ⟨b, 1, none⟩ _ a hab).trans ha10.out
  obtain ⟨y1, hy1⟩ : ∃ y, (setL #[.int .i64 0, .int .i64 0, .int .i64 0, .int .i64 0, .int .i64 0] 0 (rdk 1 (some bs)).1)[1]? = some y := ⟨_, Array.getElem?_eq_getElem (by rw [setL_size]; decide)⟩
  have d1 : u1.cell? ⟨b, 1, none⟩ = some y1 := (one_at hb1).trans hy1
  have f1 : u1.frozen? ⟨b, 1, none⟩ = false := one_free hb1
  have h2 : Hid (TkX w1 p b #[.int .i64 0, .int .i64 0, .int .i64 0, .int .i64 0, .int .i64 0] 23 (rdk 2 (some bs)) (u1.setCell ⟨b, 1, none⟩ (.int .i64 v1))) := by rw [hv1.out]; exact tx_step h1.out hpb r1
  clear r1 hb1 hy1 C1 h1 hv1 ha1 ha10
  obtain ⟨v2, hv2⟩ : ∃ v, v = (rInt (-9223372036854775808) 9223372036854775807 (rdk 2 (some bs)).2).1 := ⟨_, rfl⟩
  have C2 : Hid (Calls Tryd.prog 36 #[.pointer (some ⟨p, 0, none⟩), .int .i64 (-9223372036854775808), .int .i64 9223372036854775807] (u1.setCell ⟨b, 1, none⟩ (.int .i64 v1)) fun e w' => e = .returned (.int .i64 v2) ∧ RxTo (u1.setCell ⟨b, 1, none⟩ (.int .i64 v1)) p (rInt (-9223372036854775808) 9223372036854775807 (rdk 2 (some bs)).2).2 w') := by rw [hv2]; exact xint p _ _ _ _ h2.out.rx
  replace hv2 := Lib.hid hv2
  go_wp2_with fail
  refine C2.out.mono ?_
  rintro e u2 ⟨rfl, r2⟩
  have hb2 : u2.heap[b]? = _ := (r2.gr.block b (lt_some h2.out.bl) (fun e => hpb (by injection e with e; exact e.symm))).trans h2.out.bl
  have ha20 : Hid (u2.heap[a]? = some (.cells #[.int .i64 0, .int .i64 0, .int .i64 0, .int .i64 0, .int .i64 0] 23 (0, 0))) := (r2.gr.block a (lt_some ha2.out) (fun e => hap (by injection e))).trans ha2.out
  have ha3 : Hid ((u2.setCell ⟨b, 2, none⟩ (.int .i64 v2)).heap[a]? = some (.cells #[.int .i64 0, .int .i64 0, .int .i64 0, .int .i64 0, .int .i64 0] 23 (0, 0))) := (Below.heap_setCell _ ⟨b, 2, none⟩ _ a hab).trans ha20.out
  obtain ⟨y2, hy2⟩ : ∃ y, (setL #[.int .i64 0, .int .i64 0, .int .i64 0, .int .i64 0, .int .i64 0] 0 (rdk 2 (some bs)).1)[2]? = some y := ⟨_, Array.getElem?_eq_getElem (by rw [setL_size]; decide)⟩
  have d2 : u2.cell? ⟨b, 2, none⟩ = some y2 := (one_at hb2).trans hy2
  have f2 : u2.frozen? ⟨b, 2, none⟩ = false := one_free hb2
  have h3 : Hid (TkX w1 p b #[.int .i64 0, .int .i64 0, .int .i64 0, .int .i64 0, .int .i64 0] 23 (rdk 3 (some bs)) (u2.setCell ⟨b, 2, none⟩ (.int .i64 v2))) := by rw [hv2.out]; exact tx_step h2.out hpb r2
  clear r2 hb2 hy2 C2 h2 hv2 ha2 ha20
  obtain ⟨v3, hv3⟩ : ∃ v, v = (rInt (-9223372036854775808) 9223372036854775807 (rdk 3 (some bs)).2).1 := ⟨_, rfl⟩
  have C3 : Hid (Calls Tryd.prog 36 #[.pointer (some ⟨p, 0, none⟩), .int .i64 (-9223372036854775808), .int .i64 9223372036854775807] (u2.setCell ⟨b, 2, none⟩ (.int .i64 v2)) fun e w' => e = .returned (.int .i64 v3) ∧ RxTo (u2.setCell ⟨b, 2, none⟩ (.int .i64 v2)) p (rInt (-9223372036854775808) 9223372036854775807 (rdk 3 (some bs)).2).2 w') := by rw [hv3]; exact xint p _ _ _ _ h3.out.rx
  replace hv3 := Lib.hid hv3
  go_wp2_with fail
  refine C3.out.mono ?_
  rintro e u3 ⟨rfl, r3⟩
  have hb3 : u3.heap[b]? = _ := (r3.gr.block b (lt_some h3.out.bl) (fun e => hpb (by injection e with e; exact e.symm))).trans h3.out.bl
  have ha30 : Hid (u3.heap[a]? = some (.cells #[.int .i64 0, .int .i64 0, .int .i64 0, .int .i64 0, .int .i64 0] 23 (0, 0))) := (r3.gr.block a (lt_some ha3.out) (fun e => hap (by injection e))).trans ha3.out
  have ha4 : Hid ((u3.setCell ⟨b, 3, none⟩ (.int .i64 v3)).heap[a]? = some (.cells #[.int .i64 0, .int .i64 0, .int .i64 0, .int .i64 0, .int .i64 0] 23 (0, 0))) := (Below.heap_setCell _ ⟨b, 3, none⟩ _ a hab).trans ha30.out
  obtain ⟨y3, hy3⟩ : ∃ y, (setL #[.int .i64 0, .int .i64 0, .int .i64 0, .int .i64 0, .int .i64 0] 0 (rdk 3 (some bs)).1)[3]? = some y := ⟨_, Array.getElem?_eq_getElem (by rw [setL_size]; decide)⟩
  have d3 : u3.cell? ⟨b, 3, none⟩ = some y3 := (one_at hb3).trans hy3
  have f3 : u3.frozen? ⟨b, 3, none⟩ = false := one_free hb3
  have h4 : Hid (TkX w1 p b #[.int .i64 0, .int .i64 0, .int .i64 0, .int .i64 0, .int .i64 0] 23 (rdk 4 (some bs)) (u3.setCell ⟨b, 3, none⟩ (.int .i64 v3))) := by rw [hv3.out]; exact tx_step h3.out hpb r3
  clear r3 hb3 hy3 C3 h3 hv3 ha3 ha30
  obtain ⟨v4, hv4⟩ : ∃ v, v = (rInt (-9223372036854775808) 9223372036854775807 (rdk 4 (some bs)).2).1 := ⟨_, rfl⟩
  have C4 : Hid (Calls Tryd.prog 36 #[.pointer (some ⟨p, 0, none⟩), .int .i64 (-9223372036854775808), .int .i64 9223372036854775807] (u3.setCell ⟨b, 3, none⟩ (.int .i64 v3)) fun e w' => e = .returned (.int .i64 v4) ∧ RxTo (u3.setCell ⟨b, 3, none⟩ (.int .i64 v3)) p (rInt (-9223372036854775808) 9223372036854775807 (rdk 4 (some bs)).2).2 w') := by rw [hv4]; exact xint p _ _ _ _ h4.out.rx
  replace hv4 := Lib.hid hv4
  go_wp2_with fail
  refine C4.out.mono ?_
  rintro e u4 ⟨rfl, r4⟩
  have hb4 : u4.heap[b]? = _ := (r4.gr.block b (lt_some h4.out.bl) (fun e => hpb (by injection e with e; exact e.symm))).trans h4.out.bl
  have ha40 : Hid (u4.heap[a]? = some (.cells #[.int .i64 0, .int .i64 0, .int .i64 0, .int .i64 0, .int .i64 0] 23 (0, 0))) := (r4.gr.block a (lt_some ha4.out) (fun e => hap (by injection e))).trans ha4.out
  have ha5 : Hid ((u4.setCell ⟨b, 4, none⟩ (.int .i64 v4)).heap[a]? = some (.cells #[.int .i64 0, .int .i64 0, .int .i64 0, .int .i64 0, .int .i64 0] 23 (0, 0))) := (Below.heap_setCell _ ⟨b, 4, none⟩ _ a hab).trans ha40.out
  obtain ⟨y4, hy4⟩ : ∃ y, (setL #[.int .i64 0, .int .i64 0, .int .i64 0, .int .i64 0, .int .i64 0] 0 (rdk 4 (some bs)).1)[4]? = some y := ⟨_, Array.getElem?_eq_getElem (by rw [setL_size]; decide)⟩
  have d4 : u4.cell? ⟨b, 4, none⟩ = some y4 := (one_at hb4).trans hy4
  have f4 : u4.frozen? ⟨b, 4, none⟩ = false := one_free hb4
  have h5 : Hid (TkX w1 p b #[.int .i64 0, .int .i64 0, .int .i64 0, .int .i64 0, .int .i64 0] 23 (rdk 5 (some bs)) (u4.setCell ⟨b, 4, none⟩ (.int .i64 v4))) := by rw [hv4.out]; exact tx_step h4.out hpb r4
  clear r4 hb4 hy4 C4 h4 hv4 ha4 ha40
  have hrx : Hid (Rx (u4.setCell ⟨b, 4, none⟩ (.int .i64 v4)) p (rdk 5 (some bs)).2) := h5.out.rx
  have hra := ha5
  obtain ⟨o, hx⟩ : ∃ o, o = opnOf (rdk 5 (some bs)).1 := ⟨_, rfl⟩
  have hbox : Hid ((u4.setCell ⟨b, 4, none⟩ (.int .i64 v4)).heap[b]? = some (.cells #[.int .i64 o.kind, .int .i64 o.book, .int .i64 o.units, .int .i64 o.cust, .int .i64 o.amount] 23 (0, 0))) := by unfold Hid; rw [h5.out.bl, boxO _ o hx]
  replace hx := Lib.hid hx
  have bew : Hid (Below w.heap.size w (u4.setCell ⟨b, 4, none⟩ (.int .i64 v4))) := be1.out.trans (h5.out.gr.below (by rw [← ea.out]; exact hpa) (by rw [← ea.out]; exact hba) be1.out.size)
  clear h5 ha5
  go_upto_region 8 with fail
  obtain ⟨W, eW⟩ : ∃ z, z = (u4.setCell ⟨b, 4, none⟩ (.int .i64 v4)) := ⟨_, rfl⟩
  rw [← eW] at hrx hra hbox bew ⊢
  clear eW d4 f4 be1
  obtain ⟨kq, hkq⟩ : ∃ k, k = rEnd (rdk 5 (some bs)).2 := ⟨_, rfl⟩
  have E := Lib.hid (xend p W _ hrx.out)
  rw [← hkq] at E
  by_cases h0 : kq = 0
  case neg =>
    have F : Hid (getO (some bs) = none) := getO_no (by rw [← hkq]; exact h0)
    replace hkq := Lib.hid hkq
    have h0' : (kq != 0) = true := by simpa using h0
    clear h0
    go_wp2_with (first | (go_at_call 40; ((with_reducible refine E.out.mono ?_); rintro e w' ⟨rfl, rfl⟩)) | (refine wpList_store_row rfl 23 (.tmp 2) (.tmp 44) rfl a #[.int .i64 0, .int .i64 0, .int .i64 0, .int .i64 0, .int .i64 0] rfl rfl 23 #[.int .i64 0, .int .i64 0, .int .i64 0, .int .i64 0, .int .i64 0] hra.out op_info rfl (one5 _ _ _ _ _) ?_))
    refine bodyPost_ret (res_row rgetop_results _ _ a 23 #[.int .i64 0, .int .i64 0, .int .i64 0, .int .i64 0, .int .i64 0] (0, 0) _ rfl (setRow_heap _ _ _ _ _ _ hra.out) Tryd.underlying23 rfl op_info) rfl ?_
    exact ⟨bew.out.trans (setRow_below _ (Nat.le_of_eq ea.out.symm)), fun o h => (by rw [F.out] at h; cases h), fun _ => rfl⟩
  case pos =>
    subst h0
    have M := Lib.hid (refmayop_any W o)
    have c0 : W.cell? ⟨b, 0, none⟩ = some (.int .i64 o.kind) := one_at hbox.out
    have c1 : W.cell? ⟨b, 1, none⟩ = some (.int .i64 o.book) := one_at hbox.out
    have c2 : W.cell? ⟨b, 2, none⟩ = some (.int .i64 o.units) := one_at hbox.out
    have c3 : W.cell? ⟨b, 3, none⟩ = some (.int .i64 o.cust) := one_at hbox.out
    have c4 : W.cell? ⟨b, 4, none⟩ = some (.int .i64 o.amount) := one_at hbox.out
    rcases Bool.eq_false_or_eq_true (mayOp o) with hm | hm
    · have F : Hid (getO (some bs) = some o) := getO_yes hx.out hkq.symm hm
      rw [hm] at M
      replace hkq := Lib.hid hkq
      clear hm
      go_wp2_with (first | (go_at_call 40; ((with_reducible refine E.out.mono ?_); rintro e w' ⟨rfl, rfl⟩)) | (go_at_call 14; ((with_reducible refine M.out.mono ?_); rintro e w4 ⟨rfl, b4⟩; have be4 : Hid (Below w.heap.size w w4) := bew.out.trans (b4.mono bew.out.size); have hr4 : Hid (w4.heap[a]? = some (.cells #[.int .i64 0, .int .i64 0, .int .i64 0, .int .i64 0, .int .i64 0] 23 (0, 0))) := stay hra b4; have hb4 : Hid (w4.heap[b]? = some (.cells #[.int .i64 o.kind, .int .i64 o.book, .int .i64 o.units, .int .i64 o.cust, .int .i64 o.amount] 23 (0, 0))) := stay hbox b4; clear b4)) | (refine wpList_load_row rfl 23 (.tmp 7) rfl b rfl 23 #[.int .i64 o.kind, .int .i64 o.book, .int .i64 o.units, .int .i64 o.cust, .int .i64 o.amount] (0, 0) _ hb4.out Tryd.underlying23 rfl op_info ?_) | (refine wpList_store_row rfl 23 (.tmp 2) (.tmp 44) rfl a #[.int .i64 0, .int .i64 0, .int .i64 0, .int .i64 0, .int .i64 0] rfl rfl 23 #[.int .i64 0, .int .i64 0, .int .i64 0, .int .i64 0, .int .i64 0] hr4.out op_info rfl (one5 _ _ _ _ _) ?_) | (refine wpList_store_row rfl 23 (.tmp 2) (.tmp 45) rfl a #[.int .i64 o.kind, .int .i64 o.book, .int .i64 o.units, .int .i64 o.cust, .int .i64 o.amount] rfl rfl 23 #[.int .i64 0, .int .i64 0, .int .i64 0, .int .i64 0, .int .i64 0] hr4.out op_info rfl (one5 _ _ _ _ _) ?_))
      refine bodyPost_ret (res_row rgetop_results _ _ a 23 #[.int .i64 o.kind, .int .i64 o.book, .int .i64 o.units, .int .i64 o.cust, .int .i64 o.amount] (0, 0) _ rfl (setRow_heap _ _ _ _ _ _ hr4.out) Tryd.underlying23 rfl op_info) rfl ?_
      exact ⟨be4.out.trans (setRow_below _ (Nat.le_of_eq ea.out.symm)), fun y h => (by rw [F.out] at h; cases h; rfl), fun h => (by rw [F.out] at h; cases h)⟩
    · have F : Hid (getO (some bs) = none) := getO_not hx.out hm
      rw [hm] at M
      replace hkq := Lib.hid hkq
      clear hm
      go_wp2_with (first | (go_at_call 40; ((with_reducible refine E.out.mono ?_); rintro e w' ⟨rfl, rfl⟩)) | (go_at_call 14; ((with_reducible refine M.out.mono ?_); rintro e w4 ⟨rfl, b4⟩; have be4 : Hid (Below w.heap.size w w4) := bew.out.trans (b4.mono bew.out.size); have hr4 : Hid (w4.heap[a]? = some (.cells #[.int .i64 0, .int .i64 0, .int .i64 0, .int .i64 0, .int .i64 0] 23 (0, 0))) := stay hra b4; have hb4 : Hid (w4.heap[b]? = some (.cells #[.int .i64 o.kind, .int .i64 o.book, .int .i64 o.units, .int .i64 o.cust, .int .i64 o.amount] 23 (0, 0))) := stay hbox b4; clear b4)) | (refine wpList_load_row rfl 23 (.tmp 7) rfl b rfl 23 #[.int .i64 o.kind, .int .i64 o.book, .int .i64 o.units, .int .i64 o.cust, .int .i64 o.amount] (0, 0) _ hb4.out Tryd.underlying23 rfl op_info ?_) | (refine wpList_store_row rfl 23 (.tmp 2) (.tmp 44) rfl a #[.int .i64 0, .int .i64 0, .int .i64 0, .int .i64 0, .int .i64 0] rfl rfl 23 #[.int .i64 0, .int .i64 0, .int .i64 0, .int .i64 0, .int .i64 0] hr4.out op_info rfl (one5 _ _ _ _ _) ?_) | (refine wpList_store_row rfl 23 (.tmp 2) (.tmp 45) rfl a #[.int .i64 o.kind, .int .i64 o.book, .int .i64 o.units, .int .i64 o.cust, .int .i64 o.amount] rfl rfl 23 #[.int .i64 0, .int .i64 0, .int .i64 0, .int .i64 0, .int .i64 0] hr4.out op_info rfl (one5 _ _ _ _ _) ?_))
      refine bodyPost_ret (res_row rgetop_results _ _ a 23 #[.int .i64 0, .int .i64 0, .int .i64 0, .int .i64 0, .int .i64 0] (0, 0) _ rfl (setRow_heap _ _ _ _ _ _ hr4.out) Tryd.underlying23 rfl op_info) rfl ?_
      exact ⟨be4.out.trans (setRow_below _ (Nat.le_of_eq ea.out.symm)), fun o h => (by rw [F.out] at h; cases h), fun _ => rfl⟩
end Wt
end Go.Proofs.YtidfpbnepdjagaaDoor

namespace Go.Proofs.YtidfpbnepdjagaaDoor
set_option maxRecDepth 100000
open Go.RowKit Go.Sort Go.Proofs.YtidfpbnepdjagaaDoor.Pk
namespace Wt

theorem size_add {a b : List UInt8} (h : a.length + b.length ≤ 1000) : ¬ (str a).size + (str b).size > 9223372036854775807 := by rw [str_size, str_size]; omega
theorem cat5 (a b c d e : Int) : cat [a, b, c, d, e] = encI a ++ encI b ++ encI c ++ encI d ++ encI e := by simp [cat, List.append_assoc]
set_option maxHeartbeats 3200000 in
theorem rputop_any (w : World) (o : Opn) (ho : ∀ z ∈ oz o, I z) :
    Calls Tryd.prog 27 #[.agg #[.int .i64 o.kind, .int .i64 o.book, .int .i64 o.units, .int .i64 o.cust, .int .i64 o.amount]] w fun e w' => e = .returned (.string (str (rawOp o))) ∧ Below w.heap.size w w' := by
  have i0 := ho o.kind (by simp [oz])
  have i1 := ho o.book (by simp [oz])
  have i2 := ho o.units (by simp [oz])
  have i3 := ho o.cust (by simp [oz])
  have i4 := ho o.amount (by simp [oz])
  obtain ⟨w0, e0⟩ : ∃ z, z = w.alloc (.cells #[.int .i64 o.kind, .int .i64 o.book, .int .i64 o.units, .int .i64 o.cust, .int .i64 o.amount] 23) := ⟨_, rfl⟩
  have be0 : Hid (Below w.heap.size w w0) := by rw [e0]; exact (Below.refl _ w).alloc (Nat.le_refl _) _
  have h0 : Hid (w0.heap[w.heap.size]? = some (.cells #[.int .i64 o.kind, .int .i64 o.book, .int .i64 o.units, .int .i64 o.cust, .int .i64 o.amount] 23 (0, 0))) := by rw [e0]; exact heap_alloc_new _ _
  have k0 := cell_regrown (show w0.cell? ⟨w.heap.size, 0, none⟩ = some (.int .i64 o.kind) from one_at h0.out)
  have k1 := cell_regrown (show w0.cell? ⟨w.heap.size, 1, none⟩ = some (.int .i64 o.book) from one_at h0.out)
  have k2 := cell_regrown (show w0.cell? ⟨w.heap.size, 2, none⟩ = some (.int .i64 o.units) from one_at h0.out)
  have k3 := cell_regrown (show w0.cell? ⟨w.heap.size, 3, none⟩ = some (.int .i64 o.cust) from one_at h0.out)
  have k4 := cell_regrown (show w0.cell? ⟨w.heap.size, 4, none⟩ = some (.int .i64 o.amount) from one_at h0.out)
  have C : ∀ (v : Int) (bs : List UInt8), I v → bs = encI v → ∀ d os, Calls Tryd.prog 25 #[.int .i64 v] (grow (redrawn w0 d) os) fun e w'' => e = .returned (.string (str bs)) ∧ ∃ q : Regrown, w'' = grow (redrawn w0 q.d) q.os := fun v bs hv hb d os => Calls.regrown_of (by rw [hb]; exact refint _ v hv.1 hv.2)
  have F : Hid (rawOp o = encI o.kind ++ encI o.book ++ encI o.units ++ encI o.cust ++ encI o.amount) := cat5 _ _ _ _ _
  obtain ⟨b0, e0'⟩ : ∃ b, b = encI o.kind := ⟨_, rfl⟩
  obtain ⟨b1, e1'⟩ : ∃ b, b = encI o.book := ⟨_, rfl⟩
  obtain ⟨b2, e2'⟩ : ∃ b, b = encI o.units := ⟨_, rfl⟩
  obtain ⟨b3, e3'⟩ : ∃ b, b = encI o.cust := ⟨_, rfl⟩
  obtain ⟨b4, e4'⟩ : ∃ b, b = encI o.amount := ⟨_, rfl⟩
  have l0 : b0.length ≤ 10 := by rw [e0']; exact encI_len _ i0.1 i0.2
  have l1 : b1.length ≤ 10 := by rw [e1']; exact encI_len _ i1.1 i1.2
  have l2 : b2.length ≤ 10 := by rw [e2']; exact encI_len _ i2.1 i2.2
  have l3 : b3.length ≤ 10 := by rw [e3']; exact encI_len _ i3.1 i3.2
  have l4 : b4.length ≤ 10 := by rw [e4']; exact encI_len _ i4.1 i4.2
  have C0 := C _ b0 i0 e0'
  have C1 := C _ b1 i1 e1'
  have C2 := C _ b2 i2 e2'
  have C3 := C _ b3 i3 e3'
  have C4 := C _ b4 i4 e4'
  rw [← e0', ← e1', ← e2', ← e3', ← e4'] at F
  obtain ⟨s1, f1⟩ : ∃ s, s = b0 ++ b1 := ⟨_, rfl⟩
  obtain ⟨s2, f2⟩ : ∃ s, s = s1 ++ b2 := ⟨_, rfl⟩
  obtain ⟨s3, f3⟩ : ∃ s, s = s2 ++ b3 := ⟨_, rfl⟩
  obtain ⟨s4, f4⟩ : ∃ s, s = s3 ++ b4 := ⟨_, rfl⟩
  rw [← f1, ← f2, ← f3, ← f4] at F
  have m1 : s1.length ≤ 20 := by rw [f1, List.length_append]; omega
  have m2 : s2.length ≤ 30 := by rw [f2, List.length_append]; omega
  have m3 : s3.length ≤ 40 := by rw [f3, List.length_append]; omega
  have a1 := str_add b0 b1 (by omega)
  have a2 := str_add s1 b2 (by omega)
  have a3 := str_add s2 b3 (by omega)
  have a4 := str_add s3 b4 (by omega)
  have q1 := size_add (a := b0) (b := b1) (by omega)
  have q2 := size_add (a := s1) (b := b2) (by omega)
  have q3 := size_add (a := s2) (b := b3) (by omega)
  have q4 := size_add (a := s3) (b := b4) (by omega)
  have t1 := str_cat b0 b1
  have t2 := str_cat s1 b2
  have t3 := str_cat s2 b3
  have t4 := str_cat s3 b4
  rw [← f1] at a1 t1
  rw [← f2] at a2 t2
  rw [← f3] at a3 t3
  rw [← f4] at a4 t4
  clear f1 f2 f3 f4 m1 m2 m3
  clear C e0' e1' e2' e3' e4' i0 i1 i2 i3 i4 ho l0 l1 l2 l3 l4
  go_enter Tryd.func27, Tryd.ntmps27
  go_upto_region 1 with fail
  rw [← e0]
  clear e0 h0
  refine wp_region_quiet_below (by kernel_rfl) (by kernel_rfl) ?_
  repeat (go_big_quiet_step (first | with_reducible exact C0 _ _ | with_reducible exact C1 _ _ | with_reducible exact C2 _ _ | with_reducible exact C3 _ _ | with_reducible exact C4 _ _))
  refine wpQuiet_nil ?_
  intro w2 hw'
  obtain ⟨⟨dq, osq⟩, hw''⟩ := hw'
  have be2 : Hid (RowKit.Below w.heap.size w w2) := by rw [hw'']; exact be0.out.trans ((below_regrown w0 dq osq).mono be0.out.size)
  clear hw'' k0 k1 k2 k3 k4 C0 C1 C2 C3 C4
  go_wp2_with fail
  go_ret
  rw [F.out]
  exact ⟨rfl, be2.out⟩
end Wt
end Go.Proofs.YtidfpbnepdjagaaDoor

namespace Go.Proofs.YtidfpbnepdjagaaDoor
set_option maxRecDepth 100000
open Go.RowKit Go.Sort Go.Proofs.YtidfpbnepdjagaaDoor.Pk
namespace Wt

theorem cat7 (a b c d e f g : Int) : cat [a, b, c, d, e, f, g] = encI a ++ encI b ++ encI c ++ encI d ++ encI e ++ encI f ++ encI g := by simp [cat, List.append_assoc]
set_option maxHeartbeats 3200000 in
set_option maxRecDepth 100000 in
theorem rraw_any (w : World) (x : Wan) (hx : ∀ z ∈ wz x, I z) :
    Calls Tryd.prog 59 #[.agg #[.int .i64 x.book, .int .i64 x.cust, .int .i64 x.dead, .int .i64 x.u0, .int .i64 x.u1, .int .i64 x.u2, .int .i64 x.price]] w fun e w' => e = .returned (.string (str (raw x))) ∧ Below w.heap.size w w' := by
  have i0 := hx x.book (by simp [wz])
  have i1 := hx x.cust (by simp [wz])
  have i2 := hx x.dead (by simp [wz])
  have i3 := hx x.u0 (by simp [wz])
  have i4 := hx x.u1 (by simp [wz])
  have i5 := hx x.u2 (by simp [wz])
  have i6 := hx x.price (by simp [wz])
  obtain ⟨w0, e0⟩ : ∃ z, z = w.alloc (.cells #[.int .i64 x.book, .int .i64 x.cust, .int .i64 x.dead, .int .i64 x.u0, .int .i64 x.u1, .int .i64 x.u2, .int .i64 x.price] 26) := ⟨_, rfl⟩
  have be0 : Hid (Below w.heap.size w w0) := by rw [e0]; exact (Below.refl _ w).alloc (Nat.le_refl _) _
  have h0 : Hid (w0.heap[w.heap.size]? = some (.cells #[.int .i64 x.book, .int .i64 x.cust, .int .i64 x.dead, .int .i64 x.u0, .int .i64 x.u1, .int .i64 x.u2, .int .i64 x.price] 26 (0, 0))) := by rw [e0]; exact heap_alloc_new _ _
  have k0 := cell_regrown (show w0.cell? ⟨w.heap.size, 0, none⟩ = some (.int .i64 x.book) from one_at h0.out)
  have k1 := cell_regrown (show w0.cell? ⟨w.heap.size, 1, none⟩ = some (.int .i64 x.cust) from one_at h0.out)
  have k2 := cell_regrown (show w0.cell? ⟨w.heap.size, 2, none⟩ = some (.int .i64 x.dead) from one_at h0.out)
  have C : ∀ (v : Int) (bs : List UInt8), I v → bs = encI v → ∀ d os, Calls Tryd.prog 25 #[.int .i64 v] (grow (redrawn w0 d) os) fun e w'' => e = .returned (.string (str bs)) ∧ ∃ q : Regrown, w'' = grow (redrawn w0 q.d) q.os := fun v bs hv hb d os => Calls.regrown_of (by rw [hb]; exact refint _ v hv.1 hv.2)
  have D : ∀ (v : Int) (bs : List UInt8), I v → bs = encI v → ∀ w, Calls Tryd.prog 25 #[.int .i64 v] w (RefTo w bs) := fun v bs hv hb w => by rw [hb]; exact refint w v hv.1 hv.2
  have F : Hid (raw x = encI x.book ++ encI x.cust ++ encI x.dead ++ encI x.u0 ++ encI x.u1 ++ encI x.u2 ++ encI x.price) := cat7 _ _ _ _ _ _ _
  obtain ⟨b0, e0'⟩ : ∃ b, b = encI x.book := ⟨_, rfl⟩
  have l0 : b0.length ≤ 10 := by rw [e0']; exact encI_len _ i0.1 i0.2
  obtain ⟨b1, e1'⟩ : ∃ b, b = encI x.cust := ⟨_, rfl⟩
  have l1 : b1.length ≤ 10 := by rw [e1']; exact encI_len _ i1.1 i1.2
  obtain ⟨b2, e2'⟩ : ∃ b, b = encI x.dead := ⟨_, rfl⟩
  have l2 : b2.length ≤ 10 := by rw [e2']; exact encI_len _ i2.1 i2.2
  obtain ⟨b3, e3'⟩ : ∃ b, b = encI x.u0 := ⟨_, rfl⟩
  have l3 : b3.length ≤ 10 := by rw [e3']; exact encI_len _ i3.1 i3.2
  obtain ⟨b4, e4'⟩ : ∃ b, b = encI x.u1 := ⟨_, rfl⟩
  have l4 : b4.length ≤ 10 := by rw [e4']; exact encI_len _ i4.1 i4.2
  obtain ⟨b5, e5'⟩ : ∃ b, b = encI x.u2 := ⟨_, rfl⟩
  have l5 : b5.length ≤ 10 := by rw [e5']; exact encI_len _ i5.1 i5.2
  obtain ⟨b6, e6'⟩ : ∃ b, b = encI x.price := ⟨_, rfl⟩
  have l6 : b6.length ≤ 10 := by rw [e6']; exact encI_len _ i6.1 i6.2
  rw [← e0', ← e1', ← e2', ← e3', ← e4', ← e5', ← e6'] at F
  obtain ⟨s1, f1⟩ : ∃ s, s = b0 ++ b1 := ⟨_, rfl⟩
  have m1 : s1.length ≤ 20 := by rw [f1, List.length_append]; omega
  have a1 := str_add b0 b1 (by omega)
  have q1 := size_add (a := b0) (b := b1) (by omega)
  have t1 := str_cat b0 b1
  rw [← f1] at a1 t1
  obtain ⟨s2, f2⟩ : ∃ s, s = s1 ++ b2 := ⟨_, rfl⟩
  have m2 : s2.length ≤ 30 := by rw [f2, List.length_append]; omega
  have a2 := str_add s1 b2 (by omega)
  have q2 := size_add (a := s1) (b := b2) (by omega)
  have t2 := str_cat s1 b2
  rw [← f2] at a2 t2
  obtain ⟨s3, f3⟩ : ∃ s, s = s2 ++ b3 := ⟨_, rfl⟩
  have m3 : s3.length ≤ 40 := by rw [f3, List.length_append]; omega
  have a3 := str_add s2 b3 (by omega)
  have q3 := size_add (a := s2) (b := b3) (by omega)
  have t3 := str_cat s2 b3
  rw [← f3] at a3 t3
  obtain ⟨s4, f4⟩ : ∃ s, s = s3 ++ b4 := ⟨_, rfl⟩
  have m4 : s4.length ≤ 50 := by rw [f4, List.length_append]; omega
  have a4 := str_add s3 b4 (by omega)
  have q4 := size_add (a := s3) (b := b4) (by omega)
  have t4 := str_cat s3 b4
  rw [← f4] at a4 t4
  obtain ⟨s5, f5⟩ : ∃ s, s = s4 ++ b5 := ⟨_, rfl⟩
  have m5 : s5.length ≤ 60 := by rw [f5, List.length_append]; omega
  have a5 := str_add s4 b5 (by omega)
  have q5 := size_add (a := s4) (b := b5) (by omega)
  have t5 := str_cat s4 b5
  rw [← f5] at a5 t5
  obtain ⟨s6, f6⟩ : ∃ s, s = s5 ++ b6 := ⟨_, rfl⟩
  have m6 : s6.length ≤ 70 := by rw [f6, List.length_append]; omega
  have a6 := str_add s5 b6 (by omega)
  have q6 := size_add (a := s5) (b := b6) (by omega)
  have t6 := str_cat s5 b6
  rw [← f6] at a6 t6
  rw [← f1, ← f2, ← f3, ← f4, ← f5, ← f6] at F
  have C0 := C _ b0 i0 e0'
  have C1 := C _ b1 i1 e1'
  have C2 := C _ b2 i2 e2'
  have D3 := Lib.hid (D _ b3 i3 e3')
  have D4 := Lib.hid (D _ b4 i4 e4')
  have D5 := Lib.hid (D _ b5 i5 e5')
  have D6 := Lib.hid (D _ b6 i6 e6')
  clear C D hx i0 e0' l0 i1 e1' l1 i2 e2' l2 i3 e3' l3 i4 e4' l4 i5 e5' l5 i6 e6' l6 f1 m1 f2 m2 f3 m3 f4 m4 f5 m5 f6 m6
  go_enter Tryd.func59, Tryd.ntmps59
  go_upto_region 1 with fail
  rw [← e0]
  clear e0
  refine wp_region_quiet_below (by kernel_rfl) (by kernel_rfl) ?_
  repeat (go_big_quiet_step (first | with_reducible exact C0 _ _ | with_reducible exact C1 _ _ | with_reducible exact C2 _ _))
  refine wpQuiet_nil ?_
  intro w2 hw'
  obtain ⟨⟨dq, osq⟩, hw''⟩ := hw'
  have b20 : RowKit.Below w0.heap.size w0 w2 := by rw [hw'']; exact below_regrown w0 dq osq
  have be2 : Hid (RowKit.Below w.heap.size w w2) := be0.out.trans (b20.mono be0.out.size)
  have h2 := stay h0 b20
  have c3 : w2.cell? ⟨w.heap.size, 3, none⟩ = some (.int .i64 x.u0) := one_at h2.out
  clear hw'' b20 be0 h0 k0 k1 k2 C0 C1 C2
  go_wp2_with fail
  refine wp_loop_rounds 4 ?_
  rw [rounds_succ]
  go_wp2_with fail
  refine (D3.out w2).mono ?_
  rintro e w3 ⟨rfl, g3⟩
  have be3 : Hid (RowKit.Below w.heap.size w w3) := be2.out.trans (g3.mono be2.out.size)
  have h3 := stay h2 g3
  have c4 : w3.cell? ⟨w.heap.size, 4, none⟩ = some (.int .i64 x.u1) := one_at h3.out
  clear g3 be2 h2 c3 D3
  go_wp2_with fail
  rw [rounds_succ]
  go_wp2_with fail
  refine (D4.out w3).mono ?_
  rintro e w4 ⟨rfl, g4⟩
  have be4 : Hid (RowKit.Below w.heap.size w w4) := be3.out.trans (g4.mono be3.out.size)
  have h4 := stay h3 g4
  have c5 : w4.cell? ⟨w.heap.size, 5, none⟩ = some (.int .i64 x.u2) := one_at h4.out
  clear g4 be3 h3 c4 D4
  go_wp2_with fail
  rw [rounds_succ]
  go_wp2_with fail
  refine (D5.out w4).mono ?_
  rintro e w5 ⟨rfl, g5⟩
  have be5 : Hid (RowKit.Below w.heap.size w w5) := be4.out.trans (g5.mono be4.out.size)
  have h5 := stay h4 g5
  have c6 : w5.cell? ⟨w.heap.size, 6, none⟩ = some (.int .i64 x.price) := one_at h5.out
  clear g5 be4 h4 c5 D5
  go_wp2_with fail
  rw [rounds_succ]
  go_wp2_with fail
  refine (D6.out w5).mono ?_
  rintro e w6 ⟨rfl, g6⟩
  have be6 : Hid (RowKit.Below w.heap.size w w6) := be5.out.trans (g6.mono be5.out.size)
  clear g6 be5 h5 c6 D6
  go_wp2_with fail
  go_ret
  rw [F.out]
  exact ⟨rfl, be6.out⟩
end Wt
end Go.Proofs.YtidfpbnepdjagaaDoor
