/- Parts of the claim: ReM, ReA, SgO, ReO, ReD -/
import Derived.Laws.Tables
import Derived.ProofKit
import Derived.OpenShut
import Derived.Deep.Slices
import Derived.Carry
import Derived.Laws.IdiomArrays
import Derived.Laws.BitsLemmas
import Derived.WalkSpells
import Derived.WalkLawsBesides
import Derived.Lib.Hide
import Derived.Deep.QuietTactic
import Derived.BigQuiet
import Derived.Laws.BitsAllLaws
import Derived.Laws.DeepNot64
import Derived.Deep.RegionWith
import Derived.Lib.SlBytesConst
import Derived.Lib.QuietBelow
import Derived.Deep.MidRow
import Derived.Test.YtpkdigegkemogaaGreatDoorSgXP
import Derived.Test.YtpkdigegkemogaaGreatDoorWtXbP
import Derived.Test.YtpkdigegkemogaaGreatDoorPkXP
namespace Go.Proofs.YtpkdigegkemogaaGreatDoor
open Go.RowKit
open Go.Proofs.YtpkdigegkemogaaGreatDoor.Pk
namespace Re
open Go.Proofs.YtpkdigegkemogaaGreatDoor.Sg (Sag sz smay)
open Go.Proofs.YtpkdigegkemogaaGreatDoor.Sb (sput sput_len)
open Wt (Opn mayOp inR I)

structure Rec where
  kd : Int
  now : Int
  an : Int
  op : Opn
  sg : Sag
deriving DecidableEq
def o0 : Opn := ⟨0, 0, 0, 0, 0⟩
def r0 : Rec := ⟨0, 0, 0, o0, sz⟩
def rmay (r : Rec) : Bool := inR r.now 0 1099511627776 &&
  (if r.kd = 1 then mayOp r.op && (r.an == 1 || r.an == 2) && decide (r.sg = sz)
  else if r.kd = 2 then decide (r.op = o0) && r.an == 0 && decide (r.sg = sz)
  else if r.kd = 3 then decide (r.op = o0) && r.an == 0 && smay r.sg
  else false)
theorem rmay_cases {r : Rec} (h : rmay r = true) : (r.kd = 1 ∧ mayOp r.op = true ∧ (r.an = 1 ∨ r.an = 2) ∧ r.sg = sz) ∨ (r.kd = 2 ∧ r.op = o0 ∧ r.an = 0 ∧ r.sg = sz) ∨ (r.kd = 3 ∧ r.op = o0 ∧ r.an = 0 ∧ smay r.sg = true) := by
  unfold rmay at h
  rw [Bool.and_eq_true] at h
  have h2 := h.2
  split at h2
  · simp only [Bool.and_eq_true, Bool.or_eq_true, decide_eq_true_iff, beq_iff_eq] at h2
    rename_i hk
    exact .inl ⟨hk, h2.1.1, h2.1.2, h2.2⟩
  · split at h2
    · simp only [Bool.and_eq_true, decide_eq_true_iff, beq_iff_eq] at h2
      rename_i hk
      exact .inr (.inl ⟨hk, h2.1.1, h2.1.2, h2.2⟩)
    · split at h2
      · simp only [Bool.and_eq_true, decide_eq_true_iff, beq_iff_eq] at h2
        rename_i hk
        exact .inr (.inr ⟨hk, h2.1.1, h2.1.2, h2.2⟩)
      · cases h2
end Re
end Go.Proofs.YtpkdigegkemogaaGreatDoor
namespace Go.Proofs.YtpkdigegkemogaaGreatDoor
set_option maxRecDepth 100000
open Go.RowKit
open Go.Proofs.YtpkdigegkemogaaGreatDoor.Pk (one_at one_free one_set lt_some)
namespace Re
open Go.Proofs.YtpkdigegkemogaaGreatDoor.Sg (Sag sz smay sgc sgv)
open Wt (Wan Opn mayOp)

abbrev rcc (r : Rec) : Array Value := #[.int .i64 r.kd, .int .i64 r.now, .int .i64 r.an, .int .i64 r.op.kind, .int .i64 r.op.book, .int .i64 r.op.units, .int .i64 r.op.cust, .int .i64 r.op.amount, .int .i64 r.sg.w.book, .int .i64 r.sg.w.cust, .int .i64 r.sg.w.dead, .int .i64 r.sg.w.u0, .int .i64 r.sg.w.u1, .int .i64 r.sg.w.u2, .int .i64 r.sg.w.price, .int .i64 r.sg.ph, .int .i64 r.sg.st, .int .i64 r.sg.rs, .int .i64 r.sg.si]
abbrev rcv (r : Rec) : Value := .agg (rcc r)
abbrev opv (o : Opn) : Value := .agg #[.int .i64 o.kind, .int .i64 o.book, .int .i64 o.units, .int .i64 o.cust, .int .i64 o.amount]
def BoxR (w : World) (g : Nat) (r : Rec) : Prop := w.heap[g]? = some (.cells (rcc r) 64 (0, 0))
structure CellR (w : World) (g : Nat) (r : Rec) : Prop where
  c0 : w.cell? ⟨g, 0, none⟩ = some (.int .i64 r.kd)
  c1 : w.cell? ⟨g, 1, none⟩ = some (.int .i64 r.now)
  c2 : w.cell? ⟨g, 2, none⟩ = some (.int .i64 r.an)
  c3 : w.cell? ⟨g, 3, none⟩ = some (.int .i64 r.op.kind)
  c4 : w.cell? ⟨g, 4, none⟩ = some (.int .i64 r.op.book)
  c5 : w.cell? ⟨g, 5, none⟩ = some (.int .i64 r.op.units)
  c6 : w.cell? ⟨g, 6, none⟩ = some (.int .i64 r.op.cust)
  c7 : w.cell? ⟨g, 7, none⟩ = some (.int .i64 r.op.amount)
  c8 : w.cell? ⟨g, 8, none⟩ = some (.int .i64 r.sg.w.book)
  c9 : w.cell? ⟨g, 9, none⟩ = some (.int .i64 r.sg.w.cust)
  c10 : w.cell? ⟨g, 10, none⟩ = some (.int .i64 r.sg.w.dead)
  c11 : w.cell? ⟨g, 11, none⟩ = some (.int .i64 r.sg.w.u0)
  c12 : w.cell? ⟨g, 12, none⟩ = some (.int .i64 r.sg.w.u1)
  c13 : w.cell? ⟨g, 13, none⟩ = some (.int .i64 r.sg.w.u2)
  c14 : w.cell? ⟨g, 14, none⟩ = some (.int .i64 r.sg.w.price)
  c15 : w.cell? ⟨g, 15, none⟩ = some (.int .i64 r.sg.ph)
  c16 : w.cell? ⟨g, 16, none⟩ = some (.int .i64 r.sg.st)
  c17 : w.cell? ⟨g, 17, none⟩ = some (.int .i64 r.sg.rs)
  c18 : w.cell? ⟨g, 18, none⟩ = some (.int .i64 r.sg.si)
section
variable {w w' : World} {g B : Nat} {r : Rec}
theorem BoxR.lt (h : BoxR w g r) : g < w.heap.size := lt_some h
theorem BoxR.below (h : BoxR w g r) (hb : Below w.heap.size w w') : BoxR w' g r := (hb.block g h.lt).trans h
theorem BoxR.cells (h : BoxR w g r) : CellR w g r := ⟨one_at h, one_at h, one_at h, one_at h, one_at h, one_at h, one_at h, one_at h, one_at h, one_at h, one_at h, one_at h, one_at h, one_at h, one_at h, one_at h, one_at h, one_at h, one_at h⟩
end
theorem rec_size : (Tryz.prog.info? 64).map (·.size) = some 19 := by kernel_rfl
theorem one19 (r : Rec) : (rcc r).all (·.oneCell') = true := by simp [rcc, Value.oneCell']

theorem eq_arr7 (w : World) (a b c x y z : Int) : (Op.equalIn 9997 53 (.agg #[.int .i64 a, .int .i64 b, .int .i64 c]) (.agg #[.int .i64 x, .int .i64 y, .int .i64 z])).run Tryz.prog w = .ok (a == x && (b == y && c == z)) w := by
  have u3 := Tryz.underlying3
  have a3 := Tryz.isAgg3
  have z3 := Tryz.sizeOf3
  rw [show (9997 : Nat) = 9996 + 1 from rfl, Op.equalIn]
  simp only [Sem.run_bind, run_underlying Tryz.underlying53, Result.andThen_ok]
  simp only [Std.Legacy.Range.forIn_eq_forIn_range', Std.Legacy.Range.size, Nat.sub_zero, Nat.add_sub_cancel, Nat.div_one, List.range'_succ, List.range'_zero, List.forIn_cons, List.forIn_nil]
  go_simp
  by_cases h1 : a = x <;> by_cases h2 : b = y <;> by_cases h3 : c = z <;> simp [h1, h2, h3]
theorem eq_wan8 (w : World) (x y : Wan) : (Op.equalIn 9998 55 (.agg #[.int .i64 x.book, .int .i64 x.cust, .int .i64 x.dead, .int .i64 x.u0, .int .i64 x.u1, .int .i64 x.u2, .int .i64 x.price]) (.agg #[.int .i64 y.book, .int .i64 y.cust, .int .i64 y.dead, .int .i64 y.u0, .int .i64 y.u1, .int .i64 y.u2, .int .i64 y.price])).run Tryz.prog w = .ok (decide (x = y)) w := by
  have q22 := eq_arr7
  have u3 := Tryz.underlying3
  have a3 := Tryz.isAgg3
  have z3 := Tryz.sizeOf3
  have u2 := Tryz.underlying2
  have a2 := Tryz.isAgg2
  have z2 := Tryz.sizeOf2
  have a22 := Tryz.isAgg53
  have z22 := Tryz.sizeOf53
  have hS : Tryz.prog.underlying 55 = some (.struct (Tryz.prog.fieldsOf 55)) := by kernel_rfl
  rw [show (9998 : Nat) = 9997 + 1 from rfl, run_equalIn_agg w 9997 55 _ _ hS Tryz.stoodInHeld55]
  simp only [Program.fieldsOf, Tryz.underlying55]
  go_simp
  obtain ⟨a, b, c, d, e, f, g⟩ := x
  obtain ⟨a', b', c', d', e', f', g'⟩ := y
  simp only [Wan.mk.injEq]
  by_cases h1 : a = a' <;> by_cases h2 : b = b' <;> by_cases h3 : c = c' <;> by_cases h4 : d = d' <;> by_cases h5 : e = e' <;> by_cases h6 : f = f' <;> by_cases h7 : g = g' <;> simp [h1, h2, h3, h4, h5, h6, h7]
theorem eq_sag9 (w : World) (s t : Sag) : (Op.equalIn 9999 57 (sgv s) (sgv t)).run Tryz.prog w = .ok (decide (s = t)) w := by
  have u3 := Tryz.underlying3
  have a3 := Tryz.isAgg3
  have z3 := Tryz.sizeOf3
  have aW := Tryz.isAgg55
  have zW := Tryz.sizeOf55
  have EW := eq_wan8
  have hS : Tryz.prog.underlying 57 = some (.struct (Tryz.prog.fieldsOf 57)) := by kernel_rfl
  unfold sgv sgc
  rw [show (9999 : Nat) = 9998 + 1 from rfl, run_equalIn_agg w 9998 57 _ _ hS Tryz.stoodInHeld57]
  simp only [Program.fieldsOf, Tryz.underlying57]
  go_simp
  obtain ⟨x, a, b, c, d⟩ := s
  obtain ⟨x', a', b', c', d'⟩ := t
  simp only [Sag.mk.injEq]
  by_cases h0 : x = x' <;> by_cases h1 : a = a' <;> by_cases h2 : b = b' <;> by_cases h3 : c = c' <;> by_cases h4 : d = d' <;> simp [h0, h1, h2, h3, h4]
theorem eq_rec (w : World) (r t : Rec) : (Op.equalIn 10000 64 (rcv r) (rcv t)).run Tryz.prog w = .ok (decide (r = t)) w := by
  have u3 := Tryz.underlying3
  have a3 := Tryz.isAgg3
  have z3 := Tryz.sizeOf3
  have aO := Tryz.isAgg34
  have zO := Tryz.sizeOf34
  have aS := Tryz.isAgg57
  have zS := Tryz.sizeOf57
  have EO := Sg.eq_op9
  have ES := eq_sag9
  unfold sgv sgc at ES
  have hS : Tryz.prog.underlying 64 = some (.struct (Tryz.prog.fieldsOf 64)) := by kernel_rfl
  unfold rcv rcc
  rw [show (10000 : Nat) = 9999 + 1 from rfl, run_equalIn_agg w 9999 64 _ _ hS Tryz.stoodInHeld64]
  simp only [Program.fieldsOf, Tryz.underlying64]
  go_simp
  obtain ⟨a, b, c, o, s⟩ := r
  obtain ⟨a', b', c', o', s'⟩ := t
  simp only [Rec.mk.injEq]
  by_cases h0 : a = a' <;> by_cases h1 : b = b' <;> by_cases h2 : c = c' <;> by_cases h3 : o = o' <;> by_cases h4 : s = s' <;> simp [h0, h1, h2, h3, h4]
section
variable {ops : Array Oper} {rest : List Oper} {o : Oper} {a : Act} {w : World} {Q : Exit → Act → World → Prop} {K : Act → World → Prop}
theorem wp_rload (x : Operand) (ho : o.op = .load 64 x) (g : Nat) (hx : a.eval x = .pointer (some ⟨g, 0, none⟩)) (r : Rec) (hg : BoxR w g r)
    (h : K (a.put o.dst (rcv r)) w) : o.wp Tryz.prog a w K Q :=
  wp_load_row 64 x ho g hx 64 (rcc r) (0, 0) _ hg Tryz.underlying64 rfl rec_size h
theorem rload_yields (x : Operand) (ho : o.op = .load 64 x) (g : Nat) (hx : a.eval x = .pointer (some ⟨g, 0, none⟩)) (r : Rec) (hg : BoxR w g r) :
    (execOp a.eval o).run Tryz.prog w = .ok (.value (rcv r)) w := by
  unfold execOp
  simp only [ho, hx, Instr.loadAt, Instr.sureAddr, Sem.run_bind, Sem.run_pure, Result.andThen_ok, run_loadVar_row w g 64 64 (rcc r) (0, 0) _ hg Tryz.underlying64 rfl rec_size]
theorem wpList_rload (hgd : o.guard = none) (x : Operand) (ho : o.op = .load 64 x) (g : Nat) (hx : a.eval x = .pointer (some ⟨g, 0, none⟩)) (r : Rec) (hg : BoxR w g r)
    (h : wpList Tryz.prog ops Q rest (a.put o.dst (rcv r)) w) : wpList Tryz.prog ops Q (o :: rest) a w :=
  wpList_plain hgd fun _ hK => wp_rload x ho g hx r hg (hK _ _ h)
theorem wpList_rload_g (x : Operand) (ho : o.op = .load 64 x) (hw : Region.wanted o (yielded ops a.tmps) = true) (g : Nat) (hx : a.eval x = .pointer (some ⟨g, 0, none⟩)) (r : Rec) (hg : BoxR w g r)
    (h : wpList Tryz.prog ops Q rest (a.put o.dst (rcv r)) w) : wpList Tryz.prog ops Q (o :: rest) a w :=
  BigFrame.wpList_want hw fun _ hK => wp_rload x ho g hx r hg (hK _ _ h)
theorem wpList_rstore (hgd : o.guard = none) (x y : Operand) (ho : o.op = .store 64 x y) (g : Nat) (hx : a.eval x = .pointer (some ⟨g, 0, none⟩)) (r : Rec) (hy : a.eval y = rcv r) (s : Rec) (hg : BoxR w g s)
    (h : wpList Tryz.prog ops Q rest (a.put o.dst undef) (w.setRow g (rcc r))) : wpList Tryz.prog ops Q (o :: rest) a w :=
  Pl.wpList_store_row hgd 64 x y ho g (rcc r) hx hy 64 (rcc s) hg rec_size rfl (one19 r) h
end
end Re
end Go.Proofs.YtpkdigegkemogaaGreatDoor
namespace Go.Proofs.YtpkdigegkemogaaGreatDoor
set_option maxRecDepth 100000
open Go.ChangeShapes Go.WideShapes Go.ChangeAt Go.WideMaps Go.WideElems Go.RowKit
namespace Sg
open Wt (Wan may Opn mayOp)
open Pl (Stp spv)

theorem own : ownKnob Tryz.prog.godebug = none := by kernel_rfl
theorem laidOut : laidOutB Tryz.prog = true := by kernel_rfl
section
variable {H : Type} {enc : TypeId × Value → H} {W : World} {sp : Nat → Bool} {held : Bool}
theorem seen_want {fuel : Nat} {x0 x1 x2 x3 x4 x5 x6 : Value} {d : DataW H} {p : List MemPlace} (hf' : DataW.trod enc Tryz.prog W 0 sp held fuel 55 [x0, x1, x2, x3, x4, x5, x6] = some (d, p)) : ∃ x : Wan, x0 = .int .i64 x.book ∧ x1 = .int .i64 x.cust ∧ x2 = .int .i64 x.dead ∧ x3 = .int .i64 x.u0 ∧ x4 = .int .i64 x.u1 ∧ x5 = .int .i64 x.u2 ∧ x6 = .int .i64 x.price := by
  have k3 : Tryz.prog.cellsOf 3 = 1 := by kernel_rfl
  have k2 : Tryz.prog.cellsOf 2 = 1 := by kernel_rfl
  have ka : Tryz.prog.cellsOf 53 = 3 := by kernel_rfl
  obtain ⟨xs, fn, _, _, _, hxl, hg⟩ := DataW.trod_struct Tryz.underlying55 hf'
  have e0 : DataW.trod enc Tryz.prog W 0 sp held fn 3 (([x0, x1, x2, x3, x4, x5, x6].drop 0).take (Tryz.prog.cellsOf 3)) = xs[0]? := hg 0 _ rfl
  have e1 : DataW.trod enc Tryz.prog W 0 sp held fn 3 (([x0, x1, x2, x3, x4, x5, x6].drop 1).take (Tryz.prog.cellsOf 3)) = xs[1]? := hg 1 _ rfl
  have e2 : DataW.trod enc Tryz.prog W 0 sp held fn 3 (([x0, x1, x2, x3, x4, x5, x6].drop 2).take (Tryz.prog.cellsOf 3)) = xs[2]? := hg 2 _ rfl
  have e3 : DataW.trod enc Tryz.prog W 0 sp held fn 53 (([x0, x1, x2, x3, x4, x5, x6].drop 3).take (Tryz.prog.cellsOf 53)) = xs[3]? := hg 3 _ rfl
  have e4 : DataW.trod enc Tryz.prog W 0 sp held fn 2 (([x0, x1, x2, x3, x4, x5, x6].drop 6).take (Tryz.prog.cellsOf 2)) = xs[4]? := hg 4 _ rfl
  rw [k3] at e0 e1 e2
  rw [ka] at e3
  rw [k2] at e4
  simp only [List.drop_zero, List.drop_succ_cons, List.take_succ_cons, List.take_zero] at e0 e1 e2 e3 e4
  have hx : ∀ j, j < 5 → ∃ y, xs[j]? = some y := fun j hj => ⟨_, List.getElem?_eq_getElem (by rw [hxl]; exact hj)⟩
  obtain ⟨y0, z0⟩ := hx 0 (by omega)
  obtain ⟨y1, z1⟩ := hx 1 (by omega)
  obtain ⟨y2, z2⟩ := hx 2 (by omega)
  obtain ⟨y3, z3⟩ := hx 3 (by omega)
  obtain ⟨y4, z4⟩ := hx 4 (by omega)
  obtain ⟨q0, q1, q2, nn, _, r0, r1, r2⟩ := trod_array3 Tryz.underlying53 k3 (e3.trans z3)
  obtain ⟨m0, f0, _, _⟩ := DataW.trod_int Tryz.underlying3 (e0.trans z0)
  obtain ⟨m1, f1, _, _⟩ := DataW.trod_int Tryz.underlying3 (e1.trans z1)
  obtain ⟨m2, f2, _, _⟩ := DataW.trod_int Tryz.underlying3 (e2.trans z2)
  obtain ⟨m3, f3, _, _⟩ := DataW.trod_int Tryz.underlying3 r0
  obtain ⟨m4, f4, _, _⟩ := DataW.trod_int Tryz.underlying3 r1
  obtain ⟨m5, f5, _, _⟩ := DataW.trod_int Tryz.underlying3 r2
  obtain ⟨m6, f6, _, _⟩ := DataW.trod_int Tryz.underlying2 (e4.trans z4)
  simp only [List.cons.injEq, and_true] at f0 f1 f2 f3 f4 f5 f6
  exact ⟨⟨m0, m1, m2, m3, m4, m5, m6⟩, f0, f1, f2, f3, f4, f5, f6⟩
theorem seen_op {fuel : Nat} {x0 x1 x2 x3 x4 : Value} {d : DataW H} {p : List MemPlace} (hf' : DataW.trod enc Tryz.prog W 0 sp held fuel 34 [x0, x1, x2, x3, x4] = some (d, p)) : ∃ x : Opn, x0 = .int .i64 x.kind ∧ x1 = .int .i64 x.book ∧ x2 = .int .i64 x.units ∧ x3 = .int .i64 x.cust ∧ x4 = .int .i64 x.amount := by
  have k3 : Tryz.prog.cellsOf 3 = 1 := by kernel_rfl
  have k2 : Tryz.prog.cellsOf 2 = 1 := by kernel_rfl
  obtain ⟨xs, fn, _, _, _, hxl, hg⟩ := DataW.trod_struct Tryz.underlying34 hf'
  have e0 : DataW.trod enc Tryz.prog W 0 sp held fn 3 (([x0, x1, x2, x3, x4].drop 0).take (Tryz.prog.cellsOf 3)) = xs[0]? := hg 0 _ rfl
  have e1 : DataW.trod enc Tryz.prog W 0 sp held fn 3 (([x0, x1, x2, x3, x4].drop 1).take (Tryz.prog.cellsOf 3)) = xs[1]? := hg 1 _ rfl
  have e2 : DataW.trod enc Tryz.prog W 0 sp held fn 3 (([x0, x1, x2, x3, x4].drop 2).take (Tryz.prog.cellsOf 3)) = xs[2]? := hg 2 _ rfl
  have e3 : DataW.trod enc Tryz.prog W 0 sp held fn 3 (([x0, x1, x2, x3, x4].drop 3).take (Tryz.prog.cellsOf 3)) = xs[3]? := hg 3 _ rfl
  have e4 : DataW.trod enc Tryz.prog W 0 sp held fn 2 (([x0, x1, x2, x3, x4].drop 4).take (Tryz.prog.cellsOf 2)) = xs[4]? := hg 4 _ rfl
  rw [k3] at e0 e1 e2 e3
  rw [k2] at e4
  simp only [List.drop_zero, List.drop_succ_cons, List.take_succ_cons, List.take_zero] at e0 e1 e2 e3 e4
  have hx : ∀ j, j < 5 → ∃ y, xs[j]? = some y := fun j hj => ⟨_, List.getElem?_eq_getElem (by rw [hxl]; exact hj)⟩
  obtain ⟨y0, z0⟩ := hx 0 (by omega)
  obtain ⟨m0, f0, _, _⟩ := DataW.trod_int Tryz.underlying3 (e0.trans z0)
  obtain ⟨y1, z1⟩ := hx 1 (by omega)
  obtain ⟨m1, f1, _, _⟩ := DataW.trod_int Tryz.underlying3 (e1.trans z1)
  obtain ⟨y2, z2⟩ := hx 2 (by omega)
  obtain ⟨m2, f2, _, _⟩ := DataW.trod_int Tryz.underlying3 (e2.trans z2)
  obtain ⟨y3, z3⟩ := hx 3 (by omega)
  obtain ⟨m3, f3, _, _⟩ := DataW.trod_int Tryz.underlying3 (e3.trans z3)
  obtain ⟨y4, z4⟩ := hx 4 (by omega)
  obtain ⟨m4, f4, _, _⟩ := DataW.trod_int Tryz.underlying2 (e4.trans z4)
  simp only [List.cons.injEq, and_true] at f0 f1 f2 f3 f4
  exact ⟨⟨m0, m1, m2, m3, m4⟩, f0, f1, f2, f3, f4⟩
end
section
variable {H : Type} {enc : TypeId × Value → H} {P : Program}
theorem post_below {f : Func} {s : ChangeSpec} {apart fresh handsOn again : Bool} {W W' : World} {args : Array Value} {v : Value} {ds gs : List (DataW H)} {before pa pv : List MemPlace}
    (hW : DataW.Whole enc P f.params.toList s.vars apart W args.toList ds gs before)
    (hres : ∀ (b : Nat) (sp : Nat → Bool) (hd : Bool), DataW.TrodAll enc P W' b sp hd f.resultTypes.toList (v.resultList f.resultTypes.size) (s.fn H (ds ++ gs)).results [])
    (hargs : ∀ sp : Nat → Bool, (∀ p ∈ before, sp p.block = true) → DataW.TrodAll enc P W' 0 sp true f.params.toList args.toList (s.fn H (ds ++ gs)).args pa)
    (hvars : ∀ sp : Nat → Bool, (∀ p ∈ before, sp p.block = true) → DataW.TrodVars enc P W' sp s.vars (s.fn H (ds ++ gs)).vars pv)
    (hps : before = pa ++ pv) (hb : Below W.heap.size W W')
    (hok : ∀ (j : Nat) (t : TypeId) (r : Value), f.resultTypes[j]? = some t → (v.resultList f.resultTypes.size)[j]? = some r → Value.okWide P W' .any 0 t r) :
    s.post enc P f apart fresh handsOn again W args v W' := by
  have lower : ∀ p ∈ before, p.block < W.heap.size := fun p hp => hW.lt p hp
  have within : ∀ p ∈ before, (fun b => decide (b < W.heap.size)) p.block = true := fun p hp => decide_eq_true (lower p hp)
  refine ⟨ds, gs, before, [], pa, pv, hW, hres _ _ _, hargs _ within, hvars _ within, ?_, fun _ => ?_⟩
  · refine World.keptBut_mono (fun p hp => ⟨hp, ?_⟩) (hb.frame (· ∈ before))
    rw [hps, List.mem_append] at hp
    exact .inr hp
  · obtain ⟨_, _, _, _, _, marks, once⟩ := hW
    refine ⟨hok, _, _, ([] ++ pa) ++ pv, ⟨[] ++ pa, pv, trodAll_append (hargs _ (fun _ _ => rfl)) (hres _ _ _), hvars _ (fun _ _ => rfl), rfl, fun b off hp => ?_, fun ha => ?_⟩, fun p hp _ => ?_⟩
    · have hin : MemPlace.cell b off ∈ before := by simpa [hps] using hp
      exact (hb.frozen (lower _ hin)).trans (marks b off hin)
    · simpa [hps] using once ha
    · simpa [hps] using hp
end
def usm (z : Int) (n : Nat) : Nat := ((z % 18446744073709551616) % (n : Int)).toNat
end Sg
end Go.Proofs.YtpkdigegkemogaaGreatDoor
namespace Go.Proofs.YtpkdigegkemogaaGreatDoor
set_option maxRecDepth 100000
open Go.ChangeShapes Go.WideShapes Go.ChangeAt Go.WideMaps Go.WideElems Go.RowKit
namespace Re
open Go.Proofs.YtpkdigegkemogaaGreatDoor.Sg (Sag sgv seen_op seen_want)
open Wt (Opn)
section
variable {H : Type} {enc : TypeId × Value → H} {W : World} {sp : Nat → Bool} {held : Bool}
theorem seen_saga {fuel : Nat} {x0 x1 x2 x3 x4 x5 x6 x7 x8 x9 x10 : Value} {d : DataW H} {p : List MemPlace} (hf' : DataW.trod enc Tryz.prog W 0 sp held fuel 57 [x0, x1, x2, x3, x4, x5, x6, x7, x8, x9, x10] = some (d, p)) :
    ∃ x : Sag, x0 = .int .i64 x.w.book ∧ x1 = .int .i64 x.w.cust ∧ x2 = .int .i64 x.w.dead ∧ x3 = .int .i64 x.w.u0 ∧ x4 = .int .i64 x.w.u1 ∧ x5 = .int .i64 x.w.u2 ∧ x6 = .int .i64 x.w.price ∧ x7 = .int .i64 x.ph ∧ x8 = .int .i64 x.st ∧ x9 = .int .i64 x.rs ∧ x10 = .int .i64 x.si := by
  have k3 : Tryz.prog.cellsOf 3 = 1 := by kernel_rfl
  have k7 : Tryz.prog.cellsOf 55 = 7 := by kernel_rfl
  obtain ⟨xs, fn, _, _, _, hxl, hg⟩ := DataW.trod_struct Tryz.underlying57 hf'
  have e0 : DataW.trod enc Tryz.prog W 0 sp held fn 55 (([x0, x1, x2, x3, x4, x5, x6, x7, x8, x9, x10].drop 0).take (Tryz.prog.cellsOf 55)) = xs[0]? := hg 0 _ rfl
  have e1 : DataW.trod enc Tryz.prog W 0 sp held fn 3 (([x0, x1, x2, x3, x4, x5, x6, x7, x8, x9, x10].drop 7).take (Tryz.prog.cellsOf 3)) = xs[1]? := hg 1 _ rfl
  have e2 : DataW.trod enc Tryz.prog W 0 sp held fn 3 (([x0, x1, x2, x3, x4, x5, x6, x7, x8, x9, x10].drop 8).take (Tryz.prog.cellsOf 3)) = xs[2]? := hg 2 _ rfl
  have e3 : DataW.trod enc Tryz.prog W 0 sp held fn 3 (([x0, x1, x2, x3, x4, x5, x6, x7, x8, x9, x10].drop 9).take (Tryz.prog.cellsOf 3)) = xs[3]? := hg 3 _ rfl
  have e4 : DataW.trod enc Tryz.prog W 0 sp held fn 3 (([x0, x1, x2, x3, x4, x5, x6, x7, x8, x9, x10].drop 10).take (Tryz.prog.cellsOf 3)) = xs[4]? := hg 4 _ rfl
  rw [k7] at e0
  rw [k3] at e1 e2 e3 e4
  simp only [List.drop_zero, List.drop_succ_cons, List.take_succ_cons, List.take_zero] at e0 e1 e2 e3 e4
  have hx : ∀ j, j < 5 → ∃ y, xs[j]? = some y := fun j hj => ⟨_, List.getElem?_eq_getElem (by rw [hxl]; exact hj)⟩
  obtain ⟨y0, z0⟩ := hx 0 (by omega)
  obtain ⟨o, f0, f1, f2, f3, f4, f5, f6⟩ := seen_want (e0.trans z0)
  obtain ⟨y1, z1⟩ := hx 1 (by omega)
  obtain ⟨m1, g1, _, _⟩ := DataW.trod_int Tryz.underlying3 (e1.trans z1)
  obtain ⟨y2, z2⟩ := hx 2 (by omega)
  obtain ⟨m2, g2, _, _⟩ := DataW.trod_int Tryz.underlying3 (e2.trans z2)
  obtain ⟨y3, z3⟩ := hx 3 (by omega)
  obtain ⟨m3, g3, _, _⟩ := DataW.trod_int Tryz.underlying3 (e3.trans z3)
  obtain ⟨y4, z4⟩ := hx 4 (by omega)
  obtain ⟨m4, g4, _, _⟩ := DataW.trod_int Tryz.underlying3 (e4.trans z4)
  simp only [List.cons.injEq, and_true] at g1 g2 g3 g4
  exact ⟨⟨o, m1, m2, m3, m4⟩, f0, f1, f2, f3, f4, f5, f6, g1, g2, g3, g4⟩
end
end Re
end Go.Proofs.YtpkdigegkemogaaGreatDoor
namespace Go.Proofs.YtpkdigegkemogaaGreatDoor
set_option maxRecDepth 100000
open Go.RowKit
open Go.Proofs.YtpkdigegkemogaaGreatDoor.Pk
namespace Re
open Go.Proofs.YtpkdigegkemogaaGreatDoor.Sg (Sag sz smay sgc sgv res_row sag_size)
open Wt (Opn mayOp op_info)
open Pl (wpList_store_row setRow_below)

def stv (cs : Array Value) (o : Nat) : List Value → Array Value
  | [] => cs
  | v :: vs => stv (cs.setIfInBounds o v) (o + 1) vs
theorem setCells_heap {b : Nat} {t : TypeId} (vs : List Value) : ∀ (w : World) (o : Nat) (cs : Array Value), w.heap[b]? = some (.cells cs t (0, 0)) → (w.setCells b o vs).heap[b]? = some (.cells (stv cs o vs) t (0, 0)) := by
  induction vs with
  | nil => intro w o cs h; exact h
  | cons v vs ih => intro w o cs h; exact ih _ _ _ (one_set h v)
theorem setCells_grown {b : Nat} (vs : List Value) : ∀ (w : World) (o : Nat), w.grownBy (w.setCells b o vs) (some b) := by
  induction vs with
  | nil => intro w o; exact grown_refl _ _
  | cons v vs ih => intro w o; exact grown_trans (grown_set w b o v) (ih _ _)
theorem stv5 (k n a : Int) (x : Opn) : stv (rcc ⟨k, n, a, o0, sz⟩) 3 [.int .i64 x.kind, .int .i64 x.book, .int .i64 x.units, .int .i64 x.cust, .int .i64 x.amount] = rcc ⟨k, n, a, x, sz⟩ := by simp [stv, rcc, o0, sz]
theorem stv11 (k n a : Int) (x : Sag) : stv (rcc ⟨k, n, a, o0, sz⟩) 8 [.int .i64 x.w.book, .int .i64 x.w.cust, .int .i64 x.w.dead, .int .i64 x.w.u0, .int .i64 x.w.u1, .int .i64 x.w.u2, .int .i64 x.w.price, .int .i64 x.ph, .int .i64 x.st, .int .i64 x.rs, .int .i64 x.si] = rcc ⟨k, n, a, o0, x⟩ := by simp [stv, rcc, o0, sz]
end Re
end Go.Proofs.YtpkdigegkemogaaGreatDoor
