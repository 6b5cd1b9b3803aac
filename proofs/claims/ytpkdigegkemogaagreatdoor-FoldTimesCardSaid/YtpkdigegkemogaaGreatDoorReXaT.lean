/- Parts of the claim: ReM, ReA -/
import Derived.Laws.Tables
import Derived.Test.YtpkdigegkemogaaGreatDoorSgXbT
namespace Go.Proofs.YtpkdigegkemogaaGreatDoor
open Go.RowKit
open Go.Proofs.YtpkdigegkemogaaGreatDoor.Pk
namespace Re
open Go.Proofs.YtpkdigegkemogaaGreatDoor.Sg (Sag sz smay)
open Go.Proofs.YtpkdigegkemogaaGreatDoor.Sb (sput sput_len)
open Wt (Opn mayOp inR I)

structure Rec where
  kd : Int
  now : Int
  an : Int
  op : Opn
  sg : Sag
deriving DecidableEq
def o0 : Opn := ⟨0, 0, 0, 0, 0⟩
def r0 : Rec := ⟨0, 0, 0, o0, sz⟩
def rmay (r : Rec) : Bool := inR r.now 0 1099511627776 &&
  (if r.kd = 1 then mayOp r.op && (r.an == 1 || r.an == 2) && decide (r.sg = sz)
  else if r.kd = 2 then decide (r.op = o0) && r.an == 0 && decide (r.sg = sz)
  else if r.kd = 3 then decide (r.op = o0) && r.an == 0 && smay r.sg
  else false)
theorem rmay_cases {r : Rec} (h : rmay r = true) : (r.kd = 1 ∧ mayOp r.op = true ∧ (r.an = 1 ∨ r.an = 2) ∧ r.sg = sz) ∨ (r.kd = 2 ∧ r.op = o0 ∧ r.an = 0 ∧ r.sg = sz) ∨ (r.kd = 3 ∧ r.op = o0 ∧ r.an = 0 ∧ smay r.sg = true) := by
  unfold rmay at h
  rw [Bool.and_eq_true] at h
  have h2 := h.2
  split at h2
  · simp only [Bool.and_eq_true, Bool.or_eq_true, decide_eq_true_iff, beq_iff_eq] at h2
    rename_i hk
    exact .inl ⟨hk, h2.1.1, h2.1.2, h2.2⟩
  · split at h2
    · simp only [Bool.and_eq_true, decide_eq_true_iff, beq_iff_eq] at h2
      rename_i hk
      exact .inr (.inl ⟨hk, h2.1.1, h2.1.2, h2.2⟩)
    · split at h2
      · simp only [Bool.and_eq_true, decide_eq_true_iff, beq_iff_eq] at h2
        rename_i hk
        exact .inr (.inr ⟨hk, h2.1.1, h2.1.2, h2.2⟩)
      · cases h2
end Re
end Go.Proofs.YtpkdigegkemogaaGreatDoor
namespace Go.Proofs.YtpkdigegkemogaaGreatDoor
set_option maxRecDepth 100000
open Go.RowKit
open Go.Proofs.YtpkdigegkemogaaGreatDoor.Pk (one_at one_free one_set lt_some)
namespace Re
open Go.Proofs.YtpkdigegkemogaaGreatDoor.Sg (Sag sz smay sgc sgv)
open Wt (Wan Opn mayOp)

abbrev rcc (r : Rec) : Array Value := #[.int .i64 r.kd, .int .i64 r.now, .int .i64 r.an, .int .i64 r.op.kind, .int .i64 r.op.book, .int .i64 r.op.units, .int .i64 r.op.cust, .int .i64 r.op.amount, .int .i64 r.sg.w.book, .int .i64 r.sg.w.cust, .int .i64 r.sg.w.dead, .int .i64 r.sg.w.u0, .int .i64 r.sg.w.u1, .int .i64 r.sg.w.u2, .int .i64 r.sg.w.price, .int .i64 r.sg.ph, .int .i64 r.sg.st, .int .i64 r.sg.rs, .int .i64 r.sg.si]
abbrev rcv (r : Rec) : Value := .agg (rcc r)
abbrev opv (o : Opn) : Value := .agg #[.int .i64 o.kind, .int .i64 o.book, .int .i64 o.units, .int .i64 o.cust, .int .i64 o.amount]
def BoxR (w : World) (g : Nat) (r : Rec) : Prop := w.heap[g]? = some (.cells (rcc r) 64 (0, 0))
structure CellR (w : World) (g : Nat) (r : Rec) : Prop where
  c0 : w.cell? ⟨g, 0, none⟩ = some (.int .i64 r.kd)
  c1 : w.cell? ⟨g, 1, none⟩ = some (.int .i64 r.now)
  c2 : w.cell? ⟨g, 2, none⟩ = some (.int .i64 r.an)
  c3 : w.cell? ⟨g, 3, none⟩ = some (.int .i64 r.op.kind)
  c4 : w.cell? ⟨g, 4, none⟩ = some (.int .i64 r.op.book)
  c5 : w.cell? ⟨g, 5, none⟩ = some (.int .i64 r.op.units)
  c6 : w.cell? ⟨g, 6, none⟩ = some (.int .i64 r.op.cust)
  c7 : w.cell? ⟨g, 7, none⟩ = some (.int .i64 r.op.amount)
  c8 : w.cell? ⟨g, 8, none⟩ = some (.int .i64 r.sg.w.book)
  c9 : w.cell? ⟨g, 9, none⟩ = some (.int .i64 r.sg.w.cust)
  c10 : w.cell? ⟨g, 10, none⟩ = some (.int .i64 r.sg.w.dead)
  c11 : w.cell? ⟨g, 11, none⟩ = some (.int .i64 r.sg.w.u0)
  c12 : w.cell? ⟨g, 12, none⟩ = some (.int .i64 r.sg.w.u1)
  c13 : w.cell? ⟨g, 13, none⟩ = some (.int .i64 r.sg.w.u2)
  c14 : w.cell? ⟨g, 14, none⟩ = some (.int .i64 r.sg.w.price)
  c15 : w.cell? ⟨g, 15, none⟩ = some (.int .i64 r.sg.ph)
  c16 : w.cell? ⟨g, 16, none⟩ = some (.int .i64 r.sg.st)
  c17 : w.cell? ⟨g, 17, none⟩ = some (.int .i64 r.sg.rs)
  c18 : w.cell? ⟨g, 18, none⟩ = some (.int .i64 r.sg.si)
section
variable {w w' : World} {g B : Nat} {r : Rec}
theorem BoxR.lt (h : BoxR w g r) : g < w.heap.size := lt_some h
theorem BoxR.below (h : BoxR w g r) (hb : Below w.heap.size w w') : BoxR w' g r := (hb.block g h.lt).trans h
theorem BoxR.cells (h : BoxR w g r) : CellR w g r := ⟨one_at h, one_at h, one_at h, one_at h, one_at h, one_at h, one_at h, one_at h, one_at h, one_at h, one_at h, one_at h, one_at h, one_at h, one_at h, one_at h, one_at h, one_at h, one_at h⟩
end
theorem rec_size : (Tryz.prog.info? 64).map (·.size) = some 19 := by kernel_rfl
theorem one19 (r : Rec) : (rcc r).all (·.oneCell') = true := by simp [rcc, Value.oneCell']

theorem eq_arr7 (w : World) (a b c x y z : Int) : (Op.equalIn 9997 53 (.agg #[.int .i64 a, .int .i64 b, .int .i64 c]) (.agg #[.int .i64 x, .int .i64 y, .int .i64 z])).run Tryz.prog w = .ok (a == x && (b == y && c == z)) w := by
  have u3 := Tryz.underlying3
  have a3 := Tryz.isAgg3
  have z3 := Tryz.sizeOf3
  rw [show (9997 : Nat) = 9996 + 1 from rfl, Op.equalIn]
  simp only [Sem.run_bind, run_underlying Tryz.underlying53, Result.andThen_ok]
  simp only [Std.Legacy.Range.forIn_eq_forIn_range', Std.Legacy.Range.size, Nat.sub_zero, Nat.add_sub_cancel, Nat.div_one, List.range'_succ, List.range'_zero, List.forIn_cons, List.forIn_nil]
  go_simp
  by_cases h1 : a = x <;> by_cases h2 : b = y <;> by_cases h3 : c = z <;> simp [h1, h2, h3]
theorem eq_wan8 (w : World) (x y : Wan) : (Op.equalIn 9998 55 (.agg #[.int .i64 x.book, .int .i64 x.cust, .int .i64 x.dead, .int .i64 x.u0, .int .i64 x.u1, .int .i64 x.u2, .int .i64 x.price]) (.agg #[.int .i64 y.book, .int .i64 y.cust, .int .i64 y.dead, .int .i64 y.u0, .int .i64 y.u1, .int .i64 y.u2, .int .i64 y.price])).run Tryz.prog w = .ok (decide (x = y)) w := by
  have q22 := eq_arr7
  have u3 := Tryz.underlying3
  have a3 := Tryz.isAgg3
  have z3 := Tryz.sizeOf3
  have u2 := Tryz.underlying2
  have a2 := Tryz.isAgg2
  have z2 := Tryz.sizeOf2
  have a22 := Tryz.isAgg53
  have z22 := Tryz.sizeOf53
  have hS : Tryz.prog.underlying 55 = some (.struct (Tryz.prog.fieldsOf 55)) := by kernel_rfl
  rw [show (9998 : Nat) = 9997 + 1 from rfl, run_equalIn_agg w 9997 55 _ _ hS Tryz.stoodInHeld55]
  simp only [Program.fieldsOf, Tryz.underlying55]
  go_simp
  obtain ⟨a, b, c, d, e, f, g⟩ := x
  obtain ⟨a', b', c', d', e', f', g'⟩ := y
  simp only [Wan.mk.injEq]
  by_cases h1 : a = a' <;> by_cases h2 : b = b' <;> by_cases h3 : c = c' <;> by_cases h4 : d = d' <;> by_cases h5 : e = e' <;> by_cases h6 : f = f' <;> by_cases h7 : g = g' <;> simp [h1, h2, h3, h4, h5, h6, h7]
theorem eq_sag9 (w : World) (s t : Sag) : (Op.equalIn 9999 57 (sgv s) (sgv t)).run Tryz.prog w = .ok (decide (s = t)) w := by
  have u3 := Tryz.underlying3
  have a3 := Tryz.isAgg3
  have z3 := Tryz.sizeOf3
  have aW := Tryz.isAgg55
  have zW := Tryz.sizeOf55
  have EW := eq_wan8
  have hS : Tryz.prog.underlying 57 = some (.struct (Tryz.prog.fieldsOf 57)) := by kernel_rfl
  unfold sgv sgc
  rw [show (9999 : Nat) = 9998 + 1 from rfl, run_equalIn_agg w 9998 57 _ _ hS Tryz.stoodInHeld57]
  simp only [Program.fieldsOf, Tryz.underlying57]
  go_simp
  obtain ⟨x, a, b, c, d⟩ := s
  obtain ⟨x', a', b', c', d'⟩ := t
  simp only [Sag.mk.injEq]
  by_cases h0 : x = x' <;> by_cases h1 : a = a' <;> by_cases h2 : b = b' <;> by_cases h3 : c = c' <;> by_cases h4 : d = d' <;> simp [h0, h1, h2, h3, h4]
theorem eq_rec (w : World) (r t : Rec) : (Op.equalIn 10000 64 (rcv r) (rcv t)).run Tryz.prog w = .ok (decide (r = t)) w := by
  have u3 := Tryz.underlying3
  have a3 := Tryz.isAgg3
  have z3 := Tryz.sizeOf3
  have aO := Tryz.isAgg34
  have zO := Tryz.sizeOf34
  have aS := Tryz.isAgg57
  have zS := Tryz.sizeOf57
  have EO := Sg.eq_op9
  have ES := eq_sag9
  unfold sgv sgc at ES
  have hS : Tryz.prog.underlying 64 = some (.struct (Tryz.prog.fieldsOf 64)) := by kernel_rfl
  unfold rcv rcc
  rw [show (10000 : Nat) = 9999 + 1 from rfl, run_equalIn_agg w 9999 64 _ _ hS Tryz.stoodInHeld64]
  simp only [Program.fieldsOf, Tryz.underlying64]
  go_simp
  obtain ⟨a, b, c, o, s⟩ := r
  obtain ⟨a', b', c', o', s'⟩ := t
  simp only [Rec.mk.injEq]
  by_cases h0 : a = a' <;> by_cases h1 : b = b' <;> by_cases h2 : c = c' <;> by_cases h3 : o = o' <;> by_cases h4 : s = s' <;> simp [h0, h1, h2, h3, h4]
theorem eq_op10 (w : World) (x y : Opn) : (Op.equalIn 10000 34 (opv x) (opv y)).run Tryz.prog w = .ok (decide (x = y)) w := by
  have u3 := Tryz.underlying3
  have a3 := Tryz.isAgg3
  have z3 := Tryz.sizeOf3
  have u2 := Tryz.underlying2
  have a2 := Tryz.isAgg2
  have z2 := Tryz.sizeOf2
  have hS : Tryz.prog.underlying 34 = some (.struct (Tryz.prog.fieldsOf 34)) := by kernel_rfl
  unfold opv
  rw [show (10000 : Nat) = 9999 + 1 from rfl, run_equalIn_agg w 9999 34 _ _ hS Tryz.stoodInHeld34]
  simp only [Program.fieldsOf, Tryz.underlying34]
  go_simp
  obtain ⟨a, b, c, d, e⟩ := x
  obtain ⟨a', b', c', d', e'⟩ := y
  simp only [Opn.mk.injEq]
  by_cases h1 : a = a' <;> by_cases h2 : b = b' <;> by_cases h3 : c = c' <;> by_cases h4 : d = d' <;> by_cases h5 : e = e' <;> simp [h1, h2, h3, h4, h5]
section
variable {ops : Array Oper} {rest : List Oper} {o : Oper} {a : Act} {w : World} {Q : Exit → Act → World → Prop} {K : Act → World → Prop}
theorem wp_rload (x : Operand) (ho : o.op = .load 64 x) (g : Nat) (hx : a.eval x = .pointer (some ⟨g, 0, none⟩)) (r : Rec) (hg : BoxR w g r)
    (h : K (a.put o.dst (rcv r)) w) : o.wp Tryz.prog a w K Q :=
  wp_load_row 64 x ho g hx 64 (rcc r) (0, 0) _ hg Tryz.underlying64 rfl rec_size h
theorem rload_yields (x : Operand) (ho : o.op = .load 64 x) (g : Nat) (hx : a.eval x = .pointer (some ⟨g, 0, none⟩)) (r : Rec) (hg : BoxR w g r) :
    (execOp a.eval o).run Tryz.prog w = .ok (.value (rcv r)) w := by
  unfold execOp
  simp only [ho, hx, Instr.loadAt, Instr.sureAddr, Sem.run_bind, Sem.run_pure, Result.andThen_ok, run_loadVar_row w g 64 64 (rcc r) (0, 0) _ hg Tryz.underlying64 rfl rec_size]
theorem wpList_rload (hgd : o.guard = none) (x : Operand) (ho : o.op = .load 64 x) (g : Nat) (hx : a.eval x = .pointer (some ⟨g, 0, none⟩)) (r : Rec) (hg : BoxR w g r)
    (h : wpList Tryz.prog ops Q rest (a.put o.dst (rcv r)) w) : wpList Tryz.prog ops Q (o :: rest) a w :=
  wpList_plain hgd fun _ hK => wp_rload x ho g hx r hg (hK _ _ h)
theorem wpList_rload_g (x : Operand) (ho : o.op = .load 64 x) (hw : Region.wanted o (yielded ops a.tmps) = true) (g : Nat) (hx : a.eval x = .pointer (some ⟨g, 0, none⟩)) (r : Rec) (hg : BoxR w g r)
    (h : wpList Tryz.prog ops Q rest (a.put o.dst (rcv r)) w) : wpList Tryz.prog ops Q (o :: rest) a w :=
  BigFrame.wpList_want hw fun _ hK => wp_rload x ho g hx r hg (hK _ _ h)
theorem wpList_rstore (hgd : o.guard = none) (x y : Operand) (ho : o.op = .store 64 x y) (g : Nat) (hx : a.eval x = .pointer (some ⟨g, 0, none⟩)) (r : Rec) (hy : a.eval y = rcv r) (s : Rec) (hg : BoxR w g s)
    (h : wpList Tryz.prog ops Q rest (a.put o.dst undef) (w.setRow g (rcc r))) : wpList Tryz.prog ops Q (o :: rest) a w :=
  Pl.wpList_store_row hgd 64 x y ho g (rcc r) hx hy 64 (rcc s) hg rec_size rfl (one19 r) h
end
end Re
end Go.Proofs.YtpkdigegkemogaaGreatDoor
