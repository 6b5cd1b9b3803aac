/- For StockPlays: an inventory and the document's, side by side, and a step's box. -/
import Derived.Test.YtchlbkfkecpodaaDsE
namespace Go.Proofs.Ytchlbkfkecpodaa
set_option maxRecDepth 100000
open Go.RowKit Go.Sort
open Go.Proofs.Ytchlbkfkecpodaa.Pk (one_at one_free one_set lt_some grown_set grown_trans below_grown grown_refl)
namespace St
open Wt (Opn mayOp)

def stc (o : Stp) : Array Value := #[.int .i64 o.kind, .int .i64 o.o.kind, .int .i64 o.o.book, .int .i64 o.o.units, .int .i64 o.o.cust, .int .i64 o.o.amount, .int .i64 o.d, .int .i64 o.now, .bool o.raw]
theorem dstp_ok {cap over : Int} {f : F} (h : Ok cap over f) (o : Opn) (now : Int) : Ok cap over (dstp cap over f o now).1 := by
  unfold dstp
  refine ok_stp h (fun hh => ?_) (fun hh hk => ?_) (fun hh => ?_)
  · rw [Bool.and_eq_true] at hh
    exact (mayop_bds hh.1).2.2
  · rw [Bool.and_eq_true] at hh
    have h1 := hh.1
    unfold mayOp at h1
    rw [if_pos hk, Bool.and_eq_true, Bool.and_eq_true] at h1
    have h2 := h1.2.1
    unfold Wt.inR at h2
    simpa using h2
  · rw [Bool.and_eq_true] at hh
    exact hh.2
section
variable {B d q : Nat} {X : Nat → Prop} {w0 w w' : World} {cap over : Int} {f : F}
/-- The document's is written beside a ledger. -/
theorem Ow.side (O : Ow B X w0 w q cap over f) (K : Kq (fun g => g = d) w w') (hX : X d) (hB : B ≤ d) : Ow B X w0 w' q cap over f := by
  obtain ⟨fp, L, hf⟩ := O.ex
  refine ⟨⟨fp, L.keep K.size fun g hg => K.block g (L.size g hg) fun e => (hf g hg).2 (by rw [e]; exact hX), hf⟩, O.be.trans (K.below (fun g hg => by rw [hg]; exact hB) O.bs), Nat.le_trans O.bs K.size, fun g hg => Nat.lt_of_lt_of_le (O.xs g hg) K.size⟩
/-- What a copy leaves, and another one behind it. -/
theorem ow_copy2 (O : Ow B X w0 w q cap over f) : Calls Try.prog 14 #[.pointer (some ⟨q, 0, none⟩)] w fun e w' => ∃ q' fp', e = .returned (.pointer (some ⟨q', 0, none⟩)) ∧ (∀ g, fp' g → B ≤ g ∧ ¬ X g) ∧ Led w' q' cap over f fp' ∧ Ow B (fun g => X g ∨ fp' g) w0 w' q cap over f ∧ Below w.heap.size w w' := by
  obtain ⟨fp, L, hf⟩ := O.ex
  refine (copy_any w q cap over f fp L).mono ?_
  rintro e w' ⟨q', fp', rfl, hn, L', hb⟩
  refine ⟨q', fp', rfl, fun g hg => ⟨Nat.le_trans O.bs (hn g hg), fun hx => ?_⟩, L', (O.add hb).less fun g hg => ?_, hb⟩
  · have := O.xs g hx
    have := hn g hg
    omega
  · rcases hg with hg | hg
    · exact .inl hg
    · exact .inr ⟨hn g hg, L'.size g hg⟩
theorem Ow.of_copy {q' : Nat} {f' : F} {fp' : Nat → Prop} (L' : Led w q' cap over f fp') (hf : ∀ g, fp' g → B ≤ g ∧ ¬ X g) (h : OwTo B (fun g => X g ∨ fp' g) w0 w q cap over f' w') : Ow B X w0 w' q' cap over f :=
  ⟨⟨fp', L'.keep h.2.1 fun g hg => h.2.2 g (.inr hg), hf⟩, h.1.be, h.1.bs, fun g hg => h.1.xs g (.inl hg)⟩
end
/-- The program's ledger at q, the document's at d, the step's box at ob. -/
structure Md (B : World) (q d ob : Nat) (cap over : Int) (f1 f2 : F) (o : Stp) (W : World) : Prop where
  ow : Ow B.heap.size (fun g => g = ob ∨ g = d) B W q cap over f1
  ds : Ds W d cap over f2
  box : W.heap[ob]? = some (.cells (stc o) 32 (0, 0))
  dlt : B.heap.size ≤ d
  obd : ob ≠ d
  ok2 : Ok cap over f2
/-- The two, between rounds. -/
structure Pd (B : World) (q d : Nat) (cap over : Int) (f : F) (W : World) : Prop where
  ow : Ow B.heap.size (fun g => g = d) B W q cap over f
  ds : Ds W d cap over f
  dlt : B.heap.size ≤ d
section
variable {B W W' : World} {q d ob : Nat} {X : Nat → Prop} {cap over : Int} {f f1 f2 : F} {o : Stp}
theorem Pd.below (P : Pd B q d cap over f W) (hb : Below W.heap.size W W') : Pd B q d cap over f W' := ⟨P.ow.below hb, P.ds.below hb, P.dlt⟩
theorem Md.drew (M : Md B q d ob cap over f1 f2 o W) : Md B q d ob cap over f1 f2 o W.drew :=
  ⟨M.ow.below ⟨rfl, rfl, rfl, Nat.le_refl _, fun _ _ => rfl⟩, M.ds.keep rfl, M.box, M.dlt, M.obd, M.ok2⟩
theorem Pd.box (P : Pd B q d cap over f W) (o : Stp) : Md B q d W.heap.size cap over f f o (W.alloc (.cells (stc o) 32)) := by
  have hb : Below W.heap.size W (W.alloc (.cells (stc o) 32)) := (Below.refl _ _).alloc (Nat.le_refl _) _
  have hl := P.ds.lt
  refine ⟨(P.ow.add hb).less fun g hg => ?_, P.ds.below hb, heap_alloc_new _ _, P.dlt, by omega, P.ow.ok⟩
  rcases hg with hg | hg
  · exact .inr ⟨by omega, by rw [hg]; exact lt_some (heap_alloc_new W (.cells (stc o) 32))⟩
  · exact .inl hg
theorem pd_start (O : Ow B.heap.size X B W q cap over fz) : Pd B q W.heap.size cap over fz (W.alloc (.cells (stcs cap over fz) 48)) := by
  have hb : Below W.heap.size W (W.alloc (.cells (stcs cap over fz) 48)) := (Below.refl _ _).alloc (Nat.le_refl _) _
  refine ⟨(O.add hb).less fun g hg => .inr ⟨by omega, ?_⟩, .of_block (heap_alloc_new _ _), O.bs⟩
  rw [hg]
  exact lt_some (heap_alloc_new W (.cells (stcs cap over fz) 48))
theorem Md.pair (M : Md B q d ob cap over f f o W) : Pd B q d cap over f W := ⟨M.ow.less fun _ h => .inr h, M.ds, M.dlt⟩
theorem Md.cells (M : Md B q d ob cap over f1 f2 o W) : W.cell? ⟨ob, 0, none⟩ = some (.int .i64 o.kind) ∧ W.cell? ⟨ob, 1, none⟩ = some (.int .i64 o.o.kind) ∧ W.cell? ⟨ob, 2, none⟩ = some (.int .i64 o.o.book) ∧ W.cell? ⟨ob, 3, none⟩ = some (.int .i64 o.o.units) ∧ W.cell? ⟨ob, 4, none⟩ = some (.int .i64 o.o.cust) ∧ W.cell? ⟨ob, 5, none⟩ = some (.int .i64 o.o.amount) ∧ W.cell? ⟨ob, 6, none⟩ = some (.int .i64 o.d) ∧ W.cell? ⟨ob, 7, none⟩ = some (.int .i64 o.now) ∧ W.cell? ⟨ob, 8, none⟩ = some (.bool o.raw) :=
  ⟨one_at (i := 0) M.box, one_at (i := 1) M.box, one_at (i := 2) M.box, one_at (i := 3) M.box, one_at (i := 4) M.box, one_at (i := 5) M.box, one_at (i := 6) M.box, one_at (i := 7) M.box, one_at (i := 8) M.box⟩
theorem Md.be (M : Md B q d ob cap over f1 f2 o W) : Below B.heap.size B W := M.ow.be
theorem md_do (M : Md B q d ob cap over f1 f2 o W) (p : Opn) (now : Int) : Calls Try.prog 12 #[.pointer (some ⟨q, 0, none⟩), opv p, .int .i64 now] W fun e w' => e = .returned (.int .i64 (dstp cap over f1 p now).2) ∧ Md B q d ob cap over (dstp cap over f1 p now).1 f2 o w' := by
  refine (ow_do M.ow p now).mono ?_
  rintro e w' ⟨rfl, h1, h2, h3⟩
  exact ⟨rfl, h1, M.ds.keep (h3 d (.inr rfl)), (h3 ob (.inl rfl)).trans M.box, M.dlt, M.obd, M.ok2⟩
theorem mx_do (M : Md B q d ob cap over f1 f2 o W) (p : Opn) (now : Int) : Calls Try.prog 19 #[.pointer (some ⟨d, 0, none⟩), opv p, .int .i64 now] W fun e w' => e = .returned (.int .i64 (dstp cap over f2 p now).2) ∧ Md B q d ob cap over f1 (dstp cap over f2 p now).1 o w' := by
  refine (refdo_any W d cap over now f2 M.ds M.ok2 p).mono ?_
  rintro e w' ⟨rfl, h1, K⟩
  exact ⟨rfl, M.ow.side K.toKq (.inr rfl) M.dlt, h1, (K.block ob (lt_some M.box) M.obd).trans M.box, M.dlt, M.obd, dstp_ok M.ok2 p now⟩
theorem md_sweep (M : Md B q d ob cap over f1 f2 o W) (now : Int) : Calls Try.prog 15 #[.pointer (some ⟨q, 0, none⟩), .int .i64 now] W fun e w' => ∃ A c, e = .returned (.slice A (swL f1 now).length c) ∧ RowI w' W.heap.size (.slice A (swL f1 now).length c) (swL f1 now).length (ivs (swL f1 now)) ∧ W.heap.size ≤ w'.heap.size ∧ Md B q d ob cap over (swF f1 now) f2 o w' := by
  refine (ow_sweep M.ow now).mono ?_
  rintro e w' ⟨v, rfl, hr, h1, h2, h3⟩
  obtain ⟨A, c, rfl, _⟩ := ri_form hr
  exact ⟨A, c, rfl, hr, h2, h1, M.ds.keep (h3 d (.inr rfl)), (h3 ob (.inl rfl)).trans M.box, M.dlt, M.obd, M.ok2⟩
theorem mx_sweep {base n : Nat} {v : Value} {xs : List Value} (M : Md B q d ob cap over f1 f2 o W) (now : Int) (hr : RowI W base v n xs) (hb : d < base) : Calls Try.prog 21 #[.pointer (some ⟨d, 0, none⟩), .int .i64 now] W fun e w' => ∃ A c, e = .returned (.slice A (swL f2 now).length c) ∧ RowI w' W.heap.size (.slice A (swL f2 now).length c) (swL f2 now).length (ivs (swL f2 now)) ∧ RowI w' base v n xs ∧ Md B q d ob cap over f1 (swF f2 now) o w' := by
  refine (refsweep_any W d cap over now f2 M.ds M.ok2).mono ?_
  rintro e w' ⟨v2, rfl, h1, h2, K⟩
  obtain ⟨A, c, rfl, _⟩ := ri_form h1
  exact ⟨A, c, rfl, h1, row_off hr K fun g hg => by have := (ri_block hr hg).1; omega, M.ow.side K.toKq (.inr rfl) M.dlt, h2, (K.block ob (lt_some M.box) M.obd).trans M.box, M.dlt, M.obd, ok_swF M.ok2 now⟩
theorem swL_few (f : F) (now : Int) : (swL f now).length ≤ 200 := by
  unfold swL
  split
  · exact sel_len _ _ _
  · exact Nat.zero_le _
theorem pd_same (P : Pd B q d cap over f W) : Calls Try.prog 22 #[.pointer (some ⟨q, 0, none⟩), .pointer (some ⟨d, 0, none⟩)] W fun e w' => e = .returned (.bool true) ∧ Below W.heap.size W w' := same_any W B.heap.size _ B q d cap over f P.ow P.ds
end
theorem build_run (w : World) (cap over : Int) : (Instr.build 48 #[(0, .agg #[.int .i64 cap, .int .i64 over])]).run Try.prog w = .ok (.agg (stcs cap over fz)) w := by kernel_rfl
theorem box_run (w : World) (cs : Array Value) : (Instr.box 48 (.agg cs)).run Try.prog w = .ok (.pointer (some ⟨w.heap.size, 0, none⟩)) (w.alloc (.cells cs 48)) := by
  simp only [Instr.box, newVar, newRow, Sem.run_bind]
  kernel_rfl
section
variable {ops : Array Oper} {rest : List Oper} {o : Oper} {a : Act} {w : World} {Q : Exit → Act → World → Prop}
theorem wpList_build9 (hg : o.guard = none) (x : Operand) (ho : o.op = .build 48 #[(0, x)]) (cap over : Int) (hx : a.eval x = .agg #[.int .i64 cap, .int .i64 over])
    (h : wpList Try.prog ops Q rest (a.put o.dst (.agg (stcs cap over fz))) w) : wpList Try.prog ops Q (o :: rest) a w := by
  refine wpList_plain hg fun K hK => ?_
  unfold Oper.wp execOp
  have e : (#[(0, x)] : Array (Nat × Operand)).map (fun (i, y) => (i, a.eval y)) = #[(0, .agg #[.int .i64 cap, .int .i64 over])] := by simp [hx]
  simp only [ho, e, Sem.run_bind, build_run, Sem.run_pure, Result.andThen_ok]
  exact hK _ _ h
theorem wpList_box9 (hg : o.guard = none) (x : Operand) (ho : o.op = .box 48 x) (cs : Array Value) (hx : a.eval x = .agg cs)
    (h : wpList Try.prog ops Q rest (a.put o.dst (.pointer (some ⟨w.heap.size, 0, none⟩))) (w.alloc (.cells cs 48))) : wpList Try.prog ops Q (o :: rest) a w := by
  refine wpList_plain hg fun K hK => ?_
  unfold Oper.wp execOp
  simp only [ho, hx, Sem.run_bind, box_run, Sem.run_pure, Result.andThen_ok]
  exact hK _ _ h
end
theorem i64_and7 (n : Int) : bits .and .i64 n 7 = n % 8 := by
  have h3 : (BitVec.ofInt 64 7).toNat = 2 ^ 3 - 1 := by decide
  have key : (BitVec.ofInt 64 n &&& BitVec.ofInt 64 7).toNat = (n % ((2 ^ 64 : Nat) : Int)).toNat % 2 ^ 3 := by
    rw [BitVec.toNat_and, BitVec.toNat_ofInt, h3, Nat.and_two_pow_sub_one_eq_mod]
  show IntKind.i64.wrap ((BitVec.ofInt 64 n &&& BitVec.ofInt 64 7).toNat : Nat) = n % 8
  rw [key, IntKind.wrap_i64]
  omega
end St
end Go.Proofs.Ytchlbkfkecpodaa
