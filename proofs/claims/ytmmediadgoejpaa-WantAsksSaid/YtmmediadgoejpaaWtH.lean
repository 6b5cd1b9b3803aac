/- told: the few things of the document that each statement asks besides. -/
import Derived.Test.YtmmediadgoejpaaWtL
namespace Go.Proofs.Ytmmediadgoejpaa
open Go.RowKit Go.Proofs.Ytmmediadgoejpaa.Pk
namespace Wt

def w1_ : Wan := ⟨1, 0, 0, 0, 1, 0, 5⟩
def w2_ : Wan := ⟨1, 0, 0, 0, 0, 0, 0⟩
def o1_ : Opn := ⟨1, 2, 3, 0, 0⟩
def o2_ : Opn := ⟨0, 0, 0, 0, 0⟩
theorem w1_may : may w1_ = true := by decide
theorem w2_may : may w2_ = false := by decide
theorem o1_may : mayOp o1_ = true := by decide
theorem o2_may : mayOp o2_ = false := by decide
theorem PutTo.rb {w' : World} {v : Value} {bs : List UInt8} {B : Nat} (h : w'.ownsRow B 5 1 v bs.length (u8s bs)) : ∃ A c, v = .slice A bs.length c ∧ Rb w' (fun g => g < w'.heap.size) A bs.length bs ∧ (A = none → c = 0) := by
  obtain ⟨A, c, rfl⟩ := own_form h
  refine ⟨A, c, rfl, (Rb.of_own h).keep (fun _ _ => rfl) (fun g hg => hg.2.lt), fun e => ?_⟩
  subst e
  rcases h.2 with ⟨e, _⟩ | ⟨g, cap, cur, e, _⟩
  · injection e
  · injection e with e; cases e

/-- Three numbers are alike. -/
theorem eq_arr (w : World) (a b c x y z : Int) : (Op.equalIn 9999 22 (.agg #[.int .i64 a, .int .i64 b, .int .i64 c]) (.agg #[.int .i64 x, .int .i64 y, .int .i64 z])).run Try.prog w = .ok (a == x && (b == y && c == z)) w := by
  have u3 := Try.underlying3
  have a3 := Try.isAgg3
  have z3 := Try.sizeOf3
  rw [show (9999 : Nat) = 9998 + 1 from rfl, Op.equalIn]
  simp only [Sem.run_bind, run_underlying Try.underlying22, Result.andThen_ok]
  simp only [Std.Legacy.Range.forIn_eq_forIn_range', Std.Legacy.Range.size, Nat.sub_zero, Nat.add_sub_cancel, Nat.div_one, List.range'_succ, List.range'_zero, List.forIn_cons, List.forIn_nil]
  go_simp
  by_cases h1 : a = x <;> by_cases h2 : b = y <;> by_cases h3 : c = z <;> simp [h1, h2, h3]
theorem stay {w w' : World} {g : Nat} {o : Obj} (h : Hid (w.heap[g]? = some o)) (b : Below w.heap.size w w') : Hid (w'.heap[g]? = some o) := (b.block _ (lt_some h.out)).trans h.out
theorem stay1 {w : World} {g : Nat} {o : Obj} (h : Hid (w.heap[g]? = some o)) (u : Obj) : Hid ((w.alloc u).heap[g]? = some o) := (heap_alloc_old _ _ (lt_some h.out)).trans h.out
theorem lay1 (w : World) (u : Obj) : Hid ((w.alloc u).heap[w.heap.size]? = some u) := heap_alloc_new _ _
set_option maxHeartbeats 1600000 in
theorem told_any (w : World) : Calls Try.prog 10 #[] w fun e w' => e = .returned (.bool true) ∧ Below w.heap.size w w' := by
  have P1 : Hid (∀ w, Calls Try.prog 12 #[.agg #[.int .i64 1, .int .i64 0, .int .i64 0, .int .i64 0, .int .i64 1, .int .i64 0, .int .i64 5]] w (PutTo w true (raw w1_))) := fun w => put_any w w1_
  have O1 : Hid (∀ w, Calls Try.prog 15 #[.agg #[.int .i64 1, .int .i64 2, .int .i64 3, .int .i64 0, .int .i64 0]] w (PutTo w true (rawOp o1_))) := fun w => putop_any w o1_
  have M1 : Hid (∀ w, Calls Try.prog 9 #[.agg #[.int .i64 1, .int .i64 0, .int .i64 0, .int .i64 0, .int .i64 1, .int .i64 0, .int .i64 5]] w fun e w' => e = .returned (.bool true) ∧ Below w.heap.size w w') := fun w => may_any w w1_
  have M2 : Hid (∀ w, Calls Try.prog 9 #[.agg #[.int .i64 1, .int .i64 0, .int .i64 0, .int .i64 0, .int .i64 0, .int .i64 0, .int .i64 0]] w fun e w' => e = .returned (.bool false) ∧ Below w.heap.size w w') := fun w => may_any w w2_
  have M3 : Hid (∀ w, Calls Try.prog 16 #[.agg #[.int .i64 1, .int .i64 2, .int .i64 3, .int .i64 0, .int .i64 0]] w fun e w' => e = .returned (.bool true) ∧ Below w.heap.size w w') := fun w => mayop_any w o1_
  have M4 : Hid (∀ w, Calls Try.prog 16 #[.agg #[.int .i64 0, .int .i64 0, .int .i64 0, .int .i64 0, .int .i64 0]] w fun e w' => e = .returned (.bool false) ∧ Below w.heap.size w w') := fun w => mayop_any w o2_
  have l1 := Lib.hid (raw_len w1_may)
  have l2 := Lib.hid (rawOp_len o1_may)
  go_enter Try.func10, Try.ntmps10
  go_wp2_with fail
  refine (P1.out _).mono ?_
  rintro e w2 h2
  obtain ⟨v, rfl, ho⟩ := h2.yes rfl
  have be2 : Hid (Below w.heap.size w w2) := ((Below.refl _ w).alloc (Nat.le_refl _) _).trans (h2.be.mono (by simp))
  have hb1 := stay (lay1 w _) h2.be
  obtain ⟨A, c, rfl, hR, hA⟩ := PutTo.rb ho
  have G := Lib.hid (get_any w2 A _ c (raw w1_) hR (fun g hg => hg) (by have := l1.out.2; omega) hA)
  clear h2 ho hR hA
  go_wp2_with fail
  refine G.out.mono ?_
  rintro e w3 h3
  obtain rfl := h3.yes w1_ (getW_raw w1_may)
  have be3 : Hid (Below w.heap.size w w3) := be2.out.trans (h3.be.mono be2.out.size)
  replace hb1 := stay hb1 h3.be
  clear h3 be2 G
  have G := Lib.hid (fun o => get_any (w3.alloc o) none 0 0 [] (T := fun _ => False) Rb.none_ (fun g hg => hg.elim) (by omega) (fun _ => rfl))
  go_wp2_with fail
  refine (G.out _).mono ?_
  rintro e w4 h4
  obtain rfl := h4.no getW_nil
  have hb4 := stay (lay1 w3 _) h4.be
  have be4 : Hid (Below w.heap.size w w4) := (be3.out.alloc be3.out.size _).trans (h4.be.mono (by have := be3.out.size; simp; omega))
  replace hb1 := stay (stay1 hb1 _) h4.be
  clear h4 be3 G
  go_wp2_with fail
  refine (O1.out _).mono ?_
  rintro e w5 h5
  obtain ⟨v, rfl, ho⟩ := h5.yes rfl
  have be5 : Hid (Below w.heap.size w w5) := ((be4.out.alloc be4.out.size _).alloc (by have := be4.out.size; simp; omega) _).trans (h5.be.mono (by have := be4.out.size; simp; omega))
  have hb8 := stay (heap_alloc2_new w4 _ _) h5.be
  replace hb1 := stay (stay1 (stay1 hb1 _) _) h5.be
  replace hb4 := stay (stay1 (stay1 hb4 _) _) h5.be
  obtain ⟨A, c, rfl, hR, hA⟩ := PutTo.rb ho
  have G := Lib.hid (getop_any w5 A _ c (rawOp o1_) hR (fun g hg => hg) (by have := l2.out.2; omega) hA)
  clear h5 ho hR hA be4
  go_wp2_with fail
  refine G.out.mono ?_
  rintro e w6 h6
  obtain rfl := h6.yes o1_ (getO_raw o1_may)
  have be6 : Hid (Below w.heap.size w w6) := be5.out.trans (h6.be.mono be5.out.size)
  replace hb1 := stay hb1 h6.be
  replace hb4 := stay hb4 h6.be
  replace hb8 := stay hb8 h6.be
  have p1 := lt_some hb1.out
  have p4 := lt_some hb4.out
  have p8 := lt_some hb8.out
  have a0 : w6.cell? ⟨w.heap.size, 0, none⟩ = some (.int .i64 1) := one_at hb1.out
  have a1 : w6.cell? ⟨w.heap.size, 1, none⟩ = some (.int .i64 0) := one_at hb1.out
  have a2 : w6.cell? ⟨w.heap.size, 2, none⟩ = some (.int .i64 0) := one_at hb1.out
  have a3 : w6.cell? ⟨w.heap.size, 3, none⟩ = some (.int .i64 0) := one_at hb1.out
  have a4 : w6.cell? ⟨w.heap.size, 4, none⟩ = some (.int .i64 1) := one_at hb1.out
  have a5 : w6.cell? ⟨w.heap.size, 5, none⟩ = some (.int .i64 0) := one_at hb1.out
  have a6 : w6.cell? ⟨w.heap.size, 6, none⟩ = some (.int .i64 5) := one_at hb1.out
  have b0 : w6.cell? ⟨w3.heap.size, 0, none⟩ = some (.int .i64 1) := one_at hb4.out
  have b1 : w6.cell? ⟨w3.heap.size, 1, none⟩ = some (.int .i64 0) := one_at hb4.out
  have b2 : w6.cell? ⟨w3.heap.size, 2, none⟩ = some (.int .i64 0) := one_at hb4.out
  have b3 : w6.cell? ⟨w3.heap.size, 3, none⟩ = some (.int .i64 0) := one_at hb4.out
  have b4 : w6.cell? ⟨w3.heap.size, 4, none⟩ = some (.int .i64 1) := one_at hb4.out
  have b5 : w6.cell? ⟨w3.heap.size, 5, none⟩ = some (.int .i64 0) := one_at hb4.out
  have b6 : w6.cell? ⟨w3.heap.size, 6, none⟩ = some (.int .i64 5) := one_at hb4.out
  have d0 : w6.cell? ⟨w4.heap.size + 1, 0, none⟩ = some (.int .i64 1) := one_at hb8.out
  have d1 : w6.cell? ⟨w4.heap.size + 1, 1, none⟩ = some (.int .i64 2) := one_at hb8.out
  have d2 : w6.cell? ⟨w4.heap.size + 1, 2, none⟩ = some (.int .i64 3) := one_at hb8.out
  have d3 : w6.cell? ⟨w4.heap.size + 1, 3, none⟩ = some (.int .i64 0) := one_at hb8.out
  have d4 : w6.cell? ⟨w4.heap.size + 1, 4, none⟩ = some (.int .i64 0) := one_at hb8.out
  clear h6 be5 G
  have q22 := eq_arr
  go_wp2_with fail
  refine (M1.out _).mono ?_
  rintro e w7 ⟨rfl, b7⟩
  have be7 : Hid (Below w.heap.size w w7) := (be6.out.alloc be6.out.size _).trans (b7.mono (by have := be6.out.size; simp; omega))
  replace hb8 := stay (stay1 hb8 _) b7
  clear b7 be6 a0 a1 a2 a3 a4 a5 a6 b0 b1 b2 b3 b4 b5 b6 d0 d1 d2 d3 d4 hb1 hb4 q22
  go_wp2_with fail
  refine (M2.out _).mono ?_
  rintro e w8 ⟨rfl, b8⟩
  have be8 : Hid (Below w.heap.size w w8) := be7.out.trans (b8.mono be7.out.size)
  replace hb8 := stay hb8 b8
  have d0 : w8.cell? ⟨w4.heap.size + 1, 0, none⟩ = some (.int .i64 1) := one_at hb8.out
  have d1 : w8.cell? ⟨w4.heap.size + 1, 1, none⟩ = some (.int .i64 2) := one_at hb8.out
  have d2 : w8.cell? ⟨w4.heap.size + 1, 2, none⟩ = some (.int .i64 3) := one_at hb8.out
  have d3 : w8.cell? ⟨w4.heap.size + 1, 3, none⟩ = some (.int .i64 0) := one_at hb8.out
  have d4 : w8.cell? ⟨w4.heap.size + 1, 4, none⟩ = some (.int .i64 0) := one_at hb8.out
  clear b8 be7
  go_wp2_with fail
  refine (M3.out _).mono ?_
  rintro e w9 ⟨rfl, b9⟩
  have be9 : Hid (Below w.heap.size w w9) := be8.out.trans (b9.mono be8.out.size)
  clear b9 be8 d0 d1 d2 d3 d4
  go_wp2_with fail
  refine (M4.out _).mono ?_
  rintro e w10 ⟨rfl, b10⟩
  have be10 : Hid (Below w.heap.size w w10) := be9.out.trans (b10.mono be9.out.size)
  clear b10 be9
  go_wp2_with fail
  go_ret
  exact ⟨rfl, be10.out⟩
end Wt
end Go.Proofs.Ytmmediadgoejpaa
