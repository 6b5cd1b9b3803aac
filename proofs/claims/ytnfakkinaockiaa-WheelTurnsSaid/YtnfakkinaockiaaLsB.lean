/- For WheelTurns: rows of numbers appended; two wheels side by side. -/
import Derived.Test.YtnfakkinaockiaaLsA
import Derived.Maps.AppendAt
namespace Go.Proofs.Ytnfakkinaockiaa
set_option maxRecDepth 100000
open Go.RowKit
open Go.Proofs.Ytnfakkinaockiaa.Pk (one_at one_free one_set lt_some grown_set grown_trans below_grown grown_refl)
namespace Wh

theorem nums_app (a b : List Int) : nums (a ++ b) = nums a ++ nums b := by simp [nums]
theorem nums_len (a : List Int) : (nums a).length = a.length := by simp [nums]
theorem nums_one (a : List Int) : ∀ u ∈ nums a, u.oneCell' = true := by intro u hu; simp [nums] at hu; obtain ⟨c, _, rfl⟩ := hu; rfl
theorem run_append_i (w : World) (ty : TypeId) (base : Nat) (v : Value) (n : Nat) (xs : List Int) (hown : RowI w base v n (nums xs)) {T : Nat → Prop} {A : Option Addr} {m : Nat} (c : Nat) {ys : List Int} (hr : Rr w T A m ys)
    (hb : n + m ≤ 1000000) (hbase : base ≤ w.heap.size) :
    ∃ v' w', (Builtin.append_ #[22, 22] ty #[v, .slice A m c]).run Try.prog w = .ok v' w' ∧ RowI w' base v' (n + m) (nums (xs ++ ys)) ∧ w.grownBy w' v.ownBlock ∧ (v'.ownBlock = v.ownBlock ∨ v'.ownBlock = some w.heap.size) := by
  obtain ⟨i0, hi, hz0, hz1, hz2⟩ := info_parts int_info
  cases A with
  | none =>
    have hm : m = 0 := by
      rcases Nat.eq_zero_or_pos m with h | h
      · exact h
      · obtain ⟨ad, e, _⟩ := hr.at_ h
        cases e
    subst hm
    have hy : ys = [] := List.eq_nil_of_length_eq_zero hr.len
    subst hy
    refine ⟨v, w, ?_, by simpa using hown, grown_refl _ _, .inl rfl⟩
    rcases hown.2 with ⟨rfl, rfl⟩ | ⟨g, cap, cur, rfl, _, _, hnc, _⟩
    · simp [Builtin.append_, run_underlying Try.underlying22, sizeOf, typeInfo, hi, Builtin.lenOf, Builtin.firstCells]
    · simp [Builtin.append_, run_underlying Try.underlying22, sizeOf, typeInfo, hi, Builtin.lenOf, Builtin.firstCells, hnc, storeCells]
  | some ad =>
    have hcells : ∀ j u, (nums ys)[j]? = some u → w.cell? (ad.add j) = some u := by
      intro j u hu
      rw [nums, List.getElem?_map] at hu
      rcases hj : ys[j]? with _ | x
      · rw [hj] at hu; cases hu
      · rw [hj] at hu
        simp only [Option.map_some, Option.some.injEq] at hu
        subst hu
        exact hr.cell hj
    obtain ⟨v', w', hrun, h2, h3, _, h5⟩ := run_append_own_at (P := Try.prog) w base 22 ty 3 i0 (.int .i64 0) 1 8 Try.underlying22 hi hz0 hz1 hz2 rfl (by decide) v n (nums xs) hown ad m c (nums ys)
      (by rw [nums_len, hr.len]; omega) hcells (nums_one ys) (by unfold maxLen; omega) (by omega) hbase
    exact ⟨v', w', hrun, by rw [nums_app]; exact h2, h3, h5⟩
theorem wpList_append_i (w : World) {ops : Array Oper} {rest : List Oper} {o : Oper} {a : Act} {Q : Exit → Act → World → Prop} (hgd : o.guard = none) (s x : Operand)
    (ho : o.op = .call { callee := .builtin .append, args := #[s, x], argTypes := #[22, 22] })
    (base : Nat) (v : Value) (n : Nat) (xs : List Int) (hs : a.eval s = v) (hown : RowI w base v n (nums xs)) {T : Nat → Prop} {A : Option Addr} {m c : Nat} {ys : List Int} (hx : a.eval x = .slice A m c) (hr : Rr w T A m ys)
    (hb : n + m ≤ 1000000) (hbase : base ≤ w.heap.size)
    (h : ∀ v' w', RowI w' base v' (n + m) (nums (xs ++ ys)) → w.grownBy w' v.ownBlock → (v'.ownBlock = v.ownBlock ∨ v'.ownBlock = some w.heap.size) → wpList Try.prog ops Q rest (a.put o.dst v') w') : wpList Try.prog ops Q (o :: rest) a w :=
  wpList_plain hgd fun _ hK => by
    obtain ⟨v', w', hrun, h2, h3, h4⟩ := run_append_i w o.type base v n xs hown c hr hb hbase
    unfold Oper.wp execOp
    simp only [ho, resolve, invoke, builtin, Sem.run_bind, Sem.run_pure, Result.andThen_ok, List.map_toArray, List.map_cons, List.map_nil, hs, hx, hrun]
    exact hK _ _ (h v' w' h2 h3 h4)

/-- Two wheels, apart. -/
structure Tw (B : World) (qa qb : Nat) (na nb : Int) (Sa Sb : List Tm) (X : Nat → Prop) (W : World) : Prop where
  wh : ∃ fa fb, WhO W qa na Sa fa ∧ WhO W qb nb Sb fb ∧ (∀ g, fa g → ¬ fb g) ∧ ∀ g, fa g ∨ fb g → B.heap.size ≤ g ∧ ¬ X g
  be : Below B.heap.size B W
  xs : ∀ g, X g → g < W.heap.size
section
variable {B W W' : World} {qa qb : Nat} {na nb n' : Int} {Sa Sb S' : List Tm} {X X' : Nat → Prop}
theorem Tw.symm (T : Tw B qa qb na nb Sa Sb X W) : Tw B qb qa nb na Sb Sa X W := by
  obtain ⟨fa, fb, h1, h2, h3, h4⟩ := T.wh
  exact ⟨⟨fb, fa, h2, h1, fun g hg hb => h3 g hb hg, fun g hg => h4 g hg.symm⟩, T.be, T.xs⟩
theorem Tw.below (T : Tw B qa qb na nb Sa Sb X W) (hb : Below W.heap.size W W') : Tw B qa qb na nb Sa Sb X W' := by
  obtain ⟨fa, fb, h1, h2, h3, h4⟩ := T.wh
  exact ⟨⟨fa, fb, h1.below hb, h2.below hb, h3, h4⟩, T.be.trans (hb.mono T.be.size), fun g hg => Nat.lt_of_lt_of_le (T.xs g hg) hb.size⟩
theorem Tw.less (T : Tw B qa qb na nb Sa Sb X W) (hx : ∀ g, X' g → X g) : Tw B qa qb na nb Sa Sb X' W := by
  obtain ⟨fa, fb, h1, h2, h3, h4⟩ := T.wh
  exact ⟨⟨fa, fb, h1, h2, h3, fun g hg => ⟨(h4 g hg).1, fun e => (h4 g hg).2 (hx g e)⟩⟩, T.be, fun g hg => T.xs g (hx g hg)⟩
/-- The first one, alone. -/
theorem Tw.one (T : Tw B qa qb na nb Sa Sb X W) : ∃ fb, Lw B W qa na Sa (fun g => X g ∨ fb g) ∧ WhO W qb nb Sb fb ∧ ∀ g, fb g → B.heap.size ≤ g ∧ ¬ X g := by
  obtain ⟨fa, fb, h1, h2, h3, h4⟩ := T.wh
  refine ⟨fb, ⟨⟨fa, h1, fun g hg => ⟨(h4 g (.inl hg)).1, fun e => ?_⟩⟩, T.be, fun g hg => ?_⟩, h2, fun g hg => h4 g (.inr hg)⟩
  · rcases e with e | e
    · exact (h4 g (.inl hg)).2 e
    · exact h3 g hg e
  · rcases hg with hg | hg
    · exact T.xs g hg
    · exact h2.size g hg
theorem Tw.mk' {fb : Nat → Prop} (L : Lw B W qa na Sa (fun g => X g ∨ fb g)) (h2 : WhO W qb nb Sb fb) (h3 : ∀ g, fb g → B.heap.size ≤ g ∧ ¬ X g) : Tw B qa qb na nb Sa Sb X W := by
  obtain ⟨fa, h1, hf⟩ := L.wh
  refine ⟨⟨fa, fb, h1, h2, fun g hg e => (hf g hg).2 (.inr e), fun g hg => ?_⟩, L.be, fun g hg => L.xs g (.inl hg)⟩
  rcases hg with hg | hg
  · exact ⟨(hf g hg).1, fun e => (hf g hg).2 (.inl e)⟩
  · exact h3 g hg
/-- What a call on the first one leaves. -/
theorem Tw.call {fb : Nat → Prop} (T : LwTo B W qa n' S' (fun g => X g ∨ fb g) W') (h2 : WhO W qb nb Sb fb) (h3 : ∀ g, fb g → B.heap.size ≤ g ∧ ¬ X g) : Tw B qa qb n' nb S' Sb X W' ∧ ∀ g, X g → W'.heap[g]? = W.heap[g]? :=
  ⟨Tw.mk' T.1 (h2.keep T.2.2 fun g hg => T.2.1 g (.inr hg)) h3, fun g hg => T.2.1 g (.inl hg)⟩
theorem tw_set (T : Tw B qa qb na nb Sa Sb X W) (id at_ : Int) (hw : -9223372036854775808 ≤ id ∧ id ≤ 9223372036854775807) (few : Sa.length + 1 ≤ 100000) :
    Calls Try.prog 10 #[.pointer (some ⟨qa, 0, none⟩), .int .i64 id, .int .i64 at_] W fun e w' => e = .returned (.int .i64 (setE at_)) ∧ Tw B qa qb na nb (setS id at_ Sa) Sb X w' ∧ ∀ g, X g → w'.heap[g]? = W.heap[g]? := by
  obtain ⟨fb, L, h2, h3⟩ := T.one
  exact (lw_set L id at_ hw few).mono fun e w' h => ⟨h.1, Tw.call h.2 h2 h3⟩
theorem tw_len (T : Tw B qa qb na nb Sa Sb X W) : Calls Try.prog 13 #[.pointer (some ⟨qa, 0, none⟩)] W fun e w' => e = .returned (.int .i64 (Sa.length : Nat)) ∧ Below W.heap.size W w' := by
  obtain ⟨fb, L, h2, h3⟩ := T.one
  exact lw_len L
/-- What Turn of the first one answers. -/
def TtTo (B W : World) (qa qb : Nat) (n nb : Int) (Sa Sb : List Tm) (X : Nat → Prop) (e : Ending) (w' : World) : Prop :=
  ∃ A m c, e = .returned (.slice A m c) ∧ m = (offs n Sa).length ∧ RowI w' W.heap.size (.slice A m c) m (nums ((offs n Sa).map (·.1))) ∧ Tw B qa qb n nb (left n Sa) Sb (fun g => X g ∨ (Value.slice A m c).ownBlock = some g) w' ∧ ∀ g, X g → w'.heap[g]? = W.heap[g]?
theorem tw_turn (T : Tw B qa qb na nb Sa Sb X W) (n : Int) (hn : na ≤ n) (ht : tick n = true) : Calls Try.prog 11 #[.pointer (some ⟨qa, 0, none⟩), .int .i64 n] W (TtTo B W qa qb n nb Sa Sb X) := by
  obtain ⟨fb, L, h2, h3⟩ := T.one
  refine (lw_turn L n hn ht).mono ?_
  rintro e w' ⟨A, m, c, rfl, hm, R, L', hk, hs⟩
  refine ⟨A, m, c, rfl, hm, R, Tw.mk' (fb := fb) (L'.less fun g hg => ?_) (h2.keep hs fun g hg => hk g (.inr hg)) fun g hg => ⟨(h3 g hg).1, fun e => ?_⟩, fun g hg => hk g (.inl hg)⟩
  · rcases hg with (hg | hg) | hg
    · exact .inl (.inl hg)
    · exact .inr hg
    · exact .inl (.inr hg)
  · rcases e with e | e
    · exact (h3 g hg).2 e
    · have h5 := h2.size g hg
      have h6 := (ri_block R e).1
      omega
/-- A row beside is grown. -/
theorem Tw.grown {o : Option Nat} (T : Tw B qa qb na nb Sa Sb X W) (g : W.grownBy W' o) (ho : ∀ k, o = some k → X k ∧ B.heap.size ≤ k) {v' : Value} (hv : ∀ k, v'.ownBlock = some k → o = some k ∨ (W.heap.size ≤ k ∧ k < W'.heap.size)) :
    Tw B qa qb na nb Sa Sb (fun k => X k ∨ v'.ownBlock = some k) W' := by
  obtain ⟨fa, fb, h1, h2, h3, h4⟩ := T.wh
  have hk : ∀ k, fa k ∨ fb k → k < W.heap.size := fun k hk => hk.elim (h1.size k) (h2.size k)
  have kp : ∀ k, fa k ∨ fb k → W'.heap[k]? = W.heap[k]? := fun k hf => g.block k (hk k hf) (fun e => (h4 k hf).2 (ho k e.symm).1)
  refine ⟨⟨fa, fb, h1.keep g.size fun k hf => kp k (.inl hf), h2.keep g.size fun k hf => kp k (.inr hf), h3, fun k hf => ⟨(h4 k hf).1, fun e => ?_⟩⟩, ?_, fun k hf => ?_⟩
  · rcases e with e | e
    · exact (h4 k hf).2 e
    · rcases hv k e with h | h
      · exact (h4 k hf).2 (ho k h).1
      · have := hk k hf; omega
  · exact ⟨g.os.trans T.be.os, g.tape.trans T.be.tape, g.output.trans T.be.output, Nat.le_trans T.be.size g.size, fun k hk => (g.block k (Nat.lt_of_lt_of_le hk T.be.size) (fun e => by have := (ho k e.symm).2; omega)).trans (T.be.block k hk)⟩
  · rcases hf with hf | hf
    · exact Nat.lt_of_lt_of_le (T.xs k hf) g.size
    · rcases hv k hf with h | h
      · exact Nat.lt_of_lt_of_le (T.xs k (ho k h).1) g.size
      · exact h.2
end
end Wh
end Go.Proofs.Ytnfakkinaockiaa
