/- A host beside a row of answers; answers that stand. -/
import Derived.Test.YtchlbkfkecpodaaHoT
import Derived.Test.YtchlbkfkecpodaaStV
import Derived.Maps.AppendAt
namespace Go.Proofs.Ytchlbkfkecpodaa
set_option maxRecDepth 100000
open Go.RowKit
open Go.Sort (grow)
open Go.Proofs.Ytchlbkfkecpodaa.Pk (one_at one_free one_set lt_some grown_set grown_trans below_grown grown_refl)
namespace Ho
open Wt (Opn mayOp)
open St (dstp tick RowI ivs ByTo grq Kx)

/-! ### answers stand -/
def mayK (o : Opn) : Bool := mayOp o && decide (o.kind ≤ 3)
theorem mayk {o : Opn} {t : Int} (h : tick t = true) : mayH o t = mayK o := by unfold mayH mayK; rw [h, Bool.and_true]
def HTold (s : S) (o : Opn) (a : Int) : Prop := (mayK o = true → s.g o.book o.kind = a ∧ a ≠ 0) ∧ (mayK o = false → a = 2)
section
variable {cap over t : Int} {s : S} {o p : Opn} {a : Int}
theorem told_new (h : tick t = true) : HTold (asked cap over s o t) o (ans cap over s o t) := by
  have hk := mayk (o := o) h
  refine ⟨fun hm => ?_, fun hm => ?_⟩
  · rw [hm] at hk
    by_cases h0 : s.g o.book o.kind = 0
    · rw [asked_yes hk h0, ans_yes hk h0]
      refine ⟨?_, by have := dstp_ans cap over s.f o t; omega⟩
      show Tb.putF s.g o _ o.book o.kind = _
      rw [Tb.put_at, if_pos (put_is hk h0)]
    · rw [asked_old h0, ans_old hk h0]
      exact ⟨rfl, h0⟩
  · rw [hm] at hk
    exact ans_no hk
theorem told_keep (h : HTold s o a) : HTold (asked cap over s p t) o a := by
  refine ⟨fun hm => ?_, h.2⟩
  obtain ⟨h1, h2⟩ := h.1 hm
  refine ⟨?_, h2⟩
  unfold asked
  split
  · rename_i hc
    show Tb.putF s.g p _ o.book o.kind = a
    unfold Tb.putF
    split
    · rw [Tb.upd_other (fun e => h2 (by rw [← h1, e.1, e.2]; exact hc.2))]
      exact h1
    · exact h1
  · exact h1
theorem told_again (ht : tick t = true) (h : HTold s o a) : ans cap over s o t = a ∧ isNew s o t = false ∧ asked cap over s o t = s := by
  have hk := mayk (o := o) ht
  cases hm : mayK o with
  | true =>
    rw [hm] at hk
    obtain ⟨h1, h2⟩ := h.1 hm
    have h0 : s.g o.book o.kind ≠ 0 := by rw [h1]; exact h2
    exact ⟨by rw [ans_old hk h0, h1], new_old h0, asked_old h0⟩
  | false =>
    rw [hm] at hk
    exact ⟨by rw [ans_no hk, h.2 hm], new_no hk, asked_no hk⟩
end

/-! ### a row of answers -/
theorem wpList_run_app {w : World} {ops : Array Oper} {rest : List Oper} {o : Oper} {a : Act} {Q : Exit → Act → World → Prop} {t : TypeId} (hgd : o.guard = none) (s x : Operand) (ho : o.op = .call { callee := .builtin .append, args := #[s, x], argTypes := #[t, t] }) (hty : o.type = t)
    (v0 x0 : Value) (hs : a.eval s = v0) (hx : a.eval x = x0) {v' : Value} {w' : World} (hrun : (Builtin.append_ #[t, t] t #[v0, x0]).run Try.prog w = .ok v' w') (h : wpList Try.prog ops Q rest (a.put o.dst v') w') :
    wpList Try.prog ops Q (o :: rest) a w := by
  refine wpList_plain hgd fun K hK' => ?_
  unfold Oper.wp execOp
  simp only [ho, resolve, invoke, builtin, Sem.run_bind, Sem.run_pure, Result.andThen_ok, List.map_toArray, List.map_cons, List.map_nil, hs, hx, hty, hrun]
  exact hK' _ _ h
/-- The host at q, and beside it the row v of answers. -/
structure Sr (w : World) (q : Nat) (s : S) (v : Value) (rs : List Int) (W : World) : Prop where
  ow : Ow w.heap.size (fun g => g < w.heap.size ∨ v.ownBlock = some g) w W q 15 2 s
  row : RowI W w.heap.size v rs.length (ivs rs)
section
variable {w W W' : World} {q : Nat} {s : S} {v : Value} {rs : List Int}
theorem Sr.below (X : Sr w q s v rs W) (hb : Below W.heap.size W W') : Sr w q s v rs W' := ⟨X.ow.below hb, St.ri_same X.row fun g hg => hb.block g (X.ow.xs g (.inr hg))⟩
theorem sr_ask (X : Sr w q s v rs W) (o : Opn) (now : Int) : Calls Try.prog 41 #[.pointer (some ⟨q, 0, none⟩), opv o, .int .i64 now] W fun e w' => e = .returned (.tuple #[.int .i64 (ans 15 2 s o now), .bool (isNew s o now)]) ∧ Sr w q (asked 15 2 s o now) v rs w' := by
  refine (ow_ask X.ow o now).mono ?_
  rintro e w' ⟨rfl, h1, h2⟩
  exact ⟨rfl, h1, St.ri_same X.row fun g hg => h2.2 g (.inr hg)⟩
theorem Sr.start (O : Ow w.heap.size (fun g => g < w.heap.size) w W q 15 2 s) : Sr w q s (.slice none 0 0) [] W :=
  ⟨O.less fun g hg => by
    rcases hg with hg | hg
    · exact hg
    · simp [Value.ownBlock] at hg, World.ownsRow_nil _ _ _ _⟩
theorem Sr.app (X : Sr w q s v rs W) (a : Int) (few : rs.length ≤ 40) : ∃ A' c' w', (Builtin.append_ #[37, 37] 37 #[v, .slice (some ⟨W.heap.size, 0, none⟩) 1 1]).run Try.prog (W.alloc (.cells #[.int .i64 a] 3)) = .ok (.slice A' (rs.length + 1) c') w' ∧ Sr w q s (.slice A' (rs.length + 1) c') (rs ++ [a]) w' := by
  obtain ⟨i0, hi0, hii⟩ : ∃ i, Try.prog.info? 3 = some i ∧ (i.zero, i.size, i.bytes) = (some (.int .i64 0), 1, 8) := by
    have := St.int_info
    cases hq : Try.prog.info? 3 with
    | none => rw [hq] at this; cases this
    | some i => rw [hq] at this; exact ⟨i, rfl, by simpa using this⟩
  simp only [Prod.mk.injEq] at hii
  obtain ⟨hz0, hz1, hz2⟩ := hii
  have hb : Below W.heap.size W (W.alloc (.cells #[.int .i64 a] 3)) := (Below.refl _ _).alloc (Nat.le_refl _) _
  have X1 := X.below hb
  have hn := heap_alloc_new W (.cells #[.int .i64 a] 3)
  obtain ⟨v', w', h1, h2, h3, _, h5⟩ := run_append_own_at (P := Try.prog) (W.alloc (.cells #[.int .i64 a] 3)) w.heap.size 37 37 3 i0 (.int .i64 0) 1 8 Try.underlying37 hi0 hz0 hz1 hz2 rfl (by decide) v rs.length (ivs rs) X1.row ⟨W.heap.size, 0, none⟩ 1 1 [.int .i64 a] rfl (fun j u hu => by
      match j, hu with
      | 0, hu => simp at hu; subst hu; rw [Addr.add_zero', one_at hn]; rfl
      | j + 1, hu => simp at hu) (by simp [Value.oneCell']) (by unfold maxLen; omega) (by omega) X1.ow.bs
  have e2 : ivs rs ++ [.int .i64 a] = ivs (rs ++ [a]) := (St.ivs_snoc rs a).symm
  rw [e2] at h2
  obtain ⟨A', c', rfl, _⟩ := St.ri_form h2
  refine ⟨A', c', w', h1, ?_, by rw [List.length_append]; exact h2⟩
  obtain ⟨fp, H, hf⟩ := X1.ow.ex
  refine ⟨⟨fp, H.keep h3.size fun g hg => h3.block g (H.size g hg) fun e => (hf g hg).2 (.inr e.symm), fun g hg => ⟨(hf g hg).1, fun hx => ?_⟩⟩, X1.ow.be.trans (St.below_of_grown h3 X1.ow.bs fun i hi => (St.ri_block X1.row hi).1), Nat.le_trans X1.ow.bs h3.size, fun g hg => ?_⟩
  · rcases hx with hx | hx
    · exact (hf g hg).2 (.inl hx)
    · rcases h5 with h5 | h5
      · rw [h5] at hx
        exact (hf g hg).2 (.inr hx)
      · rw [h5] at hx
        injection hx with hx
        have := H.size g hg
        omega
  · rcases hg with hg | hg
    · exact Nat.lt_of_lt_of_le (X1.ow.xs g (.inl hg)) h3.size
    · obtain ⟨_, cur, hc⟩ := St.ri_block h2 hg
      exact lt_some hc
end
end Ho
end Go.Proofs.Ytchlbkfkecpodaa
