/- append onto a row of bytes of the call's own; Clone; New. -/
import Derived.Test.YtidfpbnepdjagaaDoorPk4
import Derived.Maps.AppendAt
namespace Go.Proofs.YtidfpbnepdjagaaDoor
open Go.RowKit
namespace Pk

theorem u8_info : (Tryd.prog.info? 5).map (fun i => (i.zero, i.size, i.bytes)) = some (some (.int .u8 0), 1, 1) := by kernel_rfl

theorem run_append_b (w : World) (ty : TypeId) (base : Nat) (v : Value) (n : Nat) (xs : List UInt8) (hown : w.ownsRow base 5 1 v n (u8s xs)) {T : Nat → Prop} {A : Option Addr} {m : Nat} (c : Nat) {ys : List UInt8} (hr : Rb w T A m ys)
    (hb : n + m ≤ 140737488355328) (hbase : base ≤ w.heap.size) :
    ∃ v' w', (Builtin.append_ #[31, 31] ty #[v, .slice A m c]).run Tryd.prog w = .ok v' w' ∧ w'.ownsRow base 5 1 v' (n + m) (u8s (xs ++ ys)) ∧ w.grownBy w' v.ownBlock ∧ (v'.ownBlock = v.ownBlock ∨ v'.ownBlock = some w.heap.size) := by
  obtain ⟨i0, hi, hz0, hz1, hz2⟩ := info_parts u8_info
  cases A with
  | none =>
    have hm : m = 0 := by
      rcases Nat.eq_zero_or_pos m with h | h
      · exact h
      · obtain ⟨ad, e, _⟩ := hr.at_ h
        cases e
    subst hm
    have hy : ys = [] := List.eq_nil_of_length_eq_zero hr.len
    subst hy
    refine ⟨v, w, ?_, by simpa using hown, grown_refl _ _, .inl rfl⟩
    rcases hown.2 with ⟨rfl, rfl⟩ | ⟨g, cap, cur, rfl, _, _, hnc, _⟩
    · simp [Builtin.append_, run_underlying Tryd.underlying31, sizeOf, typeInfo, hi, Builtin.lenOf, Builtin.firstCells]
    · simp [Builtin.append_, run_underlying Tryd.underlying31, sizeOf, typeInfo, hi, Builtin.lenOf, Builtin.firstCells, hnc, storeCells]
  | some ad =>
    have hcells : ∀ j u, (u8s ys)[j]? = some u → w.cell? (ad.add j) = some u := by
      intro j u hu
      rw [u8s, List.getElem?_map] at hu
      rcases hj : ys[j]? with _ | x
      · rw [hj] at hu; cases hu
      · rw [hj] at hu
        have hl : j < ys.length := (List.getElem?_eq_some_iff.1 hj).1
        obtain ⟨ad', e, _, hc⟩ := hr.at_ (by have := hr.len; omega)
        replace e := Option.some.inj e
        subst e
        simp only [Option.map_some, Option.some.injEq] at hu
        subst hu
        exact hc j x hj
    obtain ⟨v', w', hrun, h2, h3, _, h5⟩ := run_append_own_at (P := Tryd.prog) w base 31 ty 5 i0 (.int .u8 0) 1 1 Tryd.underlying31 hi hz0 hz1 hz2 rfl (by decide) v n (u8s xs) hown ad m c (u8s ys)
      (by rw [u8s_len, hr.len]; omega) hcells (u8s_one ys) (by unfold maxLen; omega) (by omega) hbase
    exact ⟨v', w', hrun, by rw [u8s_app]; exact h2, h3, h5⟩

theorem wp_append_b (w : World) {o : Oper} {a : Act} {K : Act → World → Prop} {Q : Exit → Act → World → Prop} (s x : Operand)
    (ho : o.op = .call { callee := .builtin .append, args := #[s, x], argTypes := #[31, 31] })
    (base : Nat) (v : Value) (n : Nat) (xs : List UInt8) (hs : a.eval s = v) (hown : w.ownsRow base 5 1 v n (u8s xs)) {T : Nat → Prop} {A : Option Addr} {m c : Nat} {ys : List UInt8} (hx : a.eval x = .slice A m c) (hr : Rb w T A m ys)
    (hb : n + m ≤ 140737488355328) (hbase : base ≤ w.heap.size)
    (h : ∀ v' w', w'.ownsRow base 5 1 v' (n + m) (u8s (xs ++ ys)) → w.grownBy w' v.ownBlock → (v'.ownBlock = v.ownBlock ∨ v'.ownBlock = some w.heap.size) → K (a.put o.dst v') w') : o.wp Tryd.prog a w K Q := by
  obtain ⟨v', w', hrun, h2, h3, h4⟩ := run_append_b w o.type base v n xs hown c hr hb hbase
  unfold Oper.wp execOp
  simp only [ho, resolve, invoke, builtin, Sem.run_bind, Sem.run_pure, Result.andThen_ok, List.map_toArray, List.map_cons, List.map_nil, hs, hx, hrun]
  exact h v' w' h2 h3 h4

theorem wpList_append_b (w : World) {ops : Array Oper} {rest : List Oper} {o : Oper} {a : Act} {Q : Exit → Act → World → Prop} (hgd : o.guard = none) (s x : Operand)
    (ho : o.op = .call { callee := .builtin .append, args := #[s, x], argTypes := #[31, 31] })
    (base : Nat) (v : Value) (n : Nat) (xs : List UInt8) (hs : a.eval s = v) (hown : w.ownsRow base 5 1 v n (u8s xs)) {T : Nat → Prop} {A : Option Addr} {m c : Nat} {ys : List UInt8} (hx : a.eval x = .slice A m c) (hr : Rb w T A m ys)
    (hb : n + m ≤ 140737488355328) (hbase : base ≤ w.heap.size)
    (h : ∀ v' w', w'.ownsRow base 5 1 v' (n + m) (u8s (xs ++ ys)) → w.grownBy w' v.ownBlock → (v'.ownBlock = v.ownBlock ∨ v'.ownBlock = some w.heap.size) → wpList Tryd.prog ops Q rest (a.put o.dst v') w') : wpList Tryd.prog ops Q (o :: rest) a w :=
  wpList_plain hgd fun _ hK => wp_append_b w s x ho base v n xs hs hown hx hr hb hbase fun v' w' h2 h3 h4 => hK _ _ (h v' w' h2 h3 h4)

theorem step_append_b (w : World) {ops : Array Oper} {o : Oper} {a : Act} {K : Act → World → Prop} {Q : Exit → Act → World → Prop} {E : Prop} (hgd : o.guard = none) (s x : Operand)
    (ho : o.op = .call { callee := .builtin .append, args := #[s, x], argTypes := #[31, 31] })
    (base : Nat) (v : Value) (n : Nat) (xs : List UInt8) (hs : a.eval s = v) (hown : w.ownsRow base 5 1 v n (u8s xs)) {T : Nat → Prop} {A : Option Addr} {m c : Nat} {ys : List UInt8} (hx : a.eval x = .slice A m c) (hr : Rb w T A m ys)
    (hb : n + m ≤ 140737488355328) (hbase : base ≤ w.heap.size)
    (h : ∀ v' w', w'.ownsRow base 5 1 v' (n + m) (u8s (xs ++ ys)) → w.grownBy w' v.ownBlock → (v'.ownBlock = v.ownBlock ∨ v'.ownBlock = some w.heap.size) → K (a.put o.dst v') w') :
    if Region.wanted o (yielded ops a.tmps) = true then Oper.wp Tryd.prog o a w K Q else E := by
  have hw : Region.wanted o (yielded ops a.tmps) = true := by simp [Region.wanted, hgd]
  rw [if_pos hw]
  exact wp_append_b w s x ho base v n xs hs hown hx hr hb hbase h

/-- A new copy: what Clone, Bytes answer. -/
def Copied (w : World) (n : Nat) (bs : List UInt8) (e : Ending) (w' : World) : Prop :=
  ∃ v, e = .returned v ∧ w'.ownsRow w.heap.size 5 1 v n (u8s bs) ∧ Below w.heap.size w w'

set_option maxHeartbeats 400000 in
theorem clone_nil (w : World) : Calls Tryd.prog 51 #[.slice none 0 0] w (Copied w 0 []) := by
  have H : Copied w 0 [] (.returned (.slice none 0 0)) w := ⟨_, rfl, World.ownsRow_nil _ _ _ _, Below.refl _ _⟩
  replace H := Lib.hid H
  have hnil := Lib.run_eql_slice_nil (P := Tryd.prog) w 31 5 none 0 0 0 0 Tryd.underlying31
  simp at hnil
  go_enter Tryd.func51, Tryd.ntmps51
  go_wp2
  go_ret
  exact H.out
set_option maxHeartbeats 400000 in
theorem clone_some (w : World) (ad : Addr) (n c : Nat) {T : Nat → Prop} (bs : List UInt8) (h : Rb w T (some ad) n bs) (hT : ∀ g, T g → g < w.heap.size) (hn : n ≤ 140737488355328) :
    Calls Tryd.prog 51 #[.slice (some ad) n c] w (Copied w n bs) := by
  have hl := Lib.hid h.len
  have h' := Lib.hid h
  have hT' := Lib.hid hT
  clear h hT
  have hnil := Lib.run_eql_slice_nil (P := Tryd.prog) w 31 5 (some ad) n c 0 0 Tryd.underlying31
  simp at hnil
  go_enter Tryd.func51, Tryd.ntmps51
  go_wp2_with (at_builtin; go_loud (refine wpList_append_b _ rfl (.tmp 5) (.tmp 6) rfl w.heap.size (.slice (some ⟨w.heap.size, 0, none⟩) 0 0) 0 [] rfl ?c1 rfl (h'.out.keep (T' := fun _ => True) ?c2 (fun _ _ => trivial)) ?c3 ?c4 ?_))
  case c1 => exact World.ownsRow_lit w #[] 0 (Nat.le_refl _) (by unfold maxLen; omega) rfl
  case c2 => exact fun g hg => heap_alloc_old w _ (hT'.out g hg)
  case c3 => omega
  case c4 => simp
  intro v' w' hown hg hat
  have hown' := Lib.hid hown
  have hb : Hid (Below w.heap.size w w') := ((Below.refl _ w).alloc (Nat.le_refl _) _).grown hg (by simp) (fun k hk => by simp [Value.ownBlock] at hk; omega)
  clear hown hg hat
  go_wp2
  go_ret
  exact ⟨v', rfl, hown'.out, hb.out⟩

theorem clone_any (w : World) (A : Option Addr) (n c : Nat) {T : Nat → Prop} (bs : List UInt8) (h : Rb w T A n bs) (hT : ∀ g, T g → g < w.heap.size) (hn : n ≤ 140737488355328) (hA : A = none → c = 0) :
    Calls Tryd.prog 51 #[.slice A n c] w (Copied w n bs) := by
  cases A with
  | none =>
    obtain rfl := hA rfl
    have hm : n = 0 := by
      rcases Nat.eq_zero_or_pos n with e | e
      · exact e
      · obtain ⟨ad, e, _⟩ := h.at_ e
        cases e
    subst hm
    obtain rfl := List.eq_nil_of_length_eq_zero h.len
    exact clone_nil w
  | some ad => exact clone_some w ad n c bs h hT hn

/-- A new Reader. -/
def NewTo (w : World) (bs : List UInt8) (e : Ending) (w' : World) : Prop :=
  ∃ p, e = .returned (.pointer (some ⟨p, 0, none⟩)) ∧ w.heap.size ≤ p ∧ Rd w' p (some bs) ∧ Below w.heap.size w w'

set_option maxHeartbeats 400000 in
theorem new_any (w : World) (A : Option Addr) (n c : Nat) {T : Nat → Prop} (bs : List UInt8) (h : Rb w T A n bs) (hT : ∀ g, T g → g < w.heap.size) (hn : n ≤ 140737488355328) (hA : A = none → c = 0) :
    Calls Tryd.prog 29 #[.slice A n c] w (NewTo w bs) := by
  have H := Lib.hid (clone_any w A n c bs h hT hn hA)
  clear h hT hA
  go_enter Tryd.func29, Tryd.ntmps29
  go_wp2_with fail
  refine H.out.mono ?_
  rintro e w1 ⟨v, rfl, hown, hb⟩
  obtain ⟨A', c', rfl⟩ := own_form hown
  have R := Rb.of_own hown
  have hc := own_cap hown
  have hsz := hb.size
  have HH : Hid (NewTo w bs (.returned (.pointer (some ⟨w1.heap.size, 0, none⟩))) (w1.alloc (.cells #[.slice A' n c', .bool false] 96))) :=
    ⟨w1.heap.size, rfl, hsz, ⟨A', n, c', false, bs, heap_alloc_new _ _, hc.1, by have := hc.2; unfold maxLen at this; omega,
      R.keep (fun g hg => heap_alloc_old _ _ hg.2.lt) (fun g hg => hg.2.same (heap_alloc_old _ _ hg.2.lt)), rfl⟩, hb.alloc hsz _⟩
  clear hown hb R hc hsz
  go_wp2
  go_ret
  exact HH.out
end Pk
end Go.Proofs.YtidfpbnepdjagaaDoor
