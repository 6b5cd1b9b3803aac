/- Rows of steps, and of numbers, of the call's own. -/
import Derived.Test.YtidfpbnepdjagaaDoorPlM
import Derived.Maps.AppendAt
namespace Go.Proofs.YtidfpbnepdjagaaDoor
set_option maxRecDepth 100000
open Go.RowKit
open Go.Proofs.YtidfpbnepdjagaaDoor.Pk (one_at one_free one_set lt_some grown_set grown_trans below_grown grown_refl)
namespace Pl
open Wt (Wan may Opn mayOp)

/-! ### steps in a row -/
def spc (x : Stp) : List Value := [.int .i64 x.node, .int .i64 x.op.kind, .int .i64 x.op.book, .int .i64 x.op.units, .int .i64 x.op.cust, .int .i64 x.op.amount]
abbrev spv (x : Stp) : Value := .agg #[.int .i64 x.node, .int .i64 x.op.kind, .int .i64 x.op.book, .int .i64 x.op.units, .int .i64 x.op.cust, .int .i64 x.op.amount]
def fls (l : List Stp) : List Value := l.flatMap spc
theorem fls_len (l : List Stp) : (fls l).length = l.length * 6 := by
  induction l with
  | nil => rfl
  | cons x l ih => rw [fls, List.flatMap_cons, List.length_append]; show 6 + (fls l).length = _; rw [ih, List.length_cons]; omega
theorem fls_app (a b : List Stp) : fls (a ++ b) = fls a ++ fls b := by simp [fls]
theorem fls_one (l : List Stp) : ∀ u ∈ fls l, u.oneCell' = true := by
  intro u hu
  obtain ⟨x, _, hx⟩ := List.mem_flatMap.1 hu
  simp [spc] at hx
  rcases hx with rfl | rfl | rfl | rfl | rfl | rfl <;> rfl
theorem fls_at {l : List Stp} {k : Nat} {x : Stp} (h : l[k]? = some x) {j : Nat} (hj : j < 6) : (fls l)[k * 6 + j]? = (spc x)[j]? := by
  obtain ⟨hl, rfl⟩ := List.getElem?_eq_some_iff.1 h
  have e : l = l.take k ++ l[k] :: l.drop (k + 1) := by rw [← List.drop_eq_getElem_cons hl, List.take_append_drop]
  have e2 : fls l = fls (l.take k) ++ (spc l[k] ++ fls (l.drop (k + 1))) := by
    conv => lhs; rw [e]
    rw [fls_app]
    congr 1
  have e3 : (fls (l.take k)).length = k * 6 := by rw [fls_len, List.length_take]; congr 1; omega
  rw [e2, List.getElem?_append_right (by omega), e3, List.getElem?_append_left (by show _ < 6; omega)]
  congr 1
  omega
/-- A row of steps, their type named. -/
abbrev RowT (t : TypeId) (w : World) (base : Nat) (v : Value) (n : Nat) (l : List Stp) : Prop := w.ownsRow base t 6 v n (fls l)
section
variable {t : TypeId} {w w' : World} {v v' : Value} {n base : Nat} {l : List Stp}
theorem rt_same (h : RowT t w base v n l) (hk : ∀ g, v.ownBlock = some g → w'.heap[g]? = w.heap[g]?) : RowT t w' base v n l := by
  refine ⟨h.1, ?_⟩
  rcases h.2 with h0 | ⟨g, cap, cur, hv, hb, hh, h2⟩
  · exact .inl h0
  · exact .inr ⟨g, cap, cur, hv, hb, (hk g (by rw [hv]; rfl)).trans hh, h2⟩
theorem rt_block {g : Nat} (h : RowT t w base v n l) (hg : v.ownBlock = some g) : base ≤ g ∧ ∃ cur, w.heap[g]? = some (.cells cur t (0, 0)) := by
  rcases h.2 with ⟨rfl, _⟩ | ⟨g', cap, cur, rfl, hb, hh, _⟩
  · simp [Value.ownBlock] at hg
  · have : g' = g := by simpa [Value.ownBlock] using hg
    subst this
    exact ⟨hb, cur, hh⟩
theorem rt_lt {g : Nat} (h : RowT t w base v n l) (hg : v.ownBlock = some g) : g < w.heap.size := by
  obtain ⟨_, cur, hc⟩ := rt_block h hg
  exact lt_some hc
theorem rt_below (h : RowT t w base v n l) (hb : Below w.heap.size w w') : RowT t w' base v n l := rt_same h fun g hg => hb.block g (rt_lt h hg)
theorem rt_form (h : RowT t w base v n l) : ∃ A c, v = .slice A n c ∧ n ≤ c ∧ c ≤ 9223372036854775807 ∧ (A = none → c = 0) := by
  rcases h.2 with ⟨rfl, rfl⟩ | ⟨g, cap, cur, rfl, hb, hh, h1, h2, _⟩
  · exact ⟨_, _, rfl, Nat.le_refl _, by omega, fun _ => rfl⟩
  · unfold maxLen at h2
    exact ⟨_, _, rfl, h1, h2, fun h => by cases h⟩
theorem rt_len (h : RowT t w base v n l) : l.length = n := by have := h.1; rw [fls_len] at this; omega
theorem rt_mono {base' : Nat} (h : RowT t w base v n l) (hb : base' ≤ base) : RowT t w base' v n l := by
  refine ⟨h.1, ?_⟩
  rcases h.2 with h0 | ⟨g, cap, cur, hv, hB, hh, h2⟩
  · exact .inl h0
  · exact .inr ⟨g, cap, cur, hv, Nat.le_trans hb hB, hh, h2⟩
/-- The cells of the step that stands at k, in block g. -/
def At (w : World) (g k : Nat) (x : Stp) : Prop := w.cell? ⟨g, k * 6, none⟩ = some (.int .i64 x.node) ∧ w.cell? ⟨g, k * 6 + 1, none⟩ = some (.int .i64 x.op.kind) ∧ w.cell? ⟨g, k * 6 + 2, none⟩ = some (.int .i64 x.op.book) ∧ w.cell? ⟨g, k * 6 + 3, none⟩ = some (.int .i64 x.op.units) ∧ w.cell? ⟨g, k * 6 + 4, none⟩ = some (.int .i64 x.op.cust) ∧ w.cell? ⟨g, k * 6 + 5, none⟩ = some (.int .i64 x.op.amount)
theorem At.below {g k : Nat} {x : Stp} (h : At w g k x) (hb : Below w.heap.size w w') : At w' g k x := by
  obtain ⟨h0, h1, h2, h3, h4, h5⟩ := h
  have hg := block_lt_of_cell h0
  have hc : ∀ i, w'.cell? ⟨g, i, none⟩ = w.cell? ⟨g, i, none⟩ := fun i => World.cell?_of_block (hb.block g hg)
  exact ⟨(hc _).trans h0, (hc _).trans h1, (hc _).trans h2, (hc _).trans h3, (hc _).trans h4, (hc _).trans h5⟩
theorem at_row {g : Nat} {cur : Array Value} (hh : w.heap[g]? = some (.cells cur t (0, 0))) {m : Nat} (hm : cur.toList.take (m * 6) = fls l) {k : Nat} {x : Stp} (hx : l[k]? = some x) (hkm : k < m) : At w g k x := by
  have hc : ∀ j, j < 6 → w.cell? ⟨g, k * 6 + j, none⟩ = (spc x)[j]? := fun j hj => by
    have ht : (cur.toList.take (m * 6))[k * 6 + j]? = (spc x)[j]? := by rw [hm, fls_at hx hj]
    rw [List.getElem?_take_of_lt (by omega), Array.getElem?_toList] at ht
    rw [one_at hh, ht]
  exact ⟨hc 0 (by omega), hc 1 (by omega), hc 2 (by omega), hc 3 (by omega), hc 4 (by omega), hc 5 (by omega)⟩
/-- What is read of it. -/
theorem rt_cell {A : Option Addr} {c : Nat} (h : RowT t w base (.slice A n c) n l) {k : Nat} {x : Stp} (hx : l[k]? = some x) : ∃ g, A = some ⟨g, 0, none⟩ ∧ At w g k x := by
  have hkn : k < n := by rw [← rt_len h]; exact (List.getElem?_eq_some_iff.1 hx).1
  rcases h.2 with ⟨e, e0⟩ | ⟨g, cap, cur, e, hb, hh, h1, h2, h3, h4⟩
  · omega
  · injection e with eA _ _
    exact ⟨g, eA, at_row hh h4 hx hkn⟩
theorem rt_at {g c : Nat} (h : RowT t w base (.slice (some ⟨g, 0, none⟩) n c) n l) {k : Nat} {x : Stp} (hx : l[k]? = some x) : At w g k x := by
  obtain ⟨g', e, h1⟩ := rt_cell h hx
  injection e with e
  injection e with e _ _
  subst e
  exact h1
end

/-! ### rows grow -/
theorem ask_info : (Tryd.prog.info? 118).map (fun i => (i.zero, i.size, i.bytes)) = some (some (.agg #[.int .i64 0, .int .i64 0, .int .i64 0, .int .i64 0, .int .i64 0, .int .i64 0]), 6, 48) := by kernel_rfl
theorem rask_info : (Tryd.prog.info? 110).map (fun i => (i.zero, i.size, i.bytes)) = some (some (.agg #[.int .i64 0, .int .i64 0, .int .i64 0, .int .i64 0, .int .i64 0, .int .i64 0]), 6, 48) := by kernel_rfl
section
variable {ts t : TypeId} (ht : Tryd.prog.underlying ts = some (.slice t)) (hi : (Tryd.prog.info? t).map (fun i => (i.zero, i.size, i.bytes)) = some (some (.agg #[.int .i64 0, .int .i64 0, .int .i64 0, .int .i64 0, .int .i64 0, .int .i64 0]), 6, 48))
include ht hi
theorem row_append (w : World) (base : Nat) (v : Value) (n : Nat) (l : List Stp) (hown : RowT t w base v n l) (ad : Addr) (m c : Nat) (Y : List Stp) (hl : Y.length = m) (hnews : ∀ j u, (fls Y)[j]? = some u → w.cell? (ad.add j) = some u) (hb : n + m ≤ 1000000) (hbase : base ≤ w.heap.size) :
    ∃ A' c' w', (Builtin.append_ #[ts, ts] ts #[v, .slice (some ad) m c]).run Tryd.prog w = .ok (.slice A' (n + m) c') w' ∧ RowT t w' base (.slice A' (n + m) c') (n + m) (l ++ Y) ∧ w.grownBy w' v.ownBlock ∧ ((Value.slice A' (n + m) c').ownBlock = v.ownBlock ∨ (Value.slice A' (n + m) c').ownBlock = some w.heap.size) := by
  obtain ⟨i0, hi, hz0, hz1, hz2⟩ := info_parts hi
  obtain ⟨v', w', h1, h2, h3, _, h5⟩ := run_append_own_at (P := Tryd.prog) w base ts ts t i0 _ 6 48 ht hi hz0 hz1 hz2 rfl (by decide) v n (fls l) hown ad m c (fls Y) (by rw [fls_len, hl]) hnews (fls_one Y) (by unfold maxLen; omega) (by omega) hbase
  rw [← fls_app] at h2
  obtain ⟨A', c', rfl, _⟩ := rt_form h2
  exact ⟨A', c', w', h1, h2, h3, h5⟩
omit ht hi in
theorem news_1 {w : World} {g : Nat} {x : Stp} (hg : w.heap[g]? = some (.cells (spc x).toArray t (0, 0))) : ∀ j u, (fls [x])[j]? = some u → w.cell? ((⟨g, 0, none⟩ : Addr).add j) = some u := fun j u hu => by
  rw [Addr.add_lit, Nat.zero_add, one_at hg, List.getElem?_toArray]
  simpa [fls] using hu
/-- One step put behind a row: it lies in a block of its own. -/
theorem row_app1 (w : World) (base : Nat) (v : Value) (n : Nat) (l : List Stp) (hown : RowT t w base v n l) (x : Stp) (g : Nat) (hg : w.heap[g]? = some (.cells (spc x).toArray t (0, 0))) (hb : n + 1 ≤ 1000000) (hbase : base ≤ w.heap.size) :
    ∃ A' c' w', (Builtin.append_ #[ts, ts] ts #[v, .slice (some ⟨g, 0, none⟩) 1 1]).run Tryd.prog w = .ok (.slice A' (n + 1) c') w' ∧ RowT t w' base (.slice A' (n + 1) c') (n + 1) (l ++ [x]) ∧ w.grownBy w' v.ownBlock ∧ ((Value.slice A' (n + 1) c').ownBlock = v.ownBlock ∨ (Value.slice A' (n + 1) c').ownBlock = some w.heap.size) :=
  row_append ht hi w base v n l hown ⟨g, 0, none⟩ 1 1 [x] rfl (news_1 hg) hb hbase
end

/-! ### rows of numbers -/
def ivs (l : List Int) : List Value := l.map (Value.int .i64)
theorem ivs_snoc (l : List Int) (x : Int) : ivs (l ++ [x]) = ivs l ++ [.int .i64 x] := by simp [ivs]
theorem ivs_len (l : List Int) : (ivs l).length = l.length := by simp [ivs]
abbrev RowI (w : World) (base : Nat) (v : Value) (n : Nat) (xs : List Value) : Prop := w.ownsRow base 3 1 v n xs
section
variable {w w' : World} {v v' : Value} {n base : Nat} {xs : List Value}
theorem ri_same (h : RowI w base v n xs) (hk : ∀ g, v.ownBlock = some g → w'.heap[g]? = w.heap[g]?) : RowI w' base v n xs := by
  refine ⟨h.1, ?_⟩
  rcases h.2 with h0 | ⟨g, cap, cur, hv, hb, hh, h2⟩
  · exact .inl h0
  · exact .inr ⟨g, cap, cur, hv, hb, (hk g (by rw [hv]; rfl)).trans hh, h2⟩
theorem ri_block {g : Nat} (h : RowI w base v n xs) (hg : v.ownBlock = some g) : base ≤ g ∧ ∃ cur, w.heap[g]? = some (.cells cur 3 (0, 0)) := by
  rcases h.2 with ⟨rfl, _⟩ | ⟨g', cap, cur, rfl, hb, hh, _⟩
  · simp [Value.ownBlock] at hg
  · have : g' = g := by simpa [Value.ownBlock] using hg
    subst this
    exact ⟨hb, cur, hh⟩
theorem ri_below (h : RowI w base v n xs) (hb : Below w.heap.size w w') : RowI w' base v n xs := ri_same h fun g hg => hb.block g (by
  obtain ⟨_, cur, hc⟩ := ri_block h hg
  exact lt_some hc)
theorem ri_form (h : RowI w base v n xs) : ∃ A c, v = .slice A n c ∧ n ≤ c ∧ c ≤ 9223372036854775807 ∧ (A = none → c = 0) := by
  rcases h.2 with ⟨rfl, rfl⟩ | ⟨g, cap, cur, rfl, hb, hh, h1, h2, _⟩
  · exact ⟨_, _, rfl, Nat.le_refl _, by omega, fun _ => rfl⟩
  · unfold maxLen at h2
    exact ⟨_, _, rfl, h1, h2, fun h => by cases h⟩
theorem ri_mono {base' : Nat} (h : RowI w base v n xs) (hb : base' ≤ base) : RowI w base' v n xs := by
  refine ⟨h.1, ?_⟩
  rcases h.2 with h0 | ⟨g, cap, cur, hv, hB, hh, h2⟩
  · exact .inl h0
  · exact .inr ⟨g, cap, cur, hv, by omega, hh, h2⟩
end
theorem int_info : (Tryd.prog.info? 3).map (fun i => (i.zero, i.size, i.bytes)) = some (some (.int .i64 0), 1, 8) := by kernel_rfl

/-- A number of a row. -/
theorem ri_cell {w : World} {base n : Nat} {A : Option Addr} {c : Nat} {l : List Int} (h : RowI w base (.slice A n c) n (ivs l)) {k : Nat} {x : Int} (hx : l[k]? = some x) : ∃ g, A = some ⟨g, 0, none⟩ ∧ w.cell? ⟨g, k, none⟩ = some (.int .i64 x) := by
  have hl := h.1
  rw [ivs_len] at hl
  have hkn : k < l.length := (List.getElem?_eq_some_iff.1 hx).1
  rcases h.2 with ⟨e, e0⟩ | ⟨g, cap, cur, e, hb, hh, h1, h2, h3, h4⟩
  · omega
  · injection e with eA _ _
    refine ⟨g, eA, ?_⟩
    have ht : (cur.toList.take (n * 1))[k]? = some (Value.int .i64 x) := by rw [h4, ivs, List.getElem?_map, hx]; rfl
    rw [List.getElem?_take_of_lt (by omega), Array.getElem?_toList] at ht
    rw [one_at hh, ht]
theorem ri_len {w : World} {base n : Nat} {v : Value} {l : List Int} (h : RowI w base v n (ivs l)) : l.length = n := by have := h.1; rw [ivs_len] at this; omega
theorem ints_append : Tryd.prog.underlying 111 = some (.slice 3) := Tryd.underlying111
/-- One number put behind a row: it lies in a block of its own. -/
theorem ri_app1 (w : World) (base : Nat) (v : Value) (n : Nat) (l : List Int) (hown : RowI w base v n (ivs l)) (x : Int) (g : Nat) (hg : w.heap[g]? = some (.cells #[.int .i64 x] 3 (0, 0))) (hb : n + 1 ≤ 1000000) (hbase : base ≤ w.heap.size) :
    ∃ A' c' w', (Builtin.append_ #[111, 111] 111 #[v, .slice (some ⟨g, 0, none⟩) 1 1]).run Tryd.prog w = .ok (.slice A' (n + 1) c') w' ∧ RowI w' base (.slice A' (n + 1) c') (n + 1) (ivs (l ++ [x])) ∧ w.grownBy w' v.ownBlock ∧ ((Value.slice A' (n + 1) c').ownBlock = v.ownBlock ∨ (Value.slice A' (n + 1) c').ownBlock = some w.heap.size) := by
  obtain ⟨i0, hi, hz0, hz1, hz2⟩ := info_parts int_info
  obtain ⟨v', w', h1, h2, h3, _, h5⟩ := run_append_own_at (P := Tryd.prog) w base 111 111 3 i0 _ 1 8 ints_append hi hz0 hz1 hz2 rfl (by decide) v n (ivs l) hown ⟨g, 0, none⟩ 1 1 [.int .i64 x] rfl (fun j u hu => by
    match j, hu with
    | 0, hu => simp at hu; subst hu; rw [Addr.add_zero', one_at hg]; rfl
    | j + 1, hu => simp at hu) (by intro y hy; simp at hy; subst hy; rfl) (by unfold maxLen; omega) (by omega) hbase
  rw [← ivs_snoc] at h2
  obtain ⟨A', c', rfl, _⟩ := ri_form h2
  exact ⟨A', c', w', h1, h2, h3, h5⟩
theorem asks_append : Tryd.prog.underlying 92 = some (.slice 118) := Tryd.underlying92
theorem rasks_append : Tryd.prog.underlying 79 = some (.slice 110) := Tryd.underlying79

/-! ### an append by its run -/
theorem wpList_run_app {w : World} {ops : Array Oper} {rest : List Oper} {o : Oper} {a : Act} {Q : Exit → Act → World → Prop} {t : TypeId} (hgd : o.guard = none) (s x : Operand) (ho : o.op = .call { callee := .builtin .append, args := #[s, x], argTypes := #[t, t] }) (hty : o.type = t)
    (v0 x0 : Value) (hs : a.eval s = v0) (hx : a.eval x = x0) {v' : Value} {w' : World} (hrun : (Builtin.append_ #[t, t] t #[v0, x0]).run Tryd.prog w = .ok v' w') (h : wpList Tryd.prog ops Q rest (a.put o.dst v') w') :
    wpList Tryd.prog ops Q (o :: rest) a w := by
  refine wpList_plain hgd fun K hK' => ?_
  unfold Oper.wp execOp
  simp only [ho, resolve, invoke, builtin, Sem.run_bind, Sem.run_pure, Result.andThen_ok, List.map_toArray, List.map_cons, List.map_nil, hs, hx, hty, hrun]
  exact hK' _ _ h
theorem step_run_app {w : World} {ops : Array Oper} {o : Oper} {a : Act} {K : Act → World → Prop} {Q : Exit → Act → World → Prop} {E : Prop} {t : TypeId} (hgd : o.guard = none) (s x : Operand) (ho : o.op = .call { callee := .builtin .append, args := #[s, x], argTypes := #[t, t] }) (hty : o.type = t)
    (v0 x0 : Value) (hs : a.eval s = v0) (hx : a.eval x = x0) {v' : Value} {w' : World} (hrun : (Builtin.append_ #[t, t] t #[v0, x0]).run Tryd.prog w = .ok v' w') (h : K (a.put o.dst v') w') :
    if Region.wanted o (yielded ops a.tmps) = true then Oper.wp Tryd.prog o a w K Q else E := by
  have hw : Region.wanted o (yielded ops a.tmps) = true := by simp [Region.wanted, hgd]
  rw [if_pos hw]
  unfold Oper.wp execOp
  simp only [ho, resolve, invoke, builtin, Sem.run_bind, Sem.run_pure, Result.andThen_ok, List.map_toArray, List.map_cons, List.map_nil, hs, hx, hty, hrun]
  exact h
end Pl
end Go.Proofs.YtidfpbnepdjagaaDoor
