/- The steps of a table that are so; what makes a step; the step behind the decision. -/
import Derived.Test.YtidfpbnepdjagaaDoorPlD
namespace Go.Proofs.YtidfpbnepdjagaaDoor
set_option maxRecDepth 100000
open Go.RowKit
open Go.Proofs.YtidfpbnepdjagaaDoor.Pk (one_at one_free one_set lt_some grown_set grown_trans below_grown grown_refl)
namespace Pl
open Wt (Wan may Opn mayOp may_any below_drewN)

/-- What a call that collects steps leaves. -/
def StpsTo (t : TypeId) (w : World) (l : List Stp) (e : Ending) (w' : World) : Prop := ∃ v, e = .returned v ∧ RowT t w' w.heap.size v l.length l ∧ Below w.heap.size w w'
def SpAt (w : World) (ss : List Stp) (p : Stp → Bool) (v i : Value) (wr : World) : Prop := ∃ (k : Nat) (l : List Stp), i = .int .i64 k ∧ k ≤ ss.length ∧ RowT 118 wr w.heap.size v l.length l ∧ l = (ss.take k).filter p ∧ Below w.heap.size w wr
set_option maxHeartbeats 3200000 in
theorem those_any (w : World) (t n base b : Nat) (ss : List Stp) (hn : ss.length = n) (few : n ≤ 7) (ht : w.heap[t]? = some (.cells (fls ss).toArray 118 (0, 0))) (l0 : List Int) (h : Asker w base b l0) :
    Calls Tryd.prog 83 #[.slice (some ⟨t, 0, none⟩) n n, .func (.func 87) #[] #[.pointer (some ⟨b, 0, none⟩)]] w (StpsTo 118 w (ss.filter fun s => l0.contains s.node)) := by
  have st : Hid (SpAt w ss (fun s => l0.contains s.node) (.slice none 0 0) (.int .i64 0) w) := ⟨0, [], rfl, Nat.zero_le _, World.ownsRow_nil _ _ _ _, rfl, Below.refl _ _⟩
  have htl := lt_some ht
  have CL : Hid (∀ w' s, Below w.heap.size w w' → Calls Tryd.prog 87 #[spv s, .pointer (some ⟨b, 0, none⟩)] w' fun e w'' => e = .returned (.bool (l0.contains s.node)) ∧ Below w'.heap.size w' w'') := fun w' s hb => askClo_any w' base b l0 (h.below hb) s
  have TC : Hid (∀ w' k s, Below w.heap.size w w' → ss[k]? = some s → At w' t k s) := fun w' k s hb hk => by
    have hh : w'.heap[t]? = some (.cells (fls ss).toArray 118 (0, 0)) := (hb.block t htl).trans ht
    refine at_row (l := ss) (m := n) hh ?_ hk (by rw [← hn]; exact (List.getElem?_eq_some_iff.1 hk).1)
    rw [← hn]
    exact List.take_of_length_le (by simp [fls_len])
  generalize hq : (fun s : Stp => l0.contains s.node) = q at *
  have Q : ∀ s : Stp, l0.contains s.node = q s := fun s => by rw [← hq]
  simp only [Q] at CL
  replace hn := Lib.hid hn
  clear ht h Q hq
  go_enter Tryd.func83, Tryd.ntmps83
  go_wp2_with fail
  go_loopw [5, 10] (fun v i wr => SpAt w ss q v i wr) (fun _ i _ => n - (intOf i).toNat)
  case atStart => exact st.out
  case round =>
    clear st
    obtain ⟨k, l, rfl, hk, hrow, hl, hb⟩ := hrel
    replace hk : k ≤ n := by have := hn.out; omega
    obtain ⟨A, c, rfl, hc1, hc2, hc3⟩ := rt_form hrow
    by_cases hlt : k < n
    · obtain ⟨s, hi⟩ : ∃ s, ss[k]? = some s := ⟨_, List.getElem?_eq_getElem (by have := hn.out; omega)⟩
      obtain ⟨e0, e1, e2, e3, e4, e5⟩ := TC.out wr k s hb hi
      have i1 : (k : Int) < (n : Int) := by omega
      have i2 : (0 : Int) ≤ (k : Int) := by omega
      have hkl : k + 1 ≤ ss.length := by have := hn.out; omega
      have fw : l.length ≤ 7 := by rw [hl]; exact Nat.le_trans (List.length_filter_le ..) (by rw [List.length_take]; omega)
      obtain ⟨W1, hW1⟩ : ∃ W1, W1 = wr.alloc (.cells #[.int .i64 s.node, .int .i64 s.op.kind, .int .i64 s.op.book, .int .i64 s.op.units, .int .i64 s.op.cust, .int .i64 s.op.amount] 118) := ⟨_, rfl⟩
      have H1 : W1.heap[wr.heap.size]? = some (.cells #[.int .i64 s.node, .int .i64 s.op.kind, .int .i64 s.op.book, .int .i64 s.op.units, .int .i64 s.op.cust, .int .i64 s.op.amount] 118 (0, 0)) := by rw [hW1]; exact heap_alloc_new _ _
      have bW : Below wr.heap.size wr W1 := by rw [hW1]; exact (Below.refl _ _).alloc (Nat.le_refl _) _
      have b1 : Below w.heap.size w W1 := hb.trans (bW.mono hb.size)
      have r1 : RowT 118 W1 w.heap.size (.slice A l.length c) l.length l := rt_below hrow bW
      have C := CL.out W1 s b1
      unfold spv at C
      replace C := Lib.hid C
      replace hW1 := Lib.hid hW1
      replace b1 := Lib.hid b1
      replace r1 := Lib.hid r1
      replace hi := Lib.hid hi
      replace hl := Lib.hid hl
      have nl : Hid (wr.heap.size < W1.heap.size) := lt_some H1
      clear hrow hb bW
      go_wp2_with fail
      rw [← hW1.out]
      refine C.out.mono ?_
      rintro e w2 ⟨rfl, h2⟩
      clear C e0 e1 e2 e3 e4 e5
      have H2 : w2.heap[wr.heap.size]? = _ := (h2.block _ nl.out).trans H1
      have e0 : w2.cell? ⟨wr.heap.size, 0, none⟩ = some (.int .i64 s.node) := one_at (i := 0) H2
      have e1 : w2.cell? ⟨wr.heap.size, 1, none⟩ = some (.int .i64 s.op.kind) := one_at (i := 1) H2
      have e2 : w2.cell? ⟨wr.heap.size, 2, none⟩ = some (.int .i64 s.op.book) := one_at (i := 2) H2
      have e3 : w2.cell? ⟨wr.heap.size, 3, none⟩ = some (.int .i64 s.op.units) := one_at (i := 3) H2
      have e4 : w2.cell? ⟨wr.heap.size, 4, none⟩ = some (.int .i64 s.op.cust) := one_at (i := 4) H2
      have e5 : w2.cell? ⟨wr.heap.size, 5, none⟩ = some (.int .i64 s.op.amount) := one_at (i := 5) H2
      have rl : wr.heap.size < w2.heap.size := Nat.lt_of_lt_of_le nl.out h2.size
      have b2 : Below w.heap.size w w2 := b1.out.trans (h2.mono b1.out.size)
      have r2 := rt_below r1.out h2
      clear H1 H2 h2 b1 r1 nl hW1
      have bs := b2.size
      cases hp : q s with
      | true =>
        have ba : Below w2.heap.size w2 (w2.alloc (.cells #[.int .i64 s.node, .int .i64 s.op.kind, .int .i64 s.op.book, .int .i64 s.op.units, .int .i64 s.op.cust, .int .i64 s.op.amount] 118)) := (Below.refl _ _).alloc (Nat.le_refl _) _
        obtain ⟨A3, c3, w3, r3, R3, g3, h3⟩ := row_app1 asks_append ask_info (w2.alloc (.cells #[.int .i64 s.node, .int .i64 s.op.kind, .int .i64 s.op.book, .int .i64 s.op.units, .int .i64 s.op.cust, .int .i64 s.op.amount] 118)) w.heap.size _ l.length l (rt_below r2 ba) s w2.heap.size (heap_alloc_new _ _) (by omega) (Nat.le_trans bs ba.size)
        have nx : Hid (SpAt w ss q (.slice A3 (l.length + 1) c3) (.int .i64 ((k : Int) + 1)) w3) := by
          refine ⟨k + 1, l ++ [s], by simp, hkl, by rw [List.length_append]; exact R3, by rw [fil_next hi.out hp, ← hl.out], ?_⟩
          exact (b2.trans (ba.mono bs)).trans (below_of_grown g3 (Nat.le_trans bs ba.size) fun j hj => (rt_block r2 hj).1)
        clear r2 b2 bs R3 g3 h3 ba hp hi hl
        go_wp2_with (first
          | (at_builtin; refine wpList_run_app rfl (.tmp 17) (.tmp 19) rfl rfl _ _ rfl rfl r3 ?_)
          | go_in)
        exact ⟨nx.out, by simp [intOf]; omega⟩
      | false =>
        have nx : Hid (SpAt w ss q (.slice A l.length c) (.int .i64 ((k : Int) + 1)) w2) := ⟨k + 1, l, by simp, hkl, r2, by rw [fil_same hi.out hp, ← hl.out], b2⟩
        clear r2 b2 bs hp hi hl
        go_wp2_with fail
        exact ⟨nx.out, by simp [intOf]; omega⟩
    · have i1 : ¬ (k : Int) < (n : Int) := by omega
      have E : Hid (StpsTo 118 w (ss.filter q) (.returned (.slice A l.length c)) wr) := by
        have : ss.take k = ss := List.take_of_length_le (by have := hn.out; omega)
        rw [this] at hl
        rw [← hl]
        exact ⟨_, rfl, hrow, hb⟩
      clear hrow hl hb
      go_wp2_with fail
      go_ret
      exact E.out
/-- What makes steps of x: its booking lies at g. -/
def StepTo (w : World) (x : Wan) (e : Ending) (w' : World) : Prop := ∃ g, e = .returned (.func (.func 85) #[] #[.pointer (some ⟨g, 0, none⟩)]) ∧ BoxW w' g x ∧ Below w.heap.size w w'
set_option maxHeartbeats 400000 in
theorem stepsOf_any (w : World) (x : Wan) : Calls Tryd.prog 82 #[wanv x] w (StepTo w x) := by
  have E : Hid (StepTo w x (.returned (.func (.func 85) #[] #[.pointer (some ⟨w.heap.size, 0, none⟩)])) (w.alloc (.cells #[.int .i64 x.book, .int .i64 x.cust, .int .i64 x.dead, .int .i64 x.u0, .int .i64 x.u1, .int .i64 x.u2, .int .i64 x.price] 26))) :=
    ⟨_, rfl, heap_alloc_new _ _, (Below.refl _ w).alloc (Nat.le_refl _) _⟩
  unfold wanv
  go_enter Tryd.func82, Tryd.ntmps82
  go_wp2
  go_ret
  exact E.out
theorem ask_size : (Tryd.prog.info? 118).map (·.size) = some 6 := by kernel_rfl
theorem step_results : Tryd.f85.results = #[.cell 5 118] := by kernel_rfl
end Pl
end Go.Proofs.YtidfpbnepdjagaaDoor
