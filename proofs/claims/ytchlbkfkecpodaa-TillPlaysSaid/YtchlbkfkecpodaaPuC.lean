/- The moves of a purse told; a purse copied, and new. -/
import Derived.Test.YtchlbkfkecpodaaPuB
namespace Go.Proofs.Ytchlbkfkecpodaa
set_option maxRecDepth 100000
open Go.RowKit
open Go.Sort (grow)
open Go.Proofs.Ytchlbkfkecpodaa.Pk (one_at one_free one_set lt_some grown_set grown_trans below_grown grown_refl)
namespace Pu

theorem wpList_run_app {w : World} {ops : Array Oper} {rest : List Oper} {o : Oper} {a : Act} {Q : Exit → Act → World → Prop} {t : TypeId} (hgd : o.guard = none) (s x : Operand) (ho : o.op = .call { callee := .builtin .append, args := #[s, x], argTypes := #[t, t] }) (hty : o.type = t)
    (v0 x0 : Value) (hs : a.eval s = v0) (hx : a.eval x = x0) {v' : Value} {w' : World} (hrun : (Builtin.append_ #[t, t] t #[v0, x0]).run Try.prog w = .ok v' w') (h : wpList Try.prog ops Q rest (a.put o.dst v') w') :
    wpList Try.prog ops Q (o :: rest) a w := by
  refine wpList_plain hgd fun K hK' => ?_
  unfold Oper.wp execOp
  simp only [ho, resolve, invoke, builtin, Sem.run_bind, Sem.run_pure, Result.andThen_ok, List.map_toArray, List.map_cons, List.map_nil, hs, hx, hty, hrun]
  exact hK' _ _ h
theorem step_run_app {w : World} {ops : Array Oper} {o : Oper} {a : Act} {K : Act → World → Prop} {Q : Exit → Act → World → Prop} {E : Prop} {t : TypeId} (hgd : o.guard = none) (s x : Operand) (ho : o.op = .call { callee := .builtin .append, args := #[s, x], argTypes := #[t, t] }) (hty : o.type = t)
    (v0 x0 : Value) (hs : a.eval s = v0) (hx : a.eval x = x0) {v' : Value} {w' : World} (hrun : (Builtin.append_ #[t, t] t #[v0, x0]).run Try.prog w = .ok v' w') (h : K (a.put o.dst v') w') :
    if Region.wanted o (yielded ops a.tmps) = true then Oper.wp Try.prog o a w K Q else E := by
  have hw : Region.wanted o (yielded ops a.tmps) = true := by simp [Region.wanted, hgd]
  rw [if_pos hw]
  unfold Oper.wp execOp
  simp only [ho, resolve, invoke, builtin, Sem.run_bind, Sem.run_pure, Result.andThen_ok, List.map_toArray, List.map_cons, List.map_nil, hs, hx, hty, hrun]
  exact h
theorem lines_append : Try.prog.underlying 68 = some (.slice 115) := Try.underlying68
theorem dlines_append : Try.prog.underlying 82 = some (.slice 117) := Try.underlying82

/-! ### slices.Clone, slices.Clip of moves -/
set_option maxHeartbeats 400000 in
theorem clip_any (w : World) (A : Option Addr) (n c : Nat) (hn : n ≤ c) (_hc : c ≤ 9223372036854775807) (_hA : A = none → c = 0) : Calls Try.prog 111 #[.slice A n c] w fun e w' => e = .returned (.slice A n n) ∧ w = w' := by
  have h0 : (n : Int) ≤ (c : Int) := by omega
  go_enter Try.func111, Try.ntmps111
  go_wp2
  go_ret
  exact ⟨rfl, rfl⟩
/-- Moves in a new row. -/
def LinTo (w : World) (n : Nat) (l : List Ln) (e : Ending) (w' : World) : Prop := ∃ v, e = .returned v ∧ RowT LineT w' w.heap.size v n l ∧ Below w.heap.size w w'
theorem clone_nil (w : World) : Calls Try.prog 81 #[.slice none 0 0] w (LinTo w 0 []) := by
  have H : LinTo w 0 [] (.returned (.slice none 0 0)) w := ⟨_, rfl, World.ownsRow_nil _ _ _ _, Below.refl _ _⟩
  replace H := Lib.hid H
  have hnil := Lib.run_eql_slice_nil (P := Try.prog) w 68 115 none 0 0 0 0 Try.underlying68
  simp at hnil
  go_enter Try.func81, Try.ntmps81
  go_wp2
  go_ret
  exact H.out
set_option maxHeartbeats 400000 in
theorem clone_some (w : World) (g n c : Nat) (l : List Ln) (h : RowT LineT w 0 (.slice (some ⟨g, 0, none⟩) n c) n l) (hn : n ≤ 100000) :
    Calls Try.prog 81 #[.slice (some ⟨g, 0, none⟩) n c] w (LinTo w n l) := by
  have hnil := Lib.run_eql_slice_nil (P := Try.prog) w 68 115 (some ⟨g, 0, none⟩) n c 0 0 Try.underlying68
  simp at hnil
  have hb : Below w.heap.size w (w.alloc (.cells #[] 115)) := (Below.refl _ _).alloc (Nat.le_refl _) _
  have hr := rt_below h hb
  obtain ⟨A', c', w', r1, r2, r3, -⟩ := row_append lines_append line_info (w.alloc (.cells #[] 115)) w.heap.size (.slice (some ⟨w.heap.size, 0, none⟩) 0 0) 0 [] (World.ownsRow_lit w #[] 0 (Nat.le_refl _) (by unfold maxLen; omega) rfl) ⟨g, 0, none⟩ n c l (rt_len h) (fun j u hj => World.ownsRow.cells hr (g := g) rfl j u hj) (by omega) hb.size
  rw [Nat.zero_add] at r1 r2
  have H : Hid (LinTo w n l (.returned (.slice A' n c')) w') := ⟨_, rfl, by simpa using r2, hb.grown r3 hb.size (fun k hk => by simp [Value.ownBlock] at hk; omega)⟩
  clear r2 r3 hr h hb
  go_enter Try.func81, Try.ntmps81
  go_wp2_with (at_builtin; refine wpList_run_app rfl (.tmp 5) (.tmp 6) rfl rfl _ _ rfl rfl r1 ?_)
  go_ret
  exact H.out
theorem clone_any (w : World) (v : Value) (n : Nat) (l : List Ln) (h : RowT LineT w 0 v n l) (hn : n ≤ 100000) : Calls Try.prog 81 #[v] w (LinTo w n l) := by
  rcases h.2 with ⟨rfl, rfl⟩ | ⟨g, cap, cur, rfl, _⟩
  · obtain rfl := List.eq_nil_of_length_eq_zero (rt_len h)
    exact clone_nil w
  · exact clone_some w g n cap l h hn
theorem lines_nil (w : World) : Calls Try.prog 38 #[.pointer none] w fun e w' => e = .returned (.slice none 0 0) ∧ w = w' := by
  go_enter Try.func38, Try.ntmps38
  go_wp2
  go_ret
  exact ⟨rfl, rfl⟩
set_option maxHeartbeats 400000 in
theorem lines_any (w : World) (q : Nat) (p : S) (fp : Nat → Prop) (L : LedP w q p fp) : Calls Try.prog 38 #[.pointer (some ⟨q, 0, none⟩)] w (LinTo w p.l.length p.l) := by
  obtain ⟨v, D, R, -, -⟩ := L.at_
  have few := L.ok.few
  have C := Lib.hid (clone_any w v p.l.length p.l R (by omega))
  have c := D.lin
  generalize p.l = l at *
  clear D R L few
  go_enter Try.func38, Try.ntmps38
  go_wp2_with fail
  refine C.out.mono ?_
  rintro e w' ⟨v', rfl, h⟩
  have H : Hid (LinTo w l.length l (.returned v') w') := ⟨v', rfl, h⟩
  clear h C
  go_wp2
  go_ret
  exact H.out

/-! ### a whole purse by value -/
theorem led_under : ∃ d, Try.prog.underlying 113 = some d ∧ d.isRow = true := ⟨_, Try.underlying113, rfl⟩
theorem led_size : (Try.prog.info? 113).map (·.size) = some 1012 := by kernel_rfl
theorem ents_mem : ∀ {n : Nat} {f : F} {u : Value}, u ∈ ents f n → u.oneCell' = true
  | 0, _, _, h => by cases h
  | n + 1, f, u, h => by
    unfold ents at h
    rcases List.mem_append.1 h with h | h
    · exact ents_mem h
    · exact Array.all_eq_true_iff_forall_mem.1 (entc_one (f (n : Int))) u (by simpa using h)
theorem pcs_one (p : S) {v : Value} (hv : v.oneCell' = true) : (pcs p v).toArray.all (·.oneCell') = true := by
  refine Array.all_eq_true_iff_forall_mem.2 fun u hu => ?_
  rw [List.mem_toArray] at hu
  unfold pcs accs at hu
  rcases List.mem_append.1 hu with h | h
  · simp at h
    rcases h with rfl | rfl | rfl | rfl | rfl | rfl <;> rfl
  · rcases List.mem_append.1 h with h | h
    · exact ents_mem h
    · rw [List.mem_singleton] at h
      rw [h]
      exact hv
theorem Pm.of_range {w : World} {q : Nat} {p : S} {v : Value} (hq : q < w.heap.size) (h : w.rangeAt q 0 (pcs p v)) (hf : ∀ i, w.frozen? ⟨q, i, none⟩ = false) : Pm w q p v := by
  refine ⟨hq, fun k hk => ?_, fun k hk j u hj => ?_, ?_, hf⟩
  · have := h k _ (pcs_acc p v hk)
    rwa [Nat.zero_add] at this
  · have h5 : j < 5 := (List.getElem?_eq_some_iff.1 hj).1
    have := h (6 + k * 5 + j) u (by rw [pcs_ent p v hk h5, hj])
    rwa [Nat.zero_add] at this
  · have := h 1011 _ (pcs_lin p v)
    rwa [Nat.zero_add] at this
def zero : S := ⟨fun _ => 0, fz, []⟩
theorem alloc_run (w : World) : (Instr.alloc 113 true (.tuple #[])).run Try.prog w = .ok (.pointer (some ⟨w.heap.size, 0, none⟩)) (w.alloc (.cells (pcs zero (.slice none 0 0)).toArray 113)) := by
  simp only [Instr.alloc, newVar, newRow, Sem.run_bind]
  kernel_rfl
theorem build_run (w : World) : (Instr.build 113 #[]).run Try.prog w = .ok (.agg (pcs zero (.slice none 0 0)).toArray) w := by kernel_rfl
theorem box_run (w : World) (cs : Array Value) : (Instr.box 113 (.agg cs)).run Try.prog w = .ok (.pointer (some ⟨w.heap.size, 0, none⟩)) (w.alloc (.cells cs 113)) := by
  simp only [Instr.box, newVar, newRow, Sem.run_bind]
  kernel_rfl
section
variable {ops : Array Oper} {rest : List Oper} {o : Oper} {a : Act} {w : World} {Q : Exit → Act → World → Prop}
theorem wpList_alloc10 (hg : o.guard = none) (ho : o.op = .alloc 113)
    (h : wpList Try.prog ops Q rest (a.put o.dst (.pointer (some ⟨w.heap.size, 0, none⟩))) (w.alloc (.cells (pcs zero (.slice none 0 0)).toArray 113))) : wpList Try.prog ops Q (o :: rest) a w := by
  refine wpList_plain hg fun K hK => ?_
  unfold Oper.wp execOp
  simp only [ho, Sem.run_bind, alloc_run, Sem.run_pure, Result.andThen_ok]
  exact hK _ _ h
theorem wpList_build10 (hg : o.guard = none) (ho : o.op = .build 113 #[])
    (h : wpList Try.prog ops Q rest (a.put o.dst (.agg (pcs zero (.slice none 0 0)).toArray)) w) : wpList Try.prog ops Q (o :: rest) a w := by
  refine wpList_plain hg fun K hK => ?_
  unfold Oper.wp execOp
  simp only [ho, Sem.run_bind, List.map_toArray, List.map_nil, build_run, Sem.run_pure, Result.andThen_ok]
  exact hK _ _ h
theorem wpList_box10 (hg : o.guard = none) (x : Operand) (ho : o.op = .box 113 x) (cs : Array Value) (hx : a.eval x = .agg cs)
    (h : wpList Try.prog ops Q rest (a.put o.dst (.pointer (some ⟨w.heap.size, 0, none⟩))) (w.alloc (.cells cs 113))) : wpList Try.prog ops Q (o :: rest) a w := by
  refine wpList_plain hg fun K hK => ?_
  unfold Oper.wp execOp
  simp only [ho, hx, Sem.run_bind, box_run, Sem.run_pure, Result.andThen_ok]
  exact hK _ _ h
end
theorem copy_nil (w : World) : Calls Try.prog 32 #[.pointer none] w fun e w' => e = .returned (.pointer none) ∧ w = w' := by
  go_enter Try.func32, Try.ntmps32
  go_wp2
  go_ret
  exact ⟨rfl, rfl⟩
/-- What Copy answers: another purse, whose row of moves may be the same. -/
def CpTo (w : World) (p : S) (fp : Nat → Prop) (e : Ending) (w' : World) : Prop := ∃ q', e = .returned (.pointer (some ⟨q', 0, none⟩)) ∧ w.heap.size ≤ q' ∧ LedP w' q' p (fun g => g = q' ∨ (fp g ∧ g < w.heap.size)) ∧ Below w.heap.size w w'
set_option maxHeartbeats 1600000 in
theorem copy_any (w : World) (q : Nat) (p : S) (fp : Nat → Prop) (L : LedP w q p fp) : Calls Try.prog 32 #[.pointer (some ⟨q, 0, none⟩)] w (CpTo w p fp) := by
  obtain ⟨v, D, R, hne, hv⟩ := L.at_
  have hall := D.all
  obtain ⟨d, hu, hd⟩ := led_under
  have hv1 : v.oneCell' = true := by
    obtain ⟨A, c, rfl, _⟩ := rt_form R
    rfl
  have hb : Below w.heap.size w (w.alloc (.cells (pcs zero (.slice none 0 0)).toArray 113)) := (Below.refl _ _).alloc (Nat.le_refl _) _
  have hz := heap_alloc_new w (.cells (pcs zero (.slice none 0 0)).toArray 113)
  have Z : Pm _ w.heap.size zero _ := .of_block hz
  have th : (w.alloc (.cells (pcs zero (.slice none 0 0)).toArray 113)).there w.heap.size 0 (pcs p v).toArray.size := fun j hj => by
    have hj : j < 1012 := by simpa [pcs_len] using hj
    refine ⟨Z.all.isSome j (by rw [pcs_len]; exact hj) |> fun h => ?_, Z.free _⟩
    exact h
  have th' : (w.alloc (.cells (pcs zero (.slice none 0 0)).toArray 113)).there w.heap.size 0 (pcs p v).length := th
  have E : Hid (CpTo w p fp (.returned (.pointer (some ⟨w.heap.size, 0, none⟩))) ((w.alloc (.cells (pcs zero (.slice none 0 0)).toArray 113)).setCells w.heap.size 0 (pcs p v).toArray.toList)) := by
    have K := Kq.of_cells (w.alloc (.cells (pcs zero (.slice none 0 0)).toArray 113)) w.heap.size 0 (pcs p v)
    have hs : w.heap.size < ((w.alloc (.cells (pcs zero (.slice none 0 0)).toArray 113)).setCells w.heap.size 0 (pcs p v)).heap.size := Nat.lt_of_lt_of_le (lt_some hz) K.size
    have K2 : Below w.heap.size w ((w.alloc (.cells (pcs zero (.slice none 0 0)).toArray 113)).setCells w.heap.size 0 (pcs p v)) := hb.trans (K.below (fun g hg => by omega) hb.size)
    refine ⟨_, rfl, Nat.le_refl _, ⟨⟨.inl rfl, fun g hg => ?_, v, .of_range hs (World.rangeAt_setCells_same _ _ _ _ th') (fun i => by rw [World.frozen?_setCells]; exact Z.free i), rt_below R K2, fun e => ?_, fun g hg => .inr ⟨hv g hg, rt_lt R hg⟩⟩, L.ok⟩, K2⟩
    · rcases hg with rfl | ⟨_, hg⟩
      · exact hs
      · exact Nat.lt_trans hg hs
    · have := rt_lt R e
      omega
  replace th := Lib.hid th
  replace hall := Lib.hid hall
  replace hu := Lib.hid hu
  replace hd := Lib.hid hd
  have hi : Hid ((Try.prog.info? 113).map (·.size) = some (pcs p v).length) := by rw [pcs_len]; exact led_size
  have hi2 : Hid ((Try.prog.info? 113).map (·.size) = some (pcs p v).toArray.size) := hi
  have h1 := Lib.hid (pcs_one p hv1)
  clear D R hne hv Z th' hz hb L hv1
  go_enter Try.func32, Try.ntmps32
  go_wp2_with (first
    | (refine wpList_load_mid rfl 113 (.tmp 7) rfl q 0 rfl (pcs p v) d hall.out hu.out hd.out hi.out ?_)
    | (refine wpList_alloc10 rfl rfl ?_)
    | (refine wpList_store_mid rfl 113 (.tmp 3) (.tmp 8) rfl w.heap.size 0 (pcs p v).toArray rfl rfl th.out hi2.out h1.out ?_))
  go_ret
  exact E.out
end Pu
end Go.Proofs.Ytchlbkfkecpodaa
