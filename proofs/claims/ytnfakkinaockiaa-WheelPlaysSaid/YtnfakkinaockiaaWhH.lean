/- find, first of a heap of timers. -/
import Derived.Test.YtnfakkinaockiaaWhG
import Derived.Laws.ResultCell
namespace Go.Proofs.Ytnfakkinaockiaa
set_option maxRecDepth 100000
open Go.RowKit
open Go.Sort (grow)
open Go.Proofs.Ytnfakkinaockiaa.Pk (one_at one_free one_set lt_some grown_set grown_trans below_grown grown_refl)
namespace Wh

theorem tm_info : (Try.prog.info? 57).map (·.size) = some 2 := by kernel_rfl
theorem tm_res {P : Program} {fn : Func} {p u : Tmp} {ty : TypeId} (h : fn.results = #[.cell p ty, .tmp u]) (tmps : Array Value) (w : World) (g : Nat) (t : TypeId) (cs : Array Value) (fr : Nat × Nat) (d : TypeDesc) (hp : tmps.getD p undef = .pointer (some ⟨g, 0, none⟩)) (hg : w.heap[g]? = some (.cells cs t fr))
    (hu : P.underlying ty = some d) (hd : (match d with | .struct _ | .array _ _ => true | _ => false) = true) (hi : (P.info? ty).map (·.size) = some cs.size) :
    (results fn tmps).run P w = .ok (.tuple #[.agg cs, tmps.getD u undef]) w := by
  rw [results_cell_tmp h, hp]
  simp [asAddr, run_loadVar_row w g t ty cs fr d hg hu hd hi]
theorem find_res : Try.f43.results = #[.cell 4 57, .tmp 5] := by kernel_rfl
theorem first_res : Try.f44.results = #[.cell 2 57, .tmp 3] := by kernel_rfl
theorem zero_int (w : World) : (zeroValue 3).run Try.prog w = .ok (.int .i64 0) w := by kernel_rfl
/-- Where an id stands. -/
def pos (id : Int) (l : List Tm) : Nat := l.findIdx (fun t => t.1 == id)
theorem pos_lt {id : Int} {l : List Tm} {t : Tm} (h : fnd id l = some t) : pos id l < l.length ∧ gt l (pos id l) = t := by
  have hm := fnd_mem h
  have hlt : pos id l < l.length := List.findIdx_lt_length_of_exists ⟨t, hm.1, by simpa using hm.2⟩
  refine ⟨hlt, ?_⟩
  have h2 : l[pos id l]? = l.find? (fun t => t.1 == id) := by
    unfold pos
    rw [List.find?_eq_bind_findIdx?_getElem?]
    have : l.findIdx? (fun t => t.1 == id) = some (l.findIdx (fun t => t.1 == id)) := List.findIdx?_eq_some_of_exists ⟨t, hm.1, by simpa using hm.2⟩
    rw [this]
    rfl
  have h3 : l.find? (fun t => t.1 == id) = some t := h
  rw [h3] at h2
  exact gt_at h2
/-- What stands in places at an id. -/
theorem look_at {w : World} {mo : Option Nat} {l : List Tm} (h : MapW w mo l) (id : Int) (hw : -9223372036854775808 ≤ id ∧ id ≤ 9223372036854775807) :
    ∃ x : Int, (Instr.lookup 63 (.map mo) (.int .i64 id) true).run Try.prog w = .ok (.tuple #[.int .i64 x, .bool (fnd id l).isSome]) w ∧ ((fnd id l).isSome = true → x = (pos id l : Nat)) ∧ (¬ (fnd id l).isSome = true → x = 0) := by
  have hkey : keyOf Try.prog 3 (.int .i64 id) = some (.int .i64 id) := wf_key (t := (id, 0)) ⟨hw, by simp, by simp⟩
  rcases h with ⟨rfl, rfl⟩ | ⟨m, D, rfl, hM, hp⟩
  · exact ⟨0, Maps.look_nil true law Try.underlying63 (zero_int w) hkey, fun e => by simp [fnd] at e, fun _ => rfl⟩
  · obtain ⟨v, ps, hrun, hv⟩ := hM.look_ok law Try.underlying63 (zero_int w) (zd := .held (.int .i64 0)) (zp := []) rfl hkey
    unfold Rdw at hv
    injection hv with hv
    injection hv with hv _
    cases hf : fnd id l with
    | some t =>
      obtain ⟨hlt, hg⟩ := pos_lt hf
      have hk : kid (gt l (pos id l)) = .int .i64 id := by
        rw [hg]
        unfold kid
        rw [(fnd_mem hf).2]
      have h1 := hp.at_ _ hlt
      rw [hk] at h1
      rw [h1.2] at hv
      injection hv with hv
      refine ⟨(pos id l : Nat), ?_, fun _ => rfl, fun e => by simp at e⟩
      rw [hrun, hv, h1.1]
      rfl
    | none =>
      have hno : Maps.has D (.int .i64 id) = false := by
        cases hh : Maps.has D (.int .i64 id) with
        | false => rfl
        | true =>
          obtain ⟨i, hi, e⟩ := hp.only _ hh
          unfold kid at e
          injection e with _ e
          exact absurd e.symm (fnd_none.1 hf _ (gt_mem hi))
      rw [Maps.atKey_of_not_has hno] at hv
      injection hv with hv
      refine ⟨0, ?_, fun e => by simp at e, fun _ => rfl⟩
      rw [hrun, hv, hno]
      rfl
theorem tm_store {P : Program} {ops : Array Oper} {rest : List Oper} {o : Oper} {a : Act} {w : World} {Q : Exit → Act → World → Prop} (hgd : o.guard = none) (ty : TypeId) (x y : Operand) (ho : o.op = .store ty x y)
    (g : Nat) (cells : Array Value) (hx : a.eval x = .pointer (some ⟨g, 0, none⟩)) (hy : a.eval y = .agg cells)
    (t : TypeId) (old : Array Value) (hg : w.heap[g]? = some (.cells old t (0, 0))) (hi : (P.info? ty).map (·.size) = some cells.size)
    (hold : old.size = cells.size) (h1 : cells.all (·.oneCell') = true)
    (h : wpList P ops Q rest (a.put o.dst undef) (w.setRow g cells)) : wpList P ops Q (o :: rest) a w :=
  wpList_plain hgd fun _ hK => wp_store_row ty x y ho g cells hx hy t old hg hi hold h1 (hK _ _ h)
/-- .. in one word. -/
def lkx (id : Int) (l : List Tm) : Int := if (fnd id l).isSome = true then (pos id l : Nat) else 0
theorem look_run {w : World} {mo : Option Nat} {l : List Tm} (h : MapW w mo l) (id : Int) (hw : -9223372036854775808 ≤ id ∧ id ≤ 9223372036854775807) :
    (Instr.lookup 63 (.map mo) (.int .i64 id) true).run Try.prog w = .ok (.tuple #[.int .i64 (lkx id l), .bool (fnd id l).isSome]) w := by
  obtain ⟨x, hrun, hx, hy⟩ := look_at h id hw
  rw [hrun]
  unfold lkx
  by_cases e : (fnd id l).isSome = true
  · rw [if_pos e, hx e]
  · rw [if_neg e, hy e]
/-- What is told of a timer. -/
def agz (o : Option Tm) : Value := .agg #[.int .i64 (o.elim 0 (·.1)), .int .i64 (o.elim 0 (·.2))]
set_option maxHeartbeats 1600000 in
theorem find_any (w : World) (h : Nat) (l : List Tm) (v : Value) (mo : Option Nat) (H : Hpo w h l v mo) (id : Int) (hw : -9223372036854775808 ≤ id ∧ id ≤ 9223372036854775807) :
    Calls Try.prog 43 #[.pointer (some ⟨h, 0, none⟩), .int .i64 id] w fun e w' => e = .returned (.tuple #[agz (fnd id l), .bool (fnd id l).isSome]) ∧ Below w.heap.size w w' := by
  have B1 : Hid (∀ o, Below w.heap.size w (w.alloc o)) := fun o => (Below.refl _ _).alloc (Nat.le_refl _) _
  obtain ⟨W1, hW1⟩ : ∃ z, z = w.alloc (.cells #[.int .i64 0, .int .i64 0] 57) := ⟨_, rfl⟩
  have H1 : Hpo W1 h l v mo := by rw [hW1]; exact H.below (B1.out _)
  have b1 : Hid (Below w.heap.size w W1) := by rw [hW1]; exact B1.out _
  obtain ⟨q, hq⟩ : ∃ z, z = w.heap.size := ⟨_, rfl⟩
  have hq1 : Hid (W1.heap[q]? = some (.cells #[.int .i64 0, .int .i64 0] 57 (0, 0))) := by rw [hW1, hq]; exact heap_alloc_new _ _
  have E : ∀ t : Tm, Hid (Below w.heap.size w (W1.setRow q #[.int .i64 t.1, .int .i64 t.2])) := fun t => b1.out.trans ⟨rfl, rfl, rfl, by simp [World.setRow], fun k hk => setRow_other _ _ k _ (by rw [hq]; omega)⟩
  obtain ⟨x, L, hx, _⟩ := look_at H1.map id hw
  have c1 : W1.cell? ⟨h, 1, none⟩ = some (.map mo) := one_at (i := 1) H1.cells
  cases hf : fnd id l with
  | some t =>
    obtain ⟨hlt, hg⟩ := pos_lt hf
    have hx' := hx (by rw [hf]; rfl)
    rw [hf, hx'] at L
    obtain ⟨g, c, rfl, h1, h2⟩ := rw_some H1.row (by omega)
    obtain ⟨a1, a2⟩ := rw_cell H1.row hlt
    rw [hg] at a1 a2
    have c0 : W1.cell? ⟨h, 0, none⟩ = some (.slice (some ⟨g, 0, none⟩) l.length c) := one_at (i := 0) H1.cells
    have few := H.few
    obtain ⟨i, hi⟩ : ∃ z, z = pos id l := ⟨_, rfl⟩
    obtain ⟨n, hn⟩ : ∃ z, z = l.length := ⟨_, rfl⟩
    rw [← hi] at hlt a1 a2 L
    rw [← hn] at hlt c0 h1 few
    have i1 : (i : Int) < (n : Int) := by omega
    have i2 : (0 : Int) ≤ (i : Int) := by omega
    have i3 : (n : Int) ≤ 1000000 := by omega
    simp only [Option.isSome] at L ⊢
    clear hf hg hx hx' H H1 hi hn few
    replace hW1 := Lib.hid hW1
    replace hq := Lib.hid hq
    replace E := E t
    go_enter Try.func43, Try.ntmps43
    go_upto_region 1 with fail
    rw [← hW1.out, ← hq.out]
    go_wp2_with (refine tm_store rfl 57 (.tmp 4) (.tmp 27) rfl q #[.int .i64 t.1, .int .i64 t.2] rfl rfl 57 #[.int .i64 0, .int .i64 0] hq1.out tm_info rfl (by simp [Value.oneCell']) ?_)
    refine bodyPost_ret (tm_res find_res _ _ q 57 #[.int .i64 t.1, .int .i64 t.2] (0, 0) _ rfl (setRow_heap _ _ _ _ _ _ hq1.out) Try.underlying57 rfl tm_info) rfl ?_
    exact ⟨rfl, E.out⟩
  | none =>
    rw [hf] at L
    simp only [Option.isSome] at L ⊢
    have hq2 : Hid ((W1.alloc (.cells #[.int .i64 0, .int .i64 0] 57)).heap[q]? = some (.cells #[.int .i64 0, .int .i64 0] 57 (0, 0))) := (heap_alloc_old _ _ (lt_some hq1.out)).trans hq1.out
    have E2 : Hid (Below w.heap.size w ((W1.alloc (.cells #[.int .i64 0, .int .i64 0] 57)).setRow q #[.int .i64 0, .int .i64 0])) := (b1.out.trans ((Below.refl _ _).alloc b1.out.size _)).trans ⟨rfl, rfl, rfl, by simp [World.setRow], fun k hk => setRow_other _ _ k _ (by rw [hq]; omega)⟩
    replace hW1 := Lib.hid hW1
    replace hq := Lib.hid hq
    clear hf hx H H1 E
    go_enter Try.func43, Try.ntmps43
    go_upto_region 1 with fail
    rw [← hW1.out, ← hq.out]
    go_wp2_with (refine tm_store rfl 57 (.tmp 4) (.tmp 20) rfl q #[.int .i64 0, .int .i64 0] rfl rfl 57 #[.int .i64 0, .int .i64 0] hq2.out tm_info rfl (by simp [Value.oneCell']) ?_)
    refine bodyPost_ret (tm_res find_res _ _ q 57 #[.int .i64 0, .int .i64 0] (0, 0) _ rfl (setRow_heap _ _ _ _ _ _ hq2.out) Try.underlying57 rfl tm_info) rfl ?_
    exact ⟨rfl, E2.out⟩

set_option maxHeartbeats 1600000 in
theorem first_any (w : World) (h : Nat) (l : List Tm) (v : Value) (mo : Option Nat) (H : Hpo w h l v mo) :
    Calls Try.prog 44 #[.pointer (some ⟨h, 0, none⟩)] w fun e w' => e = .returned (.tuple #[agz (if l.length = 0 then none else some (gt l 0)), .bool (!decide (l.length = 0))]) ∧ Below w.heap.size w w' := by
  obtain ⟨W1, hW1⟩ : ∃ z, z = w.alloc (.cells #[.int .i64 0, .int .i64 0] 57) := ⟨_, rfl⟩
  have b1 : Hid (Below w.heap.size w W1) := by rw [hW1]; exact (Below.refl _ _).alloc (Nat.le_refl _) _
  have H1 : Hpo W1 h l v mo := H.below b1.out
  obtain ⟨q, hq⟩ : ∃ z, z = w.heap.size := ⟨_, rfl⟩
  have hq1 : Hid (W1.heap[q]? = some (.cells #[.int .i64 0, .int .i64 0] 57 (0, 0))) := by rw [hW1, hq]; exact heap_alloc_new _ _
  have few := H.few
  by_cases h0 : l.length = 0
  · have LN := Lib.hid (len_any W1 h l v mo H1)
    rw [h0] at LN ⊢
    rw [if_pos rfl]
    have e0 : Hid ((!decide ((0 : Nat) = 0)) = false) := rfl
    rw [e0.out]
    have hq2 : Hid ((W1.alloc (.cells #[.int .i64 0, .int .i64 0] 57)).heap[q]? = some (.cells #[.int .i64 0, .int .i64 0] 57 (0, 0))) := (heap_alloc_old _ _ (lt_some hq1.out)).trans hq1.out
    have E2 : Hid (Below w.heap.size w ((W1.alloc (.cells #[.int .i64 0, .int .i64 0] 57)).setRow q #[.int .i64 0, .int .i64 0])) := (b1.out.trans ((Below.refl _ _).alloc b1.out.size _)).trans ⟨rfl, rfl, rfl, by simp [World.setRow], fun k hk => setRow_other _ _ k _ (by rw [hq]; omega)⟩
    replace hW1 := Lib.hid hW1
    replace hq := Lib.hid hq
    clear H H1 h0 few
    go_enter Try.func44, Try.ntmps44
    go_upto_region 1 with fail
    rw [← hW1.out, ← hq.out]
    go_wp2_with fail
    refine LN.out.mono ?_
    rintro e w2 ⟨rfl, rfl⟩
    go_wp2_with (refine tm_store rfl 57 (.tmp 2) (.tmp 8) rfl q #[.int .i64 0, .int .i64 0] rfl rfl 57 #[.int .i64 0, .int .i64 0] hq2.out tm_info rfl (by simp [Value.oneCell']) ?_)
    refine bodyPost_ret (tm_res first_res _ _ q 57 #[.int .i64 0, .int .i64 0] (0, 0) _ rfl (setRow_heap _ _ _ _ _ _ hq2.out) Try.underlying57 rfl tm_info) rfl ?_
    exact ⟨rfl, E2.out⟩
  · have LN := Lib.hid (len_any W1 h l v mo H1)
    rw [if_neg h0]
    have e0 : (!decide (l.length = 0)) = true := by simp [h0]
    rw [e0]
    obtain ⟨g, c, rfl, h1, h2⟩ := rw_some H1.row (by omega)
    obtain ⟨a1, a2⟩ := rw_cell H1.row (i := 0) (by omega)
    rw [Nat.zero_mul] at a1 a2
    rw [Nat.zero_add] at a2
    have c0 : W1.cell? ⟨h, 0, none⟩ = some (.slice (some ⟨g, 0, none⟩) l.length c) := one_at (i := 0) H1.cells
    obtain ⟨t, ht⟩ : ∃ t, t = gt l 0 := ⟨_, rfl⟩
    rw [← ht] at a1 a2 ⊢
    have E : Hid (Below w.heap.size w (W1.setRow q #[.int .i64 t.1, .int .i64 t.2])) := b1.out.trans ⟨rfl, rfl, rfl, by simp [World.setRow], fun k hk => setRow_other _ _ k _ (by rw [hq]; omega)⟩
    obtain ⟨n, hn⟩ : ∃ z, z = l.length := ⟨_, rfl⟩
    rw [← hn] at LN c0 h1 few h0
    have q0 : ((n : Int) == 0) = false := beq_eq_false_iff_ne.2 (by omega)
    have i1 : (0 : Int) < (n : Int) := by omega
    have i3 : (n : Int) ≤ 1000000 := by omega
    replace hW1 := Lib.hid hW1
    replace hq := Lib.hid hq
    clear H H1 h0 few e0 ht hn
    go_enter Try.func44, Try.ntmps44
    go_upto_region 1 with fail
    rw [← hW1.out, ← hq.out]
    go_wp2_with fail
    refine LN.out.mono ?_
    rintro e w2 ⟨rfl, rfl⟩
    go_wp2_with (refine tm_store rfl 57 (.tmp 2) (.tmp 14) rfl q #[.int .i64 t.1, .int .i64 t.2] rfl rfl 57 #[.int .i64 0, .int .i64 0] hq1.out tm_info rfl (by simp [Value.oneCell']) ?_)
    refine bodyPost_ret (tm_res first_res _ _ q 57 #[.int .i64 t.1, .int .i64 t.2] (0, 0) _ rfl (setRow_heap _ _ _ _ _ _ hq1.out) Try.underlying57 rfl tm_info) rfl ?_
    exact ⟨rfl, E.out⟩
end Wh
end Go.Proofs.Ytnfakkinaockiaa
