/- Parts of the claim: PuB, PuC, PuT, PuD -/
import Derived.Test.YtpkdigegkemogaaGreatDoorTkT
import Derived.StillTail
import Derived.Deep.RegionHeld3
import Derived.Test.YtpkdigegkemogaaGreatDoorPuXaT
namespace Go.Proofs.YtpkdigegkemogaaGreatDoor
set_option maxRecDepth 100000
open Go.RowKit
open Go.Sort (grow)
open Go.Proofs.YtpkdigegkemogaaGreatDoor.Pk (one_at one_free one_set lt_some grown_set grown_trans grown_refl)
namespace Pu

theorem below_drew {B : Nat} {w w' : World} (h : Below B w w') : Below B w w'.drew := ⟨h.os, h.tape, h.output, h.size, h.block⟩
def cell (e : E) : Value := .agg #[.int .i64 e.st, .int .i64 0, .int .i64 0, .int .i64 e.cu, .int .i64 e.am]
abbrev LineT : TypeId := 221
abbrev LedP (w : World) (q : Nat) (p : S) (fp : Nat → Prop) : Prop := Led LineT w q p fp

theorem entry_results : Tryz.f66.results = #[.cell 4 37] := by kernel_rfl
theorem line_info : (Tryz.prog.info? 221).map (fun i => (i.zero, i.size, i.bytes)) = some (some (.agg #[.int .i64 0, .int .i64 0, .int .i64 0, .int .i64 0]), 4, 32) := by kernel_rfl
section
variable {ts t : TypeId} (ht : Tryz.prog.underlying ts = some (.slice t)) (hi : (Tryz.prog.info? t).map (fun i => (i.zero, i.size, i.bytes)) = some (some (.agg #[.int .i64 0, .int .i64 0, .int .i64 0, .int .i64 0]), 4, 32))
include ht hi
omit ht hi in
theorem news_1 {w : World} {g : Nat} {x : Ln} (hg : w.heap[g]? = some (.cells (lnc x).toArray t (0, 0))) : ∀ j u, (fll [x])[j]? = some u → w.cell? ((⟨g, 0, none⟩ : Addr).add j) = some u := fun j u hu => by
  rw [Addr.add_lit, Nat.zero_add, one_at hg, List.getElem?_toArray]
  simpa [fll] using hu
theorem row_clip (w : World) (A : Option Addr) (n c : Nat) (l : List Ln) (hown : RowT t w 0 (.slice A n c) n l) (x : Ln) (g : Nat) (hg : w.heap[g]? = some (.cells (lnc x).toArray t (0, 0))) (hb : n + 1 ≤ 1000000) :
    ∃ c' w', (Builtin.append_ #[ts, ts] ts #[.slice A n n, .slice (some ⟨g, 0, none⟩) 1 1]).run Tryz.prog w = .ok (.slice (some ⟨w.heap.size, 0, none⟩) (n + 1) c') w' ∧ RowT t w' w.heap.size (.slice (some ⟨w.heap.size, 0, none⟩) (n + 1) c') (n + 1) (l ++ [x]) ∧ Below w.heap.size w w' := by
  obtain ⟨i0, hi, hz0, hz1, hz2⟩ := info_parts hi
  have hll := rt_len hown
  rcases hown.2 with ⟨e, e0⟩ | ⟨b, cap, cur, e, h1, h2, h3, h4, h5, h6⟩
  · injection e with eA en ec
    subst eA e0
    obtain rfl := List.eq_nil_of_length_eq_zero hll
    obtain ⟨v', w', k1, k2, k3, _, k5⟩ := run_append_own_at (P := Tryz.prog) w w.heap.size ts ts t i0 _ 4 32 ht hi hz0 hz1 hz2 rfl (by decide) (.slice none 0 0) 0 [] (World.ownsRow_nil _ _ _ _) ⟨g, 0, none⟩ 1 1 (fll [x]) (by rw [fll_len]; rfl) (news_1 hg) (fll_one _) (by unfold maxLen; omega) (by omega) (Nat.le_refl _)
    rw [Nat.zero_add, List.nil_append] at k2
    obtain ⟨A', c', rfl, hc, _⟩ := rt_form (l := [x]) k2
    have hb' : Below w.heap.size w w' := (Below.refl _ _).grown k3 (Nat.le_refl _) (fun k hk => by simp [Value.ownBlock] at hk)
    rcases k2.2 with ⟨e, e0⟩ | ⟨b, cap, cur, e, h1, h2, h3, h4, h5, h6⟩
    · cases e0
    · injection e with eA _ _
      subst eA
      have : b = w.heap.size := by
        rcases k5 with h | h
        · simp [Value.ownBlock] at h
        · simpa [Value.ownBlock] using h
      subst this
      exact ⟨c', w', k1, k2, hb'⟩
  · injection e with eA en ec
    subst eA ec
    have hr := run_append_grow (P := Tryz.prog) w ts ts t i0 _ ht hi hz0 ⟨b, 0, none⟩ n n (fll l) (by rw [fll_len, hll, hz1]) (fun j u hj => (World.ownsRow.cells hown (g := b) rfl) j u hj) ⟨g, 0, none⟩ 1 1 (fll [x]) (by rw [fll_len, hz1]; rfl) (news_1 hg) (by omega) (by omega) (growslice_fits (by omega) (by rw [hz2]; omega))
    have hge := grownCap_ge w (n + 1) n t
    have hcm : grownCap w (n + 1) n t ≤ maxLen := grownCap_le_maxLen w (n + 1) n t (by unfold maxLen; omega)
    refine ⟨_, _, hr, ⟨by rw [fll_len, List.length_append, hll]; rfl, .inr ⟨w.heap.size, _, _, rfl, Nat.le_refl _, heap_alloc_new w.drew _, hge, hcm, ?_, ?_⟩⟩, ⟨rfl, rfl, rfl, by simp, fun k hk => heap_alloc_old w.drew _ hk⟩⟩
    · simp only [Array.size_append, List.size_toArray, size_zeroCells, fll_len, hll]
      show n * 4 + 1 * 4 + (grownCap w (n + 1) n t - (n + 1)) * 4 = _
      omega
    · rw [fll_app]
      simp only [Array.toList_append]
      rw [List.take_left' (by simp [fll_len, hll]; omega)]
end
end Pu
end Go.Proofs.YtpkdigegkemogaaGreatDoor
namespace Go.Proofs.YtpkdigegkemogaaGreatDoor
set_option maxRecDepth 100000
open Go.RowKit
open Go.Sort (grow)
open Go.Proofs.YtpkdigegkemogaaGreatDoor.Pk (one_at one_free one_set lt_some grown_set grown_trans grown_refl)
namespace Pu

theorem step_run_app {w : World} {ops : Array Oper} {o : Oper} {a : Act} {K : Act → World → Prop} {Q : Exit → Act → World → Prop} {E : Prop} {t : TypeId} (hgd : o.guard = none) (s x : Operand) (ho : o.op = .call { callee := .builtin .append, args := #[s, x], argTypes := #[t, t] }) (hty : o.type = t)
    (v0 x0 : Value) (hs : a.eval s = v0) (hx : a.eval x = x0) {v' : Value} {w' : World} (hrun : (Builtin.append_ #[t, t] t #[v0, x0]).run Tryz.prog w = .ok v' w') (h : K (a.put o.dst v') w') :
    if Region.wanted o (yielded ops a.tmps) = true then Oper.wp Tryz.prog o a w K Q else E := by
  have hw : Region.wanted o (yielded ops a.tmps) = true := by simp [Region.wanted, hgd]
  rw [if_pos hw]
  unfold Oper.wp execOp
  simp only [ho, resolve, invoke, builtin, Sem.run_bind, Sem.run_pure, Result.andThen_ok, List.map_toArray, List.map_cons, List.map_nil, hs, hx, hty, hrun]
  exact h
theorem lines_append : Tryz.prog.underlying 171 = some (.slice 221) := Tryz.underlying171
set_option maxHeartbeats 400000 in
theorem clip_any (w : World) (A : Option Addr) (n c : Nat) (hn : n ≤ c) (_hc : c ≤ 9223372036854775807) (_hA : A = none → c = 0) : Calls Tryz.prog 148 #[.slice A n c] w fun e w' => e = .returned (.slice A n n) ∧ w = w' := by
  have h0 : (n : Int) ≤ (c : Int) := by omega
  go_enter Tryz.func148, Tryz.ntmps148
  go_wp2
  go_ret
  exact ⟨rfl, rfl⟩
theorem led_under : ∃ d, Tryz.prog.underlying 173 = some d ∧ d.isRow = true := ⟨_, Tryz.underlying173, rfl⟩
theorem led_size : (Tryz.prog.info? 173).map (·.size) = some 1012 := by kernel_rfl
theorem ents_mem : ∀ {n : Nat} {f : F} {u : Value}, u ∈ ents f n → u.oneCell' = true
  | 0, _, _, h => by cases h
  | n + 1, f, u, h => by
    unfold ents at h
    rcases List.mem_append.1 h with h | h
    · exact ents_mem h
    · exact Array.all_eq_true_iff_forall_mem.1 (entc_one (f (n : Int))) u (by simpa using h)
theorem pcs_one (p : S) {v : Value} (hv : v.oneCell' = true) : (pcs p v).toArray.all (·.oneCell') = true := by
  refine Array.all_eq_true_iff_forall_mem.2 fun u hu => ?_
  rw [List.mem_toArray] at hu
  unfold pcs accs at hu
  rcases List.mem_append.1 hu with h | h
  · simp at h
    rcases h with rfl | rfl | rfl | rfl | rfl | rfl <;> rfl
  · rcases List.mem_append.1 h with h | h
    · exact ents_mem h
    · rw [List.mem_singleton] at h
      rw [h]
      exact hv
theorem Pm.of_range {w : World} {q : Nat} {p : S} {v : Value} (hq : q < w.heap.size) (h : w.rangeAt q 0 (pcs p v)) (hf : ∀ i, w.frozen? ⟨q, i, none⟩ = false) : Pm w q p v := by
  refine ⟨hq, fun k hk => ?_, fun k hk j u hj => ?_, ?_, hf⟩
  · have := h k _ (pcs_acc p v hk)
    rwa [Nat.zero_add] at this
  · have h5 : j < 5 := (List.getElem?_eq_some_iff.1 hj).1
    have := h (6 + k * 5 + j) u (by rw [pcs_ent p v hk h5, hj])
    rwa [Nat.zero_add] at this
  · have := h 1011 _ (pcs_lin p v)
    rwa [Nat.zero_add] at this
def zero : S := ⟨fun _ => 0, fz, []⟩
theorem alloc_run (w : World) : (Instr.alloc 173 true (.tuple #[])).run Tryz.prog w = .ok (.pointer (some ⟨w.heap.size, 0, none⟩)) (w.alloc (.cells (pcs zero (.slice none 0 0)).toArray 173)) := by
  simp only [Instr.alloc, newVar, newRow, Sem.run_bind]
  kernel_rfl
theorem build_run (w : World) : (Instr.build 173 #[]).run Tryz.prog w = .ok (.agg (pcs zero (.slice none 0 0)).toArray) w := by kernel_rfl
theorem box_run (w : World) (cs : Array Value) : (Instr.box 173 (.agg cs)).run Tryz.prog w = .ok (.pointer (some ⟨w.heap.size, 0, none⟩)) (w.alloc (.cells cs 173)) := by
  simp only [Instr.box, newVar, newRow, Sem.run_bind]
  kernel_rfl
section
variable {ops : Array Oper} {rest : List Oper} {o : Oper} {a : Act} {w : World} {Q : Exit → Act → World → Prop}
theorem wpList_alloc10 (hg : o.guard = none) (ho : o.op = .alloc 173)
    (h : wpList Tryz.prog ops Q rest (a.put o.dst (.pointer (some ⟨w.heap.size, 0, none⟩))) (w.alloc (.cells (pcs zero (.slice none 0 0)).toArray 173))) : wpList Tryz.prog ops Q (o :: rest) a w := by
  refine wpList_plain hg fun K hK => ?_
  unfold Oper.wp execOp
  simp only [ho, Sem.run_bind, alloc_run, Sem.run_pure, Result.andThen_ok]
  exact hK _ _ h
theorem wpList_build10 (hg : o.guard = none) (ho : o.op = .build 173 #[])
    (h : wpList Tryz.prog ops Q rest (a.put o.dst (.agg (pcs zero (.slice none 0 0)).toArray)) w) : wpList Tryz.prog ops Q (o :: rest) a w := by
  refine wpList_plain hg fun K hK => ?_
  unfold Oper.wp execOp
  simp only [ho, Sem.run_bind, List.map_toArray, List.map_nil, build_run, Sem.run_pure, Result.andThen_ok]
  exact hK _ _ h
theorem wpList_box10 (hg : o.guard = none) (x : Operand) (ho : o.op = .box 173 x) (cs : Array Value) (hx : a.eval x = .agg cs)
    (h : wpList Tryz.prog ops Q rest (a.put o.dst (.pointer (some ⟨w.heap.size, 0, none⟩))) (w.alloc (.cells cs 173))) : wpList Tryz.prog ops Q (o :: rest) a w := by
  refine wpList_plain hg fun K hK => ?_
  unfold Oper.wp execOp
  simp only [ho, hx, Sem.run_bind, box_run, Sem.run_pure, Result.andThen_ok]
  exact hK _ _ h
end
def CpTo (w : World) (p : S) (fp : Nat → Prop) (e : Ending) (w' : World) : Prop := ∃ q', e = .returned (.pointer (some ⟨q', 0, none⟩)) ∧ w.heap.size ≤ q' ∧ LedP w' q' p (fun g => g = q' ∨ (fp g ∧ g < w.heap.size)) ∧ Below w.heap.size w w'
set_option maxHeartbeats 1600000 in
theorem copy_any (w : World) (q : Nat) (p : S) (fp : Nat → Prop) (L : LedP w q p fp) : Calls Tryz.prog 92 #[.pointer (some ⟨q, 0, none⟩)] w (CpTo w p fp) := by
  obtain ⟨v, D, R, hne, hv⟩ := L.at_
  have hall := D.all
  obtain ⟨d, hu, hd⟩ := led_under
  have hv1 : v.oneCell' = true := by
    obtain ⟨A, c, rfl, _⟩ := rt_form R
    rfl
  have hb : Below w.heap.size w (w.alloc (.cells (pcs zero (.slice none 0 0)).toArray 173)) := (Below.refl _ _).alloc (Nat.le_refl _) _
  have hz := heap_alloc_new w (.cells (pcs zero (.slice none 0 0)).toArray 173)
  have Z : Pm _ w.heap.size zero _ := .of_block hz
  have th : (w.alloc (.cells (pcs zero (.slice none 0 0)).toArray 173)).there w.heap.size 0 (pcs p v).toArray.size := fun j hj => by
    have hj : j < 1012 := by simpa [pcs_len] using hj
    refine ⟨Z.all.isSome j (by rw [pcs_len]; exact hj) |> fun h => ?_, Z.free _⟩
    exact h
  have th' : (w.alloc (.cells (pcs zero (.slice none 0 0)).toArray 173)).there w.heap.size 0 (pcs p v).length := th
  have E : Hid (CpTo w p fp (.returned (.pointer (some ⟨w.heap.size, 0, none⟩))) ((w.alloc (.cells (pcs zero (.slice none 0 0)).toArray 173)).setCells w.heap.size 0 (pcs p v).toArray.toList)) := by
    have K := Kq.of_cells (w.alloc (.cells (pcs zero (.slice none 0 0)).toArray 173)) w.heap.size 0 (pcs p v)
    have hs : w.heap.size < ((w.alloc (.cells (pcs zero (.slice none 0 0)).toArray 173)).setCells w.heap.size 0 (pcs p v)).heap.size := Nat.lt_of_lt_of_le (lt_some hz) K.size
    have K2 : Below w.heap.size w ((w.alloc (.cells (pcs zero (.slice none 0 0)).toArray 173)).setCells w.heap.size 0 (pcs p v)) := hb.trans (K.below (fun g hg => by omega) hb.size)
    refine ⟨_, rfl, Nat.le_refl _, ⟨⟨.inl rfl, fun g hg => ?_, v, .of_range hs (World.rangeAt_setCells_same _ _ _ _ th') (fun i => by rw [World.frozen?_setCells]; exact Z.free i), rt_below R K2, fun e => ?_, fun g hg => .inr ⟨hv g hg, rt_lt R hg⟩⟩, L.ok⟩, K2⟩
    · rcases hg with rfl | ⟨_, hg⟩
      · exact hs
      · exact Nat.lt_trans hg hs
    · have := rt_lt R e
      omega
  replace th := Lib.hid th
  replace hall := Lib.hid hall
  replace hu := Lib.hid hu
  replace hd := Lib.hid hd
  have hi : Hid ((Tryz.prog.info? 173).map (·.size) = some (pcs p v).length) := by rw [pcs_len]; exact led_size
  have hi2 : Hid ((Tryz.prog.info? 173).map (·.size) = some (pcs p v).toArray.size) := hi
  have h1 := Lib.hid (pcs_one p hv1)
  clear D R hne hv Z th' hz hb L hv1
  go_enter Tryz.func92, Tryz.ntmps92
  go_wp2_with (first
    | (refine wpList_load_mid rfl 173 (.tmp 7) rfl q 0 rfl (pcs p v) d hall.out hu.out hd.out hi.out ?_)
    | (refine wpList_alloc10 rfl rfl ?_)
    | (refine wpList_store_mid rfl 173 (.tmp 3) (.tmp 8) rfl w.heap.size 0 (pcs p v).toArray rfl rfl th.out hi2.out h1.out ?_))
  go_ret
  exact E.out
end Pu
end Go.Proofs.YtpkdigegkemogaaGreatDoor
namespace Go.Proofs.YtpkdigegkemogaaGreatDoor
namespace Pu

section
variable {P : Program} {ops : Array Oper} {Q : Exit → Act → World → Prop}

def tillQ (P : Program) (ops : Array Oper) (n : Nat) (Q : Exit → Act → World → Prop) : Exit → Act → World → Prop
  | .normal, a, w => wpOp P ops Q n (fun a w => Q .normal a w) a w
  | e, a, w => Q e a w
theorem tillQ_normal {n : Nat} {a : Act} {w : World} (h : wpOp P ops Q n (fun a w => Q .normal a w) a w) : tillQ P ops n Q .normal a w := h
def elderB (ops : Array Oper) : Bool := (List.range ops.size).all fun i => ((ops[i]?).map fun o => o.after.all fun e => decide (e.on < i)).getD true
def tillB (ops : Array Oper) (n : Nat) : Bool := decide (ops.size = n + 1) && elderB ops && Region.sinkB .any ops n && Region.chainB .any ops n

theorem wpOp_till {n i : Nat} {a : Act} {w : World} {K K' : Act → World → Prop} (hm : ∀ a w, K a w → K' a w) (h : wpOp P ops (tillQ P ops n Q) i K a w) : wpOp P ops Q i K' a w := by
  refine wpOp_mono hm ?_
  unfold wpOp at *
  split
  · simpa [*] using h
  · rename_i o ho
    simp only [ho] at h
    split
    · rename_i hw
      simp only [hw, if_true] at h
      rcases h with h | ⟨h1, h2⟩
      · refine .inl ?_
        unfold Oper.wp at *
        generalize (execOp a.eval o).run P w = r at *
        cases r with
        | ok x w' =>
          cases x <;> simp only [Oper.upon] at h ⊢
          case enter f args => exact Calls.mono h fun e w'' he => by cases e <;> exact he
          all_goals exact h
        | halt x w' => cases x <;> simp only [Oper.upon] at h ⊢ <;> exact h
      · exact .inr ⟨h1, h2⟩
    · rename_i hw
      simp only [hw] at h
      exact h

theorem ready_some {n : Nat} {listed : Array Bool} (he : elderB ops = true) (hsz : ops.size = n + 1) (inv : HeadInv .any ops n listed) : Region.ready .any ops listed ≠ [] := by
  intro h0
  have H : ∀ i, i < ops.size → listed.getD i true = true := by
    intro i
    induction i using Nat.strongRecOn with
    | _ i ih =>
      intro hi
      cases hl : listed.getD i true with
      | true => rfl
      | false =>
        have : i ∈ Region.ready .any ops listed := mem_ready.2 ⟨hl, ops[i], Array.getElem?_eq_getElem hi, fun e hm _ => by
          have h1 := List.all_eq_true.1 he i (List.mem_range.2 hi)
          rw [Array.getElem?_eq_getElem hi] at h1
          simp only [Option.map_some, Option.getD_some] at h1
          have h2 := Array.all_eq_true'.1 h1 e hm
          have h3 : e.on < i := by simpa using h2
          have h4 := ih e.on h3 (by omega)
          have hs : e.on < listed.size := by rw [inv.size]; omega
          simp [hs] at h4 ⊢
          exact h4⟩
        rw [h0] at this
        cases this
  have h1 := H n (by omega)
  rw [inv.tail n (Nat.le_refl _) (by omega)] at h1
  cases h1

theorem wpAny_till {n : Nat} (hsz : ops.size = n + 1) (he : elderB ops = true) (hs : Region.sinkB .any ops n = true) (hc : Region.chainB .any ops n = true) :
    ∀ (f : Nat) (listed : Array Bool) (a : Act) (w : World), HeadInv .any ops n listed → wpAny P .any ops (tillQ P ops n Q) f (listed.setIfInBounds n true) a w → wpAny P .any ops Q (f + 1) listed a w := by
  intro f
  induction f with
  | zero =>
    intro listed a w inv h
    refine ⟨fun h0 => absurd h0 (ready_some he hsz inv), fun i hi => ?_⟩
    by_cases hin : i = n
    · subst hin
      exact wpOp_mono (fun a w hq => ⟨h.1, hq⟩) h.2
    · have := ready_mono hi hin
      rw [h.1] at this
      cases this
  | succ f ih =>
    intro listed a w inv h
    refine ⟨fun h0 => absurd h0 (ready_some he hsz inv), fun i hi => ?_⟩
    by_cases hin : i = n
    · subst hin
      have hnil : Region.ready .any ops (listed.setIfInBounds i true) = [] := by
        apply List.eq_nil_iff_forall_not_mem.2
        intro j hj
        obtain ⟨hl, oj, hoj, _⟩ := mem_ready.1 hj
        have hjs : j < ops.size := (Array.getElem?_eq_some_iff.1 hoj).1
        have hji : i ≠ j := by
          rintro rfl
          have hs' : i < listed.size := by rw [inv.size]; omega
          simp [hs'] at hl
        rw [getD_set_ne true hji] at hl
        exact tail_waits hs hc (by omega) inv _ j rfl (by omega) hl i (Nat.le_refl _) hi
      exact wpOp_mono (fun a w hq => wpAny_done hnil hq _) (h.1 hnil)
    · have hlt : i < n := by
        obtain ⟨_, oi, hoi, _⟩ := mem_ready.1 hi
        have := (Array.getElem?_eq_some_iff.1 hoi).1
        omega
      refine wpOp_till (fun a' w' h' => ih _ a' w' (inv.set hi hlt) ?_) (h.2 i (ready_mono hi hin))
      rw [Array.setIfInBounds_comm _ _ hin]
      exact h'

theorem wp_region_till {id : Nat} {S : World → Prop} {a : Act} {w : World} (n : Nat) (hm : P.follows .mixedOrders = true) (hB : tillB ops n = true)
    (h : wpAnyH P .any ops (tillQ P ops n Q) S n ((Array.replicate ops.size false).setIfInBounds n true) a w.drew) : (Code.region id ops true).wp P Q a w := by
  simp only [tillB, Bool.and_eq_true, decide_eq_true_eq] at hB
  obtain ⟨⟨⟨hsz, he⟩, hs⟩, hc⟩ := hB
  have inv : HeadInv .any ops n (Array.replicate ops.size false) :=
    ⟨by simp, fun j oj _ hl => (by rw [getD_replicate_false] at hl; cases hl), fun t _ ht => getD_in (by simpa using ht) (getD_replicate_false _ _)⟩
  refine wp_region_any hm ?_
  have H := wpAny_till (Q := Q) hsz he hs hc n _ a w.drew inv (wpAny_of_held _ _ _ _ h)
  rw [← hsz] at H
  exact H
end
end Pu
end Go.Proofs.YtpkdigegkemogaaGreatDoor
namespace Go.Proofs.YtpkdigegkemogaaGreatDoor
set_option maxRecDepth 100000
open Go.RowKit
open Go.Sort (grow)
open Go.Proofs.YtpkdigegkemogaaGreatDoor.Pk (one_at one_free one_set lt_some grown_set grown_trans grown_refl)
namespace Pu
def regionAt (k : Nat) : Code → Option Code
  | .region id ops d => if id == k then some (.region id ops d) else none
  | .seq a b => (regionAt k a).orElse fun _ => regionAt k b
  | .cond _ a b => (regionAt k a).orElse fun _ => regionAt k b
  | .block _ c => regionAt k c
  | .loop c => regionAt k c
  | .scope c => regionAt k c
  | _ => none
noncomputable def mover_6 : Code := (Tryz.f145.body.bind (regionAt 6)).getD .skip
set_option maxHeartbeats 3200000 in
theorem mover6 (z5 z6 z7 z8 z9 z10 z11 z12 z13 z14 z15 z16 z17 z18 z19 z20 z21 z22 z23 z24 z25 z26 z27 z28 z29 z30 z31 z32 z33 z34 z35 z36 z37 z38 z39 z40 z41 z42 z43 z44 z45 z46 z47 z48 z49 z50 z51 z52 z53 z54 z55 z56 z57 z58 z59 z60 z61 z62 z63 z64 z65 z66 z67 z68 z69 z70 : Value) (W : World) (q lb ab bb n c : Nat) (fr tg b am : Int) (A : Option Addr) (l : List Ln)
    (g1 : W.cell? ⟨lb, 0, none⟩ = some (.pointer (some ⟨q, 0, none⟩))) (g2 : W.cell? ⟨q, 1011, none⟩ = some (.slice A n c)) (g3 : W.cell? ⟨bb, 0, none⟩ = some (.int .i64 b)) (g4 : W.cell? ⟨ab, 0, none⟩ = some (.int .i64 am)) (f0 : W.frozen? ⟨q, 1011, none⟩ = false)
    (R : RowT LineT W 0 (.slice A n c) n l) (hn : n ≤ 900) (Q : Exit → Act → World → Prop)
    (hP : ∀ c a d v w, Q (.panic c) (Act.put a d v) w → Q (.panic c) a w)
    (hQ : ∀ (y56 y57 y58 y59 y60 y61 y62 y63 y64 y65 y66 y67 y68 y69 y70 : Value) (W3 : World) (g c3 : Nat), W.heap.size ≤ g → Below W.heap.size W W3 → RowT LineT W3 0 (.slice (some ⟨g, 0, none⟩) (n + 1) c3) (n + 1) (l ++ [⟨b, fr, tg, am⟩]) → Q .normal ⟨#[.int .i64 fr, .int .i64 tg, .pointer (some ⟨lb, 0, none⟩), .pointer (some ⟨ab, 0, none⟩), .pointer (some ⟨bb, 0, none⟩), z5, z6, z7, z8, z9, z10, z11, z12, z13, z14, z15, z16, z17, z18, z19, z20, z21, z22, z23, z24, z25, z26, z27, z28, z29, z30, z31, z32, z33, z34, z35, z36, z37, z38, z39, z40, z41, z42, z43, z44, z45, z46, z47, z48, z49, z50, z51, z52, z53, z54, z55, y56, y57, y58, y59, y60, y61, y62, y63, y64, y65, y66, y67, y68, y69, y70], []⟩ (W3.setCell ⟨q, 1011, none⟩ (.slice (some ⟨g, 0, none⟩) (n + 1) c3))) :
    Code.wp Tryz.prog mover_6 Q ⟨#[.int .i64 fr, .int .i64 tg, .pointer (some ⟨lb, 0, none⟩), .pointer (some ⟨ab, 0, none⟩), .pointer (some ⟨bb, 0, none⟩), z5, z6, z7, z8, z9, z10, z11, z12, z13, z14, z15, z16, z17, z18, z19, z20, z21, z22, z23, z24, z25, z26, z27, z28, z29, z30, z31, z32, z33, z34, z35, z36, z37, z38, z39, z40, z41, z42, z43, z44, z45, z46, z47, z48, z49, z50, z51, z52, z53, z54, z55, z56, z57, z58, z59, z60, z61, z62, z63, z64, z65, z66, z67, z68, z69, z70], []⟩ W := by
  have hBW : Below W.heap.size W W.drew := ⟨rfl, rfl, rfl, Nat.le_refl _, fun _ _ => rfl⟩
  have R1 : RowT LineT W.drew 0 (.slice A n c) n l := rt_below R hBW
  have hsz : W.drew.heap.size = W.heap.size := rfl
  obtain ⟨A', c', e, hnc, hc63, hA⟩ := rt_form R
  injection e with e1 _ e3
  subst e1 e3
  have CL := clip_any W.drew A n c hnc hc63 hA
  have CL2 := fun o => clip_any (W.drew.alloc o) A n c hnc hc63 hA
  clear hA
  conv => arg 2; whnf
  refine wp_region_till (S := fun W' => W'.cell? ⟨lb, 0, none⟩ = some (.pointer (some ⟨q, 0, none⟩)) ∧ W'.cell? ⟨q, 1011, none⟩ = some (.slice A n c) ∧ W'.cell? ⟨bb, 0, none⟩ = some (.int .i64 b) ∧ W'.cell? ⟨ab, 0, none⟩ = some (.int .i64 am)) 15 (by kernel_rfl) (by kernel_rfl) ?_
  have z1 : W.drew.cell? ⟨lb, 0, none⟩ = some (.pointer (some ⟨q, 0, none⟩)) := g1
  have z2 : W.drew.cell? ⟨q, 1011, none⟩ = some (.slice A n c) := g2
  have z3 : W.drew.cell? ⟨bb, 0, none⟩ = some (.int .i64 b) := g3
  have z4 : W.drew.cell? ⟨ab, 0, none⟩ = some (.int .i64 am) := g4
  have f1 : W.drew.frozen? ⟨q, 1011, none⟩ = false := f0
  rw [← hsz] at hQ hBW
  clear g1 g2 g3 g4 f0 R
  generalize W.drew = W1 at *
  have l1 : lb < W1.heap.size := World.block_lt_of_cell? W1 _ z1
  have l2 : q < W1.heap.size := World.block_lt_of_cell? W1 _ z2
  have l3 : bb < W1.heap.size := World.block_lt_of_cell? W1 _ z3
  have l4 : ab < W1.heap.size := World.block_lt_of_cell? W1 _ z4
  have HC : ∀ W', Below W1.heap.size W1 W' → W'.cell? ⟨lb, 0, none⟩ = some (.pointer (some ⟨q, 0, none⟩)) ∧ W'.cell? ⟨q, 1011, none⟩ = some (.slice A n c) ∧ W'.cell? ⟨bb, 0, none⟩ = some (.int .i64 b) ∧ W'.cell? ⟨ab, 0, none⟩ = some (.int .i64 am) := fun W' hb =>
    ⟨(hb.cell (p := ⟨lb, 0, none⟩) l1).trans z1, (hb.cell (p := ⟨q, 1011, none⟩) l2).trans z2, (hb.cell (p := ⟨bb, 0, none⟩) l3).trans z3, (hb.cell (p := ⟨ab, 0, none⟩) l4).trans z4⟩
  have hHeld := HC W1 (Below.refl _ _)
  have SE : Below W1.heap.size W1 (W1.alloc (.cells #[.int .i64 b, .int .i64 fr, .int .i64 tg, .int .i64 am] 221)) := (Below.refl _ _).alloc (Nat.le_refl _) _
  obtain ⟨c3, w3, r3, R3, b3⟩ := row_clip lines_append line_info (W1.alloc (.cells #[.int .i64 b, .int .i64 fr, .int .i64 tg, .int .i64 am] 221)) A n c l (rt_below R1 SE) ⟨b, fr, tg, am⟩ W1.heap.size (heap_alloc_new _ _) (by omega)
  have b31 : Below W1.heap.size W1 w3 := SE.trans (b3.mono SE.size)
  have R30 := rt_mono (base' := 0) R3 (Nat.zero_le _)
  have gsz : W1.heap.size ≤ (W1.alloc (.cells #[.int .i64 b, .int .i64 fr, .int .i64 tg, .int .i64 am] 221)).heap.size := SE.size
  have f3 : w3.frozen? ⟨q, 1011, none⟩ = false := (b31.frozen (p := ⟨q, 1011, none⟩) l2).trans f1
  generalize hG : (W1.alloc (.cells #[.int .i64 b, .int .i64 fr, .int .i64 tg, .int .i64 am] 221)).heap.size = G at *
  have EQ : ∀ (y56 y57 y58 y59 y60 y61 y62 y63 y64 y65 y66 y67 y68 y69 y70 : Value), Q .normal ⟨#[.int .i64 fr, .int .i64 tg, .pointer (some ⟨lb, 0, none⟩), .pointer (some ⟨ab, 0, none⟩), .pointer (some ⟨bb, 0, none⟩), z5, z6, z7, z8, z9, z10, z11, z12, z13, z14, z15, z16, z17, z18, z19, z20, z21, z22, z23, z24, z25, z26, z27, z28, z29, z30, z31, z32, z33, z34, z35, z36, z37, z38, z39, z40, z41, z42, z43, z44, z45, z46, z47, z48, z49, z50, z51, z52, z53, z54, z55, y56, y57, y58, y59, y60, y61, y62, y63, y64, y65, y66, y67, y68, y69, y70], []⟩ (w3.setCell ⟨q, 1011, none⟩ (.slice (some ⟨G, 0, none⟩) (n + 1) c3)) := fun y56 y57 y58 y59 y60 y61 y62 y63 y64 y65 y66 y67 y68 y69 y70 => hQ y56 y57 y58 y59 y60 y61 y62 y63 y64 y65 y66 y67 y68 y69 y70 w3 G c3 (by omega) (hBW.trans b31) R30
  replace CL := Lib.hid CL
  replace CL2 := Lib.hid (CL2 (.cells #[.int .i64 b, .int .i64 fr, .int .i64 tg, .int .i64 am] 221))
  replace EQ := Lib.hid EQ
  replace hG := Lib.hid hG
  clear R30 R3 R1 hQ hBW hsz b3 z1 z2 z3 z4 f1
  refine' tkY 0 hP ?c hHeld ?_
  case c => intro w hSw; obtain ⟨s1, s2, s3, s4⟩ := hSw; go_simp; try with_reducible rfl
  simp only [Act.put, sQa, sQb, sQc]
  refine' tkY 1 hP ?c hHeld ?_
  case c => intro w hSw; obtain ⟨s1, s2, s3, s4⟩ := hSw; go_simp; try with_reducible rfl
  simp only [Act.put, sQa, sQb, sQc]
  refine' tkY 2 hP ?c hHeld ?_
  case c => intro w hSw; obtain ⟨s1, s2, s3, s4⟩ := hSw; go_simp; try with_reducible rfl
  simp only [Act.put, sQa, sQb, sQc]
  refine' tkY 3 hP ?c hHeld ?_
  case c => intro w hSw; obtain ⟨s1, s2, s3, s4⟩ := hSw; go_simp; try with_reducible rfl
  simp only [Act.put, sQa, sQb, sQc]
  refine' tkY 4 hP ?c hHeld ?_
  case c => intro w hSw; obtain ⟨s1, s2, s3, s4⟩ := hSw; go_simp; try with_reducible rfl
  simp only [Act.put, sQa, sQb, sQc]
  refine' tkY 6 hP ?c hHeld ?_
  case c => intro w hSw; obtain ⟨s1, s2, s3, s4⟩ := hSw; go_simp; try with_reducible rfl
  simp only [Act.put, sQa, sQb, sQc]
  refine' tkY 7 hP ?c hHeld ?_
  case c => intro w hSw; obtain ⟨s1, s2, s3, s4⟩ := hSw; go_simp; try with_reducible rfl
  simp only [Act.put, sQa, sQb, sQc]
  refine' tkY 8 hP ?c hHeld ?_
  case c => intro w hSw; obtain ⟨s1, s2, s3, s4⟩ := hSw; go_simp; try with_reducible rfl
  simp only [Act.put, sQa, sQb, sQc]
  refine' tkY 9 hP ?c hHeld ?_
  case c => intro w hSw; obtain ⟨s1, s2, s3, s4⟩ := hSw; go_simp; try with_reducible rfl
  simp only [Act.put, sQa, sQb, sQc]
  refine' tkY 10 hP ?c hHeld ?_
  case c => intro w hSw; obtain ⟨s1, s2, s3, s4⟩ := hSw; go_simp; try with_reducible rfl
  simp only [Act.put, sQa, sQb, sQc]
  refine wpAnyH_ready (rs := [5, 11]) (by kernel_rfl) (by simp) ?_
  refine' tkC 5 (fun K hK => ?st11) ?mo11
  case st11 =>
    go_simp
    refine CL.out.mono ?_
    rintro e w' ⟨rfl, rfl⟩
    go_simp
    refine hK.out _ _ (HC _ (Below.refl _ _)) (fun hHeld => ?_)
    clear hK K
    try simp only [Act.put, sQa, sQb, sQc]
    refine wpAnyH_ready (rs := [11]) (by kernel_rfl) (by simp) ?_
    refine' tkC 11 (fun K hK => ?st12) ?mo12
    case st12 =>
      go_simp
      refine hK.out _ _ (HC _ (SE)) (fun hHeld => ?_)
      clear hK K
      try simp only [Act.put, sQa, sQb, sQc]
      refine wpAnyH_ready (rs := [12]) (by kernel_rfl) (by simp) ?_
      refine' tkC 12 (fun K hK => ?st13) ?mo13
      case st13 =>
        refine step_run_app rfl (.tmp 61) (.tmp 67) rfl rfl (.slice A n n) (.slice (some ⟨W1.heap.size, 0, none⟩) 1 1) rfl rfl r3 ?_
        refine hK.out _ _ (HC _ (b31)) (fun hHeld => ?_)
        clear hK K
        try simp only [Act.put, sQa, sQb, sQc]
        refine' tkY 13 hP ?c hHeld ?_
        case c => intro w hSw; obtain ⟨s1, s2, s3, s4⟩ := hSw; go_simp; try with_reducible rfl
        simp only [Act.put, sQa, sQb, sQc]
        refine' tkY 14 hP ?c hHeld ?_
        case c => intro w hSw; obtain ⟨s1, s2, s3, s4⟩ := hSw; go_simp; try with_reducible rfl
        simp only [Act.put, sQa, sQb, sQc]
        refine wpAnyH_done (by kernel_rfl) ?_ _
        refine tillQ_normal ?_
        refine' wpOp_step (i := 15) (o := ?o16) ?hi16 (fun K hK => ?_)
        case hi16 => simp only [List.getElem?_toArray, List.getElem?_cons_succ, List.getElem?_cons_zero]; rfl
        obtain ⟨-, d3, -, -⟩ := hHeld
        go_simp
        refine hK _ _ ?_
        exact EQ.out _ _ _ _ _ _ _ _ _ _ _ _ _ _ _
      case mo13 => exact AllReadyH.nil
    case mo12 => exact AllReadyH.nil
  case mo11 =>
    refine' tkC 11 (fun K hK => ?st17) ?mo17
    case st17 =>
      go_simp
      refine hK.out _ _ (HC _ (SE)) (fun hHeld => ?_)
      clear hK K
      try simp only [Act.put, sQa, sQb, sQc]
      refine wpAnyH_ready (rs := [5]) (by kernel_rfl) (by simp) ?_
      refine' tkC 5 (fun K hK => ?st18) ?mo18
      case st18 =>
        go_simp
        refine CL2.out.mono ?_
        rintro e w' ⟨rfl, rfl⟩
        go_simp
        refine hK.out _ _ (HC _ (SE)) (fun hHeld => ?_)
        clear hK K
        try simp only [Act.put, sQa, sQb, sQc]
        refine wpAnyH_ready (rs := [12]) (by kernel_rfl) (by simp) ?_
        refine' tkC 12 (fun K hK => ?st19) ?mo19
        case st19 =>
          refine step_run_app rfl (.tmp 61) (.tmp 67) rfl rfl (.slice A n n) (.slice (some ⟨W1.heap.size, 0, none⟩) 1 1) rfl rfl r3 ?_
          refine hK.out _ _ (HC _ (b31)) (fun hHeld => ?_)
          clear hK K
          try simp only [Act.put, sQa, sQb, sQc]
          refine' tkY 13 hP ?c hHeld ?_
          case c => intro w hSw; obtain ⟨s1, s2, s3, s4⟩ := hSw; go_simp; try with_reducible rfl
          simp only [Act.put, sQa, sQb, sQc]
          refine' tkY 14 hP ?c hHeld ?_
          case c => intro w hSw; obtain ⟨s1, s2, s3, s4⟩ := hSw; go_simp; try with_reducible rfl
          simp only [Act.put, sQa, sQb, sQc]
          refine wpAnyH_done (by kernel_rfl) ?_ _
          refine tillQ_normal ?_
          refine' wpOp_step (i := 15) (o := ?o22) ?hi22 (fun K hK => ?_)
          case hi22 => simp only [List.getElem?_toArray, List.getElem?_cons_succ, List.getElem?_cons_zero]; rfl
          obtain ⟨-, d3, -, -⟩ := hHeld
          go_simp
          refine hK _ _ ?_
          exact EQ.out _ _ _ _ _ _ _ _ _ _ _ _ _ _ _
        case mo19 => exact AllReadyH.nil
      case mo18 => exact AllReadyH.nil
    case mo17 => exact AllReadyH.nil
end Pu
end Go.Proofs.YtpkdigegkemogaaGreatDoor
