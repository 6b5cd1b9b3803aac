/- An inbox: what comes, and what has come, by a select with a default. -/
import Derived.Test.YtenlblembdnniaaNtM
import Derived.Conc.LoneCalls
import Derived.Conc.LoneSelect
import Derived.KernelRfl
import Derived.Laws.Rows
namespace Go.Proofs.Ytenlblembdnniaa
open Go.Conc Go.RowKit
open Go.Proofs.Ytenlblembdnniaa.Pk (lt_some one_at one_free one_set grown_set)
namespace Nt

theorem msg_info : (Try.prog.info? 61).map (fun i => (i.zero, i.size, i.bytes)) = some (some (am m0), 3, 32) := by kernel_rfl
theorem bd (w : World) : (Instr.build 61 #[]).run Try.prog w = .ok (.agg #[.int .i64 0, .int .i64 0, .string ByteArray.empty]) w := by kernel_rfl
/-- An empty inbox, in block c. -/
def Ch (w : World) (c : Nat) : Prop := ∃ s r, w.heap[c]? = some (.chan 1 #[] false s r false)
/-- An inbox with a message, in block c. -/
def Ch1 (w : World) (c : Nat) (m : Ms) : Prop := ∃ s r, w.heap[c]? = some (.chan 1 #[am m] false s r false)
theorem chan_grown {w W : World} (hb : Below w.heap.size w W) {c : Nat} (_hc : c < w.heap.size) (buf : Array Value) (s r : Nat) : w.grownBy (W.setChan c 1 buf false s r false) (some c) :=
  ⟨hb.os, hb.tape, hb.output, by simpa [World.setChan] using hb.size, fun g hg hn => by
    have : c ≠ g := fun e => hn (by rw [e])
    have e : (W.setChan c 1 buf false s r false).heap[g]? = W.heap[g]? := by simp [World.setChan, Array.getElem?_setIfInBounds_ne this]
    exact e.trans (hb.block g hg)⟩
theorem below_some {w W : World} (hb : Below w.heap.size w W) {c : Nat} (hc : c < w.heap.size) {o : Obj} (h : w.heap[c]? = some o) : W.heap[c]? = some o := (hb.block c hc).trans h
set_option maxRecDepth 100000 in
set_option maxHeartbeats 1600000 in
theorem put_yes (w : World) (c : Nat) (m : Ms) (h : Ch w c) : Calls Try.prog 26 #[.chan (some c), am m] w fun e w' => e = .returned (.tuple #[]) ∧ Ch1 w' c m ∧ w.grownBy w' (some c) := by
  refine calls_of_loneTo fun cs => ?_
  obtain ⟨s, r, hc⟩ := h
  have hlt := lt_some hc
  have ba : Below w.heap.size w (w.alloc (.cells #[.int .i64 m.fr, .int .i64 m.to_, .string (str m.tx)] 61)) := (Below.refl _ w).alloc (Nat.le_refl _) _
  have hc2 := below_some ba hlt hc
  have F : Ch1 ((w.alloc (.cells #[.int .i64 m.fr, .int .i64 m.to_, .string (str m.tx)] 61)).setChan c 1 #[am m] false (s + 1) r false) c m := ⟨_, _, heap_setChan _ _ _ _ _ _ _ _ (Nat.lt_of_lt_of_le hlt ba.size)⟩
  have F2 := chan_grown ba hlt #[am m] (s + 1) r
  have e : Frame.enter Try.prog 26 #[.chan (some c), am m] .normal = (base 26).at ⟨#[.chan (some c), am m, undef, undef, undef, undef, undef, undef, undef], []⟩ [.code (Try.f26.body.getD .skip)] := by
    simp [Frame.enter, Frame.at, Try.func26, base, Try.f26]
  rw [e]
  clear e
  refine LoneTo.goes (n := 40) ?_
  simp only [Try.f26, Option.getD_some]
  unfold am
  s_c stepG_seq
  s_reg
  s_op
  s_c stepG_region_end
  s_c stepG_seq
  s_c stepG_seq
  s_reg
  s_op
  s_c stepG_region_end
  s_reg
  s_op
  s_c stepG_region_end
  s_c stepG_seq
  s_reg
  s_stop
  refine LoneTo.step (step_lone_select_send_room (c := c) (cap := 1) (buf := #[]) (s := s) (r := r) (tm := false) (stepG_comm (cases := #[scase c (am m) (am m0)]) (blocking := false) (shape := .select) (w' := w.alloc (.cells #[.int .i64 m.fr, .int .i64 m.to_, .string (str m.tx)] 61)) rfl rfl (by decide) (by simp [go_sem, execOp, scase, Act.eval, am, m0, str])) hc2 (by simp)) ?_
  rw [Frame.finish_at]
  walk_nrm
  refine LoneTo.goes (n := 40) ?_
  s_op
  s_op
  s_c stepG_region_end
  s_c stepG_block
  s_cond true
  s_c stepG_skip
  s_c stepG_inBlock
  s_c stepG_end
  s_stop
  exact LoneTo.done ⟨.returned (.tuple #[]), _, rfl, ⟨rfl, F, F2⟩, rfl, rfl, rfl, rfl, _, Try.func26, by simp [results, Try.f26, Frame.at]⟩
set_option maxRecDepth 100000 in
set_option maxHeartbeats 1600000 in
theorem put_nil (w : World) (m : Ms) : Calls Try.prog 26 #[.chan none, am m] w fun e w' => e = .returned (.tuple #[]) ∧ Below w.heap.size w w' := by
  refine calls_of_loneTo fun cs => ?_
  have ba : Below w.heap.size w (w.alloc (.cells #[.int .i64 m.fr, .int .i64 m.to_, .string (str m.tx)] 61)) := (Below.refl _ w).alloc (Nat.le_refl _) _
  have e : Frame.enter Try.prog 26 #[.chan none, am m] .normal = (base 26).at ⟨#[.chan none, am m, undef, undef, undef, undef, undef, undef, undef], []⟩ [.code (Try.f26.body.getD .skip)] := by
    simp [Frame.enter, Frame.at, Try.func26, base, Try.f26]
  rw [e]
  clear e
  refine LoneTo.goes (n := 40) ?_
  simp only [Try.f26, Option.getD_some]
  unfold am
  s_c stepG_seq
  s_reg
  s_op
  s_c stepG_region_end
  s_c stepG_seq
  s_c stepG_seq
  s_reg
  s_op
  s_c stepG_region_end
  s_reg
  s_op
  s_c stepG_region_end
  s_c stepG_seq
  s_reg
  s_stop
  refine LoneTo.step (step_lone_select_send_nil (stepG_comm (cases := #[scaseNil (am m) (am m0)]) (blocking := false) (shape := .select) (w' := w.alloc (.cells #[.int .i64 m.fr, .int .i64 m.to_, .string (str m.tx)] 61)) rfl rfl (by decide) (by simp [go_sem, execOp, scaseNil, Act.eval, am, m0, str]))) ?_
  rw [Frame.finish_at]
  walk_nrm
  refine LoneTo.goes (n := 40) ?_
  s_op
  s_op
  s_c stepG_region_end
  s_c stepG_block
  s_cond false
  s_c stepG_skip
  s_c stepG_inBlock
  s_c stepG_end
  s_stop
  exact LoneTo.done ⟨.returned (.tuple #[]), _, rfl, ⟨rfl, ba⟩, rfl, rfl, rfl, rfl, _, Try.func26, by simp [results, Try.f26, Frame.at]⟩
set_option maxRecDepth 100000 in
set_option maxHeartbeats 1600000 in
theorem ask_yes (w : World) (c : Nat) (m : Ms) (h : Ch1 w c m) : Calls Try.prog 27 #[.chan (some c)] w fun e w' => e = .returned (.tuple #[am m, .bool true]) ∧ Ch w' c ∧ w.grownBy w' (some c) := by
  refine calls_of_loneTo fun cs => ?_
  obtain ⟨s, r, hc⟩ := h
  have hlt := lt_some hc
  have ba : Below w.heap.size w (w.alloc (.cells #[.int .i64 0, .int .i64 0, .string ByteArray.empty] 61)) := (Below.refl _ w).alloc (Nat.le_refl _) _
  have hc2 := below_some ba hlt hc
  have e : Frame.enter Try.prog 27 #[.chan (some c)] .normal = (base 27).at ⟨#[.chan (some c), undef, undef, undef, undef, undef, undef, undef, undef, undef, undef, undef], []⟩ [.code (Try.f27.body.getD .skip)] := by
    simp [Frame.enter, Frame.at, Try.func27, base, Try.f27]
  rw [e]
  clear e
  refine LoneTo.goes (n := 40) ?_
  simp only [Try.f27, Option.getD_some]
  s_c stepG_seq
  s_reg
  s_op
  s_op
  s_c stepG_region_end
  s_c stepG_seq
  s_reg
  s_op
  s_c stepG_region_end
  s_c stepG_seq
  s_reg
  s_stop
  refine LoneTo.step (step_lone_select_recv_buf (c := c) (z := am m0) (cap := 1) (buf := #[am m]) (closed := false) (s := s) (r := r) (tm := false) (stepG_comm (cases := #[rcase c (am m0)]) (blocking := false) (shape := .select) (w' := (w.alloc (.cells #[.int .i64 0, .int .i64 0, .string ByteArray.empty] 61))) rfl rfl (by decide) (by simp [go_sem, execOp, rcase, Act.eval, am, m0, str] <;> rfl)) hc2 (by simp)) ?_
  obtain ⟨W1, hW1⟩ : ∃ z, z = (w.alloc (.cells #[.int .i64 0, .int .i64 0, .string ByteArray.empty] 61)).setChan c 1 #[] false s (r + 1) false := ⟨_, rfl⟩
  have G1 : w.grownBy W1 (some c) := by rw [hW1]; exact chan_grown ba hlt _ _ _
  have C1 : W1.heap[c]? = some (.chan 1 #[] false s (r + 1) false) := by rw [hW1]; exact heap_setChan _ _ _ _ _ _ _ _ (Nat.lt_of_lt_of_le hlt ba.size)
  have T1 : W1.heap[w.heap.size]? = some (.cells #[.int .i64 0, .int .i64 0, .string ByteArray.empty] 61 (0, 0)) := by
    rw [hW1]
    simp only [World.setChan]
    rw [Array.getElem?_setIfInBounds_ne (by omega)]
    exact heap_alloc_new _ _
  have ex : (#[am m].extract 1 (#[am m] : Array Value).size) = #[] := rfl
  rw [ex, ← hW1, Frame.finish_at]
  walk_nrm
  clear hW1 hc2 ba hc ex
  have T2 : (W1.alloc (.cells #[.int .i64 m.fr, .int .i64 m.to_, .string (str m.tx)] 61)).heap[w.heap.size]? = some (.cells #[.int .i64 0, .int .i64 0, .string ByteArray.empty] 61 (0, 0)) := (heap_alloc_old W1 _ (lt_some T1)).trans T1
  have G2 : w.grownBy (W1.alloc (.cells #[.int .i64 m.fr, .int .i64 m.to_, .string (str m.tx)] 61)) (some c) := Go.Proofs.Ytenlblembdnniaa.Pk.grown_trans G1 (Go.Proofs.Ytenlblembdnniaa.Pk.below_grown ((Below.refl _ _).alloc (Nat.le_refl _) _) _)
  have C2 : (W1.alloc (.cells #[.int .i64 m.fr, .int .i64 m.to_, .string (str m.tx)] 61)).heap[c]? = some (.chan 1 #[] false s (r + 1) false) := (heap_alloc_old W1 _ (lt_some C1)).trans C1
  have q0 : (W1.alloc (.cells #[.int .i64 m.fr, .int .i64 m.to_, .string (str m.tx)] 61)).cell? ⟨w.heap.size, 0, none⟩ = some (.int .i64 0) := one_at (i := 0) T2
  have q1 : (W1.alloc (.cells #[.int .i64 m.fr, .int .i64 m.to_, .string (str m.tx)] 61)).cell? ⟨w.heap.size, 1, none⟩ = some (.int .i64 0) := one_at (i := 1) T2
  have q2 : (W1.alloc (.cells #[.int .i64 m.fr, .int .i64 m.to_, .string (str m.tx)] 61)).cell? ⟨w.heap.size, 2, none⟩ = some (.string ByteArray.empty) := one_at (i := 2) T2
  have q3 : (W1.alloc (.cells #[.int .i64 m.fr, .int .i64 m.to_, .string (str m.tx)] 61)).frozen? ⟨w.heap.size, 0, none⟩ = false := one_free T2
  have q4 : (W1.alloc (.cells #[.int .i64 m.fr, .int .i64 m.to_, .string (str m.tx)] 61)).frozen? ⟨w.heap.size, 1, none⟩ = false := one_free T2
  have q5 : (W1.alloc (.cells #[.int .i64 m.fr, .int .i64 m.to_, .string (str m.tx)] 61)).frozen? ⟨w.heap.size, 2, none⟩ = false := one_free T2
  refine LoneTo.goes (n := 60) ?_
  unfold am
  s_op
  s_op
  s_c stepG_region_end
  s_c stepG_block
  s_cond true
  s_c stepG_seq
  s_reg
  s_op
  s_op
  s_op
  s_c stepG_region_end
  s_c stepG_seq
  s_reg
  s_op
  s_op
  s_op
  s_c stepG_region_end
  s_c stepG_ret'
  s_stop
  have T3 : (((W1.alloc (.cells #[.int .i64 m.fr, .int .i64 m.to_, .string (str m.tx)] 61)).setCell ⟨w.heap.size, 0, none⟩ (.int .i64 m.fr)).setCell ⟨w.heap.size, 1, none⟩ (.int .i64 m.to_)).setCell ⟨w.heap.size, 2, none⟩ (.string (str m.tx)) |>.heap[w.heap.size]? = some (.cells #[.int .i64 m.fr, .int .i64 m.to_, .string (str m.tx)] 61 (0, 0)) :=
    one_set (one_set (one_set T2 (.int .i64 m.fr)) (.int .i64 m.to_)) (.string (str m.tx))
  obtain ⟨W3, hW3⟩ : ∃ z, z = (((W1.alloc (.cells #[.int .i64 m.fr, .int .i64 m.to_, .string (str m.tx)] 61)).setCell ⟨w.heap.size, 0, none⟩ (.int .i64 m.fr)).setCell ⟨w.heap.size, 1, none⟩ (.int .i64 m.to_)).setCell ⟨w.heap.size, 2, none⟩ (.string (str m.tx)) := ⟨_, rfl⟩
  have G3 : (W1.alloc (.cells #[.int .i64 m.fr, .int .i64 m.to_, .string (str m.tx)] 61)).grownBy W3 (some w.heap.size) := by rw [hW3]; exact Go.Proofs.Ytenlblembdnniaa.Pk.grown_trans (grown_set _ _ _ _) (Go.Proofs.Ytenlblembdnniaa.Pk.grown_trans (grown_set _ _ _ _) (grown_set _ _ _ _))
  rw [← hW3] at T3 ⊢
  have F : Ch W3 c := ⟨s, r + 1, (G3.block c (lt_some C2) (fun e => by injection e; omega)).trans C2⟩
  have F2 : w.grownBy W3 (some c) := ⟨G3.os.trans G2.os, G3.tape.trans G2.tape, G3.output.trans G2.output, Nat.le_trans G2.size G3.size, fun g hg hn => (G3.block g (Nat.lt_of_lt_of_le hg G2.size) (fun e => by injection e; omega)).trans (G2.block g hg hn)⟩
  clear hW3 G3 q0 q1 q2 q3 q4 q5 T2 T1 C1 G1 G2 C2
  have q0 : W3.cell? ⟨w.heap.size, 0, none⟩ = some (.int .i64 m.fr) := one_at (i := 0) T3
  have q1 : W3.cell? ⟨w.heap.size, 1, none⟩ = some (.int .i64 m.to_) := one_at (i := 1) T3
  have q2 : W3.cell? ⟨w.heap.size, 2, none⟩ = some (.string (str m.tx)) := one_at (i := 2) T3
  exact LoneTo.done ⟨.returned (.tuple #[.agg #[.int .i64 m.fr, .int .i64 m.to_, .string (str m.tx)], .bool true]), _, rfl, ⟨rfl, F, F2⟩, rfl, rfl, rfl, rfl, _, Try.func27, by simp [go_sem, results, Try.f27, Frame.at, q0, q1, q2]⟩
set_option maxRecDepth 100000 in
set_option maxHeartbeats 1600000 in
theorem ask_nil (w : World) : Calls Try.prog 27 #[.chan none] w fun e w' => e = .returned (.tuple #[am m0, .bool false]) ∧ Below w.heap.size w w' := by
  refine calls_of_loneTo fun cs => ?_
  have ba : Below w.heap.size w (w.alloc (.cells #[.int .i64 0, .int .i64 0, .string ⟨#[]⟩] 61)) := (Below.refl _ w).alloc (Nat.le_refl _) _
  have T2 : (w.alloc (.cells #[.int .i64 0, .int .i64 0, .string ⟨#[]⟩] 61)).heap[w.heap.size]? = some (.cells #[.int .i64 0, .int .i64 0, .string ⟨#[]⟩] 61 (0, 0)) := heap_alloc_new w _
  have q0 : (w.alloc (.cells #[.int .i64 0, .int .i64 0, .string ⟨#[]⟩] 61)).cell? ⟨w.heap.size, 0, none⟩ = some (.int .i64 0) := one_at (i := 0) T2
  have q1 : (w.alloc (.cells #[.int .i64 0, .int .i64 0, .string ⟨#[]⟩] 61)).cell? ⟨w.heap.size, 1, none⟩ = some (.int .i64 0) := one_at (i := 1) T2
  have q2 : (w.alloc (.cells #[.int .i64 0, .int .i64 0, .string ⟨#[]⟩] 61)).cell? ⟨w.heap.size, 2, none⟩ = some (.string ⟨#[]⟩) := one_at (i := 2) T2
  have q3 : (w.alloc (.cells #[.int .i64 0, .int .i64 0, .string ⟨#[]⟩] 61)).frozen? ⟨w.heap.size, 0, none⟩ = false := one_free T2
  have q4 : (w.alloc (.cells #[.int .i64 0, .int .i64 0, .string ⟨#[]⟩] 61)).frozen? ⟨w.heap.size, 1, none⟩ = false := one_free T2
  have q5 : (w.alloc (.cells #[.int .i64 0, .int .i64 0, .string ⟨#[]⟩] 61)).frozen? ⟨w.heap.size, 2, none⟩ = false := one_free T2
  have e : Frame.enter Try.prog 27 #[.chan none] .normal = (base 27).at ⟨#[.chan none, undef, undef, undef, undef, undef, undef, undef, undef, undef, undef, undef], []⟩ [.code (Try.f27.body.getD .skip)] := by
    simp [Frame.enter, Frame.at, Try.func27, base, Try.f27]
  rw [e]
  clear e
  refine LoneTo.goes (n := 40) ?_
  simp only [Try.f27, Option.getD_some]
  s_c stepG_seq
  s_reg
  s_op
  s_op
  s_c stepG_region_end
  s_c stepG_seq
  s_reg
  s_op
  s_c stepG_region_end
  s_c stepG_seq
  s_reg
  s_stop
  refine LoneTo.step (step_lone_select_recv_nil (stepG_comm (cases := #[rcaseNil (am m0)]) (blocking := false) (shape := .select) (w' := (w.alloc (.cells #[.int .i64 0, .int .i64 0, .string ⟨#[]⟩] 61))) rfl rfl (by decide) (by simp [go_sem, execOp, rcaseNil, Act.eval, am, m0, str]))) ?_
  have hbd := bd
  rw [Frame.finish_at]
  walk_nrm
  refine LoneTo.goes (n := 60) ?_
  s_op
  s_op
  s_c stepG_region_end
  s_c stepG_block
  s_cond false
  s_c stepG_seq
  s_reg
  s_op
  s_op
  s_op
  s_c stepG_region_end
  s_c stepG_ret'
  s_stop
  exact LoneTo.done ⟨.returned (.tuple #[.agg #[.int .i64 0, .int .i64 0, .string ⟨#[]⟩], .bool false]), _, rfl, ⟨rfl, ba⟩, rfl, rfl, rfl, rfl, _, Try.func27, by simp [go_sem, results, Try.f27, Frame.at, q0, q1, q2]⟩
end Nt
end Go.Proofs.Ytenlblembdnniaa
