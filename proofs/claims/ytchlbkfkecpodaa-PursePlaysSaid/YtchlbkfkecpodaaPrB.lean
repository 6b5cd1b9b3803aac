/- The document's purse, new. -/
import Derived.Test.YtchlbkfkecpodaaPrA
namespace Go.Proofs.Ytchlbkfkecpodaa
set_option maxRecDepth 100000
open Go.RowKit
open Go.Sort (grow)
open Go.Proofs.Ytchlbkfkecpodaa.Pk (one_at one_free one_set lt_some adr_block)
namespace Pu
open Wt (Opn mayOp)

theorem dbuild_run (w : World) : (Instr.build 84 #[]).run Try.prog w = .ok (.agg (pcs zero (.slice none 0 0)).toArray) w := by kernel_rfl
theorem dbox_run (w : World) (cs : Array Value) : (Instr.box 84 (.agg cs)).run Try.prog w = .ok (.pointer (some ⟨w.heap.size, 0, none⟩)) (w.alloc (.cells cs 84)) := by
  simp only [Instr.box, newVar, newRow, Sem.run_bind]
  kernel_rfl
section
variable {ops : Array Oper} {rest : List Oper} {o : Oper} {a : Act} {w : World} {Q : Exit → Act → World → Prop}
theorem wpList_dbuild (hg : o.guard = none) (ho : o.op = .build 84 #[])
    (h : wpList Try.prog ops Q rest (a.put o.dst (.agg (pcs zero (.slice none 0 0)).toArray)) w) : wpList Try.prog ops Q (o :: rest) a w := by
  refine wpList_plain hg fun K hK => ?_
  unfold Oper.wp execOp
  simp only [ho, Sem.run_bind, List.map_toArray, List.map_nil, dbuild_run, Sem.run_pure, Result.andThen_ok]
  exact hK _ _ h
theorem wpList_dbox (hg : o.guard = none) (x : Operand) (ho : o.op = .box 84 x) (cs : Array Value) (hx : a.eval x = .agg cs)
    (h : wpList Try.prog ops Q rest (a.put o.dst (.pointer (some ⟨w.heap.size, 0, none⟩))) (w.alloc (.cells cs 84))) : wpList Try.prog ops Q (o :: rest) a w := by
  refine wpList_plain hg fun K hK => ?_
  unfold Oper.wp execOp
  simp only [ho, hx, Sem.run_bind, dbox_run, Sem.run_pure, Result.andThen_ok]
  exact hK _ _ h
end
/-- The first k funds put. -/
def nk (f0 : Ac) (k : Int) : Ac := fun j => if j < k then f0 j else 0
theorem nk_next (f0 : Ac) (k : Int) : nk f0 (k + 1) = upd (nk f0 k) k (f0 k) := by
  funext j
  show (if j < k + 1 then f0 j else 0) = if j = k then f0 k else if j < k then f0 j else 0
  by_cases h : j = k
  · subst h; rw [if_pos (by omega), if_pos rfl]
  · by_cases h2 : j < k
    · rw [if_pos (by omega), if_neg h, if_pos h2]
    · rw [if_neg (by omega), if_neg h, if_neg h2]
theorem nk_0 (a b c d : Int) : nk (new a b c d).a 0 = fun _ => 0 := by
  funext j
  unfold nk new
  split
  · simp only
    rw [if_neg (by omega), if_neg (by omega), if_neg (by omega), if_neg (by omega)]
  · rfl
theorem nk_4 (a b c d : Int) : nk (new a b c d).a 4 = (new a b c d).a := by
  funext j
  unfold nk new
  simp only
  split
  · rfl
  · rw [if_neg (by omega), if_neg (by omega), if_neg (by omega), if_neg (by omega)]
def NkAt (w1 : World) (d : Nat) (f0 : Ac) (i : Value) (wr : World) : Prop := ∃ k : Nat, i = .int .i64 k ∧ k ≤ 4 ∧ Lax DLineT wr d ⟨nk f0 (k : Int), fz, []⟩ (fun g => g = d) ∧ Kq (fun g => g = d) w1 wr
set_option maxHeartbeats 1600000 in
theorem refnew_any (w : World) (a b c d : Int) (h : mayF a b c d = true) : Calls Try.prog 29 #[.agg #[.int .i64 a, .int .i64 b, .int .i64 c, .int .i64 d]] w fun e w' => ∃ q, e = .returned (.pointer (some ⟨q, 0, none⟩)) ∧ w.heap.size ≤ q ∧ Led DLineT w' q (new a b c d) (fun g => g = q) ∧ Below w.heap.size w w' := by
  obtain ⟨ha, hb, hc, hd⟩ := mayF_iff.1 h
  have ho := Lib.hid (ok_new ha hb hc hd)
  obtain ⟨w1, hw1⟩ : ∃ x, x = w.alloc (.cells #[.int .i64 a, .int .i64 b, .int .i64 c, .int .i64 d] 54) := ⟨_, rfl⟩
  have B1 : Hid (Below w.heap.size w w1) := by rw [hw1]; exact (Below.refl _ _).alloc (Nat.le_refl _) _
  have G1 : w1.heap[w.heap.size]? = some (.cells (fcs a b c d) 54 (0, 0)) := by rw [hw1]; exact heap_alloc_new _ _
  obtain ⟨w2, hw2⟩ : ∃ x, x = w1.alloc (.cells (pcs zero (.slice none 0 0)).toArray 84) := ⟨_, rfl⟩
  have B2 : Below w1.heap.size w1 w2 := by rw [hw2]; exact (Below.refl _ _).alloc (Nat.le_refl _) _
  have G2 : w2.heap[w1.heap.size]? = some (.cells (pcs zero (.slice none 0 0)).toArray 84 (0, 0)) := by rw [hw2]; exact heap_alloc_new _ _
  obtain ⟨q, hq⟩ : ∃ q, q = w1.heap.size := ⟨_, rfl⟩
  have hq1 : Hid (w.heap.size + 1 = q) := by show _ = _; rw [hq, hw1]; simp
  obtain ⟨f0, hf0⟩ : ∃ f, f = (new a b c d).a := ⟨_, rfl⟩
  have st : Hid (NkAt w1 q f0 (.int .i64 0) w2) := by
    refine ⟨0, rfl, by omega, ⟨rfl, fun g hg => by rw [hg, hq]; exact lt_some G2, .slice none 0 0, ?_, World.ownsRow_nil _ _ _ _, by simp [Value.ownBlock], fun g hg => by simp [Value.ownBlock] at hg⟩, .of_below B2⟩
    rw [hf0, hq, show nk (new a b c d).a ((0 : Nat) : Int) = fun _ => 0 from nk_0 a b c d]
    exact .of_block G2
  have CE : Hid (∀ k : Nat, k ≤ 3 → w1.cell? ⟨w.heap.size, k, none⟩ = some (.int .i64 (f0 (k : Int)))) := fun k hk => by
    rw [hf0, ← fcs_at a b c d hk]
    exact one_at G1
  have l1 : Hid (w.heap.size < w1.heap.size) := lt_some G1
  have n4 : Hid (nk f0 4 = f0) := by unfold Hid; rw [hf0]; exact nk_4 a b c d
  replace hw1 := Lib.hid hw1
  replace hw2 := Lib.hid hw2
  replace hq := Lib.hid hq
  replace hf0 := Lib.hid hf0
  clear ha hb hc hd h G1 G2 B2
  go_enter Try.func29, Try.ntmps29
  go_upto_region 2 with (first
    | (refine wpList_dbuild rfl rfl ?_)
    | (refine wpList_dbox rfl (.tmp 5) rfl (pcs zero (.slice none 0 0)).toArray rfl ?_))
  rw [← hw1.out, ← hw2.out, hq1.out]
  go_wp2_with fail
  go_loopw [4] (fun i wr => NkAt w1 q f0 i wr) (fun i _ => 4 - (intOf i).toNat)
  case atStart => exact st.out
  case round =>
    clear st
    obtain ⟨k, rfl, hk, L, K⟩ := hrel
    by_cases h4 : k < 4
    · have c1 : wr.cell? ⟨w.heap.size, k, none⟩ = some (.int .i64 (f0 (k : Int))) := (World.cell?_of_block (a := ⟨w.heap.size, k, none⟩) (K.block w.heap.size l1.out (by have := hq.out; have := l1.out; omega))).trans (CE.out k (by omega))
      have i1 : (k : Int) < 4 := by omega
      have i0 : (0 : Int) ≤ (k : Int) := by omega
      have i6 : (k : Int) < 6 := by omega
      obtain ⟨v, D, R, hne, hv⟩ := L.at_
      have c2 := D.acc k (by omega)
      have c3 := D.free k
      obtain ⟨y, hy⟩ : ∃ y, y = f0 (k : Int) := ⟨_, rfl⟩
      have nx : Hid (NkAt w1 q f0 (.int .i64 ((k + 1 : Nat) : Int)) (wr.setCell ⟨q, k, none⟩ (.int .i64 y)).drew) := by
        have K1 := Kq.of_cells wr q k [.int .i64 y]
        refine ⟨k + 1, rfl, by omega, ⟨rfl, fun g hg => by rw [hg]; exact Nat.lt_of_lt_of_le (L.size q rfl) K1.size, v, ?_, rt_same R fun g hg => K1.block g (rt_lt R hg) (fun e => hne (by rw [hg, e])), hne, hv⟩, (K.self K1).drew⟩
        have := D.acct (k := k) (by omega) y
        rw [hy] at this
        rw [show nk f0 (((k + 1 : Nat) : Int)) = upd (nk f0 (k : Int)) (k : Int) (f0 (k : Int)) from nk_next f0 (k : Int), hy]
        exact this.keep rfl
      rw [← hy] at c1
      replace hy := Lib.hid hy
      clear L K D R hne hv
      go_upto_region 5 with fail
      go_still_tail 8, (by kernel_rfl)
      change wpList _ _ _ _ _ wr.drew
      go_wp2
      exact ⟨nx.out, by simp [intOf]; omega⟩
    · obtain rfl : k = 4 := by omega
      have F : Hid (w.heap.size ≤ q ∧ Led DLineT wr q (new a b c d) (fun g => g = q) ∧ Below w.heap.size w wr) := by
        refine ⟨by have := hq.out; have := l1.out; omega, ⟨?_, ho.out⟩, B1.out.trans (K.below (fun g hg => by rw [hg, hq.out]; exact B1.out.size) B1.out.size)⟩
        rw [show ((4 : Nat) : Int) = 4 from rfl, n4.out, hf0.out] at L
        exact L
      clear L K
      go_wp2
      go_ret
      exact ⟨_, rfl, F.out⟩
end Pu
end Go.Proofs.Ytchlbkfkecpodaa
