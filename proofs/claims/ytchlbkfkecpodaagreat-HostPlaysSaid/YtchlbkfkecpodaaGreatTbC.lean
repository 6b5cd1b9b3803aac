/- add: an answer is noted where there is none. -/
import Derived.Test.YtchlbkfkecpodaaGreatTbB
import Derived.Laws.DeepNot64
namespace Go.Proofs.YtchlbkfkecpodaaGreat
set_option maxRecDepth 100000
open Go.RowKit
open Go.Sort (grow)
open Go.Proofs.YtchlbkfkecpodaaGreat.Pk (one_at one_free one_set lt_some grown_set grown_trans below_grown grown_refl)
namespace Tb
open Wt (Opn mayOp)

theorem map_nil_run (mo : Option Nat) (w : World) : (binOp .eql 68 (.map mo) (.map none)).run Tryz.prog w = .ok (.bool mo.isNone) w := by
  have h : ∀ d : Nat, (Op.equalIn (d + 1) 68 (.map mo) (.map none)).run Tryz.prog w = .ok mo.isNone w := fun d => by
    cases mo <;> simp [Op.equalIn, run_underlying Tryz.underlying68]
  simp only [binOp]
  simp [Op.equal, Op.maxDepth, h 9999]
/-- Behind the map's update. -/
theorem tab_put {w W w4 : World} {q z m N : Nat} {b k a : Int} {f : F} {D : DataW Value} {fp : Nat → Prop} (O : Ok f) (hb : 1 ≤ b ∧ b ≤ 200) (hk : 1 ≤ k ∧ k ≤ 6) (ha : a = 1 ∨ a = 2) (h0 : f b k = 0) (K : Kz q z fp w W) (pin : fp q) (hsz : ∀ g, fp g → g < w.heap.size)
    (hq : Hm W q z (some m)) (hm : fp m ∨ w.heap.size ≤ m) (hM : W.ownsMap Tryz.prog KT Rdv m N D) (T : Tie D f)
    (h4 : w4.ownsMap Tryz.prog KT Rdv m (N + 1) (D.put (Kl (b, k)) (.held (.int .i64 a)))) (g4 : W.grownBy w4 (some m)) : LTo w q z fp (upd f b k a) w4 := by
  have hqm : q ≠ m := hq.ne_map hM
  have hm4 := h4.lt
  have T4 := T.put hb hk (show a ≠ 0 by omega) h0
  refine ⟨⟨O.upd hb hk ha, .inl pin, fun g hg => ?_, some m, hq.keep (g4.block q hq.lt (fun e => hqm (by injection e))), .inr ⟨m, _, rfl, owns_less h4 T4, T4⟩, fun m' hm' => ?_⟩, ?_⟩
  · rcases hg with hg | ⟨_, hg⟩
    · exact Nat.lt_of_lt_of_le (hsz g hg) (Nat.le_trans K.size g4.size)
    · exact hg
  · injection hm' with hm'
    subst hm'
    rcases hm with h | h
    · exact .inl h
    · exact .inr ⟨h, hm4⟩
  · refine K.trans (.of_grown hq.lt (fun e => hqm (by injection e)) g4 fun g hg => ?_)
    injection hg with hg
    subst hg
    rcases hm with h | h
    · exact .inl h
    · exact .inr ⟨h, hM.lt⟩
set_option maxHeartbeats 1600000 in
theorem add_is (w : World) (q z : Nat) (mo : Option Nat) (f : F) (b k a : Int) (hp : Bp (b, k)) (hf : f b k ≠ 0) (hq : Hm w q z mo) (hM : MapIs w mo f) (hm : ∀ m, mo = some m → m < w.heap.size) :
    Calls Tryz.prog 64 #[.pointer (some ⟨q, z, none⟩), .agg #[.int .i64 b, .int .i64 k], .int .i64 a] w fun e w' => e = .returned (.bool false) ∧ Below w.heap.size w w' := by
  have HB : Hid (∀ o, Below w.heap.size w (w.alloc o).drew) := fun o => below_drew ((Below.refl _ _).alloc (Nat.le_refl _) _)
  have LK := fun x => look_run (w.alloc x).drew mo f (b, k) (hM.keep fun m e => (HB.out x).block m (hm m e)) hp
  have c0 : ∀ o, (w.alloc o).cell? ⟨q, z, none⟩ = some (.map mo) := fun o => (hq.keep (heap_alloc_old w o hq.lt)).c
  unfold kv at LK
  simp only at LK
  rw [ne0_iff.2 hf] at LK
  have c0' := c0 (.cells #[.int .i64 b, .int .i64 k] 95)
  have LK' := LK (.cells #[.int .i64 b, .int .i64 k] 95)
  generalize f b k = x at *
  clear hM hm hq c0 LK
  go_enter Tryz.func64, Tryz.ntmps64
  go_wp2_with fail
  go_region
  go_wp2
  go_ret
  exact ⟨rfl, (HB.out _)⟩
set_option maxHeartbeats 3200000 in
theorem add_some (w : World) (q z m : Nat) (b k a : Int) (f : F) (D : DataW Value) (fp : Nat → Prop) (O : Ok f) (hb : 1 ≤ b ∧ b ≤ 200) (hk : 1 ≤ k ∧ k ≤ 6) (ha : a = 1 ∨ a = 2) (h0 : f b k = 0) (pin : fp q) (hsz : ∀ g, fp g → g < w.heap.size)
    (hq : Hm w q z (some m)) (hm : fp m) (hM : w.ownsMap Tryz.prog KT Rdv m 1200 D) (T : Tie D f) :
    Calls Tryz.prog 64 #[.pointer (some ⟨q, z, none⟩), .agg #[.int .i64 b, .int .i64 k], .int .i64 a] w fun e w' => e = .returned (.bool true) ∧ LTo w q z fp (upd f b k a) w' := by
  have hp : Bp (b, k) := bp_in hb hk
  have NN := map_nil_run (some m)
  simp only [Option.isNone] at NN
  obtain ⟨x, hx⟩ : ∃ x, x = Obj.cells #[.int .i64 b, .int .i64 k] 95 := ⟨_, rfl⟩
  have hW : Hm (w.alloc x) q z (some m) := hq.keep (heap_alloc_old w x hq.lt)
  have hM1 : (w.alloc x).ownsMap Tryz.prog KT Rdv m 1200 D := owns_keep hM (heap_alloc_old w x hM.lt)
  have LK := look_run (w.alloc x).drew (some m) f (b, k) (.inr ⟨m, D, rfl, hM1, T⟩) hp
  have c2 : (w.alloc x).cell? ⟨q, z, none⟩ = some (.map (some m)) := hW.c
  obtain ⟨w4, hrun, hM4, g4⟩ := (show (w.alloc x).drew.drew.ownsMap Tryz.prog KT Rdv m 1200 D from hM1).update law Tryz.underlying68 (by unfold maxLen; omega) (key_of hp) (val := .int .i64 a) (d := .held (.int .i64 a)) (ps := []) rfl
  have E : Hid (LTo w q z fp (upd f b k a) w4) := tab_put O hb hk ha h0 (.of_below hq.lt ((Below.refl _ _).alloc (Nat.le_refl _) x)) pin hsz hW (.inl hm) hM1 T hM4 (drew_grown (drew_grown g4))
  unfold kv at LK hrun
  simp only at LK hrun
  rw [h0, show ne0 0 = false from rfl] at LK
  subst hx
  clear hM4 g4 hM1 hW hq hM T O hb hk ha h0 pin hsz hm hp
  go_enter Tryz.func64, Tryz.ntmps64
  go_wp2_with fail
  go_region
  go_wp2_with fail
  go_region
  go_wp2
  go_ret
  exact ⟨rfl, E.out⟩
set_option maxHeartbeats 3200000 in
theorem add_none (w : World) (q z : Nat) (b k a : Int) (f : F) (fp : Nat → Prop) (O : Ok f) (hb : 1 ≤ b ∧ b ≤ 200) (hk : 1 ≤ k ∧ k ≤ 6) (ha : a = 1 ∨ a = 2) (h0 : f b k = 0) (pin : fp q) (hsz : ∀ g, fp g → g < w.heap.size)
    (hq : Hm w q z none) (hf : f = fz) :
    Calls Tryz.prog 64 #[.pointer (some ⟨q, z, none⟩), .agg #[.int .i64 b, .int .i64 k], .int .i64 a] w fun e w' => e = .returned (.bool true) ∧ LTo w q z fp (upd f b k a) w' := by
  have hp : Bp (b, k) := bp_in hb hk
  have NN := map_nil_run none
  simp only [Option.isNone] at NN
  have hmm := @run_makeMap Tryz.prog
  obtain ⟨x, hx⟩ : ∃ x, x = Obj.cells #[.int .i64 b, .int .i64 k] 95 := ⟨_, rfl⟩
  have hlq := hq.lt
  have LK := look_run (w.alloc x).drew none f (b, k) (.inl ⟨rfl, hf⟩) hp
  have c2 : (w.alloc x).cell? ⟨q, z, none⟩ = some (.map none) := (hq.keep (heap_alloc_old w x hlq)).c
  have f2 : (w.alloc x).frozen? ⟨q, z, none⟩ = false := (hq.keep (heap_alloc_old w x hlq)).free z
  unfold kv at LK
  simp only at LK
  rw [h0, show ne0 0 = false from rfl] at LK
  subst hx
  obtain ⟨m, hm⟩ : ∃ m, m = w.heap.size + 1 := ⟨_, rfl⟩
  obtain ⟨W, hW⟩ : ∃ y, y = (((w.setCell ⟨q, z, none⟩ (.map (some (w.heap.size + 1)))).alloc (.cells #[.int .i64 b, .int .i64 k] 95)).alloc (.map #[] 0)) := ⟨_, rfl⟩
  have e1 : (w.setCell ⟨q, z, none⟩ (.map (some (w.heap.size + 1)))).heap.size = w.heap.size := by simp [World.setCell]
  have KW : Kz q z fp w W := by
    have h1 : Kz q z fp w (w.setCell ⟨q, z, none⟩ (.map (some (w.heap.size + 1)))) := ⟨.of_grown (grown_set w q z _) (fun g e => by injection e with e; subst e; exact pin), hq.rest _⟩
    rw [hW]
    exact h1.trans (.of_below (by rw [e1]; exact hlq) (((Below.refl _ _).alloc (Nat.le_refl _) _).alloc (by simp) _))
  have hqW : Hm W q z (some m) := by
    have hl := hq.lt
    refine (hm ▸ hq.set (some (w.heap.size + 1)) : Hm (w.setCell ⟨q, z, none⟩ (.map (some (w.heap.size + 1)))) q z (some m)).keep ?_
    rw [hW, heap_alloc_old _ _ (by simp [e1]; omega), heap_alloc_old _ _ (by omega)]
  have hM : W.ownsMap Tryz.prog KT Rdv m 0 (.map []) := by
    have := World.ownsMap_made ((w.setCell ⟨q, z, none⟩ (.map (some (w.heap.size + 1)))).alloc (.cells #[.int .i64 b, .int .i64 k] 95)) Tryz.prog KT Rdv
    rw [hW, hm]
    simpa [e1] using this
  have hn : W.heap[w.heap.size]? = some (.cells #[.int .i64 b, .int .i64 k] 95 (0, 0)) := by
    have := heap_alloc2_old (w.setCell ⟨q, z, none⟩ (.map (some (w.heap.size + 1)))) (.cells #[.int .i64 b, .int .i64 k] 95) (.map #[] 0)
    rw [e1] at this
    rw [hW]
    exact this
  obtain ⟨w4, hrun, hM4, g4⟩ := (show W.drew.drew.ownsMap Tryz.prog KT Rdv m 0 (.map []) from hM).update law Tryz.underlying68 (by unfold maxLen; omega) (key_of hp) (val := .int .i64 a) (d := .held (.int .i64 a)) (ps := []) rfl
  have E : Hid (LTo w q z fp (upd f b k a) w4) := tab_put O hb hk ha h0 KW pin hsz hqW (.inr (by omega)) hM (hf ▸ Tie.start) hM4 (drew_grown (drew_grown g4))
  have b0 : W.cell? ⟨w.heap.size, 0, none⟩ = some (.int .i64 b) := one_at (i := 0) hn
  have b1 : W.cell? ⟨w.heap.size, 1, none⟩ = some (.int .i64 k) := one_at (i := 1) hn
  have d2 : W.cell? ⟨q, z, none⟩ = some (.map (some m)) := hqW.c
  unfold kv at hrun
  simp only at hrun
  rw [hm] at hrun d2
  rw [hW] at hrun d2 b0 b1
  clear hM4 g4 hn hM hqW KW e1 hW hm hf hq hsz pin h0 ha hk hb O hp
  go_enter Tryz.func64, Tryz.ntmps64
  go_wp2_with fail
  go_region
  go_wp2_with fail
  go_region
  go_wp2
  go_ret
  exact ⟨rfl, E.out⟩
/-- An answer where there is none. -/
theorem add_any (w : World) (q z : Nat) (b k a : Int) (f : F) (fp : Nat → Prop) (L : Tab w q z f fp) (hb : 1 ≤ b ∧ b ≤ 200) (hk : 1 ≤ k ∧ k ≤ 6) (ha : a = 1 ∨ a = 2) :
    Calls Tryz.prog 64 #[.pointer (some ⟨q, z, none⟩), .agg #[.int .i64 b, .int .i64 k], .int .i64 a] w fun e w' => e = .returned (.bool (f b k == 0)) ∧ LTo w q z fp (if f b k = 0 then upd f b k a else f) w' := by
  obtain ⟨mo, h1, h2, h3⟩ := L.at_
  by_cases h0 : f b k = 0
  · rw [if_pos h0, h0]
    rcases h2 with ⟨rfl, hf⟩ | ⟨m, D, rfl, ho, T⟩
    · exact add_none w q z b k a f fp L.ok hb hk ha h0 L.pin L.size h1 hf
    · exact add_some w q z m b k a f D fp L.ok hb hk ha h0 L.pin L.size h1 (h3 m rfl) ho T
  · rw [if_neg h0]
    refine (add_is w q z mo f b k a (bp_in hb hk) h0 h1 h2 fun m e => L.size m (h3 m e)).mono ?_
    rintro e w' ⟨rfl, hbl⟩
    exact ⟨by rw [beq_eq_false_iff_ne.2 h0], LTo.of_below L hbl⟩
end Tb
end Go.Proofs.YtchlbkfkecpodaaGreat
