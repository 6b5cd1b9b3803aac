/- Parts of the claim: TbB, TbC, TbD -/
import Derived.Lib.QuietBelow
import Derived.Deep.RegionLaw
import Derived.BigRegion
import Derived.RegionTactic
import Derived.Laws.DeepNot64
import Derived.Deep.RegionWith
import Derived.Test.YtpkdigegkemogaaGreatDoorTbXaT
namespace Go.Proofs.YtpkdigegkemogaaGreatDoor
set_option maxRecDepth 100000
open Go.RowKit
open Go.Sort (grow)
open Go.Proofs.YtpkdigegkemogaaGreatDoor.Pk (one_at one_free one_set lt_some grown_set grown_trans grown_refl)
namespace Tb
open Wt (Opn mayOp)

abbrev opv (o : Opn) : Value := .agg #[.int .i64 o.kind, .int .i64 o.book, .int .i64 o.units, .int .i64 o.cust, .int .i64 o.amount]
set_option maxHeartbeats 400000 in
theorem maya_any (w : World) (a : Int) : Calls Tryz.prog 143 #[.int .i64 a] w fun e w' => e = .returned (.bool (mayA a)) ∧ w = w' := by
  unfold mayA
  obtain ⟨c, hc⟩ : ∃ c, c = (a == 2) := ⟨_, rfl⟩
  rcases Bool.eq_false_or_eq_true (a == 1) with h | h
  all_goals
    rw [h, ← hc]
    have h2 := hc.symm
    clear hc
    go_enter Tryz.func143, Tryz.ntmps143
    go_wp2
    go_ret
    exact ⟨rfl, rfl⟩
theorem keyof_results : Tryz.f142.results = #[.cell 2 215] := by kernel_rfl
theorem pair_info : (Tryz.prog.info? 215).map (·.size) = some 2 := by kernel_rfl
set_option maxHeartbeats 400000 in
theorem keyof_any (w : World) (o : Opn) : Calls Tryz.prog 142 #[opv o] w fun e w' => e = .returned (kv (o.book, o.kind)) ∧ Below w.heap.size w w' := by
  obtain ⟨k, b, u, c, a⟩ := o
  unfold kv
  simp only
  have HB : Hid (Below w.heap.size w ((w.alloc (.cells #[.int .i64 k, .int .i64 b, .int .i64 u, .int .i64 c, .int .i64 a] 34)).alloc (.cells #[.int .i64 b, .int .i64 k] 215))) := ((Below.refl _ _).alloc (Nat.le_refl _) _).alloc (by simp) _
  have HG : Hid (((w.alloc (.cells #[.int .i64 k, .int .i64 b, .int .i64 u, .int .i64 c, .int .i64 a] 34)).alloc (.cells #[.int .i64 b, .int .i64 k] 215)).heap[w.heap.size + 1]? = some (.cells #[.int .i64 b, .int .i64 k] 215 (0, 0))) := by
    have := heap_alloc_new (w.alloc (.cells #[.int .i64 k, .int .i64 b, .int .i64 u, .int .i64 c, .int .i64 a] 34)) (.cells #[.int .i64 b, .int .i64 k] 215)
    unfold Hid
    simpa using this
  go_enter Tryz.func142, Tryz.ntmps142
  go_wp2
  refine bodyPost_ret (results_cell_row keyof_results _ _ (w.heap.size + 1) 215 #[.int .i64 b, .int .i64 k] (0, 0) _ rfl HG.out Tryz.underlying215 rfl pair_info) rfl ?_
  exact ⟨rfl, HB.out⟩
set_option maxHeartbeats 400000 in
theorem all_at (w : World) (q z : Nat) (mo : Option Nat) (h : Hm w q z mo) : Calls Tryz.prog 141 #[.pointer (some ⟨q, z, none⟩)] w fun e w' => e = .returned (.map mo) ∧ w = w' := by
  have c0 := h.c
  clear h
  go_enter Tryz.func141, Tryz.ntmps141
  go_wp2
  go_ret
  exact ⟨rfl, rfl⟩
set_option maxHeartbeats 800000 in
theorem find_by (w : World) (v : Value) (mo : Option Nat) (f : F) (o : Opn) (hb : Bp (o.book, o.kind)) (h : MapIs w mo f) (C : ∀ w', Below w.heap.size w w' → Calls Tryz.prog 141 #[v] w' fun e w'' => e = .returned (.map mo) ∧ w' = w'') (hm : ∀ m, mo = some m → m < w.heap.size) :
    Calls Tryz.prog 121 #[v, opv o] w fun e w' => e = .returned (.tuple #[.int .i64 (f o.book o.kind), .bool (ne0 (f o.book o.kind))]) ∧ Below w.heap.size w w' := by
  have HB : Hid (∀ o, Below w.heap.size w (w.alloc o)) := fun o => (Below.refl _ _).alloc (Nat.le_refl _) _
  have Q1 := fun o d os => Calls.regrown_of ((C (grow (redrawn (w.alloc o) d) os) ((HB.out o).trans ((below_regrown (w.alloc o) d os).mono (by simp)))).mono fun _ _ h => ⟨h.1, by rw [← h.2]; exact Below.refl _ _⟩)
  have Q2 := fun W d os => Calls.regrown_of (keyof_any (grow (redrawn W d) os) o)
  have LK := fun x d os => look_run (grow (redrawn (w.alloc x) d) os) mo f (o.book, o.kind) (h.keep fun m e => ((HB.out x).trans ((below_regrown (w.alloc x) d os).mono (by simp))).block m (hm m e)) hb
  obtain ⟨k, b, u, c, a⟩ := o
  unfold kv at *
  simp only at *
  generalize f b k = x at *
  have N0 := heap_alloc_new w (.cells #[.int .i64 k, .int .i64 b, .int .i64 u, .int .i64 c, .int .i64 a] 34)
  have z0 := cell_regrown (one_at (i := 0) N0)
  have z1 := cell_regrown (one_at (i := 1) N0)
  have z2 := cell_regrown (one_at (i := 2) N0)
  have z3 := cell_regrown (one_at (i := 3) N0)
  have z4 := cell_regrown (one_at (i := 4) N0)
  clear C h hb hm N0
  go_enter Tryz.func121, Tryz.ntmps121
  go_wp2_with fail
  refine wp_region_quiet_below (by kernel_rfl) (by kernel_rfl) ?_
  repeat (go_big_quiet_step (first | with_reducible exact Q1 _ _ _ | with_reducible exact Q2 _ _ _))
  refine wpQuiet_nil ?_
  intro w7 hw'
  obtain ⟨⟨dq, osq⟩, hw7⟩ := hw'
  have be7 : Hid (Below w.heap.size w w7) := by rw [hw7]; exact (HB.out _).trans ((below_regrown _ dq osq).mono (by simp))
  clear hw7
  go_wp2_with fail
  go_ret2
  exact ⟨rfl, be7.out⟩
theorem find_any (w : World) (q z : Nat) (f : F) (fp : Nat → Prop) (L : Tab w q z f fp) (o : Opn) (hb : Bp (o.book, o.kind)) :
    Calls Tryz.prog 121 #[.pointer (some ⟨q, z, none⟩), opv o] w fun e w' => e = .returned (.tuple #[.int .i64 (f o.book o.kind), .bool (ne0 (f o.book o.kind))]) ∧ Below w.heap.size w w' := by
  obtain ⟨mo, h1, h2, h3⟩ := L.at_
  exact find_by w _ mo f o hb h2 (fun w' hb' => all_at w' q z mo (h1.keep (hb'.block q L.lt))) fun m e => L.size m (h3 m e)
end Tb
end Go.Proofs.YtpkdigegkemogaaGreatDoor
namespace Go.Proofs.YtpkdigegkemogaaGreatDoor
set_option maxRecDepth 100000
open Go.RowKit
open Go.Sort (grow)
open Go.Proofs.YtpkdigegkemogaaGreatDoor.Pk (one_at one_free one_set lt_some grown_set grown_trans grown_refl)
namespace Tb
open Wt (Opn mayOp)

theorem map_nil_run (mo : Option Nat) (w : World) : (binOp .eql 162 (.map mo) (.map none)).run Tryz.prog w = .ok (.bool mo.isNone) w := by
  have h : ∀ d : Nat, (Op.equalIn (d + 1) 162 (.map mo) (.map none)).run Tryz.prog w = .ok mo.isNone w := fun d => by
    cases mo <;> simp [Op.equalIn, run_underlying Tryz.underlying162]
  simp only [binOp]
  simp [Op.equal, Op.maxDepth, h 9999]
theorem tab_put {w W w4 : World} {q z m N : Nat} {b k a : Int} {f : F} {D : DataW Value} {fp : Nat → Prop} (O : Ok f) (hb : 1 ≤ b ∧ b ≤ 200) (hk : 1 ≤ k ∧ k ≤ 6) (ha : a = 1 ∨ a = 2) (h0 : f b k = 0) (K : Kz q z fp w W) (pin : fp q) (hsz : ∀ g, fp g → g < w.heap.size)
    (hq : Hm W q z (some m)) (hm : fp m ∨ w.heap.size ≤ m) (hM : W.ownsMap Tryz.prog KT Rdv m N D) (T : Tie D f)
    (h4 : w4.ownsMap Tryz.prog KT Rdv m (N + 1) (D.put (Kl (b, k)) (.held (.int .i64 a)))) (g4 : W.grownBy w4 (some m)) : LTo w q z fp (upd f b k a) w4 := by
  have hqm : q ≠ m := hq.ne_map hM
  have hm4 := h4.lt
  have T4 := T.put hb hk (show a ≠ 0 by omega) h0
  refine ⟨⟨O.upd hb hk ha, .inl pin, fun g hg => ?_, some m, hq.keep (g4.block q hq.lt (fun e => hqm (by injection e))), .inr ⟨m, _, rfl, owns_less h4 T4, T4⟩, fun m' hm' => ?_⟩, ?_⟩
  · rcases hg with hg | ⟨_, hg⟩
    · exact Nat.lt_of_lt_of_le (hsz g hg) (Nat.le_trans K.size g4.size)
    · exact hg
  · injection hm' with hm'
    subst hm'
    rcases hm with h | h
    · exact .inl h
    · exact .inr ⟨h, hm4⟩
  · refine K.trans (.of_grown hq.lt (fun e => hqm (by injection e)) g4 fun g hg => ?_)
    injection hg with hg
    subst hg
    rcases hm with h | h
    · exact .inl h
    · exact .inr ⟨h, hM.lt⟩
set_option maxHeartbeats 1600000 in
theorem add_is (w : World) (q z : Nat) (mo : Option Nat) (f : F) (b k a : Int) (hp : Bp (b, k)) (hf : f b k ≠ 0) (hq : Hm w q z mo) (hM : MapIs w mo f) (hm : ∀ m, mo = some m → m < w.heap.size) :
    Calls Tryz.prog 144 #[.pointer (some ⟨q, z, none⟩), .agg #[.int .i64 b, .int .i64 k], .int .i64 a] w fun e w' => e = .returned (.bool false) ∧ Below w.heap.size w w' := by
  have HB : Hid (∀ o, Below w.heap.size w (w.alloc o).drew) := fun o => below_drew ((Below.refl _ _).alloc (Nat.le_refl _) _)
  have LK := fun x => look_run (w.alloc x).drew mo f (b, k) (hM.keep fun m e => (HB.out x).block m (hm m e)) hp
  have c0 : ∀ o, (w.alloc o).cell? ⟨q, z, none⟩ = some (.map mo) := fun o => (hq.keep (heap_alloc_old w o hq.lt)).c
  unfold kv at LK
  simp only at LK
  rw [ne0_iff.2 hf] at LK
  have c0' := c0 (.cells #[.int .i64 b, .int .i64 k] 215)
  have LK' := LK (.cells #[.int .i64 b, .int .i64 k] 215)
  generalize f b k = x at *
  clear hM hm hq c0 LK
  go_enter Tryz.func144, Tryz.ntmps144
  go_wp2_with fail
  go_region
  go_wp2
  go_ret
  exact ⟨rfl, (HB.out _)⟩
set_option maxHeartbeats 3200000 in
theorem add_some (w : World) (q z m : Nat) (b k a : Int) (f : F) (D : DataW Value) (fp : Nat → Prop) (O : Ok f) (hb : 1 ≤ b ∧ b ≤ 200) (hk : 1 ≤ k ∧ k ≤ 6) (ha : a = 1 ∨ a = 2) (h0 : f b k = 0) (pin : fp q) (hsz : ∀ g, fp g → g < w.heap.size)
    (hq : Hm w q z (some m)) (hm : fp m) (hM : w.ownsMap Tryz.prog KT Rdv m 1200 D) (T : Tie D f) :
    Calls Tryz.prog 144 #[.pointer (some ⟨q, z, none⟩), .agg #[.int .i64 b, .int .i64 k], .int .i64 a] w fun e w' => e = .returned (.bool true) ∧ LTo w q z fp (upd f b k a) w' := by
  have hp : Bp (b, k) := bp_in hb hk
  have NN := map_nil_run (some m)
  simp only [Option.isNone] at NN
  obtain ⟨x, hx⟩ : ∃ x, x = Obj.cells #[.int .i64 b, .int .i64 k] 215 := ⟨_, rfl⟩
  have hW : Hm (w.alloc x) q z (some m) := hq.keep (heap_alloc_old w x hq.lt)
  have hM1 : (w.alloc x).ownsMap Tryz.prog KT Rdv m 1200 D := owns_keep hM (heap_alloc_old w x hM.lt)
  have LK := look_run (w.alloc x).drew (some m) f (b, k) (.inr ⟨m, D, rfl, hM1, T⟩) hp
  have c2 : (w.alloc x).cell? ⟨q, z, none⟩ = some (.map (some m)) := hW.c
  obtain ⟨w4, hrun, hM4, g4⟩ := (show (w.alloc x).drew.drew.ownsMap Tryz.prog KT Rdv m 1200 D from hM1).update law Tryz.underlying162 (by unfold maxLen; omega) (key_of hp) (val := .int .i64 a) (d := .held (.int .i64 a)) (ps := []) rfl
  have E : Hid (LTo w q z fp (upd f b k a) w4) := tab_put O hb hk ha h0 (.of_below hq.lt ((Below.refl _ _).alloc (Nat.le_refl _) x)) pin hsz hW (.inl hm) hM1 T hM4 (drew_grown (drew_grown g4))
  unfold kv at LK hrun
  simp only at LK hrun
  rw [h0, show ne0 0 = false from rfl] at LK
  subst hx
  clear hM4 g4 hM1 hW hq hM T O hb hk ha h0 pin hsz hm hp
  go_enter Tryz.func144, Tryz.ntmps144
  go_wp2_with fail
  go_region
  go_wp2_with fail
  go_region
  go_wp2
  go_ret
  exact ⟨rfl, E.out⟩
set_option maxHeartbeats 3200000 in
theorem add_none (w : World) (q z : Nat) (b k a : Int) (f : F) (fp : Nat → Prop) (O : Ok f) (hb : 1 ≤ b ∧ b ≤ 200) (hk : 1 ≤ k ∧ k ≤ 6) (ha : a = 1 ∨ a = 2) (h0 : f b k = 0) (pin : fp q) (hsz : ∀ g, fp g → g < w.heap.size)
    (hq : Hm w q z none) (hf : f = fz) :
    Calls Tryz.prog 144 #[.pointer (some ⟨q, z, none⟩), .agg #[.int .i64 b, .int .i64 k], .int .i64 a] w fun e w' => e = .returned (.bool true) ∧ LTo w q z fp (upd f b k a) w' := by
  have hp : Bp (b, k) := bp_in hb hk
  have NN := map_nil_run none
  simp only [Option.isNone] at NN
  have hmm := @run_makeMap Tryz.prog
  obtain ⟨x, hx⟩ : ∃ x, x = Obj.cells #[.int .i64 b, .int .i64 k] 215 := ⟨_, rfl⟩
  have hlq := hq.lt
  have LK := look_run (w.alloc x).drew none f (b, k) (.inl ⟨rfl, hf⟩) hp
  have c2 : (w.alloc x).cell? ⟨q, z, none⟩ = some (.map none) := (hq.keep (heap_alloc_old w x hlq)).c
  have f2 : (w.alloc x).frozen? ⟨q, z, none⟩ = false := (hq.keep (heap_alloc_old w x hlq)).free z
  unfold kv at LK
  simp only at LK
  rw [h0, show ne0 0 = false from rfl] at LK
  subst hx
  obtain ⟨m, hm⟩ : ∃ m, m = w.heap.size + 1 := ⟨_, rfl⟩
  obtain ⟨W, hW⟩ : ∃ y, y = (((w.setCell ⟨q, z, none⟩ (.map (some (w.heap.size + 1)))).alloc (.cells #[.int .i64 b, .int .i64 k] 215)).alloc (.map #[] 0)) := ⟨_, rfl⟩
  have e1 : (w.setCell ⟨q, z, none⟩ (.map (some (w.heap.size + 1)))).heap.size = w.heap.size := by simp [World.setCell]
  have KW : Kz q z fp w W := by
    have h1 : Kz q z fp w (w.setCell ⟨q, z, none⟩ (.map (some (w.heap.size + 1)))) := ⟨.of_grown (grown_set w q z _) (fun g e => by injection e with e; subst e; exact pin), hq.rest _⟩
    rw [hW]
    exact h1.trans (.of_below (by rw [e1]; exact hlq) (((Below.refl _ _).alloc (Nat.le_refl _) _).alloc (by simp) _))
  have hqW : Hm W q z (some m) := by
    have hl := hq.lt
    refine (hm ▸ hq.set (some (w.heap.size + 1)) : Hm (w.setCell ⟨q, z, none⟩ (.map (some (w.heap.size + 1)))) q z (some m)).keep ?_
    rw [hW, heap_alloc_old _ _ (by simp [e1]; omega), heap_alloc_old _ _ (by omega)]
  have hM : W.ownsMap Tryz.prog KT Rdv m 0 (.map []) := by
    have := World.ownsMap_made ((w.setCell ⟨q, z, none⟩ (.map (some (w.heap.size + 1)))).alloc (.cells #[.int .i64 b, .int .i64 k] 215)) Tryz.prog KT Rdv
    rw [hW, hm]
    simpa [e1] using this
  have hn : W.heap[w.heap.size]? = some (.cells #[.int .i64 b, .int .i64 k] 215 (0, 0)) := by
    have := heap_alloc2_old (w.setCell ⟨q, z, none⟩ (.map (some (w.heap.size + 1)))) (.cells #[.int .i64 b, .int .i64 k] 215) (.map #[] 0)
    rw [e1] at this
    rw [hW]
    exact this
  obtain ⟨w4, hrun, hM4, g4⟩ := (show W.drew.drew.ownsMap Tryz.prog KT Rdv m 0 (.map []) from hM).update law Tryz.underlying162 (by unfold maxLen; omega) (key_of hp) (val := .int .i64 a) (d := .held (.int .i64 a)) (ps := []) rfl
  have E : Hid (LTo w q z fp (upd f b k a) w4) := tab_put O hb hk ha h0 KW pin hsz hqW (.inr (by omega)) hM (hf ▸ Tie.start) hM4 (drew_grown (drew_grown g4))
  have b0 : W.cell? ⟨w.heap.size, 0, none⟩ = some (.int .i64 b) := one_at (i := 0) hn
  have b1 : W.cell? ⟨w.heap.size, 1, none⟩ = some (.int .i64 k) := one_at (i := 1) hn
  have d2 : W.cell? ⟨q, z, none⟩ = some (.map (some m)) := hqW.c
  unfold kv at hrun
  simp only at hrun
  rw [hm] at hrun d2
  rw [hW] at hrun d2 b0 b1
  clear hM4 g4 hn hM hqW KW e1 hW hm hf hq hsz pin h0 ha hk hb O hp
  go_enter Tryz.func144, Tryz.ntmps144
  go_wp2_with fail
  go_region
  go_wp2_with fail
  go_region
  go_wp2
  go_ret
  exact ⟨rfl, E.out⟩
theorem add_any (w : World) (q z : Nat) (b k a : Int) (f : F) (fp : Nat → Prop) (L : Tab w q z f fp) (hb : 1 ≤ b ∧ b ≤ 200) (hk : 1 ≤ k ∧ k ≤ 6) (ha : a = 1 ∨ a = 2) :
    Calls Tryz.prog 144 #[.pointer (some ⟨q, z, none⟩), .agg #[.int .i64 b, .int .i64 k], .int .i64 a] w fun e w' => e = .returned (.bool (f b k == 0)) ∧ LTo w q z fp (if f b k = 0 then upd f b k a else f) w' := by
  obtain ⟨mo, h1, h2, h3⟩ := L.at_
  by_cases h0 : f b k = 0
  · rw [if_pos h0, h0]
    rcases h2 with ⟨rfl, hf⟩ | ⟨m, D, rfl, ho, T⟩
    · exact add_none w q z b k a f fp L.ok hb hk ha h0 L.pin L.size h1 hf
    · exact add_some w q z m b k a f D fp L.ok hb hk ha h0 L.pin L.size h1 (h3 m rfl) ho T
  · rw [if_neg h0]
    refine (add_is w q z mo f b k a (bp_in hb hk) h0 h1 h2 fun m e => L.size m (h3 m e)).mono ?_
    rintro e w' ⟨rfl, hbl⟩
    exact ⟨by rw [beq_eq_false_iff_ne.2 h0], LTo.of_below L hbl⟩
end Tb
end Go.Proofs.YtpkdigegkemogaaGreatDoor
namespace Go.Proofs.YtpkdigegkemogaaGreatDoor
set_option maxRecDepth 100000
open Go.RowKit
open Go.Sort (grow)
open Go.Proofs.YtpkdigegkemogaaGreatDoor.Pk (one_at one_free one_set lt_some grown_set grown_trans grown_refl)
namespace Tb
open Wt (Opn mayOp)

set_option maxHeartbeats 800000 in
theorem put_no (w : World) (q z : Nat) (o : Opn) (a : Int) (h : (mayOp o && mayA a) = false) : Calls Tryz.prog 122 #[.pointer (some ⟨q, z, none⟩), opv o, .int .i64 a] w fun e w' => e = .returned (.bool false) ∧ Below w.heap.size w w' := by
  have HB : Hid (∀ o, Below w.heap.size w (w.alloc o)) := fun o => (Below.refl _ _).alloc (Nat.le_refl _) _
  have M1 := fun w => Wt.mayop_any w o
  have M2 := fun w => maya_any w a
  cases h1 : mayOp o with
  | false =>
    rw [h1] at M1
    obtain ⟨k, b, u, c, m⟩ := o
    simp only at M1
    clear h h1 M2
    go_enter Tryz.func122, Tryz.ntmps122
    go_wp2_with fail
    refine (M1 _).mono ?_
    rintro e w1 ⟨rfl, b1⟩
    have B1 : Hid (Below w.heap.size w w1) := (HB.out _).trans (b1.mono (by simp))
    clear M1 b1
    go_wp2
    go_ret
    exact ⟨rfl, B1.out⟩
  | true =>
    rw [h1, Bool.true_and] at h
    rw [h1] at M1
    rw [h] at M2
    obtain ⟨k, b, u, c, m⟩ := o
    simp only at M1
    clear h h1
    go_enter Tryz.func122, Tryz.ntmps122
    go_wp2_with fail
    refine (M1 _).mono ?_
    rintro e w1 ⟨rfl, b1⟩
    have B1 : Hid (Below w.heap.size w w1) := (HB.out _).trans (b1.mono (by simp))
    clear M1 b1
    go_wp2_with fail
    refine (M2 _).mono ?_
    rintro e w2 ⟨rfl, rfl⟩
    clear M2
    go_wp2
    go_ret
    exact ⟨rfl, B1.out⟩
theorem add_at (w w6 : World) (q z : Nat) (f : F) (fp : Nat → Prop) (L : Tab w q z f fp) (b k a : Int) (hb : 1 ≤ b ∧ b ≤ 200) (hk : 1 ≤ k ∧ k ≤ 6) (ha : a = 1 ∨ a = 2) (h6 : Below w.heap.size w w6) :
    Calls Tryz.prog 144 #[.pointer (some ⟨q, z, none⟩), .agg #[.int .i64 b, .int .i64 k], .int .i64 a] w6 fun e w' => e = .returned (.bool (f b k == 0)) ∧ LTo w q z fp (if f b k = 0 then upd f b k a else f) w' := by
  have K := LTo.of_below L h6
  refine (add_any w6 q z b k a f (grq fp w w6) K.1 hb hk ha).mono ?_
  rintro e w' ⟨rfl, h⟩
  exact ⟨rfl, K.trans h⟩
set_option maxHeartbeats 1600000 in
theorem put_any (w : World) (q z : Nat) (f : F) (fp : Nat → Prop) (L : Tab w q z f fp) (o : Opn) (a : Int) :
    Calls Tryz.prog 122 #[.pointer (some ⟨q, z, none⟩), opv o, .int .i64 a] w fun e w' => e = .returned (.bool (put? f o a)) ∧ LTo w q z fp (putF f o a) w' := by
  cases h : (mayOp o && mayA a) with
  | false =>
    refine (put_no w q z o a h).mono ?_
    rintro e w' ⟨rfl, hb⟩
    have e : put? f o a = false := by unfold put?; rw [h]; rfl
    unfold putF
    rw [e]
    exact ⟨rfl, LTo.of_below L hb⟩
  | true =>
    obtain ⟨h1, h2⟩ := (Bool.and_eq_true _ _).mp h
    have HB : Hid (∀ o, Below w.heap.size w (w.alloc o)) := fun o => (Below.refl _ _).alloc (Nat.le_refl _) _
    have M1 := fun w => Wt.mayop_any w o
    have M2 := fun w => maya_any w a
    rw [h1] at M1
    rw [h2] at M2
    obtain ⟨b1, b2⟩ := mayop_bds h1
    have A := Lib.hid (fun w6 (h6 : Below w.heap.size w w6) => add_at w w6 q z f fp L o.book o.kind a b1 b2 (maya_iff.1 h2) h6)
    have e : Hid (put? f o a = (f o.book o.kind == 0) ∧ putF f o a = if f o.book o.kind = 0 then upd f o.book o.kind a else f) := by
      have e1 : put? f o a = (f o.book o.kind == 0) := by unfold put?; rw [h, Bool.true_and]
      refine ⟨e1, ?_⟩
      unfold putF
      rw [e1]
      by_cases h0 : f o.book o.kind = 0
      · rw [if_pos h0, if_pos (by rw [h0]; rfl)]
      · rw [if_neg h0, if_neg (by rw [beq_iff_eq]; exact h0)]
    rw [e.out.1, e.out.2]
    have KO := Lib.hid (fun w => keyof_any w o)
    obtain ⟨k, b, u, c, m⟩ := o
    unfold kv at KO
    simp only at M1 A KO ⊢
    generalize (if f b k = 0 then upd f b k a else f) = f' at *
    generalize (f b k == 0) = r at *
    clear h h1 h2 b1 b2 L e
    go_enter Tryz.func122, Tryz.ntmps122
    go_wp2_with fail
    refine (M1 _).mono ?_
    rintro e w1 ⟨rfl, b1⟩
    have N1 := (b1.block w.heap.size (by simp)).trans (heap_alloc_new w _)
    have z0 := one_at (i := 0) N1
    have z1 := one_at (i := 1) N1
    have z2 := one_at (i := 2) N1
    have z3 := one_at (i := 3) N1
    have z4 := one_at (i := 4) N1
    have B1 : Hid (Below w.heap.size w w1) := (HB.out _).trans (b1.mono (by simp))
    clear M1 b1 N1
    go_wp2_with fail
    refine (M2 _).mono ?_
    rintro e w2 ⟨rfl, rfl⟩
    clear M2
    go_wp2_with fail
    go_region_with (first
      | (go_at_call 142; refine (KO.out _).mono ?_; rintro e w6 ⟨rfl, h6⟩; have B6 : Hid (Below w.heap.size w w6) := (below_drew B1.out).trans (h6.mono B1.out.size); clear h6)
      | (go_at_call 144; refine (A.out _ B6.out).mono ?_; rintro e w7 ⟨rfl, h7⟩; replace h7 := Lib.hid h7))
    go_wp2
    go_ret
    exact ⟨rfl, h7.out⟩
end Tb
end Go.Proofs.YtpkdigegkemogaaGreatDoor
