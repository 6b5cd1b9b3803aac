/- Held, Confirmed, Free; New; a booking's entry is put. -/
import Derived.Test.YtchlbkfkecpodaaGreatStB
import Derived.Lib.QuietBelow
import Derived.Deep.RegionLaw
import Derived.BigRegion
import Derived.RegionTactic
namespace Go.Proofs.YtchlbkfkecpodaaGreat
set_option maxRecDepth 100000
open Go.RowKit
open Go.Sort (grow)
open Go.Proofs.YtchlbkfkecpodaaGreat.Pk (one_at one_free one_set lt_some grown_set grown_trans below_grown grown_refl)
namespace St

set_option maxHeartbeats 400000 in
theorem held_any (w : World) (q : Nat) (cap over : Int) (f : F) (fp : Nat → Prop) (L : Led w q cap over f fp) : Calls Tryz.prog 36 #[.pointer (some ⟨q, 0, none⟩)] w fun e w' => e = .returned (.int .i64 (uni 1 f)) ∧ Below w.heap.size w w' := by
  have U := units_any w q cap over f fp L 1 (.inl rfl)
  go_enter Tryz.func36, Tryz.ntmps36
  go_wp2_with fail
  refine U.mono ?_
  rintro e w1 ⟨rfl, h⟩
  replace h := Lib.hid h
  clear U
  go_wp2
  go_ret
  exact ⟨rfl, h.out⟩
set_option maxHeartbeats 400000 in
theorem conf_any (w : World) (q : Nat) (cap over : Int) (f : F) (fp : Nat → Prop) (L : Led w q cap over f fp) : Calls Tryz.prog 37 #[.pointer (some ⟨q, 0, none⟩)] w fun e w' => e = .returned (.int .i64 (uni 2 f)) ∧ Below w.heap.size w w' := by
  have U := units_any w q cap over f fp L 2 (.inr rfl)
  go_enter Tryz.func37, Tryz.ntmps37
  go_wp2_with fail
  refine U.mono ?_
  rintro e w1 ⟨rfl, h⟩
  replace h := Lib.hid h
  clear U
  go_wp2
  go_ret
  exact ⟨rfl, h.out⟩
set_option maxHeartbeats 400000 in
theorem held_nil (w : World) : Calls Tryz.prog 36 #[.pointer none] w fun e w' => e = .returned (.int .i64 0) ∧ w = w' := by
  have U := units_nil w 1
  go_enter Tryz.func36, Tryz.ntmps36
  go_wp2_with fail
  refine U.mono ?_
  rintro e w1 ⟨rfl, rfl⟩
  go_wp2
  go_ret
  exact ⟨rfl, rfl⟩
set_option maxHeartbeats 400000 in
theorem conf_nil (w : World) : Calls Tryz.prog 37 #[.pointer none] w fun e w' => e = .returned (.int .i64 0) ∧ w = w' := by
  have U := units_nil w 2
  go_enter Tryz.func37, Tryz.ntmps37
  go_wp2_with fail
  refine U.mono ?_
  rintro e w1 ⟨rfl, rfl⟩
  go_wp2
  go_ret
  exact ⟨rfl, rfl⟩
theorem free_nil (w : World) : Calls Tryz.prog 18 #[.pointer none] w fun e w' => e = .returned (.int .i64 0) ∧ w = w' := by
  go_enter Tryz.func18, Tryz.ntmps18
  go_wp2
  go_ret
  exact ⟨rfl, rfl⟩
set_option maxHeartbeats 1600000 in
theorem free_any (w : World) (q : Nat) (cap over : Int) (f : F) (fp : Nat → Prop) (L : Led w q cap over f fp) : Calls Tryz.prog 18 #[.pointer (some ⟨q, 0, none⟩)] w fun e w' => e = .returned (.int .i64 (room cap over f)) ∧ Below w.heap.size w w' := by
  obtain ⟨c0, c1, _, _⟩ := L.cells
  have Q1 := fun d os => Calls.regrown_of (held_any _ q cap over f fp (L.below (below_regrown w d os)))
  have Q2 := fun d os => Calls.regrown_of (conf_any _ q cap over f fp (L.below (below_regrown w d os)))
  have z0 := cell_regrown c0
  have z1 := cell_regrown c1
  obtain ⟨h0, h1, h2, h3, h4, h5⟩ := L.ok.bds
  have hc0 := L.ok.c0
  have hc1 := L.ok.c1
  have ho0 := L.ok.o0
  have ho1 := L.ok.o1
  obtain ⟨r, hr⟩ : ∃ r, r = room cap over f := ⟨_, rfl⟩
  rw [← hr]
  unfold room at hr
  generalize uni 1 f = a at *
  generalize uni 2 f = b at *
  obtain ⟨s, hs⟩ : ∃ s, s = cap + over := ⟨_, rfl⟩
  obtain ⟨s1, hs1⟩ : ∃ z, z = s - a := ⟨_, rfl⟩
  have e0 : IntKind.i64.wrap (cap + over) = s := by rw [IntKind.wrap_i64]; omega
  have e1 : IntKind.i64.wrap (s - a) = s1 := by rw [IntKind.wrap_i64]; omega
  have e2 : IntKind.i64.wrap (s1 - b) = r := by rw [IntKind.wrap_i64]; omega
  clear h0 h1 h2 h3 h4 h5 hc0 hc1 ho0 ho1 hr hs hs1 c0 c1 L
  go_enter Tryz.func18, Tryz.ntmps18
  go_wp2_with fail
  refine wp_region_quiet_below (by kernel_rfl) (by kernel_rfl) ?_
  repeat (go_big_quiet_step (first | with_reducible exact Q1 _ _ | with_reducible exact Q2 _ _))
  refine wpQuiet_nil ?_
  intro w7 hw'
  obtain ⟨⟨dq, osq⟩, hw7⟩ := hw'
  have be7 : Hid (Below w.heap.size w w7) := by rw [hw7]; exact below_regrown w dq osq
  clear hw7
  go_wp2_with fail
  go_ret
  exact ⟨rfl, be7.out⟩

/-! ### New -/
def mayS (cap over : Int) : Bool := inb cap 1000000 && inb over 1000000
theorem mayS_iff {cap over : Int} : mayS cap over = true ↔ (0 ≤ cap ∧ cap ≤ 1000000) ∧ 0 ≤ over ∧ over ≤ 1000000 := by simp [mayS, inb]
set_option maxHeartbeats 800000 in
theorem new_no (w : World) (cap over : Int) (h : mayS cap over = false) : Calls Tryz.prog 17 #[.agg #[.int .i64 cap, .int .i64 over]] w fun e w' => e = .returned (.tuple #[.pointer none, .int .i64 1]) ∧ Below w.heap.size w w' := by
  have HB : Hid (Below w.heap.size w (w.alloc (.cells #[.int .i64 cap, .int .i64 over] 23))) := (Below.refl _ _).alloc (Nat.le_refl _) _
  unfold mayS at h
  cases h1 : inb cap 1000000 with
  | false =>
    have M1 := fun w => mayRoom_any w cap
    rw [h1] at M1
    clear h h1
    go_enter Tryz.func17, Tryz.ntmps17
    go_wp2_with (go_at_call 44; refine (M1 _).mono ?_; rintro e w' ⟨rfl, rfl⟩)
    go_ret2
    exact ⟨rfl, HB.out⟩
  | true =>
    rw [h1, Bool.true_and] at h
    have M1 := fun w => mayRoom_any w cap
    have M2 := fun w => mayRoom_any w over
    rw [h1] at M1
    rw [h] at M2
    clear h h1
    go_enter Tryz.func17, Tryz.ntmps17
    go_wp2_with (go_at_call 44; first | (with_reducible refine (M1 _).mono ?_; rintro e w' ⟨rfl, rfl⟩) | (with_reducible refine (M2 _).mono ?_; rintro e w' ⟨rfl, rfl⟩))
    go_ret2
    exact ⟨rfl, HB.out⟩
set_option maxHeartbeats 800000 in
theorem new_yes (w : World) (cap over : Int) (h : mayS cap over = true) : Calls Tryz.prog 17 #[.agg #[.int .i64 cap, .int .i64 over]] w fun e w' => ∃ q, e = .returned (.tuple #[.pointer (some ⟨q, 0, none⟩), .int .i64 0]) ∧ w.heap.size ≤ q ∧ Led w' q cap over fz (fun g => g = q) ∧ Below w.heap.size w w' := by
  obtain ⟨⟨a0, a1⟩, b0, b1⟩ := mayS_iff.1 h
  have HB : Hid (Below w.heap.size w ((w.alloc (.cells #[.int .i64 cap, .int .i64 over] 23)).alloc (.cells #[.int .i64 cap, .int .i64 over, .map none] 66))) := ((Below.refl _ _).alloc (Nat.le_refl _) _).alloc (by simp) _
  have HL : Hid (Led ((w.alloc (.cells #[.int .i64 cap, .int .i64 over] 23)).alloc (.cells #[.int .i64 cap, .int .i64 over, .map none] 66)) (w.heap.size + 1) cap over fz (fun g => g = w.heap.size + 1)) :=
    ⟨ok_z a0 a1 b0 b1, rfl, fun g hg => by rw [hg]; simp, none, .of_row (l := []) (by
      have := heap_alloc_new (w.alloc (.cells #[.int .i64 cap, .int .i64 over] 23)) (.cells #[.int .i64 cap, .int .i64 over, .map none] 66)
      simpa using this), .inl ⟨rfl, rfl⟩, fun m hm => (nomatch hm)⟩
  unfold mayS at h
  rw [Bool.and_eq_true] at h
  have M1 := fun w => mayRoom_any w cap
  have M2 := fun w => mayRoom_any w over
  rw [h.1] at M1
  rw [h.2] at M2
  clear h a0 a1 b0 b1
  go_enter Tryz.func17, Tryz.ntmps17
  go_wp2_with (go_at_call 44; first | (with_reducible refine (M1 _).mono ?_; rintro e w' ⟨rfl, rfl⟩) | (with_reducible refine (M2 _).mono ?_; rintro e w' ⟨rfl, rfl⟩))
  go_ret2
  exact ⟨_, rfl, Nat.le_succ _, HL.out, HB.out⟩

/-! ### put -/
theorem map_nil_run (mo : Option Nat) (w : World) : (binOp .eql 64 (.map mo) (.map none)).run Tryz.prog w = .ok (.bool mo.isNone) w := by
  have h : ∀ d : Nat, (Op.equalIn (d + 1) 64 (.map mo) (.map none)).run Tryz.prog w = .ok mo.isNone w := fun d => by
    cases mo <;> simp [Op.equalIn, run_underlying Tryz.underlying64]
  simp only [binOp]
  simp [Op.equal, Op.maxDepth, h 9999]
theorem grown_drew {w w' : World} {o : Option Nat} (h : w.grownBy w' o) : w.grownBy w'.drew o := ⟨h.os, h.tape, h.output, h.size, h.block⟩
theorem drew_grown {w w' : World} {o : Option Nat} (h : w.drew.grownBy w' o) : w.grownBy w' o := ⟨h.os, h.tape, h.output, h.size, h.block⟩
/-- Behind the map's update. -/
theorem led_put {w W w4 : World} {q m N : Nat} {cap over b : Int} {f : F} {D : DataW Value} {e : E} {fp : Nat → Prop} (O : Ok cap over (upd f b e)) (hb1 : 1 ≤ b) (hb2 : b ≤ 200) (he : e.st ≠ 0) (K : Kt q 3 fp w W) (pin : fp q) (hsz : ∀ g, fp g → g < w.heap.size)
    (hq : Hb W q cap over (some m)) (hm : fp m ∨ w.heap.size ≤ m) (hM : W.ownsMap Tryz.prog 3 Rdv m N D) (T : Tie D f)
    (h4 : w4.ownsMap Tryz.prog 3 Rdv m (N + 1) (D.put (lk b) (.held (cell e)))) (g4 : W.grownBy w4 (some m)) : LTo w q cap over fp (upd f b e) w4 := by
  have hqm : q ≠ m := hq.ne_map hM
  have hm4 := h4.lt
  refine ⟨⟨O, .inl pin, fun g hg => ?_, some m, hq.keep (g4.block q hq.lt (fun e => hqm (by injection e))), .inr ⟨m, _, rfl, owns_less h4 (T.put hb1 hb2 he), T.put hb1 hb2 he⟩, fun m' hm' => ?_⟩, ?_⟩
  · rcases hg with hg | ⟨_, hg⟩
    · exact Nat.lt_of_lt_of_le (hsz g hg) (Nat.le_trans K.size g4.size)
    · exact hg
  · injection hm' with hm'
    subst hm'
    rcases hm with h | h
    · exact .inl h
    · exact .inr ⟨h, hm4⟩
  · refine K.trans (.of_grown hq.lt (fun e => hqm (by injection e)) g4 fun g hg => ?_)
    injection hg with hg
    subst hg
    rcases hm with h | h
    · exact .inl h
    · exact .inr ⟨h, hM.lt⟩
set_option maxHeartbeats 1600000 in
theorem put_some (w : World) (q m : Nat) (cap over b : Int) (f : F) (D : DataW Value) (e : E) (fp : Nat → Prop) (O : Ok cap over (upd f b e)) (hb1 : 1 ≤ b) (hb2 : b ≤ 200) (he : e.st ≠ 0) (pin : fp q) (hsz : ∀ g, fp g → g < w.heap.size)
    (hq : Hb w q cap over (some m)) (hm : fp m) (hM : w.ownsMap Tryz.prog 3 Rdv m 200 D) (T : Tie D f) :
    Calls Tryz.prog 59 #[.pointer (some ⟨q, 0, none⟩), .int .i64 b, cell e] w fun r w' => r = .returned (.tuple #[]) ∧ LTo w q cap over fp (upd f b e) w' := by
  have NN := map_nil_run (some m)
  simp only [Option.isNone] at NN
  have c2 : ∀ o, (w.alloc o).cell? ⟨q, 2, none⟩ = some (.map (some m)) := fun o => (hq.keep (heap_alloc_old w o hq.lt)).c2
  have hW : ∀ o, Hid (Hb (w.alloc o) q cap over (some m)) := fun o => hq.keep (heap_alloc_old w o hq.lt)
  have hM1 : ∀ o, (w.alloc o).drew.ownsMap Tryz.prog 3 Rdv m 200 D := fun o => owns_keep hM (heap_alloc_old w o hM.lt)
  obtain ⟨a, u, t⟩ := e
  obtain ⟨w4, hrun, hM4, g4⟩ := (hM1 (.cells #[.int .i64 a, .int .i64 u, .int .i64 t, .int .i64 0, .int .i64 0] 32)).update law Tryz.underlying64 (by unfold maxLen; omega) (key_of (k := b) ⟨by omega, by omega⟩)
    (val := cell ⟨a, u, t⟩) (d := .held (cell ⟨a, u, t⟩)) (ps := []) rfl
  have E : Hid (LTo w q cap over fp (upd f b ⟨a, u, t⟩) w4) := led_put O hb1 hb2 he (.of_below hq.lt ((Below.refl _ _).alloc (Nat.le_refl _) _)) pin hsz (hW _).out (.inl hm) (hM1 _) T hM4 (drew_grown g4)
  unfold cell at hrun ⊢
  have c2' := c2 (.cells #[.int .i64 a, .int .i64 u, .int .i64 t, .int .i64 0, .int .i64 0] 32)
  clear hM4 g4 hM1 hW c2 hq hM T O hb1 hb2 he pin hsz hm
  go_enter Tryz.func59, Tryz.ntmps59
  go_wp2
  go_region
  go_end0
  exact ⟨rfl, E.out⟩
set_option maxHeartbeats 1600000 in
theorem put_none (w : World) (q : Nat) (cap over b : Int) (f : F) (e : E) (fp : Nat → Prop) (O : Ok cap over (upd f b e)) (hb1 : 1 ≤ b) (hb2 : b ≤ 200) (he : e.st ≠ 0) (pin : fp q) (hsz : ∀ g, fp g → g < w.heap.size)
    (hq : Hb w q cap over none) (hf : f = fz) :
    Calls Tryz.prog 59 #[.pointer (some ⟨q, 0, none⟩), .int .i64 b, cell e] w fun r w' => r = .returned (.tuple #[]) ∧ LTo w q cap over fp (upd f b e) w' := by
  have NN := map_nil_run none
  simp only [Option.isNone] at NN
  have hmm := @run_makeMap Tryz.prog
  have c2 : w.cell? ⟨q, 2, none⟩ = some (.map none) := hq.c2
  have f2 : w.frozen? ⟨q, 2, none⟩ = false := hq.free 2
  have hlq := hq.lt
  obtain ⟨a, u, t⟩ := e
  obtain ⟨m, hm⟩ : ∃ m, m = w.heap.size + 1 := ⟨_, rfl⟩
  obtain ⟨W, hW⟩ : ∃ z, z = (((w.setCell ⟨q, 2, none⟩ (.map (some (w.heap.size + 1)))).alloc (.cells #[.int .i64 a, .int .i64 u, .int .i64 t, .int .i64 0, .int .i64 0] 32)).alloc (.map #[] 0)) := ⟨_, rfl⟩
  have e1 : (w.setCell ⟨q, 2, none⟩ (.map (some (w.heap.size + 1)))).heap.size = w.heap.size := by simp [World.setCell]
  have KW : Kt q 3 fp w W := by
    have h1 : Kt q 3 fp w (w.setCell ⟨q, 2, none⟩ (.map (some (w.heap.size + 1)))) := ⟨.of_grown (grown_set w q 2 _) (fun g e => by injection e with e; subst e; exact pin), hq.tail _⟩
    rw [hW]
    exact h1.trans (.of_below (by rw [e1]; exact hlq) (((Below.refl _ _).alloc (Nat.le_refl _) _).alloc (by simp) _))
  have hqW : Hb W q cap over (some m) := by
    have hl := hq.lt
    refine (hm ▸ hq.set (some (w.heap.size + 1)) : Hb (w.setCell ⟨q, 2, none⟩ (.map (some (w.heap.size + 1)))) q cap over (some m)).keep ?_
    rw [hW, heap_alloc_old _ _ (by simp [e1]; omega), heap_alloc_old _ _ (by omega)]
  have hM : W.ownsMap Tryz.prog 3 Rdv m 0 (.map []) := by
    have := World.ownsMap_made ((w.setCell ⟨q, 2, none⟩ (.map (some (w.heap.size + 1)))).alloc (.cells #[.int .i64 a, .int .i64 u, .int .i64 t, .int .i64 0, .int .i64 0] 32)) Tryz.prog 3 Rdv
    rw [hW, hm]
    simpa [e1] using this
  have hn : W.heap[w.heap.size]? = some (.cells #[.int .i64 a, .int .i64 u, .int .i64 t, .int .i64 0, .int .i64 0] 32 (0, 0)) := by
    have := heap_alloc2_old (w.setCell ⟨q, 2, none⟩ (.map (some (w.heap.size + 1)))) (.cells #[.int .i64 a, .int .i64 u, .int .i64 t, .int .i64 0, .int .i64 0] 32) (.map #[] 0)
    rw [e1] at this
    rw [hW]
    exact this
  have hM1 : W.drew.ownsMap Tryz.prog 3 Rdv m 0 (.map []) := hM
  obtain ⟨w4, hrun, hM4, g4⟩ := hM1.update law Tryz.underlying64 (by unfold maxLen; omega) (key_of (k := b) ⟨by omega, by omega⟩) (val := cell ⟨a, u, t⟩) (d := .held (cell ⟨a, u, t⟩)) (ps := []) rfl
  have E : Hid (LTo w q cap over fp (upd f b ⟨a, u, t⟩) w4) := led_put O hb1 hb2 he KW pin hsz hqW (.inr (by omega)) hM (hf ▸ Tie.start) hM4 (drew_grown g4)
  have b0 : W.cell? ⟨w.heap.size, 0, none⟩ = some (.int .i64 a) := one_at (i := 0) hn
  have b1 : W.cell? ⟨w.heap.size, 1, none⟩ = some (.int .i64 u) := one_at (i := 1) hn
  have b2 : W.cell? ⟨w.heap.size, 2, none⟩ = some (.int .i64 t) := one_at (i := 2) hn
  have b3 : W.cell? ⟨w.heap.size, 3, none⟩ = some (.int .i64 0) := one_at (i := 3) hn
  have b4 : W.cell? ⟨w.heap.size, 4, none⟩ = some (.int .i64 0) := one_at (i := 4) hn
  have d2 : W.cell? ⟨q, 2, none⟩ = some (.map (some m)) := hqW.c2
  unfold cell at hrun ⊢
  replace hm := Lib.hid hm
  replace hW := Lib.hid hW
  clear hM4 g4 hM1 hM hqW hn KW e1 hq O hb1 hb2 he pin hsz hf
  go_enter Tryz.func59, Tryz.ntmps59
  go_wp2
  rw [← hW.out, ← hm.out]
  go_region
  go_end0
  exact ⟨rfl, E.out⟩
theorem put_any (w : World) (q : Nat) (cap over b : Int) (f : F) (e : E) (fp : Nat → Prop) (L : Led w q cap over f fp) (O : Ok cap over (upd f b e)) (hb1 : 1 ≤ b) (hb2 : b ≤ 200) (he : e.st ≠ 0) :
    Calls Tryz.prog 59 #[.pointer (some ⟨q, 0, none⟩), .int .i64 b, cell e] w fun r w' => r = .returned (.tuple #[]) ∧ LTo w q cap over fp (upd f b e) w' := by
  obtain ⟨mo, h1, h2, h3⟩ := L.at_
  rcases h2 with ⟨rfl, hf⟩ | ⟨m, D, rfl, ho, T⟩
  · exact put_none w q cap over b f e fp O hb1 hb2 he L.pin L.size h1 hf
  · exact put_some w q m cap over b f D e fp O hb1 hb2 he L.pin L.size h1 (h3 m rfl) ho T
set_option maxHeartbeats 800000 in
theorem end_any (w : World) (q : Nat) (cap over b : Int) (f : F) (fp : Nat → Prop) (L : Led w q cap over f fp) (hb1 : 1 ≤ b) (hb2 : b ≤ 200) :
    Calls Tryz.prog 43 #[.pointer (some ⟨q, 0, none⟩), .int .i64 b] w fun r w' => r = .returned (.tuple #[]) ∧ LTo w q cap over fp (upd f b eg) w' := by
  have PU := put_any w q cap over b f eg fp L (ok_gone L.ok hb1 hb2) hb1 hb2 (by decide)
  unfold cell eg at PU
  replace PU := Lib.hid PU
  clear L
  go_enter Tryz.func43, Tryz.ntmps43
  go_wp2_with fail
  refine PU.out.mono ?_
  rintro e w1 ⟨rfl, h⟩
  replace h := Lib.hid h
  clear PU
  go_wp2
  go_end0
  exact ⟨rfl, h.out⟩
end St
end Go.Proofs.YtchlbkfkecpodaaGreat
