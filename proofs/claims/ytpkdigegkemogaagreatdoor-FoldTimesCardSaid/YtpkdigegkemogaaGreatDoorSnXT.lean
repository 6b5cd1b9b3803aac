/- Parts of the claim: StC, StI, StD, StE -/
import Derived.Lib.QuietBelow
import Derived.Deep.RegionLaw
import Derived.BigRegion
import Derived.RegionTactic
import Derived.Shelf.SortM.Plain
import Derived.Shelf.SortM.SortNone
import Derived.Shelf.SlMaps.Clone
import Derived.Test.YtpkdigegkemogaaGreatDoorProg
import Derived.Sort.OwnSortedInts
import Derived.Test.YtpkdigegkemogaaGreatDoorSmXT
import Derived.Test.YtpkdigegkemogaaGreatDoorInAT
namespace Go.Proofs.YtpkdigegkemogaaGreatDoor
set_option maxRecDepth 100000
open Go.RowKit
open Go.Sort (grow)
open Go.Proofs.YtpkdigegkemogaaGreatDoor.Pk (one_at one_free one_set lt_some grown_set grown_trans grown_refl)
namespace St

set_option maxHeartbeats 400000 in
theorem held_any (w : World) (q : Nat) (cap over : Int) (f : F) (fp : Nat → Prop) (L : Led w q cap over f fp) : Calls Tryz.prog 139 #[.pointer (some ⟨q, 0, none⟩)] w fun e w' => e = .returned (.int .i64 (uni 1 f)) ∧ Below w.heap.size w w' := by
  have U := units_any w q cap over f fp L 1 (.inl rfl)
  go_enter Tryz.func139, Tryz.ntmps139
  go_wp2_with fail
  refine U.mono ?_
  rintro e w1 ⟨rfl, h⟩
  replace h := Lib.hid h
  clear U
  go_wp2
  go_ret
  exact ⟨rfl, h.out⟩
set_option maxHeartbeats 400000 in
theorem conf_any (w : World) (q : Nat) (cap over : Int) (f : F) (fp : Nat → Prop) (L : Led w q cap over f fp) : Calls Tryz.prog 140 #[.pointer (some ⟨q, 0, none⟩)] w fun e w' => e = .returned (.int .i64 (uni 2 f)) ∧ Below w.heap.size w w' := by
  have U := units_any w q cap over f fp L 2 (.inr rfl)
  go_enter Tryz.func140, Tryz.ntmps140
  go_wp2_with fail
  refine U.mono ?_
  rintro e w1 ⟨rfl, h⟩
  replace h := Lib.hid h
  clear U
  go_wp2
  go_ret
  exact ⟨rfl, h.out⟩
set_option maxHeartbeats 1600000 in
theorem free_any (w : World) (q : Nat) (cap over : Int) (f : F) (fp : Nat → Prop) (L : Led w q cap over f fp) : Calls Tryz.prog 118 #[.pointer (some ⟨q, 0, none⟩)] w fun e w' => e = .returned (.int .i64 (room cap over f)) ∧ Below w.heap.size w w' := by
  obtain ⟨c0, c1, _, _⟩ := L.cells
  have Q1 := fun d os => Calls.regrown_of (held_any _ q cap over f fp (L.below (below_regrown w d os)))
  have Q2 := fun d os => Calls.regrown_of (conf_any _ q cap over f fp (L.below (below_regrown w d os)))
  have z0 := cell_regrown c0
  have z1 := cell_regrown c1
  obtain ⟨h0, h1, h2, h3, h4, h5⟩ := L.ok.bds
  have hc0 := L.ok.c0
  have hc1 := L.ok.c1
  have ho0 := L.ok.o0
  have ho1 := L.ok.o1
  obtain ⟨r, hr⟩ : ∃ r, r = room cap over f := ⟨_, rfl⟩
  rw [← hr]
  unfold room at hr
  generalize uni 1 f = a at *
  generalize uni 2 f = b at *
  obtain ⟨s, hs⟩ : ∃ s, s = cap + over := ⟨_, rfl⟩
  obtain ⟨s1, hs1⟩ : ∃ z, z = s - a := ⟨_, rfl⟩
  have e0 : IntKind.i64.wrap (cap + over) = s := by rw [IntKind.wrap_i64]; omega
  have e1 : IntKind.i64.wrap (s - a) = s1 := by rw [IntKind.wrap_i64]; omega
  have e2 : IntKind.i64.wrap (s1 - b) = r := by rw [IntKind.wrap_i64]; omega
  clear h0 h1 h2 h3 h4 h5 hc0 hc1 ho0 ho1 hr hs hs1 c0 c1 L
  go_enter Tryz.func118, Tryz.ntmps118
  go_wp2_with fail
  refine wp_region_quiet_below (by kernel_rfl) (by kernel_rfl) ?_
  repeat (go_big_quiet_step (first | with_reducible exact Q1 _ _ | with_reducible exact Q2 _ _))
  refine wpQuiet_nil ?_
  intro w7 hw'
  obtain ⟨⟨dq, osq⟩, hw7⟩ := hw'
  have be7 : Hid (Below w.heap.size w w7) := by rw [hw7]; exact below_regrown w dq osq
  clear hw7
  go_wp2_with fail
  go_ret
  exact ⟨rfl, be7.out⟩

def mayS (cap over : Int) : Bool := inb cap 1000000 && inb over 1000000
theorem mayS_iff {cap over : Int} : mayS cap over = true ↔ (0 ≤ cap ∧ cap ≤ 1000000) ∧ 0 ≤ over ∧ over ≤ 1000000 := by simp [mayS, inb]
set_option maxHeartbeats 800000 in
theorem new_yes (w : World) (cap over : Int) (h : mayS cap over = true) : Calls Tryz.prog 81 #[.agg #[.int .i64 cap, .int .i64 over]] w fun e w' => ∃ q, e = .returned (.tuple #[.pointer (some ⟨q, 0, none⟩), .int .i64 0]) ∧ w.heap.size ≤ q ∧ Led w' q cap over fz (fun g => g = q) ∧ Below w.heap.size w w' := by
  obtain ⟨⟨a0, a1⟩, b0, b1⟩ := mayS_iff.1 h
  have HB : Hid (Below w.heap.size w ((w.alloc (.cells #[.int .i64 cap, .int .i64 over] 25)).alloc (.cells #[.int .i64 cap, .int .i64 over, .map none] 160))) := ((Below.refl _ _).alloc (Nat.le_refl _) _).alloc (by simp) _
  have HL : Hid (Led ((w.alloc (.cells #[.int .i64 cap, .int .i64 over] 25)).alloc (.cells #[.int .i64 cap, .int .i64 over, .map none] 160)) (w.heap.size + 1) cap over fz (fun g => g = w.heap.size + 1)) :=
    ⟨ok_z a0 a1 b0 b1, rfl, fun g hg => by rw [hg]; simp, none, .of_row (l := []) (by
      have := heap_alloc_new (w.alloc (.cells #[.int .i64 cap, .int .i64 over] 25)) (.cells #[.int .i64 cap, .int .i64 over, .map none] 160)
      simpa using this), .inl ⟨rfl, rfl⟩, fun m hm => (nomatch hm)⟩
  unfold mayS at h
  rw [Bool.and_eq_true] at h
  have M1 := fun w => mayRoom_any w cap
  have M2 := fun w => mayRoom_any w over
  rw [h.1] at M1
  rw [h.2] at M2
  clear h a0 a1 b0 b1
  go_enter Tryz.func81, Tryz.ntmps81
  go_wp2_with (go_at_call 114; first | (with_reducible refine (M1 _).mono ?_; rintro e w' ⟨rfl, rfl⟩) | (with_reducible refine (M2 _).mono ?_; rintro e w' ⟨rfl, rfl⟩))
  go_ret2
  exact ⟨_, rfl, Nat.le_succ _, HL.out, HB.out⟩

theorem map_nil_run (mo : Option Nat) (w : World) : (binOp .eql 158 (.map mo) (.map none)).run Tryz.prog w = .ok (.bool mo.isNone) w := by
  have h : ∀ d : Nat, (Op.equalIn (d + 1) 158 (.map mo) (.map none)).run Tryz.prog w = .ok mo.isNone w := fun d => by
    cases mo <;> simp [Op.equalIn, run_underlying Tryz.underlying158]
  simp only [binOp]
  simp [Op.equal, Op.maxDepth, h 9999]
theorem drew_grown {w w' : World} {o : Option Nat} (h : w.drew.grownBy w' o) : w.grownBy w' o := ⟨h.os, h.tape, h.output, h.size, h.block⟩
theorem led_put {w W w4 : World} {q m N : Nat} {cap over b : Int} {f : F} {D : DataW Value} {e : E} {fp : Nat → Prop} (O : Ok cap over (upd f b e)) (hb1 : 1 ≤ b) (hb2 : b ≤ 200) (he : e.st ≠ 0) (K : Kt q 3 fp w W) (pin : fp q) (hsz : ∀ g, fp g → g < w.heap.size)
    (hq : Hb W q cap over (some m)) (hm : fp m ∨ w.heap.size ≤ m) (hM : W.ownsMap Tryz.prog 3 Rdv m N D) (T : Tie D f)
    (h4 : w4.ownsMap Tryz.prog 3 Rdv m (N + 1) (D.put (lk b) (.held (cell e)))) (g4 : W.grownBy w4 (some m)) : LTo w q cap over fp (upd f b e) w4 := by
  have hqm : q ≠ m := hq.ne_map hM
  have hm4 := h4.lt
  refine ⟨⟨O, .inl pin, fun g hg => ?_, some m, hq.keep (g4.block q hq.lt (fun e => hqm (by injection e))), .inr ⟨m, _, rfl, owns_less h4 (T.put hb1 hb2 he), T.put hb1 hb2 he⟩, fun m' hm' => ?_⟩, ?_⟩
  · rcases hg with hg | ⟨_, hg⟩
    · exact Nat.lt_of_lt_of_le (hsz g hg) (Nat.le_trans K.size g4.size)
    · exact hg
  · injection hm' with hm'
    subst hm'
    rcases hm with h | h
    · exact .inl h
    · exact .inr ⟨h, hm4⟩
  · refine K.trans (.of_grown hq.lt (fun e => hqm (by injection e)) g4 fun g hg => ?_)
    injection hg with hg
    subst hg
    rcases hm with h | h
    · exact .inl h
    · exact .inr ⟨h, hM.lt⟩
set_option maxHeartbeats 1600000 in
theorem put_some (w : World) (q m : Nat) (cap over b : Int) (f : F) (D : DataW Value) (e : E) (fp : Nat → Prop) (O : Ok cap over (upd f b e)) (hb1 : 1 ≤ b) (hb2 : b ≤ 200) (he : e.st ≠ 0) (pin : fp q) (hsz : ∀ g, fp g → g < w.heap.size)
    (hq : Hb w q cap over (some m)) (hm : fp m) (hM : w.ownsMap Tryz.prog 3 Rdv m 200 D) (T : Tie D f) :
    Calls Tryz.prog 119 #[.pointer (some ⟨q, 0, none⟩), .int .i64 b, cell e] w fun r w' => r = .returned (.tuple #[]) ∧ LTo w q cap over fp (upd f b e) w' := by
  have NN := map_nil_run (some m)
  simp only [Option.isNone] at NN
  have c2 : ∀ o, (w.alloc o).cell? ⟨q, 2, none⟩ = some (.map (some m)) := fun o => (hq.keep (heap_alloc_old w o hq.lt)).c2
  have hW : ∀ o, Hid (Hb (w.alloc o) q cap over (some m)) := fun o => hq.keep (heap_alloc_old w o hq.lt)
  have hM1 : ∀ o, (w.alloc o).drew.ownsMap Tryz.prog 3 Rdv m 200 D := fun o => owns_keep hM (heap_alloc_old w o hM.lt)
  obtain ⟨a, u, t⟩ := e
  obtain ⟨w4, hrun, hM4, g4⟩ := (hM1 (.cells #[.int .i64 a, .int .i64 u, .int .i64 t, .int .i64 0, .int .i64 0] 37)).update law Tryz.underlying158 (by unfold maxLen; omega) (key_of (k := b) ⟨by omega, by omega⟩)
    (val := cell ⟨a, u, t⟩) (d := .held (cell ⟨a, u, t⟩)) (ps := []) rfl
  have E : Hid (LTo w q cap over fp (upd f b ⟨a, u, t⟩) w4) := led_put O hb1 hb2 he (.of_below hq.lt ((Below.refl _ _).alloc (Nat.le_refl _) _)) pin hsz (hW _).out (.inl hm) (hM1 _) T hM4 (drew_grown g4)
  unfold cell at hrun ⊢
  have c2' := c2 (.cells #[.int .i64 a, .int .i64 u, .int .i64 t, .int .i64 0, .int .i64 0] 37)
  clear hM4 g4 hM1 hW c2 hq hM T O hb1 hb2 he pin hsz hm
  go_enter Tryz.func119, Tryz.ntmps119
  go_wp2
  go_region
  go_end0
  exact ⟨rfl, E.out⟩
set_option maxHeartbeats 1600000 in
theorem put_none (w : World) (q : Nat) (cap over b : Int) (f : F) (e : E) (fp : Nat → Prop) (O : Ok cap over (upd f b e)) (hb1 : 1 ≤ b) (hb2 : b ≤ 200) (he : e.st ≠ 0) (pin : fp q) (hsz : ∀ g, fp g → g < w.heap.size)
    (hq : Hb w q cap over none) (hf : f = fz) :
    Calls Tryz.prog 119 #[.pointer (some ⟨q, 0, none⟩), .int .i64 b, cell e] w fun r w' => r = .returned (.tuple #[]) ∧ LTo w q cap over fp (upd f b e) w' := by
  have NN := map_nil_run none
  simp only [Option.isNone] at NN
  have hmm := @run_makeMap Tryz.prog
  have c2 : w.cell? ⟨q, 2, none⟩ = some (.map none) := hq.c2
  have f2 : w.frozen? ⟨q, 2, none⟩ = false := hq.free 2
  have hlq := hq.lt
  obtain ⟨a, u, t⟩ := e
  obtain ⟨m, hm⟩ : ∃ m, m = w.heap.size + 1 := ⟨_, rfl⟩
  obtain ⟨W, hW⟩ : ∃ z, z = (((w.setCell ⟨q, 2, none⟩ (.map (some (w.heap.size + 1)))).alloc (.cells #[.int .i64 a, .int .i64 u, .int .i64 t, .int .i64 0, .int .i64 0] 37)).alloc (.map #[] 0)) := ⟨_, rfl⟩
  have e1 : (w.setCell ⟨q, 2, none⟩ (.map (some (w.heap.size + 1)))).heap.size = w.heap.size := by simp [World.setCell]
  have KW : Kt q 3 fp w W := by
    have h1 : Kt q 3 fp w (w.setCell ⟨q, 2, none⟩ (.map (some (w.heap.size + 1)))) := ⟨.of_grown (grown_set w q 2 _) (fun g e => by injection e with e; subst e; exact pin), hq.tail _⟩
    rw [hW]
    exact h1.trans (.of_below (by rw [e1]; exact hlq) (((Below.refl _ _).alloc (Nat.le_refl _) _).alloc (by simp) _))
  have hqW : Hb W q cap over (some m) := by
    have hl := hq.lt
    refine (hm ▸ hq.set (some (w.heap.size + 1)) : Hb (w.setCell ⟨q, 2, none⟩ (.map (some (w.heap.size + 1)))) q cap over (some m)).keep ?_
    rw [hW, heap_alloc_old _ _ (by simp [e1]; omega), heap_alloc_old _ _ (by omega)]
  have hM : W.ownsMap Tryz.prog 3 Rdv m 0 (.map []) := by
    have := World.ownsMap_made ((w.setCell ⟨q, 2, none⟩ (.map (some (w.heap.size + 1)))).alloc (.cells #[.int .i64 a, .int .i64 u, .int .i64 t, .int .i64 0, .int .i64 0] 37)) Tryz.prog 3 Rdv
    rw [hW, hm]
    simpa [e1] using this
  have hn : W.heap[w.heap.size]? = some (.cells #[.int .i64 a, .int .i64 u, .int .i64 t, .int .i64 0, .int .i64 0] 37 (0, 0)) := by
    have := heap_alloc2_old (w.setCell ⟨q, 2, none⟩ (.map (some (w.heap.size + 1)))) (.cells #[.int .i64 a, .int .i64 u, .int .i64 t, .int .i64 0, .int .i64 0] 37) (.map #[] 0)
    rw [e1] at this
    rw [hW]
    exact this
  have hM1 : W.drew.ownsMap Tryz.prog 3 Rdv m 0 (.map []) := hM
  obtain ⟨w4, hrun, hM4, g4⟩ := hM1.update law Tryz.underlying158 (by unfold maxLen; omega) (key_of (k := b) ⟨by omega, by omega⟩) (val := cell ⟨a, u, t⟩) (d := .held (cell ⟨a, u, t⟩)) (ps := []) rfl
  have E : Hid (LTo w q cap over fp (upd f b ⟨a, u, t⟩) w4) := led_put O hb1 hb2 he KW pin hsz hqW (.inr (by omega)) hM (hf ▸ Tie.start) hM4 (drew_grown g4)
  have b0 : W.cell? ⟨w.heap.size, 0, none⟩ = some (.int .i64 a) := one_at (i := 0) hn
  have b1 : W.cell? ⟨w.heap.size, 1, none⟩ = some (.int .i64 u) := one_at (i := 1) hn
  have b2 : W.cell? ⟨w.heap.size, 2, none⟩ = some (.int .i64 t) := one_at (i := 2) hn
  have b3 : W.cell? ⟨w.heap.size, 3, none⟩ = some (.int .i64 0) := one_at (i := 3) hn
  have b4 : W.cell? ⟨w.heap.size, 4, none⟩ = some (.int .i64 0) := one_at (i := 4) hn
  have d2 : W.cell? ⟨q, 2, none⟩ = some (.map (some m)) := hqW.c2
  unfold cell at hrun ⊢
  replace hm := Lib.hid hm
  replace hW := Lib.hid hW
  clear hM4 g4 hM1 hM hqW hn KW e1 hq O hb1 hb2 he pin hsz hf
  go_enter Tryz.func119, Tryz.ntmps119
  go_wp2
  rw [← hW.out, ← hm.out]
  go_region
  go_end0
  exact ⟨rfl, E.out⟩
theorem put_any (w : World) (q : Nat) (cap over b : Int) (f : F) (e : E) (fp : Nat → Prop) (L : Led w q cap over f fp) (O : Ok cap over (upd f b e)) (hb1 : 1 ≤ b) (hb2 : b ≤ 200) (he : e.st ≠ 0) :
    Calls Tryz.prog 119 #[.pointer (some ⟨q, 0, none⟩), .int .i64 b, cell e] w fun r w' => r = .returned (.tuple #[]) ∧ LTo w q cap over fp (upd f b e) w' := by
  obtain ⟨mo, h1, h2, h3⟩ := L.at_
  rcases h2 with ⟨rfl, hf⟩ | ⟨m, D, rfl, ho, T⟩
  · exact put_none w q cap over b f e fp O hb1 hb2 he L.pin L.size h1 hf
  · exact put_some w q m cap over b f D e fp O hb1 hb2 he L.pin L.size h1 (h3 m rfl) ho T
set_option maxHeartbeats 800000 in
theorem end_any (w : World) (q : Nat) (cap over b : Int) (f : F) (fp : Nat → Prop) (L : Led w q cap over f fp) (hb1 : 1 ≤ b) (hb2 : b ≤ 200) :
    Calls Tryz.prog 87 #[.pointer (some ⟨q, 0, none⟩), .int .i64 b] w fun r w' => r = .returned (.tuple #[]) ∧ LTo w q cap over fp (upd f b eg) w' := by
  have PU := put_any w q cap over b f eg fp L (ok_gone L.ok hb1 hb2) hb1 hb2 (by decide)
  unfold cell eg at PU
  replace PU := Lib.hid PU
  clear L
  go_enter Tryz.func87, Tryz.ntmps87
  go_wp2_with fail
  refine PU.out.mono ?_
  rintro e w1 ⟨rfl, h⟩
  replace h := Lib.hid h
  clear PU
  go_wp2
  go_end0
  exact ⟨rfl, h.out⟩
end St
end Go.Proofs.YtpkdigegkemogaaGreatDoor
namespace Go.Proofs
open Go.RowKit Go.Maps Go.Sort Go.Shelf
def Tryz.stsort_ren : Go.Shelf.Ren := ⟨fun | 5 => 112 | 8 => 137 | 7 => 136 | 19 => 163 | 20 => 164 | 10 => 154 | 11 => 155 | 12 => 156 | 13 => 157 | 14 => 158 | 15 => 159 | 16 => 160 | 17 => 161 | 18 => 162 | 30 => 174 | 31 => 175 | 32 => 176 | 33 => 177 | 34 => 178 | 35 => 179 | 40 => 184 | n => n, fun | 23 => 22 | 25 => 3 | 3 => 3 | 32 => 23 | 22 => 22 | 0 => 0 | 44 => 237 | 46 => 154 | 4 => 4 | 36 => 231 | 35 => 230 | 41 => 61 | 5 => 5 | 9 => 9 | 53 => 245 | 57 => 249 | 63 => 256 | 64 => 147 | n => n, fun | n => n⟩
theorem Tryz.stsort : Go.Proofs.SlLaysM.n5 Tryz.prog Tryz.stsort_ren := {
  mixed := by kernel_rfl
  f5 := ⟨Tryz.f112.name, by decide, Tryz.func112.trans (congrArg some (by kernel_rfl))⟩
  f7 := ⟨Tryz.f136.name, by decide, Tryz.func136.trans (congrArg some (by kernel_rfl))⟩
  f8 := Tryz.func137.trans (congrArg some (by kernel_rfl))
  f10 := ⟨Tryz.f154.name, by decide, Tryz.func154.trans (congrArg some (by kernel_rfl))⟩
  f11 := ⟨Tryz.f155.name, by decide, Tryz.func155.trans (congrArg some (by kernel_rfl))⟩
  f12 := ⟨Tryz.f156.name, by decide, Tryz.func156.trans (congrArg some (by kernel_rfl))⟩
  f13 := ⟨Tryz.f157.name, by decide, Tryz.func157.trans (congrArg some (by kernel_rfl))⟩
  f14 := ⟨Tryz.f158.name, by decide, Tryz.func158.trans (congrArg some (by kernel_rfl))⟩
  f15 := ⟨Tryz.f159.name, by decide, Tryz.func159.trans (congrArg some (by kernel_rfl))⟩
  f16 := ⟨Tryz.f160.name, by decide, Tryz.func160.trans (congrArg some (by kernel_rfl))⟩
  f17 := ⟨Tryz.f161.name, by decide, Tryz.func161.trans (congrArg some (by kernel_rfl))⟩
  f18 := ⟨Tryz.f162.name, by decide, Tryz.func162.trans (congrArg some (by kernel_rfl))⟩
  f19 := Tryz.func163.trans (congrArg some (by kernel_rfl))
  f20 := Tryz.func164.trans (congrArg some (by kernel_rfl))
  f30 := ⟨Tryz.f174.name, by decide, Tryz.func174.trans (congrArg some (by kernel_rfl))⟩
  f31 := Tryz.func175.trans (congrArg some (by kernel_rfl))
  f32 := Tryz.func176.trans (congrArg some (by kernel_rfl))
  f33 := ⟨Tryz.f177.name, by decide, Tryz.func177.trans (congrArg some (by kernel_rfl))⟩
  f34 := ⟨Tryz.f178.name, by decide, Tryz.func178.trans (congrArg some (by kernel_rfl))⟩
  f35 := ⟨Tryz.f179.name, by decide, Tryz.func179.trans (congrArg some (by kernel_rfl))⟩
  f40 := ⟨Tryz.f184.name, by decide, Tryz.func184.trans (congrArg some (by kernel_rfl))⟩
  t0 := Tryz.underlying0
  a0 := Tryz.isAgg0
  z0 := Tryz.sizeOf0
  v0 := Tryz.zeroValue0
  t3 := Tryz.underlying3
  a3 := Tryz.isAgg3
  z3 := Tryz.sizeOf3
  v3 := Tryz.zeroValue3
  t4 := Tryz.underlying4
  a4 := Tryz.isAgg4
  z4 := Tryz.sizeOf4
  v4 := Tryz.zeroValue4
  t5 := Tryz.underlying5
  a5 := Tryz.isAgg5
  z5 := Tryz.sizeOf5
  v5 := Tryz.zeroValue5
  t9 := Tryz.underlying9
  a9 := Tryz.isAgg9
  z9 := Tryz.sizeOf9
  v9 := Tryz.zeroValue9
  t22 := Tryz.underlying22
  a22 := Tryz.isAgg22
  z22 := Tryz.sizeOf22
  v22 := Tryz.zeroValue22
  t23 := Tryz.underlying22
  a23 := Tryz.isAgg22
  z23 := Tryz.sizeOf22
  v23 := Tryz.zeroValue22
  t25 := Tryz.underlying3
  a25 := Tryz.isAgg3
  z25 := Tryz.sizeOf3
  v25 := Tryz.zeroValue3
  t32 := Tryz.underlying23
  a32 := Tryz.isAgg23
  z32 := Tryz.sizeOf23
  v32 := Tryz.zeroValue23
  t35 := Tryz.underlying230
  a35 := Tryz.isAgg230
  z35 := Tryz.sizeOf230
  v35 := Tryz.zeroValue230
  t36 := Tryz.underlying231
  a36 := Tryz.isAgg231
  z36 := Tryz.sizeOf231
  v36 := Tryz.zeroValue231
  t41 := Tryz.underlying61
  a41 := Tryz.isAgg61
  z41 := Tryz.sizeOf61
  v41 := Tryz.zeroValue61
  t44 := Tryz.underlying237
  a44 := Tryz.isAgg237
  z44 := Tryz.sizeOf237
  v44 := Tryz.zeroValue237
  t46 := Tryz.underlying154
  a46 := Tryz.isAgg154
  z46 := Tryz.sizeOf154
  v46 := Tryz.zeroValue154
  t53 := Tryz.underlying245
  a53 := Tryz.isAgg245
  z53 := Tryz.sizeOf245
  v53 := Tryz.zeroValue245
  t57 := Tryz.underlying249
  a57 := Tryz.isAgg249
  z57 := Tryz.sizeOf249
  v57 := Tryz.zeroValue249
  t63 := Tryz.underlying256
  a63 := Tryz.isAgg256
  z63 := Tryz.sizeOf256
  v63 := Tryz.zeroValue256
  t64 := Tryz.underlying147
  a64 := Tryz.isAgg147
  z64 := Tryz.sizeOf147
  v64 := Tryz.zeroValue147 }
def Tryz.stclone_ren : Go.Shelf.Ren := ⟨fun | 5 => 117 | 7 => 138 | n => n, fun | 23 => 158 | 25 => 3 | 3 => 37 | 4 => 4 | 20 => 20 | n => n, fun | n => n⟩
theorem Tryz.stclone : Go.Proofs.SlLaysW.n5 Tryz.prog Tryz.stclone_ren := {
  mixed := by kernel_rfl
  f5 := ⟨Tryz.f117.name, by decide, Tryz.func117.trans (congrArg some (by kernel_rfl))⟩
  f7 := Tryz.func138.trans (congrArg some (by kernel_rfl))
  t4 := Tryz.underlying4
  a4 := Tryz.isAgg4
  z4 := Tryz.sizeOf4
  v4 := Tryz.zeroValue4
  t20 := Tryz.underlying20
  a20 := Tryz.isAgg20
  z20 := Tryz.sizeOf20
  v20 := Tryz.zeroValue20
  t23 := Tryz.underlying158
  a23 := Tryz.isAgg158
  z23 := Tryz.sizeOf158
  v23 := Tryz.zeroValue158 }

end Go.Proofs
namespace Go.Proofs.YtpkdigegkemogaaGreatDoor
set_option maxRecDepth 100000
open Go.RowKit
open Go.Sort (grow)
open Go.Proofs.YtpkdigegkemogaaGreatDoor.Pk (one_at one_free one_set lt_some grown_set grown_trans grown_refl)
namespace St

def ivs (l : List Int) : List Value := l.map (Value.int .i64)
theorem ivs_snoc (l : List Int) (x : Int) : ivs (l ++ [x]) = ivs l ++ [.int .i64 x] := by simp [ivs]
abbrev RowI (w : World) (base : Nat) (v : Value) (n : Nat) (xs : List Value) : Prop := w.ownsRow base 3 1 v n xs
section
variable {w w' : World} {v v' : Value} {n base : Nat} {xs : List Value}
theorem ri_same (h : RowI w base v n xs) (hk : ∀ g, v.ownBlock = some g → w'.heap[g]? = w.heap[g]?) : RowI w' base v n xs := by
  refine ⟨h.1, ?_⟩
  rcases h.2 with h0 | ⟨g, cap, cur, hv, hb, hh, h2⟩
  · exact .inl h0
  · exact .inr ⟨g, cap, cur, hv, hb, (hk g (by rw [hv]; rfl)).trans hh, h2⟩
theorem ri_block {g : Nat} (h : RowI w base v n xs) (hg : v.ownBlock = some g) : base ≤ g ∧ ∃ cur, w.heap[g]? = some (.cells cur 3 (0, 0)) := by
  rcases h.2 with ⟨rfl, _⟩ | ⟨g', cap, cur, rfl, hb, hh, _⟩
  · simp [Value.ownBlock] at hg
  · have : g' = g := by simpa [Value.ownBlock] using hg
    subst this
    exact ⟨hb, cur, hh⟩
theorem ri_below (h : RowI w base v n xs) (hb : Below w.heap.size w w') : RowI w' base v n xs := ri_same h fun g hg => hb.block g (by
  obtain ⟨_, cur, hc⟩ := ri_block h hg
  exact lt_some hc)
theorem ri_form (h : RowI w base v n xs) : ∃ A c, v = .slice A n c ∧ n ≤ c ∧ c ≤ 9223372036854775807 ∧ (A = none → c = 0) := by
  rcases h.2 with ⟨rfl, rfl⟩ | ⟨g, cap, cur, rfl, hb, hh, h1, h2, _⟩
  · exact ⟨_, _, rfl, Nat.le_refl _, by omega, fun _ => rfl⟩
  · unfold maxLen at h2
    exact ⟨_, _, rfl, h1, h2, fun h => by cases h⟩
theorem ri_mono {base' : Nat} (h : RowI w base v n xs) (hb : base' ≤ base) : RowI w base' v n xs := by
  refine ⟨h.1, ?_⟩
  rcases h.2 with h0 | ⟨g, cap, cur, hv, hB, hh, h2⟩
  · exact .inl h0
  · exact .inr ⟨g, cap, cur, hv, by omega, hh, h2⟩
end
theorem Rg.not_row {w : World} {b r base n : Nat} {D : DataW Value} {f : F} {L : Int → Bool} {v : Value} {xs : List Value} (R : Rg w b r D f L) (h : RowI w base v n xs) : some b ≠ v.ownBlock ∧ some r ≠ v.ownBlock := by
  obtain ⟨left, cnt, hr, _⟩ := R.at_
  constructor
  · intro e
    obtain ⟨_, cur, hc⟩ := ri_block h e.symm
    exact ne_map hr.owns hc rfl
  · intro e
    obtain ⟨_, cur, hc⟩ := ri_block h e.symm
    obtain ⟨es, clock, since, seen, c0, _, _, _, _, hb, _⟩ := hr
    rw [hc] at hb
    injection hb with hb
    cases hb
theorem int_info : (Tryz.prog.info? 3).map (fun i => (i.zero, i.size, i.bytes)) = some (some (.int .i64 0), 1, 8) := by kernel_rfl
theorem wpList_app1 {P : Program} (wr : World) {ops : Array Oper} {rest : List Oper} {o : Oper} {a : Act} {Q : Exit → Act → World → Prop} (hgd : o.guard = none) (s x : Operand) (t : TypeId)
    (ho : o.op = .call { callee := .builtin .append, args := #[s, x], argTypes := #[t, t] })
    (base : Nat) (e : TypeId) (i : TypeInfo) (z : Value) (bytes : Nat) (ht : P.underlying t = some (.slice e)) (hi : P.info? e = some i) (hz : i.zero = some z) (hsize : i.size = 1) (hby : i.bytes = bytes) (hzs : z.cells.size = 1)
    (v : Value) (n : Nat) (xs : List Value) (u : Value) (hs : a.eval s = v) (hown : wr.ownsRow base e 1 v n xs) (hx : a.eval x = .slice (some ⟨wr.heap.size, 0, none⟩) 1 1) (hu : u.oneCell' = true)
    (h63 : n + 1 ≤ maxLen) (hb : (n + 1) * bytes ≤ 140737488355328) (hbase : base ≤ wr.heap.size)
    (h : ∀ v' w', w'.ownsRow base e 1 v' (n + 1) (xs ++ [u]) → (wr.alloc (.cells #[u] e)).grownBy w' v.ownBlock → wpList P ops Q rest (a.put o.dst v') w') : wpList P ops Q (o :: rest) a (wr.alloc (.cells #[u] e)) :=
  wpList_append_own _ hgd s x t ho base e i z 1 bytes ht hi hz hsize hby hzs (by decide) v n xs hs (hown.alloc _) ⟨wr.heap.size, 0, none⟩ 1 1 [u] hx rfl
    (by
      intro j y hj
      match j, hj with
      | 0, hj => simp at hj; subst hj; rw [Addr.add_zero', World.cell?_alloc_mark]; rfl
      | j + 1, hj => simp at hj)
    (by intro y hy; simp at hy; subst hy; exact hu) h63 hb (by simp; omega) (fun v' w' h1 h2 _ => h v' w' h1 h2)
theorem sort_row (w : World) (base : Nat) (v : Value) (xs : List Int) (h : RowI w base v xs.length (ivs xs)) (few : xs.length ≤ 200) :
    Calls Tryz.prog 112 #[v] w fun e w' => e = .returned (.tuple #[]) ∧ RowI w' base v xs.length (ivs (xs.mergeSort fun x y => decide (x ≤ y))) ∧ Below base w w' := by
  rcases h.2 with ⟨rfl, h0⟩ | ⟨g, cap, cur, rfl, hb, hh, h1, h2, h3, h4⟩
  · obtain rfl : xs = [] := List.eq_nil_of_length_eq_zero h0
    refine (AnyM.slices_Sort_int_none Tryz.stsort none 0 w).mono ?_
    rintro e w' ⟨rfl, rfl⟩
    exact ⟨rfl, by rw [List.mergeSort_nil]; exact h, Below.refl _ _⟩
  · have ht : cur.toList.take xs.length = xs.map (Value.int .i64) := by rw [Nat.mul_one] at h4; exact h4
    have H := holds_of_blockI hh ht
    refine (AnyM.slices_Sort_int Tryz.stsort g 0 cap xs w H (lt_some hh) (by omega)).mono ?_
    rintro e w' ⟨rfl, n, os, rfl⟩
    have hl : (xs.mergeSort fun x y => decide (x ≤ y)).length = xs.length := List.length_mergeSort ..
    refine ⟨rfl, ?_, ?_⟩
    · exact ownsRow_sortedI hl hb hh h1 h2 h3
    · exact ⟨(grownBy_sortedI (w := w) (g := g) (os := os) (n := n) _).os, (grownBy_sortedI (w := w) (g := g) (os := os) (n := n) _).tape, (grownBy_sortedI (w := w) (g := g) (os := os) (n := n) _).output, (grownBy_sortedI (w := w) (g := g) (os := os) (n := n) _).size, fun i hi => (grownBy_sortedI (w := w) (g := g) (os := os) (n := n) _).block i (by have := lt_some hh; omega) (fun e => by injection e with e; omega)⟩

set_option maxHeartbeats 400000 in
theorem cloB (w : World) (e : E) : Calls Tryz.prog 225 #[cell e] w fun r w' => r = .returned (.bool (pre e)) ∧ Below w.heap.size w w' := by
  obtain ⟨a, u, t⟩ := e
  have HB : Hid (Below w.heap.size w (w.alloc (.cells #[.int .i64 a, .int .i64 u, .int .i64 t, .int .i64 0, .int .i64 0] 37))) := (Below.refl _ _).alloc (Nat.le_refl _) _
  have F : Hid ((!(a == 0)) = pre ⟨a, u, t⟩) := rfl
  unfold cell
  go_enter Tryz.func225, Tryz.ntmps225
  go_wp2
  go_ret
  refine ⟨?_, HB.out⟩
  rw [← F.out]
  rfl
set_option maxHeartbeats 400000 in
theorem cloS (w : World) (pn : Nat) (now : Int) (e : E) (hn : w.cell? ⟨pn, 0, none⟩ = some (.int .i64 now)) : Calls Tryz.prog 124 #[cell e, .pointer (some ⟨pn, 0, none⟩)] w fun r w' => r = .returned (.bool (ovr now e)) ∧ Below w.heap.size w w' := by
  obtain ⟨W, hW⟩ : ∃ W, W = w.alloc (.cells #[.int .i64 e.st, .int .i64 e.un, .int .i64 e.ut, .int .i64 0, .int .i64 0] 37) := ⟨_, rfl⟩
  have C := Lib.hid (isOver_any W e now)
  have HB : Hid (Below w.heap.size w W) := by rw [hW]; exact (Below.refl _ _).alloc (Nat.le_refl _) _
  have hp := block_lt_of_cell hn
  obtain ⟨a, u, t⟩ := e
  unfold cell at C ⊢
  simp only at C hW ⊢
  obtain ⟨o, ho⟩ : ∃ o, o = ovr now ⟨a, u, t⟩ := ⟨_, rfl⟩
  rw [← ho] at C ⊢
  clear ho
  replace hW := Lib.hid hW
  go_enter Tryz.func124, Tryz.ntmps124
  go_wp2_with fail
  rw [← hW.out]
  refine C.out.mono ?_
  rintro r w1 ⟨rfl, h1⟩
  have HB1 : Hid (Below w.heap.size w w1) := HB.out.trans (h1.mono HB.out.size)
  clear h1 C HB hW
  go_wp2
  go_ret
  exact ⟨rfl, HB1.out⟩

def RisTo (w : World) (l : List Int) (e : Ending) (w' : World) : Prop := ∃ v, e = .returned v ∧ RowI w' w.heap.size v l.length (ivs l) ∧ Below w.heap.size w w'
set_option maxHeartbeats 800000 in
theorem rising_noneB (w : World)  : Calls Tryz.prog 123 #[.map none, .func (.func 225) #[] #[]] w (RisTo w []) := by
  have hrg := run_range_nilMap (P := Tryz.prog) w 158 3 37 Tryz.underlying158
  have hnx : ∀ ty, (Instr.next (.pointer (some ⟨w.heap.size, 0, none⟩)) false ty).run Tryz.prog (w.alloc (.mapIter none 0 #[] 0)) = _ := fun ty => run_next_nilMap w ty 0 0 #[]
  have HB : Hid (Below w.heap.size w (w.alloc (.mapIter none 0 #[] 0))) := (Below.refl _ _).alloc (Nat.le_refl _) _
  have SO := Lib.hid (fun w => AnyM.slices_Sort_int_none Tryz.stsort none 0 w)
  go_enter Tryz.func123, Tryz.ntmps123
  go_wp2
  refine wp_loop_rounds 1 ?_
  rw [rounds_succ]
  go_wp2_with fail
  refine (SO.out _).mono ?_
  rintro e w1 ⟨rfl, rfl⟩
  clear SO
  go_wp2
  go_ret
  exact ⟨_, rfl, World.ownsRow_nil _ _ _ _, HB.out⟩
set_option maxHeartbeats 1600000 in
theorem rising_someB (w : World)  (m : Nat) (cap over : Int) (f : F) (D : DataW Value) (hown : w.ownsMap Tryz.prog 3 Rdv m 200 D) (T : Tie D f) (O : Ok cap over f) :
    Calls Tryz.prog 123 #[.map (some m), .func (.func 225) #[] #[]] w (RisTo w (sel pre f 200)) := by
  have hin : Hid (∀ k, pre (f k) = true → 1 ≤ k ∧ k ≤ 200) := fun k h => pre_inn O h
  have hT := Lib.hid T
  have hO := Lib.hid O
  have hm := hown.lt
  have C : Hid (∀ w', Below w.heap.size w w' → ∀ e, Calls Tryz.prog 225 #[cell e] w' fun r w'' => r = .returned (.bool (pre e)) ∧ Below w'.heap.size w' w'') := fun w' _ e => cloB w' e
  have st : Hid (Col pre f (fun k => pre (f k)) []) := Col.start (by simp [pre, ez]) fun k hk => (O.shp k).zero (by simpa [pre] using hk)
  obtain ⟨i0, hi, hz0, hz1, hz2⟩ := info_parts int_info
  replace hi := Lib.hid hi
  replace hz0 := Lib.hid hz0
  replace hz1 := Lib.hid hz1
  replace hz2 := Lib.hid hz2
  clear T O
  go_enter Tryz.func123, Tryz.ntmps123
  go_wp2_with (first
    | (at_range; refine wpList_range_led rfl _ 158 rfl 37 Tryz.underlying158 f D rfl hown hT.out ?_; intro w0 hrg0 hg0 hs0)
    | go_in)
  go_frame
  go_loopw [5] (fun v wr => ∃ L xs, RowI wr w.heap.size v xs.length (ivs xs) ∧ Col pre f L xs ∧ Rg wr m w.heap.size D f L ∧ Below w.heap.size w wr) (fun _ wr => wr.rangeLeft m w.heap.size)
  case atStart => exact ⟨_, [], World.ownsRow_nil _ _ _ _, st.out, hrg0, below_of_grown hg0 (Nat.le_refl _) (fun i h => by cases h)⟩
  case round =>
    clear hrg0 hg0 hs0
    obtain ⟨L, xs, hrow, hcol, hrg, hb⟩ := hrel
    have few := hcol.len
    obtain ⟨A, c, rfl, hc1, hc2, hc3⟩ := ri_form hrow
    replace hb := Lib.hid hb
    replace hcol := Lib.hid hcol
    go_wp2_with (first
      | (at_next; refine wpList_next_led rfl _ rfl m w.heap.size D f L rfl hrg hT.out hin.out ?_ ?_)
      | go_in)
    · intro hl
      have SO := Lib.hid (sort_row wr w.heap.size _ xs hrow few)
      rw [hcol.out.sort hl] at SO
      have hln : (sel pre f 200).length = xs.length := by rw [← hcol.out.sort hl]; exact List.length_mergeSort ..
      replace hln := Lib.hid hln
      clear hrow hrg
      go_wp2_with fail
      refine SO.out.mono ?_
      rintro e w2 ⟨rfl, h2, h3⟩
      have E : Hid (RisTo w (sel pre f 200) (.returned (.slice A xs.length c)) w2) := ⟨_, rfl, by rw [hln.out]; exact h2, hb.out.trans h3⟩
      clear SO h2 h3
      go_wp2
      go_ret
      exact E.out
    · intro x s u t w1 x1 x2 hlx hf hrg1 hlt hg1 hs1 hen
      obtain ⟨W, hW⟩ : ∃ W, W = w1.alloc (.cells #[.int .i64 s, .int .i64 u, .int .i64 t, .int .i64 0, .int .i64 0] 37) := ⟨_, rfl⟩
      have gW : wr.grownBy W (some w.heap.size) := by rw [hW]; exact hg1.andThen (World.grownBy_alloc _ _ none) (fun j hj => by cases hj)
      have BW : Hid (Below w.heap.size w W) := hb.out.trans (below_of_grown gW hb.out.size (fun i h => by injection h with h; omega))
      have rW : Hid (Rg W m w.heap.size D f (fun k => L k && !decide (k = x))) := by rw [hW]; exact hrg1.keep (World.grownBy_alloc _ _ none) (by simp) (by simp)
      have oW : Hid (RowI W w.heap.size (.slice A xs.length c) xs.length (ivs xs)) := ri_same hrow fun g hg => gW.block g (by
          obtain ⟨_, cur, hc⟩ := ri_block hrow hg
          exact lt_some hc) (fun e => (hrg.not_row hrow).2 (by rw [hg, e]))
      have mW : Hid (W.rangeLeft m w.heap.size < wr.rangeLeft m w.heap.size) := by
        have e : W.rangeLeft m w.heap.size = w1.rangeLeft m w.heap.size := by
          obtain ⟨left, cnt, h, _⟩ := hrg1.at_
          rw [hW, h.left_eq, (h.alloc _).left_eq]
        rw [e]; exact hlt
      have CW := C.out W BW.out ⟨s, u, t⟩
      unfold cell at CW
      simp only at CW
      have hp : pre (f x) = pre ⟨s, u, t⟩ := by rw [hf]
      obtain ⟨b, hbe⟩ : ∃ b, b = pre ⟨s, u, t⟩ := ⟨_, rfl⟩
      rw [← hbe] at CW hp
      replace CW := Lib.hid CW
      replace hW := Lib.hid hW
      replace hp := Lib.hid hp
      replace hlx := Lib.hid hlx
      replace hrow := Lib.hid hrow
      clear hbe gW hrg1 hlt hg1 hs1 hf hrg
      go_wp2_with fail
      rw [← hW.out]
      refine CW.out.mono ?_
      rintro e w2 ⟨rfl, h2⟩
      have B2 : Hid (Below w.heap.size w w2) := BW.out.trans (h2.mono BW.out.size)
      have r2 : Hid (Rg w2 m w.heap.size D f (fun k => L k && !decide (k = x))) := by
        obtain ⟨l1, l2⟩ := rW.out.lt
        exact rW.out.keep (row := none) ⟨h2.os, h2.tape, h2.output, h2.size, fun i hi _ => h2.block i hi⟩ (by simp) (by simp)
      have o2 : Hid (RowI w2 w.heap.size (.slice A xs.length c) xs.length (ivs xs)) := ri_below oW.out h2
      have m2 : Hid (w2.rangeLeft m w.heap.size < wr.rangeLeft m w.heap.size) := by
        have e : w2.rangeLeft m w.heap.size = W.rangeLeft m w.heap.size := by
          obtain ⟨l1, l2⟩ := rW.out.lt
          unfold World.rangeLeft
          rw [h2.block _ l1, h2.block _ l2]
        rw [e]; exact mW.out
      have z2 : Hid (w.heap.size ≤ w2.heap.size) := B2.out.size
      clear h2 CW BW rW oW mW hW
      cases b with
      | false =>
        have hcol2 : Hid (Col pre f (fun k => L k && !decide (k = x)) xs) := hcol.out.skip (fun _ => rfl) hp.out
        go_wp2
        go_roundw
        case rel => exact ⟨_, xs, o2.out, hcol2.out, r2.out, B2.out⟩
        case measure => exact m2.out
      | true =>
        have hcol2 : Hid (Col pre f (fun k => L k && !decide (k = x)) (xs ++ [x])) := hcol.out.take hlx.out (fun _ => rfl) ⟨x1, x2⟩ hp.out
        go_wp2_with (at_builtin; go_loud (refine wpList_app1 w2 rfl (.tmp 18) (.tmp 20) 22 rfl w.heap.size 3 i0 (.int .i64 0) 8 Tryz.underlying22 hi.out hz0.out hz1.out hz2.out rfl _ xs.length (ivs xs) (.int .i64 x) rfl o2.out rfl rfl (by unfold maxLen; omega) (by omega) z2.out ?_); intro v6 w6 h6 g6; have G6 : Hid (w2.grownBy w6 (Value.slice A xs.length c).ownBlock) := (World.grownBy_alloc w2 (.cells #[.int .i64 x] 3) (Value.slice A xs.length c).ownBlock).trans g6; have O6 := Lib.hid h6; clear h6 g6)
        have r6 : Hid (Rg w6 m w.heap.size D f (fun k => L k && !decide (k = x))) := by
          have := r2.out.not_row o2.out
          exact r2.out.keep G6.out this.1 this.2
        have m6 : Hid (w6.rangeLeft m w.heap.size < wr.rangeLeft m w.heap.size) := by
          have e : w6.rangeLeft m w.heap.size = w2.rangeLeft m w.heap.size := by
            obtain ⟨l1, l2⟩ := r2.out.lt
            have := r2.out.not_row o2.out
            unfold World.rangeLeft
            rw [G6.out.block _ l1 this.2, G6.out.block _ l2 this.1]
          rw [e]; exact m2.out
        have B6 : Hid (Below w.heap.size w w6) := B2.out.trans (below_of_grown G6.out z2.out (fun i h => (o2.out.lt i h).1))
        go_roundw
        case rel => exact ⟨_, xs ++ [x], by rw [ivs_snoc, List.length_append]; exact O6.out, hcol2.out, r6.out, B6.out⟩
        case measure => exact m6.out
theorem rising_anyB (w : World)  (mo : Option Nat) (cap over : Int) (f : F) (h : MapIs w mo f) (O : Ok cap over f) :
    Calls Tryz.prog 123 #[.map mo, .func (.func 225) #[] #[]] w (RisTo w (sel pre f 200)) := by
  rcases h with ⟨rfl, rfl⟩ | ⟨m, D, rfl, ho, T⟩
  · have e : sel pre fz 200 = [] := List.filter_eq_nil_iff.2 fun k _ => by
      show ¬ (pre ez = true)
      simp [pre, ez]
    rw [e]
    exact rising_noneB w 
  · exact rising_someB w  m cap over f D ho T O
set_option maxHeartbeats 800000 in
theorem rising_noneS (w : World) (pn : Nat) (_now : Int) : Calls Tryz.prog 123 #[.map none, .func (.func 124) #[] #[.pointer (some ⟨pn, 0, none⟩)]] w (RisTo w []) := by
  have hrg := run_range_nilMap (P := Tryz.prog) w 158 3 37 Tryz.underlying158
  have hnx : ∀ ty, (Instr.next (.pointer (some ⟨w.heap.size, 0, none⟩)) false ty).run Tryz.prog (w.alloc (.mapIter none 0 #[] 0)) = _ := fun ty => run_next_nilMap w ty 0 0 #[]
  have HB : Hid (Below w.heap.size w (w.alloc (.mapIter none 0 #[] 0))) := (Below.refl _ _).alloc (Nat.le_refl _) _
  have SO := Lib.hid (fun w => AnyM.slices_Sort_int_none Tryz.stsort none 0 w)
  go_enter Tryz.func123, Tryz.ntmps123
  go_wp2
  refine wp_loop_rounds 1 ?_
  rw [rounds_succ]
  go_wp2_with fail
  refine (SO.out _).mono ?_
  rintro e w1 ⟨rfl, rfl⟩
  clear SO
  go_wp2
  go_ret
  exact ⟨_, rfl, World.ownsRow_nil _ _ _ _, HB.out⟩
set_option maxHeartbeats 1600000 in
theorem rising_someS (w : World) (pn : Nat) (now : Int) (m : Nat) (cap over : Int) (f : F) (D : DataW Value) (hown : w.ownsMap Tryz.prog 3 Rdv m 200 D) (T : Tie D f) (O : Ok cap over f) (hn : w.cell? ⟨pn, 0, none⟩ = some (.int .i64 now)) :
    Calls Tryz.prog 123 #[.map (some m), .func (.func 124) #[] #[.pointer (some ⟨pn, 0, none⟩)]] w (RisTo w (sel (ovr now) f 200)) := by
  have hin : Hid (∀ k, pre (f k) = true → 1 ≤ k ∧ k ≤ 200) := fun k h => pre_inn O h
  have hT := Lib.hid T
  have hO := Lib.hid O
  have hm := hown.lt
  have C : Hid (∀ w', Below w.heap.size w w' → ∀ e, Calls Tryz.prog 124 #[cell e, .pointer (some ⟨pn, 0, none⟩)] w' fun r w'' => r = .returned (.bool ((ovr now) e)) ∧ Below w'.heap.size w' w'') := fun w' hb e => cloS w' pn now e ((hb.cell (block_lt_of_cell hn)).trans hn)
  have st : Hid (Col (ovr now) f (fun k => pre (f k)) []) := Col.start (by simp [ovr, ez]) fun k hk => (O.shp k).zero (by simpa [pre] using hk)
  obtain ⟨i0, hi, hz0, hz1, hz2⟩ := info_parts int_info
  replace hi := Lib.hid hi
  replace hz0 := Lib.hid hz0
  replace hz1 := Lib.hid hz1
  replace hz2 := Lib.hid hz2
  clear T O hn
  go_enter Tryz.func123, Tryz.ntmps123
  go_wp2_with (first
    | (at_range; refine wpList_range_led rfl _ 158 rfl 37 Tryz.underlying158 f D rfl hown hT.out ?_; intro w0 hrg0 hg0 hs0)
    | go_in)
  go_frame
  go_loopw [5] (fun v wr => ∃ L xs, RowI wr w.heap.size v xs.length (ivs xs) ∧ Col (ovr now) f L xs ∧ Rg wr m w.heap.size D f L ∧ Below w.heap.size w wr) (fun _ wr => wr.rangeLeft m w.heap.size)
  case atStart => exact ⟨_, [], World.ownsRow_nil _ _ _ _, st.out, hrg0, below_of_grown hg0 (Nat.le_refl _) (fun i h => by cases h)⟩
  case round =>
    clear hrg0 hg0 hs0
    obtain ⟨L, xs, hrow, hcol, hrg, hb⟩ := hrel
    have few := hcol.len
    obtain ⟨A, c, rfl, hc1, hc2, hc3⟩ := ri_form hrow
    replace hb := Lib.hid hb
    replace hcol := Lib.hid hcol
    go_wp2_with (first
      | (at_next; refine wpList_next_led rfl _ rfl m w.heap.size D f L rfl hrg hT.out hin.out ?_ ?_)
      | go_in)
    · intro hl
      have SO := Lib.hid (sort_row wr w.heap.size _ xs hrow few)
      rw [hcol.out.sort hl] at SO
      have hln : (sel (ovr now) f 200).length = xs.length := by rw [← hcol.out.sort hl]; exact List.length_mergeSort ..
      replace hln := Lib.hid hln
      clear hrow hrg
      go_wp2_with fail
      refine SO.out.mono ?_
      rintro e w2 ⟨rfl, h2, h3⟩
      have E : Hid (RisTo w (sel (ovr now) f 200) (.returned (.slice A xs.length c)) w2) := ⟨_, rfl, by rw [hln.out]; exact h2, hb.out.trans h3⟩
      clear SO h2 h3
      go_wp2
      go_ret
      exact E.out
    · intro x s u t w1 x1 x2 hlx hf hrg1 hlt hg1 hs1 hen
      obtain ⟨W, hW⟩ : ∃ W, W = w1.alloc (.cells #[.int .i64 s, .int .i64 u, .int .i64 t, .int .i64 0, .int .i64 0] 37) := ⟨_, rfl⟩
      have gW : wr.grownBy W (some w.heap.size) := by rw [hW]; exact hg1.andThen (World.grownBy_alloc _ _ none) (fun j hj => by cases hj)
      have BW : Hid (Below w.heap.size w W) := hb.out.trans (below_of_grown gW hb.out.size (fun i h => by injection h with h; omega))
      have rW : Hid (Rg W m w.heap.size D f (fun k => L k && !decide (k = x))) := by rw [hW]; exact hrg1.keep (World.grownBy_alloc _ _ none) (by simp) (by simp)
      have oW : Hid (RowI W w.heap.size (.slice A xs.length c) xs.length (ivs xs)) := ri_same hrow fun g hg => gW.block g (by
          obtain ⟨_, cur, hc⟩ := ri_block hrow hg
          exact lt_some hc) (fun e => (hrg.not_row hrow).2 (by rw [hg, e]))
      have mW : Hid (W.rangeLeft m w.heap.size < wr.rangeLeft m w.heap.size) := by
        have e : W.rangeLeft m w.heap.size = w1.rangeLeft m w.heap.size := by
          obtain ⟨left, cnt, h, _⟩ := hrg1.at_
          rw [hW, h.left_eq, (h.alloc _).left_eq]
        rw [e]; exact hlt
      have CW := C.out W BW.out ⟨s, u, t⟩
      unfold cell at CW
      simp only at CW
      have hp : (ovr now) (f x) = (ovr now) ⟨s, u, t⟩ := by rw [hf]
      obtain ⟨b, hbe⟩ : ∃ b, b = (ovr now) ⟨s, u, t⟩ := ⟨_, rfl⟩
      rw [← hbe] at CW hp
      replace CW := Lib.hid CW
      replace hW := Lib.hid hW
      replace hp := Lib.hid hp
      replace hlx := Lib.hid hlx
      replace hrow := Lib.hid hrow
      clear hbe gW hrg1 hlt hg1 hs1 hf hrg
      go_wp2_with fail
      rw [← hW.out]
      refine CW.out.mono ?_
      rintro e w2 ⟨rfl, h2⟩
      have B2 : Hid (Below w.heap.size w w2) := BW.out.trans (h2.mono BW.out.size)
      have r2 : Hid (Rg w2 m w.heap.size D f (fun k => L k && !decide (k = x))) := by
        obtain ⟨l1, l2⟩ := rW.out.lt
        exact rW.out.keep (row := none) ⟨h2.os, h2.tape, h2.output, h2.size, fun i hi _ => h2.block i hi⟩ (by simp) (by simp)
      have o2 : Hid (RowI w2 w.heap.size (.slice A xs.length c) xs.length (ivs xs)) := ri_below oW.out h2
      have m2 : Hid (w2.rangeLeft m w.heap.size < wr.rangeLeft m w.heap.size) := by
        have e : w2.rangeLeft m w.heap.size = W.rangeLeft m w.heap.size := by
          obtain ⟨l1, l2⟩ := rW.out.lt
          unfold World.rangeLeft
          rw [h2.block _ l1, h2.block _ l2]
        rw [e]; exact mW.out
      have z2 : Hid (w.heap.size ≤ w2.heap.size) := B2.out.size
      clear h2 CW BW rW oW mW hW
      cases b with
      | false =>
        have hcol2 : Hid (Col (ovr now) f (fun k => L k && !decide (k = x)) xs) := hcol.out.skip (fun _ => rfl) hp.out
        go_wp2
        go_roundw
        case rel => exact ⟨_, xs, o2.out, hcol2.out, r2.out, B2.out⟩
        case measure => exact m2.out
      | true =>
        have hcol2 : Hid (Col (ovr now) f (fun k => L k && !decide (k = x)) (xs ++ [x])) := hcol.out.take hlx.out (fun _ => rfl) ⟨x1, x2⟩ hp.out
        go_wp2_with (at_builtin; go_loud (refine wpList_app1 w2 rfl (.tmp 18) (.tmp 20) 22 rfl w.heap.size 3 i0 (.int .i64 0) 8 Tryz.underlying22 hi.out hz0.out hz1.out hz2.out rfl _ xs.length (ivs xs) (.int .i64 x) rfl o2.out rfl rfl (by unfold maxLen; omega) (by omega) z2.out ?_); intro v6 w6 h6 g6; have G6 : Hid (w2.grownBy w6 (Value.slice A xs.length c).ownBlock) := (World.grownBy_alloc w2 (.cells #[.int .i64 x] 3) (Value.slice A xs.length c).ownBlock).trans g6; have O6 := Lib.hid h6; clear h6 g6)
        have r6 : Hid (Rg w6 m w.heap.size D f (fun k => L k && !decide (k = x))) := by
          have := r2.out.not_row o2.out
          exact r2.out.keep G6.out this.1 this.2
        have m6 : Hid (w6.rangeLeft m w.heap.size < wr.rangeLeft m w.heap.size) := by
          have e : w6.rangeLeft m w.heap.size = w2.rangeLeft m w.heap.size := by
            obtain ⟨l1, l2⟩ := r2.out.lt
            have := r2.out.not_row o2.out
            unfold World.rangeLeft
            rw [G6.out.block _ l1 this.2, G6.out.block _ l2 this.1]
          rw [e]; exact m2.out
        have B6 : Hid (Below w.heap.size w w6) := B2.out.trans (below_of_grown G6.out z2.out (fun i h => (o2.out.lt i h).1))
        go_roundw
        case rel => exact ⟨_, xs ++ [x], by rw [ivs_snoc, List.length_append]; exact O6.out, hcol2.out, r6.out, B6.out⟩
        case measure => exact m6.out
theorem rising_anyS (w : World) (pn : Nat) (now : Int) (mo : Option Nat) (cap over : Int) (f : F) (h : MapIs w mo f) (O : Ok cap over f) (hn : w.cell? ⟨pn, 0, none⟩ = some (.int .i64 now)) :
    Calls Tryz.prog 123 #[.map mo, .func (.func 124) #[] #[.pointer (some ⟨pn, 0, none⟩)]] w (RisTo w (sel (ovr now) f 200)) := by
  rcases h with ⟨rfl, rfl⟩ | ⟨m, D, rfl, ho, T⟩
  · have e : sel (ovr now) fz 200 = [] := List.filter_eq_nil_iff.2 fun k _ => by
      show ¬ ((ovr now) ez = true)
      simp [ovr, ez]
    rw [e]
    exact rising_noneS w pn now
  · exact rising_someS w pn now m cap over f D ho T O hn
end St
end Go.Proofs.YtpkdigegkemogaaGreatDoor
namespace Go.Proofs.YtpkdigegkemogaaGreatDoor
set_option maxRecDepth 100000
open Go.RowKit
open Go.Sort (grow)
open Go.Proofs.YtpkdigegkemogaaGreatDoor.Pk (one_at one_free one_set lt_some grown_set grown_trans grown_refl u8s enc zz zz_lt zz_pos enc_lo enc_hi enc_ne encI_len rb_one byte_hi byte_lo own_form wpList_append_b adr_block Rb)
namespace St

def cat (zs : List Int) : Bs := zs.flatMap Pk.encI
theorem cat_len (zs : List Int) (h : ∀ z ∈ zs, 0 ≤ z ∧ z ≤ 4000000000000000000) : (cat zs).length ≤ 10 * zs.length := by
  induction zs with
  | nil => simp [cat]
  | cons z zs ih =>
    have e : cat (z :: zs) = Pk.encI z ++ cat zs := by simp [cat]
    rw [e, List.length_append]
    have h1 := h z (by simp)
    have := encI_len z (by omega) (by omega)
    have := ih (fun y hy => h y (by simp [hy]))
    simp only [List.length_cons]
    omega
structure Gu (base : Nat) (w w' : World) : Prop where
  os : w'.os = w.os
  tape : w'.tape = w.tape
  output : w'.output = w.output
  size : w.heap.size ≤ w'.heap.size
  block : ∀ g, g < w.heap.size → (g < base ∨ ∀ cs fr, w.heap[g]? ≠ some (.cells cs 5 fr)) → w'.heap[g]? = w.heap[g]?
section
variable {w w1 w2 : World} {base : Nat}
theorem Gu.refl (base : Nat) (w : World) : Gu base w w := ⟨rfl, rfl, rfl, Nat.le_refl _, fun _ _ _ => rfl⟩
theorem Gu.trans (h : Gu base w w1) (k : Gu base w1 w2) : Gu base w w2 :=
  ⟨k.os.trans h.os, k.tape.trans h.tape, k.output.trans h.output, Nat.le_trans h.size k.size, fun g hg hn => by
    have e := h.block g hg hn
    exact (k.block g (Nat.lt_of_lt_of_le hg h.size) (by rw [e]; exact hn)).trans e⟩
theorem Gu.of_below (h : Below w.heap.size w w1) : Gu base w w1 := ⟨h.os, h.tape, h.output, h.size, fun g hg _ => h.block g hg⟩
theorem Gu.below (h : Gu base w w1) (hb : base ≤ w.heap.size) : Below base w w1 := ⟨h.os, h.tape, h.output, h.size, fun g hg => h.block g (by omega) (.inl hg)⟩
theorem Gu.of_row {v : Value} {n : Nat} {xs : List Value} (hg : w.grownBy w1 v.ownBlock) (ho : w.ownsRow base 5 1 v n xs) : Gu base w w1 :=
  ⟨hg.os, hg.tape, hg.output, hg.size, fun g hlt hn => hg.block g hlt fun e => by
    rcases ho.2 with ⟨rfl, _⟩ | ⟨g', cap, cur, rfl, hb, hh, _⟩
    · simp [Value.ownBlock] at e
    · have e1 : g = g' := by simpa [Value.ownBlock] using e
      subst e1
      rcases hn with hn | hn
      · omega
      · exact hn _ _ hh⟩
end
structure Ns (w : World) (ad : Addr) (zs : List Int) : Prop where
  lt : ad.block < w.heap.size
  blk : ∀ cs fr, w.heap[ad.block]? ≠ some (Obj.cells cs 5 fr)
  at_ : ∀ (j : Nat) (z : Int), zs[j]? = some z → w.cell? (ad.add j) = some (.int .i64 z)
abbrev RowB (w : World) (base : Nat) (v : Value) (bs : Bs) : Prop := w.ownsRow base 5 1 v bs.length (u8s bs)
def InAt (base : Nat) (w : World) (all : Bs) (v u : Value) (wr : World) : Prop :=
  ∃ (x : Nat) (pre : Bs), u = .int .u64 x ∧ x < 18446744073709551616 ∧ RowB wr base v pre ∧ pre ++ enc x = all ∧ Gu base w wr ∧ base ≤ wr.heap.size
def ApAt (base : Nat) (w : World) (bs : Bs) (zs : List Int) (v i : Value) (wr : World) : Prop :=
  ∃ k : Nat, i = .int .i64 k ∧ k ≤ zs.length ∧ RowB wr base v (bs ++ cat (zs.take k)) ∧ Gu base w wr ∧ base ≤ wr.heap.size
def ApTo (base : Nat) (w : World) (bs : Bs) (e : Ending) (w' : World) : Prop := ∃ v, e = .returned v ∧ RowB w' base v bs ∧ Gu base w w' ∧ base ≤ w'.heap.size
theorem appendInts_any (base : Nat) (w : World) (v : Value) (bs : Bs) (ho : RowB w base v bs) (hB : base ≤ w.heap.size) (ad : Addr) (n : Nat) (zs : List Int) (hl : zs.length = n) (hs : Ns w ad zs) (hz : ∀ z ∈ zs, 0 ≤ z ∧ z ≤ 4000000000000000000) (hn : bs.length ≤ 100000) (hm : n ≤ 100) :
    Calls Tryz.prog 208 #[v, .slice (some ad) n n] w (ApTo base w (bs ++ cat zs)) :=
  (In.append_any base w v bs ho hB ad n zs hl ⟨hs.lt, .inr hs.blk, hs.at_⟩ hz hn hm).mono fun _ _ ⟨x, he, hr, hg, hb⟩ => ⟨x, he, hr, ⟨hg.os, hg.tape, hg.output, hg.size, hg.block⟩, hb⟩
end St
end Go.Proofs.YtpkdigegkemogaaGreatDoor
