/- told: what the program tells of a few. -/
import Derived.Test.YtnljfnhndnkckaaPlT
import Derived.Deep.CutBlock
namespace Go.Proofs.Ytnljfnhndnkckaa
set_option maxRecDepth 100000
open Go.RowKit
open Go.Proofs.Ytnljfnhndnkckaa.Pk (one_at one_free one_set lt_some grown_set grown_trans below_grown grown_refl)
namespace Pl
open Wt (Wan may Opn mayOp may_any refmay_any below_drewN)

def tw : Wan := ⟨3, 1, 0, 1, 0, 2, 7⟩
def tz : Wan := ⟨0, 0, 0, 0, 0, 0, 0⟩
def tf : List Stp := [⟨0, ⟨1, 3, 1, 0, 0⟩⟩, ⟨2, ⟨1, 3, 2, 0, 0⟩⟩, ⟨3, ⟨4, 3, 0, 1, 7⟩⟩, ⟨0, ⟨2, 3, 0, 0, 0⟩⟩, ⟨2, ⟨2, 3, 0, 0, 0⟩⟩]
def tb : List Stp := [⟨3, ⟨6, 3, 0, 0, 0⟩⟩, ⟨2, ⟨3, 3, 0, 0, 0⟩⟩, ⟨0, ⟨3, 3, 0, 0, 0⟩⟩]
theorem t_f : fwd tw = tf := by kernel_rfl
theorem t_b : bck tw = tb := by kernel_rfl
theorem t_p : parts tw = [0, 2] := by kernel_rfl
theorem t_c : cap tw = ⟨3, ⟨5, 3, 0, 0, 0⟩⟩ := by kernel_rfl
theorem t_z : fwd tz = [] := by kernel_rfl
def Two (w W : World) (v2 v3 : Value) (wx : World) : Prop := ∃ A B c d, v2 = .slice A 5 c ∧ v3 = .slice B 3 d ∧ RowT 28 wx w.heap.size v2 5 tf ∧ RowT 28 wx w.heap.size v3 3 tb ∧ Below W.heap.size W wx
set_option maxHeartbeats 6400000 in
theorem told_any (w : World) : Calls Try.prog 15 #[] w fun e w' => e = .returned (.bool true) ∧ Below w.heap.size w w' := by
  obtain ⟨W, hW⟩ : ∃ W, W = w.alloc (.cells #[.int .i64 3, .int .i64 1, .int .i64 0, .int .i64 1, .int .i64 0, .int .i64 2, .int .i64 7] 24) := ⟨_, rfl⟩
  have B0 : BoxW W w.heap.size tw := by rw [hW]; exact heap_alloc_new _ _
  have be0 : Below w.heap.size w W := by rw [hW]; exact (Below.refl _ w).alloc (Nat.le_refl _) _
  have CB : Hid (∀ w', Below W.heap.size W w' → BoxW w' w.heap.size tw) := fun w' h => B0.below h B0.lt
  have F1 : Hid (∀ w', Below W.heap.size W w' → Calls Try.prog 9 #[.agg #[.int .i64 3, .int .i64 1, .int .i64 0, .int .i64 1, .int .i64 0, .int .i64 2, .int .i64 7]] w' fun e w'' => ∃ A c, e = .returned (.slice A 5 c) ∧ RowT 28 w'' w.heap.size (.slice A 5 c) 5 tf ∧ Below W.heap.size W w'') := fun w' h => (fwd_any w' tw).mono fun e w'' ⟨v, h1, h2, h3⟩ => by
    rw [t_f] at h2
    obtain ⟨A, c, rfl, -⟩ := rt_form h2
    exact ⟨A, c, h1, rt_mono h2 (by have := be0.size; have := h.size; omega), h.trans (h3.mono h.size)⟩
  have F2 : Hid (∀ w', Below W.heap.size W w' → Calls Try.prog 11 #[.agg #[.int .i64 3, .int .i64 1, .int .i64 0, .int .i64 1, .int .i64 0, .int .i64 2, .int .i64 7]] w' fun e w'' => ∃ A c, e = .returned (.slice A 3 c) ∧ RowT 28 w'' w.heap.size (.slice A 3 c) 3 tb ∧ Below W.heap.size W w'' ∧ Below w'.heap.size w' w'') := fun w' h => (bck_any w' tw).mono fun e w'' ⟨v, h1, h2, h3⟩ => by
    rw [t_b] at h2
    obtain ⟨A, c, rfl, -⟩ := rt_form h2
    exact ⟨A, c, h1, rt_mono h2 (by have := be0.size; have := h.size; omega), h.trans (h3.mono h.size), h3⟩
  obtain ⟨c0, c1, c2, c3, c4, c5, c6⟩ := B0.cells
  have b0 : Below W.heap.size W W.drew := ⟨rfl, rfl, rfl, Nat.le_refl _, fun _ _ => rfl⟩
  replace hW := Lib.hid hW
  replace be0 := Lib.hid be0
  replace B0 := Lib.hid B0
  simp only [tw] at c0 c1 c2 c3 c4 c5 c6
  go_enter Try.func15, Try.ntmps15
  go_upto_region 2 with fail
  rw [← hW.out]
  go_cut [2, 3] from 7 to 10 (fun s2 s3 wx => Two w W s2 s3 wx)
  case first =>
    go_region_with ((first
      | (go_at_call 9; refine (F1.out _ (by assumption)).mono ?_; rintro e w6 ⟨A, c, rfl, hF, h6⟩; obtain ⟨c0, c1, c2, c3, c4, c5, c6⟩ := (CB.out _ h6).cells; simp only [tw] at c0 c1 c2 c3 c4 c5 c6)
      | (go_at_call 11; refine (F2.out _ (by assumption)).mono ?_; rintro e w7 ⟨B, d, rfl, hB, h7, h8⟩; have TT : Hid (Two w W (.slice A 5 c) (.slice B 3 d) w7) := ⟨_, _, _, _, rfl, rfl, rt_below hF h8, hB, h7⟩)))
    all_goals
      go_wp2
      go_meet
      case rel => exact TT.out
  case rest =>
    obtain ⟨A, B, c, d, rfl, rfl, hF, hB, hb⟩ := hcut
    clear b0 F1 F2 c0 c1 c2 c3 c4 c5 c6
    obtain ⟨c0, c1, c2, c3, c4, c5, c6⟩ := (CB.out _ hb).cells
    simp only [tw] at c0 c1 c2 c3 c4 c5 c6
    have P := parts_any wc tw
    have hwl : w.heap.size < wc.heap.size := block_lt_of_cell c0
    rw [t_p] at P
    replace P := Lib.hid P
    replace hF := Lib.hid hF
    replace hB := Lib.hid hB
    replace hb := Lib.hid hb
    go_wp2_with fail
    refine P.out.mono ?_
    rintro e w1 ⟨v, rfl, hP, h1⟩
    clear P c0 c1 c2 c3 c4 c5 c6
    have hb1 : Below W.heap.size W w1 := hb.out.trans (h1.mono hb.out.size)
    have hF1 := rt_below hF.out h1
    have hB1 := rt_below hB.out h1
    obtain ⟨C, k, rfl, hk, -⟩ := ri_form hP
    obtain ⟨g, rfl, f00⟩ := rt_cell hF1 (k := 0) rfl
    have f1 : At w1 g 1 _ := rt_at hF1 (k := 1) rfl
    have f2 : At w1 g 2 _ := rt_at hF1 (k := 2) rfl
    have f4 : At w1 g 4 _ := rt_at hF1 (k := 4) rfl
    obtain ⟨h, rfl, e00⟩ := rt_cell hB1 (k := 0) rfl
    have e1 : At w1 h 1 _ := rt_at hB1 (k := 1) rfl
    have e2 : At w1 h 2 _ := rt_at hB1 (k := 2) rfl
    obtain ⟨j, rfl, p1⟩ := ri_cell hP (k := 1) rfl
    have x0 : w1.cell? ⟨g, 0, none⟩ = some (.int .i64 0) := f00.1
    have x1 : w1.cell? ⟨g, 9, none⟩ = some (.int .i64 2) := f1.2.2.2.1
    have x2 : w1.cell? ⟨g, 13, none⟩ = some (.int .i64 4) := f2.2.1
    have x3 : w1.cell? ⟨g, 14, none⟩ = some (.int .i64 3) := f2.2.2.1
    have x4 : w1.cell? ⟨g, 15, none⟩ = some (.int .i64 0) := f2.2.2.2.1
    have x5 : w1.cell? ⟨g, 16, none⟩ = some (.int .i64 1) := f2.2.2.2.2.1
    have x6 : w1.cell? ⟨g, 17, none⟩ = some (.int .i64 7) := f2.2.2.2.2.2
    have x7 : w1.cell? ⟨g, 25, none⟩ = some (.int .i64 2) := f4.2.1
    have y0 : w1.cell? ⟨h, 1, none⟩ = some (.int .i64 6) := e00.2.1
    have y1 : w1.cell? ⟨h, 6, none⟩ = some (.int .i64 2) := e1.1
    have y2 : w1.cell? ⟨h, 12, none⟩ = some (.int .i64 0) := e2.1
    obtain ⟨c0, c1, c2, c3, c4, c5, c6⟩ := (CB.out _ hb1).cells
    simp only [tw] at c0 c1 c2 c3 c4 c5 c6
    have hwl : w.heap.size < w1.heap.size := block_lt_of_cell c0
    have K : Calls Try.prog 6 #[.agg #[.int .i64 3, .int .i64 1, .int .i64 0, .int .i64 1, .int .i64 0, .int .i64 2, .int .i64 7]] w1 fun e w' => e = .returned (.agg #[.int .i64 3, .int .i64 5, .int .i64 3, .int .i64 0, .int .i64 0, .int .i64 0]) ∧ Below w1.heap.size w1 w' := by
      have := cap_any w1 tw
      rw [t_c] at this
      exact this
    have EQ := fun w => eq_op_same w 4 3 0 1 7
    have jl : j < w1.heap.size := block_lt_of_cell p1
    replace K := Lib.hid K
    replace hb1 := Lib.hid hb1
    have P1 := Lib.hid p1
    clear hb hF hB hF1 hB1 hP h1 f00 f1 f2 f4 e00 e1 e2 CB B0 hW
    go_wp2_with fail
    refine K.out.mono ?_
    rintro e w2 ⟨rfl, h2⟩
    have FR : ∀ w, (Instr.field 28 (.agg #[.int .i64 3, .int .i64 5, .int .i64 3, .int .i64 0, .int .i64 0, .int .i64 0]) 0).run Try.prog w = .ok (.int .i64 3) w := fun w => by kernel_rfl
    have p2 : w2.cell? ⟨j, 1, none⟩ = some (.int .i64 2) := (World.cell?_of_block (h2.block j jl)).trans P1.out
    have hb2 : Hid (Below W.heap.size W w2) := hb1.out.trans (h2.mono hb1.out.size)
    have Z : Calls Try.prog 9 #[.agg #[.int .i64 0, .int .i64 0, .int .i64 0, .int .i64 0, .int .i64 0, .int .i64 0, .int .i64 0]] w2 (StpsTo 28 w2 []) := by
      have := fwd_any w2 tz
      rw [t_z] at this
      exact this
    replace Z := Lib.hid Z
    clear x0 x1 x2 x3 x4 x5 x6 x7 y0 y1 y2 c0 c1 c2 c3 c4 c5 c6 K EQ h2 P1 p1 hb1
    go_wp2_with fail
    refine Z.out.mono ?_
    rintro e w3 ⟨v, rfl, hz, h3⟩
    obtain ⟨Az, cz, rfl, -⟩ := rt_form hz
    have E : Hid (Below w.heap.size w w3) := be0.out.trans ((hb2.out.trans (h3.mono hb2.out.size)).mono be0.out.size)
    clear hz h3 Z
    go_wp2_with fail
    go_ret
    exact ⟨rfl, E.out⟩
end Pl
end Go.Proofs.Ytnljfnhndnkckaa
