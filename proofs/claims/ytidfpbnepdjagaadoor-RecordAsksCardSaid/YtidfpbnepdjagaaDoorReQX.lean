/- The program's calls on records, all of them. -/
import Derived.Test.YtidfpbnepdjagaaDoorSgQ0
import Derived.ProofKit
import Derived.LaidMore
import Derived.OpenShut
import Derived.Stop.Joined
import Derived.Test.YtidfpbnepdjagaaDoorReX
import Derived.Test.YtidfpbnepdjagaaDoorSgQX
import Derived.Test.YtidfpbnepdjagaaDoorSbX
namespace Go.Proofs.YtidfpbnepdjagaaDoor
set_option maxRecDepth 100000
open Go.ChangeShapes Go.WideShapes Go.ChangeAt Go.WideMaps Go.WideElems Go.RowKit
namespace Sg

abbrev laids {H : Type} : List (String × DataW H) := [("sojourn/saga.phases", Rows.laid_sojourn_saga_phases)]
theorem gPhases : Tryd.prog.globalNamed "sojourn/saga.phases" = some 0 := by kernel_rfl
theorem tPhases : (Tryd.prog.globals[0]?).map (·.type) = some 116 := by kernel_rfl
theorem door_met (os : Os) (args : Array Value) : laidMetH Tryd.prog laids ((World.doorLaid Tryd.prog 400 os).forCall (fun _ _ => 0) ⟨#[], args, []⟩).memory :=
  laidMetH_of_parts3 (fuel := 8) (laidMet_of_run' 8 (by kernel_rfl) (by kernel_rfl)) (by kernel_rfl) (by kernel_rfl)
section
variable {H : Type} {enc : TypeId × Value → H} {w : World} {base : Nat} {spare : Nat → Bool} {held : Bool} {fuel : Nat}
/-- A row of the table, as its datum says. -/
theorem row_of {cs : List Value} {x : DataW H × List MemPlace} {a b : Int} {c : Bool} (h : DataW.trod enc Tryd.prog w base spare held fuel 115 cs = some x) (hx : x.1 = .agg [.lit (.int .i64 a), .lit (.int .i64 b), .lit (.bool c)]) :
    cs[0]? = some (.int .i64 a) ∧ cs[1]? = some (.int .i64 b) ∧ cs[2]? = some (.bool c) := by
  obtain ⟨xs, n, _, rfl, hl, hlen, hf⟩ := DataW.trod_struct Tryd.underlying115 h
  match xs, hlen with
  | [y0, y1, y2], _ =>
    have f0 : DataW.trod enc Tryd.prog w base spare held n 3 ((cs.drop 0).take (Tryd.prog.cellsOf 3)) = some y0 := hf 0 _ rfl
    have f1 : DataW.trod enc Tryd.prog w base spare held n 3 ((cs.drop 1).take (Tryd.prog.cellsOf 3)) = some y1 := hf 1 _ rfl
    have f2 : DataW.trod enc Tryd.prog w base spare held n 4 ((cs.drop 2).take (Tryd.prog.cellsOf 4)) = some y2 := hf 2 _ rfl
    have c1 : Tryd.prog.cellsOf 3 = 1 := by kernel_rfl
    have c2 : Tryd.prog.cellsOf 4 = 1 := by kernel_rfl
    rw [c1] at f0 f1
    rw [c2] at f2
    obtain ⟨k0, e0, rfl, _⟩ := DataW.trod_int Tryd.underlying3 f0
    obtain ⟨k1, e1, rfl, _⟩ := DataW.trod_int Tryd.underlying3 f1
    obtain ⟨k2, e2, rfl⟩ := DataW.trod_bool Tryd.underlying4 f2
    simp only [List.map_cons, List.map_nil, DataW.agg.injEq, List.cons.injEq, DataW.lit.injEq, Lit.int.injEq, Lit.bool.injEq, true_and, and_true] at hx
    obtain ⟨rfl, rfl, rfl⟩ := hx
    have g0 := congrArg (fun z : List Value => z[0]?) e0
    have g1 := congrArg (fun z : List Value => z[0]?) e1
    have g2 := congrArg (fun z : List Value => z[0]?) e2
    simp only [List.getElem?_take, List.getElem?_drop, Nat.add_zero, List.getElem?_cons_zero] at g0 g1 g2
    exact ⟨by simpa using g0, by simpa using g1, by simpa using g2⟩
end
theorem of_laid {W : World} (h : laidMetH Tryd.prog laids W) : Tab W := by
  rw [MakeChecks.laidMetH_plain _ _ _ (by kernel_rfl)] at h
  obtain ⟨ps, ⟨g0, t0, cs0, f0, p0, q0, hg0, ht0, hv0, hd0, _⟩, _⟩ := h
  obtain rfl := Option.some.inj (gPhases.symm.trans hg0)
  obtain rfl := Option.some.inj (tPhases.symm.trans ht0)
  obtain ⟨xs, m1, rfl, hx1, hlen, hn3, hel⟩ := DataW.trod_array Tryd.underlying116 hd0
  have c1 : Tryd.prog.cellsOf 115 = 3 := by kernel_rfl
  rw [c1] at hel
  have hx2 := (DataW.agg.inj (Prod.mk.inj hx1).1).symm
  have R : ∀ i a b c, i < 6 → (xs.map (·.1))[i]? = some (.agg [.lit (.int .i64 a), .lit (.int .i64 b), .lit (.bool c)]) →
      W.cell? ⟨0, i * 3, none⟩ = some (.int .i64 a) ∧ W.cell? ⟨0, i * 3 + 1, none⟩ = some (.int .i64 b) ∧ W.cell? ⟨0, i * 3 + 2, none⟩ = some (.bool c) := by
    intro i a b c hi hd
    obtain ⟨y, hy⟩ : ∃ y, xs[i]? = some y := ⟨_, List.getElem?_eq_getElem (by omega)⟩
    rw [List.getElem?_map, hy] at hd
    have hE := hel i hi
    rw [hy] at hE
    obtain ⟨r0, r1, r2⟩ := row_of hE (Option.some.inj hd)
    simp only [List.getElem?_take, List.getElem?_drop, Nat.add_zero] at r0 r1 r2
    rw [World.var?_cell hg0 hv0 _, World.var?_cell hg0 hv0 _, World.var?_cell hg0 hv0 _, ← Array.getElem?_toList, ← Array.getElem?_toList, ← Array.getElem?_toList]
    exact ⟨by simpa using r0, by simpa using r1, by simpa using r2⟩
  rw [hx2] at R
  obtain ⟨c0, c1, c2⟩ := R 1 2 2 false (by omega) rfl
  obtain ⟨d0, d1, d2⟩ := R 2 4 2 false (by omega) rfl
  obtain ⟨e0, e1, e2⟩ := R 3 5 2 true (by omega) rfl
  obtain ⟨f0, f1, f2⟩ := R 4 0 3 false (by omega) rfl
  obtain ⟨g0, g1, g2⟩ := R 5 0 4 true (by omega) rfl
  exact ⟨c0, c1, c2, d0, d1, d2, e0, e1, e2, f0, f1, f2, g0, g1, g2⟩
end Sg
end Go.Proofs.YtidfpbnepdjagaaDoor

namespace Go.Proofs.YtidfpbnepdjagaaDoor
set_option maxRecDepth 100000
open Go.RowKit
open Go.Proofs.YtidfpbnepdjagaaDoor.Pk
namespace Re
open Go.Proofs.YtidfpbnepdjagaaDoor.Sg (Sag sz smay sgc sgv sag_size smay_any)
open Wt (Opn mayOp inR inR_at inR_no mayop_any op_info)
open Pl (setRow_below regionAt)

theorem pwithin_any (w : World) (v lo hi : Int) :
    Calls Tryd.prog 22 #[.int .i64 v, .int .i64 lo, .int .i64 hi] w fun e w' => e = .returned (.bool (inR v lo hi)) ∧ w = w' := by
  by_cases h : lo ≤ v
  · have E := Lib.hid (inR_at (hi := hi) h)
    go_enter Tryd.func22, Tryd.ntmps22
    go_wp2
    go_ret
    rw [← E.out]
    exact ⟨rfl, rfl⟩
  · have E := Lib.hid (inR_no (hi := hi) (Int.not_le.1 h))
    go_enter Tryd.func22, Tryd.ntmps22
    go_wp2
    go_ret
    rw [E.out]
    exact ⟨rfl, rfl⟩
theorem inR_12 (a : Int) : inR a 1 2 = (a == 1 || a == 2) := by
  unfold inR
  by_cases h1 : a = 1
  · subst h1; rfl
  · by_cases h2 : a = 2
    · subst h2; rfl
    · rw [decide_eq_false (by omega)]; simp [h1, h2]
theorem eq_1 (r : Rec) : decide (r = ⟨r.kd, r.now, r.an, r.op, sz⟩) = decide (r.sg = sz) := by
  obtain ⟨a, b, c, d, e⟩ := r
  simp
theorem eq_2 (r : Rec) : decide (r = ⟨r.kd, r.now, 0, o0, sz⟩) = (decide (r.op = o0) && r.an == 0 && decide (r.sg = sz)) := by
  obtain ⟨a, b, c, d, e⟩ := r
  by_cases h1 : c = 0 <;> by_cases h2 : d = o0 <;> by_cases h3 : e = sz <;> simp [h1, h2, h3]
theorem eq_3 (r : Rec) : decide (r = ⟨r.kd, r.now, 0, o0, r.sg⟩) = (decide (r.op = o0) && r.an == 0) := by
  obtain ⟨a, b, c, d, e⟩ := r
  by_cases h1 : c = 0 <;> by_cases h2 : d = o0 <;> simp [h1, h2]
theorem pm_1 {r : Rec} (h : inR r.now 0 1099511627776 = true) (k : r.kd = 1) : rmay r = (mayOp r.op && (inR r.an 1 2 && decide (r = ⟨r.kd, r.now, r.an, r.op, sz⟩))) := by
  unfold rmay
  rw [h, if_pos k, eq_1, inR_12, Bool.true_and, Bool.and_assoc]
theorem pm_2 {r : Rec} (h : inR r.now 0 1099511627776 = true) (k : r.kd = 2) : rmay r = decide (r = ⟨r.kd, r.now, 0, o0, sz⟩) := by
  unfold rmay
  rw [h, if_neg (by omega), if_pos k, eq_2, Bool.true_and]
theorem pm_3 {r : Rec} (h : inR r.now 0 1099511627776 = true) (k : r.kd = 3) : rmay r = (smay r.sg && decide (r = ⟨r.kd, r.now, 0, o0, r.sg⟩)) := by
  unfold rmay
  rw [h, if_neg (by omega), if_neg (by omega), if_pos k, eq_3, Bool.true_and, Bool.and_comm]
theorem pm_4 {r : Rec} (k1 : r.kd ≠ 1) (k2 : r.kd ≠ 2) (k3 : r.kd ≠ 3) : rmay r = false := by
  unfold rmay
  rw [if_neg k1, if_neg k2, if_neg k3, Bool.and_false]
theorem pm_0 {r : Rec} (h : inR r.now 0 1099511627776 = false) : rmay r = false := by
  unfold rmay
  rw [h, Bool.false_and]
theorem below_grown2 {a b w : World} {q g : Nat} (hq : q ≤ g) (ha : g < a.heap.size) (h : Below q w a) (k : a.grownBy b (some g)) : Below q w b :=
  h.trans ⟨k.os, k.tape, k.output, k.size, fun j hj => k.block j (by omega) (fun e => by injection e with e; omega)⟩
theorem step_store_mid {P : Program} {ops : Array Oper} {o : Oper} {a : Act} {w : World} {K : Act → World → Prop} {Q : Exit → Act → World → Prop} {E : Prop} (hgd : o.guard = none) (ty : TypeId) (x y : Operand) (ho : o.op = .store ty x y)
    (b i : Nat) (cells : Array Value) (hx : a.eval x = .pointer (some ⟨b, i, none⟩)) (hy : a.eval y = .agg cells)
    (ht : w.there b i cells.size) (hi : (P.info? ty).map (·.size) = some cells.size) (h1 : cells.all (·.oneCell') = true)
    (h : K (a.put o.dst undef) (w.setCells b i cells.toList)) : if Region.wanted o (yielded ops a.tmps) = true then Oper.wp P o a w K Q else E := by
  have hw : Region.wanted o (yielded ops a.tmps) = true := by simp [Region.wanted, hgd]
  rw [if_pos hw]
  exact wp_store_mid ty x y ho b i cells hx hy ht hi h1 h

noncomputable def pm_6 : Code := (Tryd.f9.body.bind (regionAt 6)).getD .skip
set_option maxHeartbeats 12800000 in
theorem pm6 (z0 z2 z4 z5 z6 z7 z8 z9 z10 z11 z12 z13 z14 z15 z16 z17 z18 z19 z20 z21 z22 z23 z24 z25 z26 z27 z28 z29 z30 z31 z32 z33 z34 z35 z36 z37 z38 z39 z40 z41 z42 z43 z44 z45 z46 z47 z48 z49 z50 z51 z52 z53 : Value) (W : World) (p g : Nat) (r : Rec) (hpg : p < g)
    (B0 : BoxR W p r)
    (OW : BoxR W g ⟨r.kd, r.now, 0, o0, sz⟩)
    (Q : Exit → Act → World → Prop)
    (hP : ∀ c a d v w, Q (.panic c) (Act.put a d v) w → Q (.panic c) a w)
    (hQ : ∀ (y17 y18 y19 y20 y21 y22 : Value)  (W3 : World), BoxR W3 g ⟨r.kd, r.now, r.an, r.op, sz⟩ → Below g W W3 → Q .normal ⟨#[z0, .pointer (some ⟨p, 0, none⟩), z2, .pointer (some ⟨g, 0, none⟩), z4, z5, z6, z7, z8, z9, z10, z11, z12, z13, z14, z15, z16, y17, y18, y19, y20, y21, y22, z23, z24, z25, z26, z27, z28, z29, z30, z31, z32, z33, z34, z35, z36, z37, z38, z39, z40, z41, z42, z43, z44, z45, z46, z47, z48, z49, z50, z51, z52, z53], []⟩ W3) :
    Code.wp Tryd.prog pm_6 Q ⟨#[z0, .pointer (some ⟨p, 0, none⟩), z2, .pointer (some ⟨g, 0, none⟩), z4, z5, z6, z7, z8, z9, z10, z11, z12, z13, z14, z15, z16, z17, z18, z19, z20, z21, z22, z23, z24, z25, z26, z27, z28, z29, z30, z31, z32, z33, z34, z35, z36, z37, z38, z39, z40, z41, z42, z43, z44, z45, z46, z47, z48, z49, z50, z51, z52, z53], []⟩ W := by
  conv => arg 2; whnf
  have b0 : Below g W W.drew := ⟨rfl, rfl, rfl, Nat.le_refl _, fun _ _ => rfl⟩
  refine wp_region_held_drew (S := fun w => Below g W w) (by kernel_rfl) b0 (fun hHeld => ?_)
  replace hQ := Lib.hid hQ
  clear b0
  obtain ⟨v0, hv⟩ : ∃ v, v = W.drew := ⟨_, rfl⟩
  have O0 : BoxR v0 g ⟨r.kd, r.now, 0, o0, sz⟩ := by rw [hv]; exact OW
  rw [← hv] at hHeld ⊢
  clear hv
  refine' wpAnyH_take (i := 0) (oi := ?o1) (v := ?v1) ?hi1 (by kernel_rfl) (by kernel_rfl) (by kernel_rfl) (fun c a w h => hP c a _ _ w h) (Or.inl ⟨?hw1, ?hy1⟩) hHeld ?rest1
  case hi1 => simp only [List.getElem?_toArray, List.getElem?_cons_zero]; rfl
  case hw1 => rfl
  case hy1 =>
    intro w _
    go_simp
    try with_reducible rfl
  simp only [Act.put, List.setIfInBounds_toArray, List.set_cons_zero, List.set_cons_succ]
  refine' wpAnyH_take (i := 1) (oi := ?o2) (v := ?v2) ?hi2 (by kernel_rfl) (by kernel_rfl) (by kernel_rfl) (fun c a w h => hP c a _ _ w h) (Or.inl ⟨?hw2, ?hy2⟩) hHeld ?rest2
  case hi2 => simp only [List.getElem?_toArray, List.getElem?_cons_succ, List.getElem?_cons_zero]; rfl
  case hw2 => rfl
  case hy2 =>
    intro w hSw
    obtain ⟨c0, c1, c2, c3, c4, c5, c6, c7, c8, c9, c10, c11, c12, c13, c14, c15, c16, c17, c18⟩ := (show BoxR w p r from (hSw.block p hpg).trans B0).cells
    go_simp
    try with_reducible rfl
  simp only [Act.put, List.setIfInBounds_toArray, List.set_cons_zero, List.set_cons_succ]
  refine' wpAnyH_take (i := 2) (oi := ?o3) (v := ?v3) ?hi3 (by kernel_rfl) (by kernel_rfl) (by kernel_rfl) (fun c a w h => hP c a _ _ w h) (Or.inl ⟨?hw3, ?hy3⟩) hHeld ?rest3
  case hi3 => simp only [List.getElem?_toArray, List.getElem?_cons_succ, List.getElem?_cons_zero]; rfl
  case hw3 => rfl
  case hy3 =>
    intro w _
    go_simp
    try with_reducible rfl
  simp only [Act.put, List.setIfInBounds_toArray, List.set_cons_zero, List.set_cons_succ]
  refine' wpAnyH_take (i := 3) (oi := ?o4) (v := ?v4) ?hi4 (by kernel_rfl) (by kernel_rfl) (by kernel_rfl) (fun c a w h => hP c a _ _ w h) (Or.inl ⟨?hw4, ?hy4⟩) hHeld ?rest4
  case hi4 => simp only [List.getElem?_toArray, List.getElem?_cons_succ, List.getElem?_cons_zero]; rfl
  case hw4 => rfl
  case hy4 =>
    intro w hSw
    have c2 := (show BoxR w p r from (hSw.block p hpg).trans B0).cells.c2
    go_simp
    try with_reducible rfl
  simp only [Act.put, List.setIfInBounds_toArray, List.set_cons_zero, List.set_cons_succ]
  refine' wpAnyH_take (i := 4) (oi := ?o5) (v := ?v5) ?hi5 (by kernel_rfl) (by kernel_rfl) (by kernel_rfl) (fun c a w h => hP c a _ _ w h) (Or.inl ⟨?hw5, ?hy5⟩) hHeld ?rest5
  case hi5 => simp only [List.getElem?_toArray, List.getElem?_cons_succ, List.getElem?_cons_zero]; rfl
  case hw5 => rfl
  case hy5 =>
    intro w _
    go_simp
    try with_reducible rfl
  simp only [Act.put, List.setIfInBounds_toArray, List.set_cons_zero, List.set_cons_succ]
  refine wpAnyH_ready (rs := [5]) (by kernel_rfl) (by simp) ?_
  refine' AllReadyH.cons (i := 5) (o := ?o6) ?hi6 (fun K hK => ?st6) ?mo6
  case hi6 => simp only [List.getElem?_toArray, List.getElem?_cons_succ, List.getElem?_cons_zero]; rfl
  case st6 =>
    have TH : v0.there g 3 5 := fun j hj => ⟨by rw [one_at O0, Array.getElem?_eq_getElem (by simp; omega)]; rfl, one_free O0⟩
    refine step_store_mid rfl 23 (.tmp 21) (.tmp 18) rfl g 3 #[.int .i64 r.op.kind, .int .i64 r.op.book, .int .i64 r.op.units, .int .i64 r.op.cust, .int .i64 r.op.amount] rfl rfl TH op_info (by simp [Value.oneCell']) ?_
    have hHeld2 : Below g W (v0.setCells g 3 (#[.int .i64 r.op.kind, .int .i64 r.op.book, .int .i64 r.op.units, .int .i64 r.op.cust, .int .i64 r.op.amount] : Array Value).toList) := below_grown2 (Nat.le_refl _) (lt_some O0) hHeld (setCells_grown _ _ _)
    refine hK.out _ _ hHeld2 (fun hHeld3 => ?_)
    clear hK K hHeld3
    try simp only [Act.put]
    replace O0 : BoxR (v0.setCells g 3 (#[.int .i64 r.op.kind, .int .i64 r.op.book, .int .i64 r.op.units, .int .i64 r.op.cust, .int .i64 r.op.amount] : Array Value).toList) g ⟨r.kd, r.now, 0, r.op, sz⟩ := by
      have := setCells_heap [.int .i64 r.op.kind, .int .i64 r.op.book, .int .i64 r.op.units, .int .i64 r.op.cust, .int .i64 r.op.amount] v0 3 _ O0
      rw [stv5] at this
      exact this
    obtain ⟨v1, hv⟩ : ∃ v, v = v0.setCells g 3 (#[.int .i64 r.op.kind, .int .i64 r.op.book, .int .i64 r.op.units, .int .i64 r.op.cust, .int .i64 r.op.amount] : Array Value).toList := ⟨_, rfl⟩
    rw [← hv] at O0 hHeld2 ⊢
    clear hv hHeld TH
    have hHeld := hHeld2
    clear hHeld2
    try simp only [Act.put, List.setIfInBounds_toArray, List.set_cons_zero, List.set_cons_succ]
    refine' wpAnyH_take (i := 6) (oi := ?o7) (v := ?v7) ?hi7 (by kernel_rfl) (by kernel_rfl) (by kernel_rfl) (fun c a w h => hP c a _ _ w h) (Or.inl ⟨?hw7, ?hy7⟩) hHeld ?rest7
    case hi7 => simp only [List.getElem?_toArray, List.getElem?_cons_succ, List.getElem?_cons_zero]; rfl
    case hw7 => rfl
    case hy7 =>
      intro w _
      go_simp
      try with_reducible rfl
    simp only [Act.put, List.setIfInBounds_toArray, List.set_cons_zero, List.set_cons_succ]
    refine wpAnyH_ready (rs := [7]) (by kernel_rfl) (by simp) ?_
    refine' AllReadyH.cons (i := 7) (o := ?o8) ?hi8 (fun K hK => ?st8) ?mo8
    case hi8 => simp only [List.getElem?_toArray, List.getElem?_cons_succ, List.getElem?_cons_zero]; rfl
    case st8 =>
      have fm : v1.frozen? ⟨g, 2, none⟩ = false := one_free O0
      have cm : v1.cell? ⟨g, 2, none⟩ = some (.int .i64 0) := one_at O0
      go_simp
      have hHeld2 : Below g W (v1.setCell ⟨g, 2, none⟩ (.int .i64 r.an)) := below_grown2 (Nat.le_refl _) (lt_some O0) hHeld (grown_set _ g 2 _)
      refine hK.out _ _ hHeld2 (fun hHeld3 => ?_)
      clear hK K hHeld3
      try simp only [Act.put]
      replace O0 : BoxR (v1.setCell ⟨g, 2, none⟩ (.int .i64 r.an)) g ⟨r.kd, r.now, r.an, r.op, sz⟩ := one_set O0 _
      obtain ⟨v2, hv⟩ : ∃ v, v = v1.setCell ⟨g, 2, none⟩ (.int .i64 r.an) := ⟨_, rfl⟩
      rw [← hv] at O0 hHeld2 ⊢
      clear hv hHeld fm cm
      have hHeld := hHeld2
      clear hHeld2
      try simp only [Act.put, List.setIfInBounds_toArray, List.set_cons_zero, List.set_cons_succ]
      refine wpAnyH_done (by kernel_rfl) ?_ _
      exact hQ.out _ _ _ _ _ _ _ O0 hHeld
    case mo8 => exact AllReadyH.nil
  case mo6 => exact AllReadyH.nil

set_option maxHeartbeats 12800000 in
theorem pmay_any (w : World) (t : Sg.Tab w) (r : Rec) : Calls Tryd.prog 9 #[rcv r] w fun e w' => e = .returned (.bool (rmay r)) ∧ Below w.heap.size w w' := by
  obtain ⟨w0, e0⟩ : ∃ z, z = w.alloc (.cells (rcc r) 30) := ⟨_, rfl⟩
  have be0 : Hid (Below w.heap.size w w0) := by rw [e0]; exact (Below.refl _ w).alloc (Nat.le_refl _) _
  have hB : Hid (BoxR w0 w.heap.size r) := by rw [e0]; exact heap_alloc_new _ _
  have T0 : Hid (Sg.Tab w0) := t.below be0.out
  have WN : Hid (∀ w, Calls Tryd.prog 22 #[.int .i64 r.now, .int .i64 0, .int .i64 1099511627776] w fun e w' => e = .returned (.bool (inR r.now 0 1099511627776)) ∧ w = w') := fun w => pwithin_any w _ _ _
  have WA : Hid (∀ w, Calls Tryd.prog 22 #[.int .i64 r.an, .int .i64 1, .int .i64 2] w fun e w' => e = .returned (.bool (inR r.an 1 2)) ∧ w = w') := fun w => pwithin_any w _ _ _
  have MO : Hid (∀ w, Calls Tryd.prog 23 #[.agg #[.int .i64 r.op.kind, .int .i64 r.op.book, .int .i64 r.op.units, .int .i64 r.op.cust, .int .i64 r.op.amount]] w fun e w' => e = .returned (.bool (mayOp r.op)) ∧ Below w.heap.size w w') := fun w => mayop_any w r.op
  have MS : Hid (∀ w', Below w0.heap.size w0 w' → Calls Tryd.prog 24 #[.agg #[.int .i64 r.sg.w.book, .int .i64 r.sg.w.cust, .int .i64 r.sg.w.dead, .int .i64 r.sg.w.u0, .int .i64 r.sg.w.u1, .int .i64 r.sg.w.u2, .int .i64 r.sg.w.price, .int .i64 r.sg.ph, .int .i64 r.sg.st, .int .i64 r.sg.rs, .int .i64 r.sg.si]] w' fun e w'' => e = .returned (.bool (smay r.sg)) ∧ Below w'.heap.size w' w'') := fun w' h => smay_any w' (T0.out.below h) r.sg
  obtain ⟨c0, c1, c2, c3, c4, c5, c6, c7, c8, c9, c10, c11, c12, c13, c14, c15, c16, c17, c18⟩ := hB.out.cells
  have lk := hB.out.lt
  replace e0 := Lib.hid e0
  clear t T0
  unfold rcv rcc
  cases hn : inR r.now 0 1099511627776 with
  | false =>
    have F := Lib.hid (pm_0 hn)
    rw [hn] at WN
    clear MO MS WA hn
    go_enter Tryd.func9, Tryd.ntmps9
    go_upto_region 1 with fail
    have e0' := e0.out
    unfold rcc at e0'
    rw [← e0']
    clear e0'
    go_wp2_with fail
    refine (WN.out _).mono ?_
    rintro e w1 ⟨rfl, rfl⟩
    go_wp2
    go_ret
    rw [F.out]
    exact ⟨rfl, be0.out⟩
  | true =>
    rw [hn] at WN
    replace hn := Lib.hid hn
    go_enter Tryd.func9, Tryd.ntmps9
    go_upto_region 1 with fail
    have e0' := e0.out
    unfold rcc at e0'
    rw [← e0']
    clear e0'
    go_wp2_with fail
    refine (WN.out _).mono ?_
    rintro e w1 ⟨rfl, rfl⟩
    go_upto_region 4 with (refine wpList_rstore rfl (.tmp 3) (.tmp 12) rfl w0.heap.size rfl ⟨r.kd, r.now, 0, o0, sz⟩ rfl r0 (heap_alloc_new _ _) ?_)
    obtain ⟨u, eu⟩ : ∃ z, z = (w0.alloc (.cells #[.int .i64 0, .int .i64 0, .int .i64 0, .int .i64 0, .int .i64 0, .int .i64 0, .int .i64 0, .int .i64 0, .int .i64 0, .int .i64 0, .int .i64 0, .int .i64 0, .int .i64 0, .int .i64 0, .int .i64 0, .int .i64 0, .int .i64 0, .int .i64 0, .int .i64 0] 30)).setRow w0.heap.size (rcc ⟨r.kd, r.now, 0, o0, sz⟩) := ⟨_, rfl⟩
    rw [← eu]
    have b1 : Below w0.heap.size w0 u := by rw [eu]; exact ((Below.refl _ _).alloc (Nat.le_refl _) _).trans (setRow_below _ (Nat.le_refl _))
    have BO : Hid (BoxR u w0.heap.size ⟨r.kd, r.now, 0, o0, sz⟩) := by rw [eu]; exact setRow_heap _ _ _ _ _ _ (heap_alloc_new _ _)
    have BR : Hid (BoxR u w.heap.size r) := hB.out.below b1
    have be1 : Hid (Below w.heap.size w u) := be0.out.trans (b1.mono be0.out.size)
    replace MS : Hid (∀ w', Below w0.heap.size u w' → Calls Tryd.prog 24 #[.agg #[.int .i64 r.sg.w.book, .int .i64 r.sg.w.cust, .int .i64 r.sg.w.dead, .int .i64 r.sg.w.u0, .int .i64 r.sg.w.u1, .int .i64 r.sg.w.u2, .int .i64 r.sg.w.price, .int .i64 r.sg.ph, .int .i64 r.sg.st, .int .i64 r.sg.rs, .int .i64 r.sg.si]] w' fun e w'' => e = .returned (.bool (smay r.sg)) ∧ Below w'.heap.size w' w'') := fun w' h => MS.out w' (b1.trans h)
    obtain ⟨g, eg⟩ : ∃ z, z = w0.heap.size := ⟨_, rfl⟩
    rw [← eg] at BO MS lk ⊢
    clear eu eg b1 e0 be0 hB WN c0 c1 c2 c3 c4 c5 c6 c7 c8 c9 c10 c11 c12 c13 c14 c15 c16 c17 c18
    have kk := BR.out.cells.c0
    have lr := BR.out.lt
    have lo := BO.out.lt
    by_cases k1 : r.kd = 1
    · have F := pm_1 hn.out k1
      have EQ := fun w => eq_rec w r ⟨r.kd, r.now, r.an, r.op, sz⟩
      rw [k1] at kk
      generalize decide (r = ⟨r.kd, r.now, r.an, r.op, sz⟩) = dq at EQ F
      replace F := Lib.hid F
      replace lk := Lib.hid lk
      replace k1 := Lib.hid k1
      clear MS
      go_upto_region 6 with fail
      refine pm6 _ _ _ _ _ _ _ _ _ _ _ _ _ _ _ _ _ _ _ _ _ _ _ _ _ _ _ _ _ _ _ _ _ _ _ _ _ _ _ _ _ _ _ _ _ _ _ _ _ _ _ _ u w.heap.size g r lk.out BR.out BO.out _ (fun _ _ d _ _ h => by cases d <;> exact h) (fun _ _ _ _ _ _ w3 BO3 h => ?_)
      have BR3 : Hid (BoxR w3 w.heap.size r) := (h.block _ lk.out).trans BR.out
      have be3 : Hid (Below w.heap.size w w3) := be1.out.trans (h.mono (Nat.le_of_lt lk.out))
      replace BO3 := Lib.hid BO3
      clear h BR BO be1 kk lr lo k1
      have lr := BR3.out.lt
      obtain ⟨c0, c1, c2, c3, c4, c5, c6, c7, c8, c9, c10, c11, c12, c13, c14, c15, c16, c17, c18⟩ := BR3.out.cells
      go_wp2_with fail
      refine (MO.out _).mono ?_
      rintro e w4 ⟨rfl, h⟩
      have BR4 : Hid (BoxR w4 w.heap.size r) := BR3.out.below h
      have BO4 : Hid (BoxR w4 g ⟨r.kd, r.now, r.an, r.op, sz⟩) := BO3.out.below h
      have be4 : Hid (Below w.heap.size w w4) := be3.out.trans (h.mono be3.out.size)
      clear h BR3 BO3 be3 MO lr c0 c1 c2 c3 c4 c5 c6 c7 c8 c9 c10 c11 c12 c13 c14 c15 c16 c17 c18
      cases hm : mayOp r.op with
      | false =>
        rw [hm] at F
        clear hm
        go_wp2
        go_ret
        rw [F.out]
        exact ⟨rfl, be4.out⟩
      | true =>
        rw [hm] at F
        clear hm
        have c2 := BR4.out.cells.c2
        have lr := BR4.out.lt
        go_wp2_with fail
        refine (WA.out _).mono ?_
        rintro e w5 ⟨rfl, rfl⟩
        clear WA c2
        cases hi : inR r.an 1 2 with
        | false =>
          rw [hi] at F
          clear hi
          go_wp2
          go_ret
          rw [F.out]
          exact ⟨rfl, be4.out⟩
        | true =>
          rw [hi] at F
          clear hi
          replace F : Hid (rmay r = dq) := by show rmay r = dq; have := F.out; simpa using this
          go_wp2_with (first | (refine wpList_rload_g (.tmp 1) rfl rfl w.heap.size rfl r BR4.out ?_) | (refine wpList_rload_g (.tmp 3) rfl rfl g rfl ⟨r.kd, r.now, r.an, r.op, sz⟩ BO4.out ?_))
          go_ret
          rw [F.out]
          exact ⟨rfl, be4.out⟩
    by_cases k2 : r.kd = 2
    · have F := pm_2 hn.out k2
      have EQ := fun w => eq_rec w r ⟨r.kd, r.now, 0, o0, sz⟩
      rw [k2] at kk
      generalize decide (r = ⟨r.kd, r.now, 0, o0, sz⟩) = dq at EQ F
      replace F := Lib.hid F
      clear MS MO WA k1 k2
      go_wp2_with (first | (refine wpList_rload rfl (.tmp 1) rfl w.heap.size rfl r BR.out ?_) | (refine wpList_rload rfl (.tmp 3) rfl g rfl ⟨r.kd, r.now, 0, o0, sz⟩ BO.out ?_))
      go_ret
      rw [F.out]
      exact ⟨rfl, be1.out⟩
    by_cases k3 : r.kd = 3
    · have F := pm_3 hn.out k3
      have EQ := fun w => eq_rec w r ⟨r.kd, r.now, 0, o0, r.sg⟩
      rw [k3] at kk
      generalize decide (r = ⟨r.kd, r.now, 0, o0, r.sg⟩) = dq at EQ F
      replace F := Lib.hid F
      replace lk := Lib.hid lk
      clear MO WA k1 k2 k3
      obtain ⟨c0, c1, c2, c3, c4, c5, c6, c7, c8, c9, c10, c11, c12, c13, c14, c15, c16, c17, c18⟩ := BR.out.cells
      clear c0
      have TH : Hid (u.there g 8 11) := fun j hj => ⟨by rw [one_at BO.out, Array.getElem?_eq_getElem (by simp; omega)]; rfl, one_free BO.out⟩
      go_upto_region 12 with (refine wpList_store_mid rfl 28 (.tmp 45) (.tmp 44) rfl g 8 #[.int .i64 r.sg.w.book, .int .i64 r.sg.w.cust, .int .i64 r.sg.w.dead, .int .i64 r.sg.w.u0, .int .i64 r.sg.w.u1, .int .i64 r.sg.w.u2, .int .i64 r.sg.w.price, .int .i64 r.sg.ph, .int .i64 r.sg.st, .int .i64 r.sg.rs, .int .i64 r.sg.si] rfl rfl TH.out sag_size (by simp [Value.oneCell']) ?_)
      obtain ⟨w3, hu⟩ : ∃ z, z = u.setCells g 8 (#[.int .i64 r.sg.w.book, .int .i64 r.sg.w.cust, .int .i64 r.sg.w.dead, .int .i64 r.sg.w.u0, .int .i64 r.sg.w.u1, .int .i64 r.sg.w.u2, .int .i64 r.sg.w.price, .int .i64 r.sg.ph, .int .i64 r.sg.st, .int .i64 r.sg.rs, .int .i64 r.sg.si] : Array Value).toList := ⟨_, rfl⟩
      rw [← hu]
      have gw : u.grownBy w3 (some g) := by rw [hu]; exact setCells_grown _ u 8
      have BO3 : Hid (BoxR w3 g ⟨r.kd, r.now, 0, o0, r.sg⟩) := by
        rw [hu]
        have := setCells_heap [.int .i64 r.sg.w.book, .int .i64 r.sg.w.cust, .int .i64 r.sg.w.dead, .int .i64 r.sg.w.u0, .int .i64 r.sg.w.u1, .int .i64 r.sg.w.u2, .int .i64 r.sg.w.price, .int .i64 r.sg.ph, .int .i64 r.sg.st, .int .i64 r.sg.rs, .int .i64 r.sg.si] u 8 _ BO.out
        rw [stv11] at this
        exact this
      have BR3 : Hid (BoxR w3 w.heap.size r) := (gw.block _ lr (fun e => by injection e with e; have := lk.out; omega)).trans BR.out
      have h3 : Below g u w3 := below_grown2 (Nat.le_refl _) BO.out.lt (Below.refl _ _) gw
      have be3 : Hid (Below w.heap.size w w3) := be1.out.trans (h3.mono (Nat.le_of_lt lk.out))
      have M3 := Lib.hid (MS.out w3 h3)
      clear hu gw h3 BO BR be1 TH MS lr lo kk c1 c2 c3 c4 c5 c6 c7 c8 c9 c10 c11 c12 c13 c14 c15 c16 c17 c18
      have lr := BR3.out.lt
      obtain ⟨c0, c1, c2, c3, c4, c5, c6, c7, c8, c9, c10, c11, c12, c13, c14, c15, c16, c17, c18⟩ := BR3.out.cells
      go_wp2_with fail
      refine M3.out.mono ?_
      rintro e w4 ⟨rfl, h⟩
      have BR4 : Hid (BoxR w4 w.heap.size r) := BR3.out.below h
      have BO4 : Hid (BoxR w4 g ⟨r.kd, r.now, 0, o0, r.sg⟩) := BO3.out.below h
      have be4 : Hid (Below w.heap.size w w4) := be3.out.trans (h.mono be3.out.size)
      clear h BR3 BO3 be3 M3 lr c0 c1 c2 c3 c4 c5 c6 c7 c8 c9 c10 c11 c12 c13 c14 c15 c16 c17 c18
      cases hm : smay r.sg with
      | false =>
        rw [hm] at F
        clear hm
        go_wp2
        go_ret
        rw [F.out]
        exact ⟨rfl, be4.out⟩
      | true =>
        rw [hm] at F
        clear hm
        replace F : Hid (rmay r = dq) := by show rmay r = dq; have := F.out; simpa using this
        go_wp2_with (first | (refine wpList_rload_g (.tmp 1) rfl rfl w.heap.size rfl r BR4.out ?_) | (refine wpList_rload_g (.tmp 3) rfl rfl g rfl ⟨r.kd, r.now, 0, o0, r.sg⟩ BO4.out ?_))
        go_ret
        rw [F.out]
        exact ⟨rfl, be4.out⟩
    have F := Lib.hid (pm_4 k1 k2 k3)
    have n1 : (r.kd == 1) = false := by simp [k1]
    have n2 : (r.kd == 2) = false := by simp [k2]
    have n3 : (r.kd == 3) = false := by simp [k3]
    clear MS MO WA
    go_wp2
    go_ret
    rw [F.out]
    exact ⟨rfl, be1.out⟩

set_option maxHeartbeats 12800000 in
theorem psame_any (w : World) (r s : Rec) : Calls Tryd.prog 13 #[rcv r, rcv s] w fun e w' => e = .returned (.bool (decide (r = s))) ∧ Below w.heap.size w w' := by
  obtain ⟨w0, e0⟩ : ∃ z, z = (w.alloc (.cells (rcc r) 30)).alloc (.cells (rcc s) 30) := ⟨_, rfl⟩
  have be0 : Hid (Below w.heap.size w w0) := by rw [e0]; exact ((Below.refl _ w).alloc (Nat.le_refl _) _).alloc (by simp) _
  have hr : Hid (BoxR w0 w.heap.size r) := by rw [e0]; exact heap_alloc2_old _ _ _
  have hs : Hid (BoxR w0 (w.heap.size + 1) s) := by rw [e0]; exact heap_alloc2_new _ _ _
  have EQ := fun w => eq_rec w r s
  generalize decide (r = s) = dq at EQ ⊢
  replace e0 := Lib.hid e0
  go_enter Tryd.func13, Tryd.ntmps13
  go_upto_region 1 with fail
  rw [← e0.out]
  go_wp2_with (first | (refine wpList_rload rfl (.tmp 2) rfl w.heap.size rfl r hr.out ?_) | (refine wpList_rload rfl (.tmp 3) rfl (w.heap.size + 1) rfl s hs.out ?_))
  go_ret
  exact ⟨rfl, be0.out⟩
end Re
end Go.Proofs.YtidfpbnepdjagaaDoor

namespace Go.Proofs.YtidfpbnepdjagaaDoor
set_option maxRecDepth 100000
open Go.RowKit
open Go.Proofs.YtidfpbnepdjagaaDoor.Pk
namespace Re
open Go.Proofs.YtidfpbnepdjagaaDoor.Sg (Sag sz smay sgc sgv sag_size BoxS)
open Go.Proofs.YtidfpbnepdjagaaDoor.Sb (sput sput_any sput_len)
open Wt (Opn mayOp rawOp rawOp_len putop_any PutTo own_mono)

/-- Behind a call that makes blocks of its own, a writer's. -/
theorem wr_behind {w w1 w2 : World} {p : Nat} {bs : List UInt8} (hp : p < w.heap.size) (b : Below w.heap.size w w1) (k : WrTo w1 p bs w2) : WrTo w p bs w2 :=
  ⟨k.wr, (b.mono (Nat.le_of_lt hp)).trans k.be, (Oth.below b).trans k.ot⟩

set_option maxHeartbeats 6400000 in
theorem parto_any (w : World) (p : Nat) (bs : List UInt8) (h : Wr w p bs) (x : Opn) (hm : mayOp x = true) (hn : bs.length ≤ 100000) :
    Calls Tryd.prog 17 #[.pointer (some ⟨p, 0, none⟩), .func (.func 18) #[] #[], .agg #[.int .i64 x.kind, .int .i64 x.book, .int .i64 x.units, .int .i64 x.cust, .int .i64 x.amount]] w fun e w' => e = .returned (.tuple #[]) ∧ WrTo w p (bs ++ encT (rawOp x)) w' := by
  obtain ⟨w0, e0⟩ : ∃ z, z = w.alloc (.cells #[.int .i64 x.kind, .int .i64 x.book, .int .i64 x.units, .int .i64 x.cust, .int .i64 x.amount] 23) := ⟨_, rfl⟩
  have be0 : Hid (Below w.heap.size w w0) := by rw [e0]; exact (Below.refl _ w).alloc (Nat.le_refl _) _
  have hB : Hid (w0.heap[w.heap.size]? = some (.cells #[.int .i64 x.kind, .int .i64 x.book, .int .i64 x.units, .int .i64 x.cust, .int .i64 x.amount] 23 (0, 0))) := by rw [e0]; exact heap_alloc_new _ _
  have hp := Lib.hid h.lt
  have P := putop_any w0 x
  rw [hm] at P
  have hl := (rawOp_len hm).2
  obtain ⟨ys, hy⟩ : ∃ ys, ys = rawOp x := ⟨_, rfl⟩
  rw [← hy] at P hl ⊢
  clear hy hm
  have lk := lt_some hB.out
  have d0 : w0.cell? ⟨w.heap.size, 0, none⟩ = some (.int .i64 x.kind) := one_at hB.out
  have d1 : w0.cell? ⟨w.heap.size, 1, none⟩ = some (.int .i64 x.book) := one_at hB.out
  have d2 : w0.cell? ⟨w.heap.size, 2, none⟩ = some (.int .i64 x.units) := one_at hB.out
  have d3 : w0.cell? ⟨w.heap.size, 3, none⟩ = some (.int .i64 x.cust) := one_at hB.out
  have d4 : w0.cell? ⟨w.heap.size, 4, none⟩ = some (.int .i64 x.amount) := one_at hB.out
  replace P := Lib.hid P
  replace hl := Lib.hid hl
  replace h := Lib.hid h
  replace hn := Lib.hid hn
  replace e0 := Lib.hid e0
  go_enter Tryd.func17, Tryd.ntmps17
  go_upto_region 1 with fail
  rw [← e0.out]
  go_wp2_with fail
  refine P.out.mono ?_
  intro e w1 h1
  obtain ⟨v, rfl, ow⟩ := h1.yes rfl
  obtain ⟨A, c, rfl, R, -⟩ := Wt.PutTo.rb ow
  have CV := Sb.str_run (c := c) R
  have b1 : Below w.heap.size w w1 := be0.out.trans (h1.be.mono be0.out.size)
  have T := Lib.hid (wtext_any p w1 bs (h.out.below b1) ys (by have := hl.out; have := hn.out; omega))
  replace b1 := Lib.hid b1
  clear h1 ow R P h lk d0 d1 d2 d3 d4
  go_wp2_with fail
  refine T.out.mono ?_
  rintro e w2 ⟨rfl, k⟩
  replace k := Lib.hid (wr_behind hp.out b1.out k)
  clear T
  go_wp2_with fail
  go_end0
  exact ⟨rfl, k.out⟩
set_option maxHeartbeats 6400000 in
theorem parts_any (w : World) (t : Sg.Tab w) (p : Nat) (bs : List UInt8) (h : Wr w p bs) (x : Sag) (hm : smay x = true) (hn : bs.length ≤ 100000) :
    Calls Tryd.prog 19 #[.pointer (some ⟨p, 0, none⟩), .func (.func 20) #[] #[], .agg #[.int .i64 x.w.book, .int .i64 x.w.cust, .int .i64 x.w.dead, .int .i64 x.w.u0, .int .i64 x.w.u1, .int .i64 x.w.u2, .int .i64 x.w.price, .int .i64 x.ph, .int .i64 x.st, .int .i64 x.rs, .int .i64 x.si]] w fun e w' => e = .returned (.tuple #[]) ∧ WrTo w p (bs ++ encT (sput x)) w' := by
  obtain ⟨w0, e0⟩ : ∃ z, z = w.alloc (.cells #[.int .i64 x.w.book, .int .i64 x.w.cust, .int .i64 x.w.dead, .int .i64 x.w.u0, .int .i64 x.w.u1, .int .i64 x.w.u2, .int .i64 x.w.price, .int .i64 x.ph, .int .i64 x.st, .int .i64 x.rs, .int .i64 x.si] 28) := ⟨_, rfl⟩
  have be0 : Hid (Below w.heap.size w w0) := by rw [e0]; exact (Below.refl _ w).alloc (Nat.le_refl _) _
  have hB : Hid (w0.heap[w.heap.size]? = some (.cells #[.int .i64 x.w.book, .int .i64 x.w.cust, .int .i64 x.w.dead, .int .i64 x.w.u0, .int .i64 x.w.u1, .int .i64 x.w.u2, .int .i64 x.w.price, .int .i64 x.ph, .int .i64 x.st, .int .i64 x.rs, .int .i64 x.si] 28 (0, 0))) := by rw [e0]; exact heap_alloc_new _ _
  have hp := Lib.hid h.lt
  have P := sput_any w0 (t.below be0.out) x
  rw [hm] at P
  have hl := sput_len hm
  obtain ⟨ys, hy⟩ : ∃ ys, ys = sput x := ⟨_, rfl⟩
  rw [← hy] at P hl ⊢
  clear hy hm
  have lk := lt_some hB.out
  have d0 : w0.cell? ⟨w.heap.size, 0, none⟩ = some (.int .i64 x.w.book) := one_at hB.out
  have d1 : w0.cell? ⟨w.heap.size, 1, none⟩ = some (.int .i64 x.w.cust) := one_at hB.out
  have d2 : w0.cell? ⟨w.heap.size, 2, none⟩ = some (.int .i64 x.w.dead) := one_at hB.out
  have d3 : w0.cell? ⟨w.heap.size, 3, none⟩ = some (.int .i64 x.w.u0) := one_at hB.out
  have d4 : w0.cell? ⟨w.heap.size, 4, none⟩ = some (.int .i64 x.w.u1) := one_at hB.out
  have d5 : w0.cell? ⟨w.heap.size, 5, none⟩ = some (.int .i64 x.w.u2) := one_at hB.out
  have d6 : w0.cell? ⟨w.heap.size, 6, none⟩ = some (.int .i64 x.w.price) := one_at hB.out
  have d7 : w0.cell? ⟨w.heap.size, 7, none⟩ = some (.int .i64 x.ph) := one_at hB.out
  have d8 : w0.cell? ⟨w.heap.size, 8, none⟩ = some (.int .i64 x.st) := one_at hB.out
  have d9 : w0.cell? ⟨w.heap.size, 9, none⟩ = some (.int .i64 x.rs) := one_at hB.out
  have d10 : w0.cell? ⟨w.heap.size, 10, none⟩ = some (.int .i64 x.si) := one_at hB.out
  replace P := Lib.hid P
  replace hl := Lib.hid hl
  replace h := Lib.hid h
  replace hn := Lib.hid hn
  replace e0 := Lib.hid e0
  go_enter Tryd.func19, Tryd.ntmps19
  go_upto_region 1 with fail
  rw [← e0.out]
  go_wp2_with fail
  refine P.out.mono ?_
  intro e w1 h1
  obtain ⟨v, rfl, ow⟩ := h1.yes rfl
  obtain ⟨A, c, rfl, R, -⟩ := Wt.PutTo.rb ow
  have CV := Sb.str_run (c := c) R
  have b1 : Below w.heap.size w w1 := be0.out.trans (h1.be.mono be0.out.size)
  have T := Lib.hid (wtext_any p w1 bs (h.out.below b1) ys (by have := hl.out; have := hn.out; omega))
  replace b1 := Lib.hid b1
  clear h1 ow R P h lk d0 d1 d2 d3 d4 d5 d6 d7 d8 d9 d10
  go_wp2_with fail
  refine T.out.mono ?_
  rintro e w2 ⟨rfl, k⟩
  replace k := Lib.hid (wr_behind hp.out b1.out k)
  clear T
  go_wp2_with fail
  go_end0
  exact ⟨rfl, k.out⟩
/-- Put under way: the record's box, what the writer has. -/
structure Pw (w wr : World) (p : Nat) (r : Rec) (bs : List UInt8) : Prop where
  be : Below w.heap.size w wr
  bx : BoxR wr w.heap.size r
  wt : Wr wr p bs
  lt : w.heap.size < p
  tb : Sg.Tab wr
theorem Pw.to {w wr w' : World} {p : Nat} {r : Rec} {bs bs' : List UInt8} (hw : 0 < w.heap.size) (h : Pw w wr p r bs) (k : WrTo wr p bs' w') : Pw w w' p r bs' :=
  ⟨h.be.trans (k.be.mono (Nat.le_of_lt h.lt)), (k.be.block _ h.lt).trans h.bx, k.wr, h.lt, h.tb.sub k.be (by have := h.lt; omega)⟩
theorem pq_1 {r : Rec} (k : r.kd = 1) : [] ++ encI r.kd ++ encI r.now ++ encT (rawOp r.op) ++ encI r.an = rput r := by unfold rput rtail; rw [if_pos k]; simp [List.append_assoc]
theorem pq_2 {r : Rec} (k1 : r.kd ≠ 1) (k3 : r.kd ≠ 3) : [] ++ encI r.kd ++ encI r.now = rput r := by unfold rput rtail; rw [if_neg k1, if_neg k3, List.append_nil, List.nil_append]
theorem pq_3 {r : Rec} (k1 : r.kd ≠ 1) (k : r.kd = 3) : [] ++ encI r.kd ++ encI r.now ++ encT (sput r.sg) = rput r := by unfold rput rtail; rw [if_neg k1, if_pos k]; simp [List.append_assoc]
theorem enc_le (v : Int) (h1 : -9223372036854775808 ≤ v) (h2 : v ≤ 9223372036854775807) : (encI v).length ≤ 10 := encI_len v h1 h2

set_option maxHeartbeats 12800000 in
theorem pput_any (w : World) (t : Sg.Tab w) (r : Rec) : Calls Tryd.prog 8 #[rcv r] w (PutTo w (rmay r) (rput r)) := by
  obtain ⟨w0, e0⟩ : ∃ z, z = w.alloc (.cells (rcc r) 30) := ⟨_, rfl⟩
  have be0 : Hid (Below w.heap.size w w0) := by rw [e0]; exact (Below.refl _ w).alloc (Nat.le_refl _) _
  have hB : Hid (BoxR w0 w.heap.size r) := by rw [e0]; exact heap_alloc_new _ _
  have T0 : Hid (Sg.Tab w0) := t.below be0.out
  have hw : Hid (0 < w.heap.size) := t.lt
  have M := Lib.hid (pmay_any w0 T0.out r)
  replace e0 := Lib.hid e0
  clear t
  have F : Hid (rmay r = rmay r) := rfl
  generalize hm : rmay r = ok at M F ⊢
  unfold rcv rcc
  go_enter Tryd.func8, Tryd.ntmps8
  go_upto_region 1 with fail
  have e0' := e0.out
  unfold rcc at e0'
  rw [← e0']
  clear e0' e0
  go_wp2_with (refine wpList_rload rfl (.tmp 1) rfl w.heap.size rfl r hB.out ?_)
  refine M.out.mono ?_
  rintro e w1 ⟨rfl, h⟩
  have be1 : Hid (Below w.heap.size w w1) := be0.out.trans (h.mono be0.out.size)
  have B1 : Hid (BoxR w1 w.heap.size r) := hB.out.below h
  have T1 : Hid (Sg.Tab w1) := T0.out.below h
  clear M F h be0 hB T0
  cases ok with
  | false =>
    go_wp2
    go_ret2
    exact ⟨be1.out, (fun h => by cases h), fun _ => rfl⟩
  | true =>
    go_upto_region 4 with fail
    obtain ⟨u, eu⟩ : ∃ z, z = w1.alloc (.cells #[.pointer none, .int .i64 0] 49) := ⟨_, rfl⟩
    obtain ⟨p, ep⟩ : ∃ z, z = w1.heap.size := ⟨_, rfl⟩
    have P0 : Hid (Pw w u p r []) := by
      rw [eu, ep]
      exact ⟨be1.out.alloc be1.out.size _, B1.out.below ((Below.refl _ _).alloc (Nat.le_refl _) _), Wr.new w1, B1.out.lt, T1.out.below ((Below.refl _ _).alloc (Nat.le_refl _) _)⟩
    rw [← eu, ← ep]
    clear eu ep be1 B1 T1
    have hn := rmay_now hm
    have hkd : 1 ≤ r.kd ∧ r.kd ≤ 3 := by rcases rmay_cases hm with h | h | h <;> omega
    have l0 := enc_le r.kd (by omega) (by omega)
    have l1 := enc_le r.now (by omega) (by omega)
    replace hn := Lib.hid hn
    replace hkd := Lib.hid hkd
    replace l0 := Lib.hid l0
    replace l1 := Lib.hid l1
    replace hm := Lib.hid hm
    have c0 := P0.out.bx.cells.c0
    have lk := P0.out.bx.lt
    go_wp2_with fail
    refine (wint_any p u [] P0.out.wt r.kd (by have := hkd.out; omega) (by have := hkd.out; omega) (by simp)).mono ?_
    rintro e w2 ⟨rfl, k⟩
    have P1 := Lib.hid (P0.out.to hw.out k)
    clear k c0 lk P0
    have c1 := P1.out.bx.cells.c1
    have lk := P1.out.bx.lt
    go_wp2_with fail
    refine (wint_any p w2 _ P1.out.wt r.now (by have := hn.out; omega) (by have := hn.out; omega) (by rw [List.nil_append]; have := l0.out; omega)).mono ?_
    rintro e w3 ⟨rfl, k⟩
    have P2 := Lib.hid (P1.out.to hw.out k)
    clear k c1 lk P1
    have lb : Hid (([] ++ encI r.kd ++ encI r.now).length ≤ 20) := by unfold Hid; rw [List.nil_append, List.length_append]; have := l0.out; have := l1.out; omega
    have kk := P2.out.bx.cells.c0
    have lk := P2.out.bx.lt
    by_cases k1 : r.kd = 1
    · have hk : mayOp r.op = true ∧ (r.an = 1 ∨ r.an = 2) := by
        rcases rmay_cases hm.out with h | h | h
        · exact ⟨h.2.1, h.2.2.1⟩
        · omega
        · omega
      have PT := parto_any w3 p _ P2.out.wt r.op hk.1 (by have := lb.out; omega)
      have l3 := encT_len (s := rawOp r.op) (by have := (rawOp_len hk.1).2; omega)
      have l4 := (rawOp_len hk.1).2
      have ha : Hid (r.an = 1 ∨ r.an = 2) := hk.2
      have EQ := pq_1 k1
      rw [k1] at kk
      replace PT := Lib.hid PT
      replace l3 := Lib.hid l3
      replace l4 := Lib.hid l4
      replace EQ := Lib.hid EQ
      obtain ⟨c0, c1, c2, c3, c4, c5, c6, c7, c8, c9, c10, c11, c12, c13, c14, c15, c16, c17, c18⟩ := P2.out.bx.cells
      clear hk k1 c0 c1 c2 c8 c9 c10 c11 c12 c13 c14 c15 c16 c17 c18
      go_wp2_with fail
      refine PT.out.mono ?_
      rintro e w4 ⟨rfl, k⟩
      have P3 := Lib.hid (P2.out.to hw.out k)
      clear k PT P2 kk lk c3 c4 c5 c6 c7
      have c2 := P3.out.bx.cells.c2
      have lk := P3.out.bx.lt
      go_wp2_with fail
      refine (wint_any p w4 _ P3.out.wt r.an (by have := ha.out; omega) (by have := ha.out; omega) (by rw [List.length_append]; have := lb.out; have := l3.out; have := l4.out; omega)).mono ?_
      rintro e w5 ⟨rfl, k⟩
      have P4 := Lib.hid (P3.out.to hw.out k)
      have l5 := Lib.hid (enc_le r.an (by have := ha.out; omega) (by have := ha.out; omega))
      clear k c2 lk P3
      have B := bytes_any p w5 _ P4.out.wt (by rw [List.length_append, List.length_append]; have := lb.out; have := l3.out; have := l4.out; have := l5.out; omega)
      rw [EQ.out] at B
      replace B := Lib.hid B
      go_wp2_with fail
      refine B.out.mono ?_
      rintro e w9 ⟨v, rfl, ho, b9⟩
      have be9 : Hid (Below w.heap.size w w9) := P4.out.be.trans (b9.mono P4.out.be.size)
      have ho' : Hid (w9.ownsRow w.heap.size 5 1 v (rput r).length (u8s (rput r))) := own_mono ho P4.out.be.size
      clear ho b9 B
      go_wp2
      go_ret2
      exact ⟨be9.out, fun _ => ⟨v, rfl, ho'.out⟩, fun h => (by cases h)⟩
    by_cases k3 : r.kd = 3
    · have hk : smay r.sg = true := by
        rcases rmay_cases hm.out with h | h | h
        · omega
        · omega
        · exact h.2.2.2
      have PT := parts_any w3 P2.out.tb p _ P2.out.wt r.sg hk (by have := lb.out; omega)
      have l3 := encT_len (s := sput r.sg) (by have := sput_len hk; omega)
      have l4 := sput_len hk
      have EQ := pq_3 k1 k3
      rw [k3] at kk
      replace PT := Lib.hid PT
      replace l3 := Lib.hid l3
      replace l4 := Lib.hid l4
      replace EQ := Lib.hid EQ
      obtain ⟨c0, c1, c2, c3, c4, c5, c6, c7, c8, c9, c10, c11, c12, c13, c14, c15, c16, c17, c18⟩ := P2.out.bx.cells
      clear hk k1 k3 c0 c1 c2 c3 c4 c5 c6 c7
      go_wp2_with fail
      refine PT.out.mono ?_
      rintro e w4 ⟨rfl, k⟩
      have P3 := Lib.hid (P2.out.to hw.out k)
      clear k PT P2 kk lk c8 c9 c10 c11 c12 c13 c14 c15 c16 c17 c18
      have B := bytes_any p w4 _ P3.out.wt (by rw [List.length_append]; have := lb.out; have := l3.out; have := l4.out; omega)
      rw [EQ.out] at B
      replace B := Lib.hid B
      go_wp2_with fail
      refine B.out.mono ?_
      rintro e w9 ⟨v, rfl, ho, b9⟩
      have be9 : Hid (Below w.heap.size w w9) := P3.out.be.trans (b9.mono P3.out.be.size)
      have ho' : Hid (w9.ownsRow w.heap.size 5 1 v (rput r).length (u8s (rput r))) := own_mono ho P3.out.be.size
      clear ho b9 B
      go_wp2
      go_ret2
      exact ⟨be9.out, fun _ => ⟨v, rfl, ho'.out⟩, fun h => (by cases h)⟩
    have k2 : r.kd = 2 := by have := hkd.out; omega
    have EQ := Lib.hid (pq_2 k1 k3)
    rw [k2] at kk
    clear k1 k2 k3
    have B := bytes_any p w3 _ P2.out.wt (by have := lb.out; omega)
    rw [EQ.out] at B
    replace B := Lib.hid B
    go_wp2_with fail
    refine B.out.mono ?_
    rintro e w9 ⟨v, rfl, ho, b9⟩
    have be9 : Hid (Below w.heap.size w w9) := P2.out.be.trans (b9.mono P2.out.be.size)
    have ho' : Hid (w9.ownsRow w.heap.size 5 1 v (rput r).length (u8s (rput r))) := own_mono ho P2.out.be.size
    clear ho b9 B
    go_wp2
    go_ret2
    exact ⟨be9.out, fun _ => ⟨v, rfl, ho'.out⟩, fun h => (by cases h)⟩
end Re
end Go.Proofs.YtidfpbnepdjagaaDoor

namespace Go.Proofs.YtidfpbnepdjagaaDoor
set_option maxRecDepth 100000
open Go.RowKit
open Go.Proofs.YtidfpbnepdjagaaDoor.Pk
namespace Re
open Go.Proofs.YtidfpbnepdjagaaDoor.Sg (Sag sz smay sgc sgv sag_size)
open Go.Proofs.YtidfpbnepdjagaaDoor.Sb (sput sput_len sget sget_put sget_inv gets_any SGetTo)
open Wt (Opn mayOp rawOp rawOp_len getO getO_raw GetOTo getop_any op_info rEnd_zero rInt_enc)
open Pl (wpList_store_row setRow_below)

theorem rint_some {lo hi : Int} {s : St} {v : Int} {r : List UInt8} (h : rInt lo hi s = (v, some r)) : ∃ l, s = some l ∧ l = encI v ++ r := by
  cases s with
  | none => cases h
  | some l => exact ⟨l, rfl, rInt_inv2 h⟩
theorem rtext_some2 {most : Int} {s : St} {t r : List UInt8} (h : rText most s = (t, some r)) : ∃ l, s = some l ∧ l = encT t ++ r := by
  cases s with
  | none => unfold rText at h; cases h
  | some l => exact ⟨l, rfl, rtext_inv h⟩
/-- No more than so many bytes are left. -/
def Sle (s : St) : Prop := ∀ l, s = some l → l.length ≤ 400
theorem sle_int {lo hi v : Int} {s s' : St} (q : rInt lo hi s = (v, s')) (h : Sle s) : Sle s' := by
  intro l e
  subst e
  obtain ⟨l0, rfl, e⟩ := rint_some q
  have := h l0 rfl
  rw [e, List.length_append] at this
  omega
theorem rget_is {bs : List UInt8} {R : Rec} {s : St} (F1 : ∀ r, rmay r = true → rput r = bs → R = r ∧ rEnd s = 0) (F2 : rEnd s = 0 → rmay R = true → rput R = bs) :
    rget bs = if rEnd s = 0 ∧ rmay R = true then some R else none := by
  cases h : rget bs with
  | some r =>
    obtain ⟨h1, h2⟩ := rget_inv h
    obtain ⟨e1, e2⟩ := F1 r h1 h2
    subst e1
    rw [if_pos ⟨e2, h1⟩]
  | none =>
    rw [if_neg]
    rintro ⟨e, hm⟩
    have := F2 e hm
    rw [← this, rget_put hm] at h
    cases h
theorem put_1 {r : Rec} (k : r.kd = 1) : rput r = encI 1 ++ (encI r.now ++ (encT (rawOp r.op) ++ (encI r.an ++ []))) := by unfold rput rtail; rw [if_pos k, k]; simp [List.append_assoc]
theorem put_2 {r : Rec} (k : r.kd = 2) : rput r = encI 2 ++ (encI r.now ++ []) := by unfold rput rtail; rw [if_neg (by omega), if_neg (by omega), k]; simp
theorem put_3 {r : Rec} (k : r.kd = 3) : rput r = encI 3 ++ (encI r.now ++ (encT (sput r.sg) ++ [])) := by unfold rput rtail; rw [if_neg (by omega), if_pos k, k]; simp [List.append_assoc]
theorem kd_read {r : Rec} {k : Int} {s1 : St} (h : rmay r = true) (q1 : rInt 1 3 (some (rput r)) = (k, s1)) : k = r.kd := by
  have e : ∀ t, rInt 1 3 (some (encI r.kd ++ t)) = (r.kd, some t) := fun t => rInt_enc (by rcases rmay_cases h with h | h | h <;> omega) (by rcases rmay_cases h with h | h | h <;> omega) (by rcases rmay_cases h with h | h | h <;> omega) t
  unfold rput at q1
  rw [List.append_assoc, e] at q1
  injection q1 with q1
  exact q1.symm
theorem pg_1 {bs t : List UInt8} {n a L : Int} {s1 s2 s3 s4 : St} {x : Opn} (q1 : rInt 1 3 (some bs) = (1, s1)) (q2 : rInt 0 1099511627776 s1 = (n, s2)) (q3 : rText L s2 = (t, s3)) (q4 : rInt 1 2 s3 = (a, s4)) (hL : L = (bs.length : Int)) (hl : bs.length ≤ 400) (hx : x = (getO (some t)).getD o0) :
    rget bs = if rEnd s4 = 0 ∧ rmay ⟨1, n, a, x, sz⟩ = true then some ⟨1, n, a, x, sz⟩ else none := by
  refine rget_is (fun r hm hb => ?_) (fun he hm => ?_)
  · rw [← hb] at q1
    have hk := (kd_read hm q1).symm
    have hn := rmay_now hm
    obtain ⟨-, ho, ha, hs⟩ : r.kd = 1 ∧ mayOp r.op = true ∧ (r.an = 1 ∨ r.an = 2) ∧ r.sg = sz := by
      rcases rmay_cases hm with h | h | h
      · exact h
      · omega
      · omega
    have ef := put_1 hk
    have hr := rawOp_len ho
    have ln : (rawOp r.op).length ≤ bs.length := by rw [← hb, ef]; simp [encT]; omega
    rw [ef, rInt_enc (by omega) (by omega) (by omega)] at q1
    injection q1 with _ q1
    rw [← q1, rInt_enc (by omega) (by omega) (by omega)] at q2
    injection q2 with n2 q2
    rw [← q2, rtext_enc (by omega) (by omega)] at q3
    injection q3 with t3 q3
    rw [← q3, rInt_enc (by omega) (by omega) (by omega)] at q4
    injection q4 with a4 q4
    rw [← t3, getO_raw ho] at hx
    obtain ⟨k, now, an, op, sg⟩ := r
    simp only at hk hs n2 a4 hx
    subst hk hs n2 a4
    rw [hx, ← q4]
    exact ⟨rfl, rfl⟩
  · have e4 := rEnd_zero he
    subst e4
    obtain ⟨l3, rfl, f3⟩ := rint_some q4
    obtain ⟨l2, rfl, f2⟩ := rtext_some2 q3
    obtain ⟨l1, rfl, f1⟩ := rint_some q2
    obtain ⟨l0, e0, f0⟩ := rint_some q1
    injection e0 with e0
    subst e0
    have hmo : mayOp x = true := by
      rcases rmay_cases hm with h | h | h
      · exact h.2.1
      · exact absurd h.1 (show ¬ ((1 : Int) = _) by decide)
      · exact absurd h.1 (show ¬ ((1 : Int) = _) by decide)
    have hr : rawOp x = t := by
      cases ho : getO (some t) with
      | none => rw [ho] at hx; rw [hx] at hmo; exact absurd hmo (by decide)
      | some y => rw [ho] at hx; rw [hx]; exact (getO_inv ho).2
    rw [put_1 rfl, f0, f1, f2, f3, ← hr]
theorem pg_3 {bs t : List UInt8} {n L : Int} {s1 s2 s3 : St} {x : Sag} (q1 : rInt 1 3 (some bs) = (3, s1)) (q2 : rInt 0 1099511627776 s1 = (n, s2)) (q3 : rText L s2 = (t, s3)) (hL : L = (bs.length : Int)) (hl : bs.length ≤ 400) (hx : x = (sget t).getD sz) :
    rget bs = if rEnd s3 = 0 ∧ rmay ⟨3, n, 0, o0, x⟩ = true then some ⟨3, n, 0, o0, x⟩ else none := by
  refine rget_is (fun r hm hb => ?_) (fun he hm => ?_)
  · rw [← hb] at q1
    have hk := (kd_read hm q1).symm
    have hn := rmay_now hm
    obtain ⟨-, ho, ha, hs⟩ : r.kd = 3 ∧ r.op = o0 ∧ r.an = 0 ∧ smay r.sg = true := by
      rcases rmay_cases hm with h | h | h
      · omega
      · omega
      · exact h
    have ef := put_3 hk
    have hr := sput_len hs
    have ln : (sput r.sg).length ≤ bs.length := by rw [← hb, ef]; simp [encT]; omega
    rw [ef, rInt_enc (by omega) (by omega) (by omega)] at q1
    injection q1 with _ q1
    rw [← q1, rInt_enc (by omega) (by omega) (by omega)] at q2
    injection q2 with n2 q2
    rw [← q2, rtext_enc (by omega) (by omega)] at q3
    injection q3 with t3 q3
    rw [← t3, sget_put hs] at hx
    obtain ⟨k, now, an, op, sg⟩ := r
    simp only at hk ho ha n2 hx
    subst hk ho ha n2
    rw [hx, ← q3]
    exact ⟨rfl, rfl⟩
  · have e3 := rEnd_zero he
    subst e3
    obtain ⟨l2, rfl, f2⟩ := rtext_some2 q3
    obtain ⟨l1, rfl, f1⟩ := rint_some q2
    obtain ⟨l0, e0, f0⟩ := rint_some q1
    injection e0 with e0
    subst e0
    have hmo : smay x = true := by
      rcases rmay_cases hm with h | h | h
      · exact absurd h.1 (show ¬ ((3 : Int) = _) by decide)
      · exact absurd h.1 (show ¬ ((3 : Int) = _) by decide)
      · exact h.2.2.2
    have hr : sput x = t := by
      cases ho : sget t with
      | none => rw [ho] at hx; rw [hx] at hmo; exact absurd hmo (by decide)
      | some y => rw [ho] at hx; rw [hx]; exact (sget_inv ho).2
    rw [put_3 rfl, f0, f1, f2, ← hr]
theorem pg_2 {bs : List UInt8} {k n : Int} {s1 s2 : St} (q1 : rInt 1 3 (some bs) = (k, s1)) (q2 : rInt 0 1099511627776 s1 = (n, s2)) (k1 : k ≠ 1) (k3 : k ≠ 3) :
    rget bs = if rEnd s2 = 0 ∧ rmay ⟨k, n, 0, o0, sz⟩ = true then some ⟨k, n, 0, o0, sz⟩ else none := by
  refine rget_is (fun r hm hb => ?_) (fun he hm => ?_)
  · rw [← hb] at q1
    have hk := kd_read hm q1
    have hn := rmay_now hm
    obtain ⟨h2, ho, ha, hs⟩ : r.kd = 2 ∧ r.op = o0 ∧ r.an = 0 ∧ r.sg = sz := by
      rcases rmay_cases hm with h | h | h
      · omega
      · exact h
      · omega
    rw [put_2 h2, rInt_enc (by omega) (by omega) (by omega)] at q1
    injection q1 with _ q1
    rw [← q1, rInt_enc (by omega) (by omega) (by omega)] at q2
    injection q2 with n2 q2
    obtain ⟨kk, now, an, op, sg⟩ := r
    simp only at hk h2 ho ha hs n2
    subst hk ho ha hs n2
    rw [← q2]
    exact ⟨rfl, rfl⟩
  · have e2 := rEnd_zero he
    subst e2
    obtain ⟨l1, rfl, f1⟩ := rint_some q2
    obtain ⟨l0, e0, f0⟩ := rint_some q1
    injection e0 with e0
    subst e0
    have hk : k = 2 := by
      rcases rmay_cases hm with h | h | h
      · exact absurd h.1 k1
      · exact h.1
      · exact absurd h.1 k3
    rw [put_2 hk, f0, f1, hk]

theorem of_str2 (w : World) (t : List UInt8) (ht : t.length ≤ 1000000) : ∃ w' c, (convert 9 31 (.string (str t))).run Tryd.prog w = .ok (.slice (some ⟨w.heap.size, 0, none⟩) t.length c) w' ∧ Rb w' (fun g => w.heap.size ≤ g ∧ g < w'.heap.size) (some ⟨w.heap.size, 0, none⟩) t.length t ∧ t.length ≤ c ∧ c ≤ 9223372036854775807 ∧ Below w.heap.size w w' := by
  have h := run_bytes_of_string (P := Tryd.prog) w 9 31 5 (str t) Tryd.underlying9 Tryd.underlying31 Tryd.underlying5
  rw [str_size] at h
  have h1 := grownCap_ge w t.length 0 5
  have h2 := grownCap_le_maxLen w t.length 0 5 (by unfold maxLen; omega)
  unfold maxLen at h2
  refine ⟨_, _, h, ?_, h1, h2, ((Below.refl _ w).drew).alloc (Nat.le_refl _) _⟩
  have R := rb_str w.drew t (grownCap w t.length 0 5) ((bytesRow (str t) (grownCap w t.length 0 5)).size, (bytesRow (str t) (grownCap w t.length 0 5)).size + 1)
  exact R.keep (fun _ _ => rfl) (fun g hg => by subst hg; simp)
theorem setRow_grown (w : World) (g : Nat) (cs : Array Value) : w.grownBy (w.setRow g cs) (some g) :=
  ⟨rfl, rfl, rfl, by simp [World.setRow], fun k _ hn => setRow_other w g k cs (fun e => hn (by rw [e]))⟩
theorem grown_then {w a b : World} {p : Nat} (h : w.grownBy a (some p)) (k : Below w.heap.size a b) : w.grownBy b (some p) :=
  ⟨k.os.trans h.os, k.tape.trans h.tape, k.output.trans h.output, Nat.le_trans h.size k.size, fun i hi hn => (k.block i hi).trans (h.block i hi hn)⟩
theorem oform {w w' : World} {q : Option Opn} {e : Ending} (h : GetOTo w q e w') : ∃ k : Int, e = .returned (.tuple #[opv (q.getD o0), .int .i64 k]) := by
  cases q with
  | none => exact ⟨2, h.no rfl⟩
  | some x => exact ⟨0, h.yes x rfl⟩
theorem sform {w w' : World} {q : Option Sag} {e : Ending} (h : SGetTo w q e w') : ∃ k : Int, e = .returned (.tuple #[sgv (q.getD sz), .int .i64 k]) := by
  cases q with
  | none => exact ⟨2, h.no rfl⟩
  | some x => exact ⟨0, h.yes x rfl⟩
/-- take under way: the result's box, the reader. -/
structure Tk (w wr : World) (p : Nat) (s : St) (cs : Array Value) (ty : TypeId) : Prop where
  gr : w.grownBy wr (some p)
  rd : Rd wr p s
  bx : wr.heap[w.heap.size]? = some (.cells cs ty (0, 0))
  lt : p < w.heap.size
section
variable {w wr w' : World} {p : Nat} {s s' : St} {cs : Array Value} {ty : TypeId}
theorem Tk.read (h : Tk w wr p s cs ty) (k : RdTo wr p s' w') : Tk w w' p s' cs ty :=
  ⟨grown_trans h.gr k.gr, k.rd, (k.gr.block _ (lt_some h.bx) (fun e => by have := h.lt; injection e with e; omega)).trans h.bx, h.lt⟩
theorem Tk.below (h : Tk w wr p s cs ty) (k : Below wr.heap.size wr w') : Tk w w' p s cs ty :=
  ⟨grown_trans h.gr (below_grown k _), h.rd.below k, (k.block _ (lt_some h.bx)).trans h.bx, h.lt⟩
/-- Another new block is written. -/
theorem Tk.row (h : Tk w wr p s cs ty) {g : Nat} {c1 : Array Value} {t1 : TypeId} (hg : wr.heap[g]? = some (.cells c1 t1 (0, 0))) (ht : t1 ≠ 5) (hn : w.heap.size < g) (c2 : Array Value) : Tk w (wr.setRow g c2) p s cs ty :=
  ⟨grown_then h.gr (setRow_below _ (Nat.le_of_lt hn)), h.rd.grown (setRow_grown wr g c2) (by have := h.lt; omega) hg ht, (setRow_other _ _ _ _ (by omega)).trans h.bx, h.lt⟩
/-- The result is written. -/
theorem Tk.res (h : Tk w wr p s cs ty) (ht : ty ≠ 5) (c2 : Array Value) : Tk w (wr.setRow w.heap.size c2) p s c2 ty :=
  ⟨grown_then h.gr (setRow_below _ (Nat.le_refl _)), h.rd.grown (setRow_grown wr _ c2) (by have := h.lt; omega) h.bx ht, setRow_heap _ _ _ _ _ _ h.bx, h.lt⟩
theorem Tk.to (h : Tk w wr p s cs ty) : RdTo w p s wr := ⟨h.rd, h.gr⟩
end

theorem takeo_results : Tryd.f31.results = #[.cell 6 23] := by kernel_rfl
set_option maxHeartbeats 6400000 in
theorem takeo_any (w : World) (p : Nat) (s : St) (h : Rd w p s) (hs : Sle s) (most : Int) :
    Calls Tryd.prog 31 #[.pointer (some ⟨p, 0, none⟩), .int .i64 most, .func (.func 32) #[] #[]] w fun e w' => ∃ x, x = (getO (some (rText most s).1)).getD o0 ∧ e = .returned (.agg #[.int .i64 x.kind, .int .i64 x.book, .int .i64 x.units, .int .i64 x.cust, .int .i64 x.amount]) ∧ RdTo w p (rText most s).2 w' := by
  have tl := rtext_le (most := most) hs
  obtain ⟨⟨ys, s2⟩, q⟩ : ∃ z, rText most s = z := ⟨_, rfl⟩
  obtain ⟨w0, e0⟩ : ∃ z, z = w.alloc (.cells #[.int .i64 0, .int .i64 0, .int .i64 0, .int .i64 0, .int .i64 0] 23) := ⟨_, rfl⟩
  have K0 : Tk w w0 p s #[.int .i64 0, .int .i64 0, .int .i64 0, .int .i64 0, .int .i64 0] 23 := by
    rw [e0]
    exact ⟨below_grown ((Below.refl _ w).alloc (Nat.le_refl _) _) _, h.below ((Below.refl _ w).alloc (Nat.le_refl _) _), heap_alloc_new _ _, h.lt⟩
  have TX := rtext_any p w0 s most K0.rd
  unfold TxtTo at TX
  rw [q] at TX tl ⊢
  simp only at tl
  have ht0 : Hid (0 < w.heap.size) := Nat.lt_of_le_of_lt (Nat.zero_le _) h.lt
  replace TX := Lib.hid TX
  replace tl := Lib.hid tl
  replace e0 := Lib.hid e0
  replace K0 := Lib.hid K0
  clear h hs q
  go_enter Tryd.func31, Tryd.ntmps31
  go_upto_region 1 with fail
  rw [← e0.out]
  clear e0
  go_wp2_with fail
  refine TX.out.mono ?_
  rintro e w1 ⟨rfl, k⟩
  have K1 := Lib.hid (K0.out.read k)
  clear k TX K0
  obtain ⟨w2, c, CV, R, hc1, hc2, b⟩ := of_str2 w1 ys (by have := tl.out; omega)
  have K2 := Lib.hid (K1.out.below b)
  have GO := Lib.hid (getop_any w2 (some ⟨w1.heap.size, 0, none⟩) ys.length c ys R (fun g hg => hg.2) (by have := tl.out; omega) (fun e => by cases e))
  clear b K1 R hc1 hc2
  go_wp2_with fail
  refine GO.out.mono ?_
  intro e w3 hg
  obtain ⟨k, rfl⟩ := oform hg
  have K3 := Lib.hid (K2.out.below hg.be)
  clear hg GO K2 CV
  obtain ⟨x, hx⟩ : ∃ x, x = (getO (some ys)).getD o0 := ⟨_, rfl⟩
  rw [← hx]
  replace hx := Lib.hid hx
  have K4 := Lib.hid (K3.out.below ((Below.refl _ w3).alloc (Nat.le_refl _) (.cells #[.int .i64 0, .int .i64 0, .int .i64 0, .int .i64 0, .int .i64 0] 23)))
  have n4 : Hid ((w3.alloc (.cells #[.int .i64 0, .int .i64 0, .int .i64 0, .int .i64 0, .int .i64 0] 23)).heap[w3.heap.size]? = some (.cells #[.int .i64 0, .int .i64 0, .int .i64 0, .int .i64 0, .int .i64 0] 23 (0, 0))) := heap_alloc_new _ _
  have l3 : Hid (w.heap.size < w3.heap.size) := lt_some K3.out.bx
  clear K3
  unfold opv
  go_upto_region 2 with (refine wpList_store_row rfl 23 (.tmp 7) (.tmp 16) rfl w3.heap.size #[.int .i64 x.kind, .int .i64 x.book, .int .i64 x.units, .int .i64 x.cust, .int .i64 x.amount] rfl rfl 23 _ n4.out op_info rfl (by simp [Value.oneCell']) ?_)
  obtain ⟨u, eu⟩ : ∃ z, z = (w3.alloc (.cells #[.int .i64 0, .int .i64 0, .int .i64 0, .int .i64 0, .int .i64 0] 23)).setRow w3.heap.size #[.int .i64 x.kind, .int .i64 x.book, .int .i64 x.units, .int .i64 x.cust, .int .i64 x.amount] := ⟨_, rfl⟩
  rw [← eu]
  have K5 : Hid (Tk w u p s2 #[.int .i64 0, .int .i64 0, .int .i64 0, .int .i64 0, .int .i64 0] 23) := by rw [eu]; exact K4.out.row n4.out (by decide) l3.out _
  have n5 : u.heap[w3.heap.size]? = some (.cells #[.int .i64 x.kind, .int .i64 x.book, .int .i64 x.units, .int .i64 x.cust, .int .i64 x.amount] 23 (0, 0)) := by rw [eu]; exact setRow_heap _ _ _ _ _ _ n4.out
  clear eu K4 n4
  have d0 : u.cell? ⟨w3.heap.size, 0, none⟩ = some (.int .i64 x.kind) := one_at n5
  have d1 : u.cell? ⟨w3.heap.size, 1, none⟩ = some (.int .i64 x.book) := one_at n5
  have d2 : u.cell? ⟨w3.heap.size, 2, none⟩ = some (.int .i64 x.units) := one_at n5
  have d3 : u.cell? ⟨w3.heap.size, 3, none⟩ = some (.int .i64 x.cust) := one_at n5
  have d4 : u.cell? ⟨w3.heap.size, 4, none⟩ = some (.int .i64 x.amount) := one_at n5
  have lk := lt_some n5
  replace n5 := Lib.hid n5
  have zz := K5.out.bx
  go_wp2_with (refine wpList_store_row rfl 23 (.tmp 6) (.tmp 18) rfl w.heap.size #[.int .i64 x.kind, .int .i64 x.book, .int .i64 x.units, .int .i64 x.cust, .int .i64 x.amount] rfl rfl 23 _ zz op_info rfl (by simp [Value.oneCell']) ?_)
  refine bodyPost_ret (results_cell_row takeo_results _ _ w.heap.size 23 #[.int .i64 x.kind, .int .i64 x.book, .int .i64 x.units, .int .i64 x.cust, .int .i64 x.amount] (0, 0) _ rfl (setRow_heap _ _ _ _ _ _ zz) Tryd.underlying23 rfl op_info) rfl ?_
  exact ⟨x, hx.out, rfl, (K5.out.res (by decide) _).to⟩
theorem takes_results : Tryd.f33.results = #[.cell 6 28] := by kernel_rfl
set_option maxHeartbeats 6400000 in
theorem takes_any (w : World) (p : Nat) (t : Sg.Tab w) (hp0 : Hid (0 < p)) (s : St) (h : Rd w p s) (hs : Sle s) (most : Int) :
    Calls Tryd.prog 33 #[.pointer (some ⟨p, 0, none⟩), .int .i64 most, .func (.func 34) #[] #[]] w fun e w' => ∃ x, x = (sget (rText most s).1).getD sz ∧ e = .returned (.agg #[.int .i64 x.w.book, .int .i64 x.w.cust, .int .i64 x.w.dead, .int .i64 x.w.u0, .int .i64 x.w.u1, .int .i64 x.w.u2, .int .i64 x.w.price, .int .i64 x.ph, .int .i64 x.st, .int .i64 x.rs, .int .i64 x.si]) ∧ RdTo w p (rText most s).2 w' := by
  have tl := rtext_le (most := most) hs
  obtain ⟨⟨ys, s2⟩, q⟩ : ∃ z, rText most s = z := ⟨_, rfl⟩
  obtain ⟨w0, e0⟩ : ∃ z, z = w.alloc (.cells #[.int .i64 0, .int .i64 0, .int .i64 0, .int .i64 0, .int .i64 0, .int .i64 0, .int .i64 0, .int .i64 0, .int .i64 0, .int .i64 0, .int .i64 0] 28) := ⟨_, rfl⟩
  have K0 : Tk w w0 p s #[.int .i64 0, .int .i64 0, .int .i64 0, .int .i64 0, .int .i64 0, .int .i64 0, .int .i64 0, .int .i64 0, .int .i64 0, .int .i64 0, .int .i64 0] 28 := by
    rw [e0]
    exact ⟨below_grown ((Below.refl _ w).alloc (Nat.le_refl _) _) _, h.below ((Below.refl _ w).alloc (Nat.le_refl _) _), heap_alloc_new _ _, h.lt⟩
  have TX := rtext_any p w0 s most K0.rd
  unfold TxtTo at TX
  rw [q] at TX tl ⊢
  simp only at tl
  have ht0 : Hid (0 < w.heap.size) := Nat.lt_of_le_of_lt (Nat.zero_le _) h.lt
  have tb0 : Hid (Sg.Tab w) := t
  replace TX := Lib.hid TX
  replace tl := Lib.hid tl
  replace e0 := Lib.hid e0
  replace K0 := Lib.hid K0
  clear h hs q t
  go_enter Tryd.func33, Tryd.ntmps33
  go_upto_region 1 with fail
  rw [← e0.out]
  clear e0
  go_wp2_with fail
  refine TX.out.mono ?_
  rintro e w1 ⟨rfl, k⟩
  have K1 := Lib.hid (K0.out.read k)
  clear k TX K0
  obtain ⟨w2, c, CV, R, hc1, hc2, b⟩ := of_str2 w1 ys (by have := tl.out; omega)
  have K2 := Lib.hid (K1.out.below b)
  have tb2 : Sg.Tab w2 := tb0.out.sub (grown_below K2.out.gr (Nat.le_refl p) (Nat.le_of_lt K2.out.lt)) hp0.out
  have GO := Lib.hid (gets_any w2 tb2 (some ⟨w1.heap.size, 0, none⟩) ys.length c ys R (fun g hg => hg.2) (by have := tl.out; omega) hc1 hc2 (fun e => by cases e))
  clear tb2
  clear b K1 R hc1 hc2
  go_wp2_with fail
  refine GO.out.mono ?_
  intro e w3 hg
  obtain ⟨k, rfl⟩ := sform hg
  have K3 := Lib.hid (K2.out.below hg.be)
  clear hg GO K2 CV
  obtain ⟨x, hx⟩ : ∃ x, x = (sget ys).getD sz := ⟨_, rfl⟩
  rw [← hx]
  replace hx := Lib.hid hx
  have K4 := Lib.hid (K3.out.below ((Below.refl _ w3).alloc (Nat.le_refl _) (.cells #[.int .i64 0, .int .i64 0, .int .i64 0, .int .i64 0, .int .i64 0, .int .i64 0, .int .i64 0, .int .i64 0, .int .i64 0, .int .i64 0, .int .i64 0] 28)))
  have n4 : Hid ((w3.alloc (.cells #[.int .i64 0, .int .i64 0, .int .i64 0, .int .i64 0, .int .i64 0, .int .i64 0, .int .i64 0, .int .i64 0, .int .i64 0, .int .i64 0, .int .i64 0] 28)).heap[w3.heap.size]? = some (.cells #[.int .i64 0, .int .i64 0, .int .i64 0, .int .i64 0, .int .i64 0, .int .i64 0, .int .i64 0, .int .i64 0, .int .i64 0, .int .i64 0, .int .i64 0] 28 (0, 0))) := heap_alloc_new _ _
  have l3 : Hid (w.heap.size < w3.heap.size) := lt_some K3.out.bx
  clear K3
  unfold sgv sgc
  go_upto_region 2 with (refine wpList_store_row rfl 28 (.tmp 7) (.tmp 16) rfl w3.heap.size #[.int .i64 x.w.book, .int .i64 x.w.cust, .int .i64 x.w.dead, .int .i64 x.w.u0, .int .i64 x.w.u1, .int .i64 x.w.u2, .int .i64 x.w.price, .int .i64 x.ph, .int .i64 x.st, .int .i64 x.rs, .int .i64 x.si] rfl rfl 28 _ n4.out sag_size rfl (by simp [Value.oneCell']) ?_)
  obtain ⟨u, eu⟩ : ∃ z, z = (w3.alloc (.cells #[.int .i64 0, .int .i64 0, .int .i64 0, .int .i64 0, .int .i64 0, .int .i64 0, .int .i64 0, .int .i64 0, .int .i64 0, .int .i64 0, .int .i64 0] 28)).setRow w3.heap.size #[.int .i64 x.w.book, .int .i64 x.w.cust, .int .i64 x.w.dead, .int .i64 x.w.u0, .int .i64 x.w.u1, .int .i64 x.w.u2, .int .i64 x.w.price, .int .i64 x.ph, .int .i64 x.st, .int .i64 x.rs, .int .i64 x.si] := ⟨_, rfl⟩
  rw [← eu]
  have K5 : Hid (Tk w u p s2 #[.int .i64 0, .int .i64 0, .int .i64 0, .int .i64 0, .int .i64 0, .int .i64 0, .int .i64 0, .int .i64 0, .int .i64 0, .int .i64 0, .int .i64 0] 28) := by rw [eu]; exact K4.out.row n4.out (by decide) l3.out _
  have n5 : u.heap[w3.heap.size]? = some (.cells #[.int .i64 x.w.book, .int .i64 x.w.cust, .int .i64 x.w.dead, .int .i64 x.w.u0, .int .i64 x.w.u1, .int .i64 x.w.u2, .int .i64 x.w.price, .int .i64 x.ph, .int .i64 x.st, .int .i64 x.rs, .int .i64 x.si] 28 (0, 0)) := by rw [eu]; exact setRow_heap _ _ _ _ _ _ n4.out
  clear eu K4 n4
  have d0 : u.cell? ⟨w3.heap.size, 0, none⟩ = some (.int .i64 x.w.book) := one_at n5
  have d1 : u.cell? ⟨w3.heap.size, 1, none⟩ = some (.int .i64 x.w.cust) := one_at n5
  have d2 : u.cell? ⟨w3.heap.size, 2, none⟩ = some (.int .i64 x.w.dead) := one_at n5
  have d3 : u.cell? ⟨w3.heap.size, 3, none⟩ = some (.int .i64 x.w.u0) := one_at n5
  have d4 : u.cell? ⟨w3.heap.size, 4, none⟩ = some (.int .i64 x.w.u1) := one_at n5
  have d5 : u.cell? ⟨w3.heap.size, 5, none⟩ = some (.int .i64 x.w.u2) := one_at n5
  have d6 : u.cell? ⟨w3.heap.size, 6, none⟩ = some (.int .i64 x.w.price) := one_at n5
  have d7 : u.cell? ⟨w3.heap.size, 7, none⟩ = some (.int .i64 x.ph) := one_at n5
  have d8 : u.cell? ⟨w3.heap.size, 8, none⟩ = some (.int .i64 x.st) := one_at n5
  have d9 : u.cell? ⟨w3.heap.size, 9, none⟩ = some (.int .i64 x.rs) := one_at n5
  have d10 : u.cell? ⟨w3.heap.size, 10, none⟩ = some (.int .i64 x.si) := one_at n5
  have lk := lt_some n5
  replace n5 := Lib.hid n5
  have zz := K5.out.bx
  go_wp2_with (refine wpList_store_row rfl 28 (.tmp 6) (.tmp 18) rfl w.heap.size #[.int .i64 x.w.book, .int .i64 x.w.cust, .int .i64 x.w.dead, .int .i64 x.w.u0, .int .i64 x.w.u1, .int .i64 x.w.u2, .int .i64 x.w.price, .int .i64 x.ph, .int .i64 x.st, .int .i64 x.rs, .int .i64 x.si] rfl rfl 28 _ zz sag_size rfl (by simp [Value.oneCell']) ?_)
  refine bodyPost_ret (results_cell_row takes_results _ _ w.heap.size 28 #[.int .i64 x.w.book, .int .i64 x.w.cust, .int .i64 x.w.dead, .int .i64 x.w.u0, .int .i64 x.w.u1, .int .i64 x.w.u2, .int .i64 x.w.price, .int .i64 x.ph, .int .i64 x.st, .int .i64 x.rs, .int .i64 x.si] (0, 0) _ rfl (setRow_heap _ _ _ _ _ _ zz) Tryd.underlying28 rfl sag_size) rfl ?_
  exact ⟨x, hx.out, rfl, (K5.out.res (by decide) _).to⟩
end Re
end Go.Proofs.YtidfpbnepdjagaaDoor

namespace Go.Proofs.YtidfpbnepdjagaaDoor
set_option maxRecDepth 100000
open Go.RowKit
open Go.Proofs.YtidfpbnepdjagaaDoor.Pk
namespace Re
open Go.Proofs.YtidfpbnepdjagaaDoor.Sg (Sag sz smay sgc sgv res_row sag_size)
open Go.Proofs.YtidfpbnepdjagaaDoor.Sb (sget)
open Wt (Opn mayOp getO op_info)
open Pl (wpList_store_row setRow_below)

/-- Get under way: the result's box, what is read so far, the reader, the table. -/
structure Gp (w wr : World) (p b : Nat) (r : Rec) (s : St) : Prop where
  be : Below w.heap.size w wr
  za : BoxR wr w.heap.size r0
  bx : BoxR wr b r
  rd : Rd wr p s
  lt : w.heap.size < p
  lb : p < b
  tb : Sg.Tab wr
  w0 : 0 < w.heap.size
section
variable {w wr w' : World} {p b : Nat} {r r' : Rec} {s s' : St}
theorem Gp.read (h : Gp w wr p b r s) (k : RdTo wr p s' w') : Gp w w' p b r s' := by
  have hl := h.lt
  have hb := h.lb
  have kb : Below w.heap.size wr w' := grown_below k.gr (Nat.le_of_lt hl) h.be.size
  exact ⟨h.be.trans kb, (k.gr.block _ h.za.lt (fun e => by injection e with e; omega)).trans h.za, (k.gr.block _ h.bx.lt (fun e => by injection e with e; omega)).trans h.bx, k.rd, hl, hb, h.tb.sub kb h.w0, h.w0⟩
theorem Gp.below (h : Gp w wr p b r s) (k : Below wr.heap.size wr w') : Gp w w' p b r s :=
  ⟨h.be.trans (k.mono h.be.size), h.za.below k, h.bx.below k, h.rd.below k, h.lt, h.lb, h.tb.below k, h.w0⟩
theorem Gp.grown (h : Gp w wr p b r s) (k : wr.grownBy w' (some b)) (hb : BoxR w' b r') : Gp w w' p b r' s := by
  have hl := h.lt
  have hl2 := h.lb
  have kb : Below w.heap.size wr w' := grown_below k (by omega) h.be.size
  exact ⟨h.be.trans kb, (k.block _ h.za.lt (fun e => by injection e with e; omega)).trans h.za, hb, h.rd.grown k (by omega) h.bx (by decide), hl, hl2, h.tb.sub kb h.w0, h.w0⟩
end
theorem pgetrec_results : Tryd.f11.results = #[.cell 2 30, .tmp 3] := by kernel_rfl
set_option maxHeartbeats 12800000 in
theorem pget_any (w : World) (t : Sg.Tab w) (A : Option Addr) (n c : Nat) (bs : List UInt8) (h : Rb w (fun g => g < w.heap.size) A n bs) (hn : n ≤ 400) (hnc : n ≤ c) (hc : c ≤ 9223372036854775807) (hA : A = none → c = 0) : Calls Tryd.prog 11 #[.slice A n c] w (RGetTo w (rget bs)) := by
  obtain ⟨w0, e0⟩ : ∃ z, z = w.alloc (.cells #[.int .i64 0, .int .i64 0, .int .i64 0, .int .i64 0, .int .i64 0, .int .i64 0, .int .i64 0, .int .i64 0, .int .i64 0, .int .i64 0, .int .i64 0, .int .i64 0, .int .i64 0, .int .i64 0, .int .i64 0, .int .i64 0, .int .i64 0, .int .i64 0, .int .i64 0] 30) := ⟨_, rfl⟩
  have be0 : Hid (Below w.heap.size w w0) := by rw [e0]; exact (Below.refl _ w).alloc (Nat.le_refl _) _
  have ha0 : Hid (BoxR w0 w.heap.size r0) := by rw [e0]; exact heap_alloc_new _ _
  have T0 : Hid (Sg.Tab w0) := t.below be0.out
  have hw : Hid (0 < w.heap.size) := t.lt
  have hl : Hid (bs.length = n ∧ n ≤ 400) := ⟨h.len, hn⟩
  have nc : (n : Int) ≤ (c : Int) := by omega
  have hc1 : Hid (n ≤ c ∧ c ≤ 9223372036854775807) := ⟨hnc, hc⟩
  have NW := Lib.hid (new_any w0 A n c bs (h.keep (T' := fun g => g < w.heap.size) (fun g hg => be0.out.block g hg) (fun _ h => h)) (fun g hg => Nat.lt_of_lt_of_le hg be0.out.size) (by omega) hA)
  obtain ⟨⟨k, s1⟩, q1⟩ : ∃ z, rInt 1 3 (some bs) = z := ⟨_, rfl⟩
  obtain ⟨⟨m, s2⟩, q2⟩ : ∃ z, rInt 0 1099511627776 s1 = z := ⟨_, rfl⟩
  have CI : Hid (∀ (lo hi : Int) (p : Nat) (w : World) (s s' : St) (v : Int), rInt lo hi s = (v, s') → Rd w p s → Calls Tryd.prog 30 #[.pointer (some ⟨p, 0, none⟩), .int .i64 lo, .int .i64 hi] w fun e w' => e = .returned (.int .i64 v) ∧ RdTo w p s' w') := fun lo hi p w s s' v h hr => by
    have := rint_any p w s lo hi hr
    unfold NumTo at this
    rw [h] at this
    exact this
  have z0 : Sle (some bs) := fun l e => by injection e with e; subst e; have := hl.out; omega
  have z1 := sle_int q1 z0
  have z2 := Lib.hid (sle_int q2 z1)
  replace q1 := Lib.hid q1
  replace q2 := Lib.hid q2
  replace e0 := Lib.hid e0
  clear h hn hnc hc hA t z0 z1
  go_enter Tryd.func11, Tryd.ntmps11
  go_upto_region 1 with fail
  rw [← e0.out]
  go_wp2_with fail
  refine NW.out.mono ?_
  rintro e w1 ⟨p, rfl, hp, hrd, b1⟩
  have hp2 : w.heap.size < p := Nat.lt_of_lt_of_le ha0.out.lt hp
  have be1 : Hid (Below w.heap.size w w1) := be0.out.trans (b1.mono be0.out.size)
  have ha1 : Hid (BoxR w1 w.heap.size r0) := ha0.out.below b1
  have T1 : Hid (Sg.Tab w1) := T0.out.below b1
  replace hrd := Lib.hid hrd
  replace hp2 := Lib.hid hp2
  clear NW b1 be0 ha0 T0 e0 hp
  go_upto_region 3 with fail
  obtain ⟨u0, eu⟩ : ∃ z, z = w1.alloc (.cells #[.int .i64 0, .int .i64 0, .int .i64 0, .int .i64 0, .int .i64 0, .int .i64 0, .int .i64 0, .int .i64 0, .int .i64 0, .int .i64 0, .int .i64 0, .int .i64 0, .int .i64 0, .int .i64 0, .int .i64 0, .int .i64 0, .int .i64 0, .int .i64 0, .int .i64 0] 30) := ⟨_, rfl⟩
  obtain ⟨b, eb⟩ : ∃ z, z = w1.heap.size := ⟨_, rfl⟩
  have G0 : Hid (Gp w u0 p b r0 (some bs)) := by
    have al : Below w1.heap.size w1 u0 := by rw [eu]; exact (Below.refl _ _).alloc (Nat.le_refl _) _
    exact ⟨be1.out.trans (al.mono be1.out.size), ha1.out.below al, by rw [eu, eb]; exact heap_alloc_new _ _, hrd.out.below al, hp2.out, by rw [eb]; exact hrd.out.lt, T1.out.below al, hw.out⟩
  rw [← eu, ← eb]
  clear eb eu ha1 be1 hrd hp2 T1 hw
  go_wp2_with fail
  refine (CI.out _ _ _ _ _ _ _ q1.out G0.out.rd).mono ?_
  rintro e w2 ⟨rfl, h⟩
  have G1 := Lib.hid (G0.out.read h)
  clear h G0
  have fm : w2.frozen? ⟨b, 0, none⟩ = false := one_free G1.out.bx
  have cm : w2.cell? ⟨b, 0, none⟩ = some (.int .i64 0) := one_at G1.out.bx
  have lm := G1.out.bx.lt
  go_upto_region 4 with fail
  obtain ⟨u1, eu⟩ : ∃ z, z = w2.setCell ⟨b, 0, none⟩ (.int .i64 k) := ⟨_, rfl⟩
  rw [← eu]
  have G2 : Hid (Gp w u1 p b ⟨k, 0, 0, o0, sz⟩ s1) := by rw [eu]; exact G1.out.grown (grown_set w2 b 0 _) (one_set G1.out.bx _)
  clear eu fm cm lm G1
  go_wp2_with fail
  refine (CI.out _ _ _ _ _ _ _ q2.out G2.out.rd).mono ?_
  rintro e w3 ⟨rfl, h⟩
  have G3 := Lib.hid (G2.out.read h)
  clear h G2
  have fm : w3.frozen? ⟨b, 1, none⟩ = false := one_free G3.out.bx
  have cm : w3.cell? ⟨b, 1, none⟩ = some (.int .i64 0) := one_at G3.out.bx
  have lm := G3.out.bx.lt
  go_upto_region 5 with fail
  obtain ⟨u2, eu⟩ : ∃ z, z = w3.setCell ⟨b, 1, none⟩ (.int .i64 m) := ⟨_, rfl⟩
  rw [← eu]
  have G4 : Hid (Gp w u2 p b ⟨k, m, 0, o0, sz⟩ s2) := by rw [eu]; exact G3.out.grown (grown_set w3 b 1 _) (one_set G3.out.bx _)
  clear eu fm cm lm G3
  have kk : u2.cell? ⟨b, 0, none⟩ = some (.int .i64 k) := one_at G4.out.bx
  have lk := G4.out.bx.lt
  by_cases k1 : k = 1
  · subst k1
    obtain ⟨⟨t, s3⟩, q3⟩ : ∃ z, rText (n : Int) s2 = z := ⟨_, rfl⟩
    obtain ⟨⟨a, s4⟩, q4⟩ : ∃ z, rInt 1 2 s3 = z := ⟨_, rfl⟩
    have PG := Lib.hid (fun x hx => pg_1 (x := x) q1.out q2.out q3 q4 (by rw [hl.out.1]) (by have := hl.out; omega) hx)
    have TO := takeo_any u2 p s2 G4.out.rd z2.out (n : Int)
    rw [q3] at TO
    replace TO := Lib.hid TO
    replace q3 := Lib.hid q3
    replace q4 := Lib.hid q4
    clear z2
    go_wp2_with fail
    refine TO.out.mono ?_
    rintro e w4 ⟨x, hx, rfl, h⟩
    have G5 := Lib.hid (G4.out.read h)
    have PX := Lib.hid (PG.out x hx)
    clear h G4 kk lk TO hx PG
    have TH : Hid (w4.there b 3 5) := fun j hj => ⟨by rw [one_at G5.out.bx, Array.getElem?_eq_getElem (by simp; omega)]; rfl, one_free G5.out.bx⟩
    go_upto_region 8 with (refine wpList_store_mid rfl 23 (.tmp 22) (.tmp 21) rfl b 3 #[.int .i64 x.kind, .int .i64 x.book, .int .i64 x.units, .int .i64 x.cust, .int .i64 x.amount] rfl rfl TH.out op_info (by simp [Value.oneCell']) ?_)
    obtain ⟨u3, hu⟩ : ∃ z, z = w4.setCells b 3 (#[.int .i64 x.kind, .int .i64 x.book, .int .i64 x.units, .int .i64 x.cust, .int .i64 x.amount] : Array Value).toList := ⟨_, rfl⟩
    rw [← hu]
    have G6 : Hid (Gp w u3 p b ⟨1, m, 0, x, sz⟩ s3) := by
      rw [hu]
      refine G5.out.grown (setCells_grown _ w4 3) ?_
      have := setCells_heap [.int .i64 x.kind, .int .i64 x.book, .int .i64 x.units, .int .i64 x.cust, .int .i64 x.amount] w4 3 _ G5.out.bx
      rw [stv5 1 m 0 x] at this
      exact this
    clear hu TH G5
    go_wp2_with fail
    refine (CI.out _ _ _ _ _ _ _ q4.out G6.out.rd).mono ?_
    rintro e w5 ⟨rfl, h⟩
    have G7 := Lib.hid (G6.out.read h)
    clear h G6
    have fm : w5.frozen? ⟨b, 2, none⟩ = false := one_free G7.out.bx
    have cm : w5.cell? ⟨b, 2, none⟩ = some (.int .i64 0) := one_at G7.out.bx
    have lm := G7.out.bx.lt
    go_upto_region 11 with fail
    obtain ⟨u4, eu⟩ : ∃ z, z = w5.setCell ⟨b, 2, none⟩ (.int .i64 a) := ⟨_, rfl⟩
    rw [← eu]
    have G8 : Hid (Gp w u4 p b ⟨1, m, a, x, sz⟩ s4) := by rw [eu]; exact G7.out.grown (grown_set w5 b 2 _) (one_set G7.out.bx _)
    clear eu fm cm lm G7 CI
    have F := PX.out
    have E := rend_any p _ _ G8.out.rd
    have MM := Lib.hid (fun w (t : Sg.Tab w) => pmay_any w t ⟨1, m, a, x, sz⟩)
    obtain ⟨mb, hmb⟩ : ∃ mb, rmay ⟨1, m, a, x, sz⟩ = mb := ⟨_, rfl⟩
    rw [hmb] at MM F
    clear hmb
    generalize hen : rEnd s4 = en at *
    clear hen
    replace E := Lib.hid E
    unfold rcv rcc at MM
    simp only [sz] at MM
    replace F := Lib.hid F
    by_cases he : en = 0
    case neg =>
      have g1 : (en != 0) = true := by simp [he]
      have g2 : (en == 0) = false := by simp [he]
      have FF : Hid (rget bs = none) := by unfold Hid; rw [F.out, if_neg (fun h => he h.1)]
      go_wp2_with fail
      refine E.out.mono ?_
      rintro e v1 ⟨rfl, rfl⟩
      clear E MM F
      have zz := G8.out.za
      have bb : Hid (Below w.heap.size w _) := G8.out.be
      go_wp2_with (refine wpList_store_row rfl 30 (.tmp 2) (.tmp 41) rfl w.heap.size #[.int .i64 0, .int .i64 0, .int .i64 0, .int .i64 0, .int .i64 0, .int .i64 0, .int .i64 0, .int .i64 0, .int .i64 0, .int .i64 0, .int .i64 0, .int .i64 0, .int .i64 0, .int .i64 0, .int .i64 0, .int .i64 0, .int .i64 0, .int .i64 0, .int .i64 0] rfl rfl 30 _ zz rec_size rfl (by simp [Value.oneCell']) ?_)
      refine bodyPost_ret (res_row pgetrec_results _ _ w.heap.size 30 #[.int .i64 0, .int .i64 0, .int .i64 0, .int .i64 0, .int .i64 0, .int .i64 0, .int .i64 0, .int .i64 0, .int .i64 0, .int .i64 0, .int .i64 0, .int .i64 0, .int .i64 0, .int .i64 0, .int .i64 0, .int .i64 0, .int .i64 0, .int .i64 0, .int .i64 0] (0, 0) _ rfl (setRow_heap _ _ _ _ _ _ zz) Tryd.underlying30 rfl rec_size) rfl ?_
      exact ⟨bb.out.trans (setRow_below _ (Nat.le_refl _)), fun r h => (by rw [FF.out] at h; cases h), fun _ => rfl⟩
    subst he
    cases mb with
    | false =>
      have FF : Hid (rget bs = none) := by unfold Hid; rw [F.out, if_neg (fun h => by cases h.2)]
      clear F
      go_wp2_with fail
      refine E.out.mono ?_
      rintro e v1 ⟨rfl, rfl⟩
      clear E
      go_wp2_with (refine wpList_rload_g (.tmp 5) rfl rfl b rfl ⟨1, m, a, x, sz⟩ G8.out.bx ?_)
      refine (MM.out _ G8.out.tb).mono ?_
      rintro e v2 ⟨rfl, h⟩
      have G9 := Lib.hid (G8.out.below h)
      clear MM h
      have zz := G9.out.za
      have bb : Hid (Below w.heap.size w _) := G9.out.be
      go_wp2_with (refine wpList_store_row rfl 30 (.tmp 2) (.tmp 41) rfl w.heap.size #[.int .i64 0, .int .i64 0, .int .i64 0, .int .i64 0, .int .i64 0, .int .i64 0, .int .i64 0, .int .i64 0, .int .i64 0, .int .i64 0, .int .i64 0, .int .i64 0, .int .i64 0, .int .i64 0, .int .i64 0, .int .i64 0, .int .i64 0, .int .i64 0, .int .i64 0] rfl rfl 30 _ zz rec_size rfl (by simp [Value.oneCell']) ?_)
      refine bodyPost_ret (res_row pgetrec_results _ _ w.heap.size 30 #[.int .i64 0, .int .i64 0, .int .i64 0, .int .i64 0, .int .i64 0, .int .i64 0, .int .i64 0, .int .i64 0, .int .i64 0, .int .i64 0, .int .i64 0, .int .i64 0, .int .i64 0, .int .i64 0, .int .i64 0, .int .i64 0, .int .i64 0, .int .i64 0, .int .i64 0] (0, 0) _ rfl (setRow_heap _ _ _ _ _ _ zz) Tryd.underlying30 rfl rec_size) rfl ?_
      exact ⟨bb.out.trans (setRow_below _ (Nat.le_refl _)), fun r h => (by rw [FF.out] at h; cases h), fun _ => rfl⟩
    | true =>
      have FF : Hid (rget bs = some ⟨1, m, a, x, sz⟩) := by unfold Hid; rw [F.out, if_pos ⟨rfl, rfl⟩]
      clear F
      go_wp2_with fail
      refine E.out.mono ?_
      rintro e v1 ⟨rfl, rfl⟩
      clear E
      go_wp2_with (refine wpList_rload_g (.tmp 5) rfl rfl b rfl ⟨1, m, a, x, sz⟩ G8.out.bx ?_)
      refine (MM.out _ G8.out.tb).mono ?_
      rintro e v2 ⟨rfl, h⟩
      have G9 := Lib.hid (G8.out.below h)
      clear MM h
      have zz := G9.out.za
      have bb : Hid (Below w.heap.size w v2) := G9.out.be
      go_wp2_with (first | (refine wpList_rload rfl (.tmp 5) rfl b rfl ⟨1, m, a, x, sz⟩ G9.out.bx ?_) | (refine wpList_store_row rfl 30 (.tmp 2) (.tmp 42) rfl w.heap.size #[.int .i64 1, .int .i64 m, .int .i64 a, .int .i64 x.kind, .int .i64 x.book, .int .i64 x.units, .int .i64 x.cust, .int .i64 x.amount, .int .i64 0, .int .i64 0, .int .i64 0, .int .i64 0, .int .i64 0, .int .i64 0, .int .i64 0, .int .i64 0, .int .i64 0, .int .i64 0, .int .i64 0] rfl rfl 30 _ zz rec_size rfl (by simp [Value.oneCell']) ?_))
      refine bodyPost_ret (res_row pgetrec_results _ _ w.heap.size 30 #[.int .i64 1, .int .i64 m, .int .i64 a, .int .i64 x.kind, .int .i64 x.book, .int .i64 x.units, .int .i64 x.cust, .int .i64 x.amount, .int .i64 0, .int .i64 0, .int .i64 0, .int .i64 0, .int .i64 0, .int .i64 0, .int .i64 0, .int .i64 0, .int .i64 0, .int .i64 0, .int .i64 0] (0, 0) _ rfl (setRow_heap _ _ _ _ _ _ zz) Tryd.underlying30 rfl rec_size) rfl ?_
      exact ⟨bb.out.trans (setRow_below _ (Nat.le_refl _)), (by
        intro r h
        rw [FF.out] at h
        injection h with h
        subst h
        rfl), (by intro h; rw [FF.out] at h; cases h)⟩
  by_cases k3 : k = 3
  · subst k3
    obtain ⟨⟨t, s3⟩, q3⟩ : ∃ z, rText (n : Int) s2 = z := ⟨_, rfl⟩
    have PG := Lib.hid (fun x hx => pg_3 (x := x) q1.out q2.out q3 (by rw [hl.out.1]) (by have := hl.out; omega) hx)
    have TO := takes_any u2 p G4.out.tb (Lib.hid (Nat.lt_of_le_of_lt (Nat.zero_le _) G4.out.lt)) s2 G4.out.rd z2.out (n : Int)
    rw [q3] at TO
    replace TO := Lib.hid TO
    replace q3 := Lib.hid q3
    clear z2 k1
    go_wp2_with fail
    refine TO.out.mono ?_
    rintro e w4 ⟨x, hx, rfl, h⟩
    have G5 := Lib.hid (G4.out.read h)
    have PX := Lib.hid (PG.out x hx)
    clear h G4 kk lk TO hx PG
    have TH : Hid (w4.there b 8 11) := fun j hj => ⟨by rw [one_at G5.out.bx, Array.getElem?_eq_getElem (by simp; omega)]; rfl, one_free G5.out.bx⟩
    go_upto_region 11 with (refine wpList_store_mid rfl 28 (.tmp 32) (.tmp 31) rfl b 8 #[.int .i64 x.w.book, .int .i64 x.w.cust, .int .i64 x.w.dead, .int .i64 x.w.u0, .int .i64 x.w.u1, .int .i64 x.w.u2, .int .i64 x.w.price, .int .i64 x.ph, .int .i64 x.st, .int .i64 x.rs, .int .i64 x.si] rfl rfl TH.out sag_size (by simp [Value.oneCell']) ?_)
    obtain ⟨u3, hu⟩ : ∃ z, z = w4.setCells b 8 (#[.int .i64 x.w.book, .int .i64 x.w.cust, .int .i64 x.w.dead, .int .i64 x.w.u0, .int .i64 x.w.u1, .int .i64 x.w.u2, .int .i64 x.w.price, .int .i64 x.ph, .int .i64 x.st, .int .i64 x.rs, .int .i64 x.si] : Array Value).toList := ⟨_, rfl⟩
    rw [← hu]
    have G6 : Hid (Gp w u3 p b ⟨3, m, 0, o0, x⟩ s3) := by
      rw [hu]
      refine G5.out.grown (setCells_grown _ w4 8) ?_
      have := setCells_heap [.int .i64 x.w.book, .int .i64 x.w.cust, .int .i64 x.w.dead, .int .i64 x.w.u0, .int .i64 x.w.u1, .int .i64 x.w.u2, .int .i64 x.w.price, .int .i64 x.ph, .int .i64 x.st, .int .i64 x.rs, .int .i64 x.si] w4 8 _ G5.out.bx
      rw [stv11 3 m 0 x] at this
      exact this
    clear hu TH G5 CI
    have F := PX.out
    have E := rend_any p _ _ G6.out.rd
    have MM := Lib.hid (fun w (t : Sg.Tab w) => pmay_any w t ⟨3, m, 0, o0, x⟩)
    obtain ⟨mb, hmb⟩ : ∃ mb, rmay ⟨3, m, 0, o0, x⟩ = mb := ⟨_, rfl⟩
    rw [hmb] at MM F
    clear hmb
    generalize hen : rEnd s3 = en at *
    clear hen
    replace E := Lib.hid E
    unfold rcv rcc at MM
    simp only [o0] at MM
    replace F := Lib.hid F
    by_cases he : en = 0
    case neg =>
      have g1 : (en != 0) = true := by simp [he]
      have g2 : (en == 0) = false := by simp [he]
      have FF : Hid (rget bs = none) := by unfold Hid; rw [F.out, if_neg (fun h => he h.1)]
      go_wp2_with fail
      refine E.out.mono ?_
      rintro e v1 ⟨rfl, rfl⟩
      clear E MM F
      have zz := G6.out.za
      have bb : Hid (Below w.heap.size w _) := G6.out.be
      go_wp2_with (refine wpList_store_row rfl 30 (.tmp 2) (.tmp 41) rfl w.heap.size #[.int .i64 0, .int .i64 0, .int .i64 0, .int .i64 0, .int .i64 0, .int .i64 0, .int .i64 0, .int .i64 0, .int .i64 0, .int .i64 0, .int .i64 0, .int .i64 0, .int .i64 0, .int .i64 0, .int .i64 0, .int .i64 0, .int .i64 0, .int .i64 0, .int .i64 0] rfl rfl 30 _ zz rec_size rfl (by simp [Value.oneCell']) ?_)
      refine bodyPost_ret (res_row pgetrec_results _ _ w.heap.size 30 #[.int .i64 0, .int .i64 0, .int .i64 0, .int .i64 0, .int .i64 0, .int .i64 0, .int .i64 0, .int .i64 0, .int .i64 0, .int .i64 0, .int .i64 0, .int .i64 0, .int .i64 0, .int .i64 0, .int .i64 0, .int .i64 0, .int .i64 0, .int .i64 0, .int .i64 0] (0, 0) _ rfl (setRow_heap _ _ _ _ _ _ zz) Tryd.underlying30 rfl rec_size) rfl ?_
      exact ⟨bb.out.trans (setRow_below _ (Nat.le_refl _)), fun r h => (by rw [FF.out] at h; cases h), fun _ => rfl⟩
    subst he
    cases mb with
    | false =>
      have FF : Hid (rget bs = none) := by unfold Hid; rw [F.out, if_neg (fun h => by cases h.2)]
      clear F
      go_wp2_with fail
      refine E.out.mono ?_
      rintro e v1 ⟨rfl, rfl⟩
      clear E
      go_wp2_with (refine wpList_rload_g (.tmp 5) rfl rfl b rfl ⟨3, m, 0, o0, x⟩ G6.out.bx ?_)
      refine (MM.out _ G6.out.tb).mono ?_
      rintro e v2 ⟨rfl, h⟩
      have G9 := Lib.hid (G6.out.below h)
      clear MM h
      have zz := G9.out.za
      have bb : Hid (Below w.heap.size w _) := G9.out.be
      go_wp2_with (refine wpList_store_row rfl 30 (.tmp 2) (.tmp 41) rfl w.heap.size #[.int .i64 0, .int .i64 0, .int .i64 0, .int .i64 0, .int .i64 0, .int .i64 0, .int .i64 0, .int .i64 0, .int .i64 0, .int .i64 0, .int .i64 0, .int .i64 0, .int .i64 0, .int .i64 0, .int .i64 0, .int .i64 0, .int .i64 0, .int .i64 0, .int .i64 0] rfl rfl 30 _ zz rec_size rfl (by simp [Value.oneCell']) ?_)
      refine bodyPost_ret (res_row pgetrec_results _ _ w.heap.size 30 #[.int .i64 0, .int .i64 0, .int .i64 0, .int .i64 0, .int .i64 0, .int .i64 0, .int .i64 0, .int .i64 0, .int .i64 0, .int .i64 0, .int .i64 0, .int .i64 0, .int .i64 0, .int .i64 0, .int .i64 0, .int .i64 0, .int .i64 0, .int .i64 0, .int .i64 0] (0, 0) _ rfl (setRow_heap _ _ _ _ _ _ zz) Tryd.underlying30 rfl rec_size) rfl ?_
      exact ⟨bb.out.trans (setRow_below _ (Nat.le_refl _)), fun r h => (by rw [FF.out] at h; cases h), fun _ => rfl⟩
    | true =>
      have FF : Hid (rget bs = some ⟨3, m, 0, o0, x⟩) := by unfold Hid; rw [F.out, if_pos ⟨rfl, rfl⟩]
      clear F
      go_wp2_with fail
      refine E.out.mono ?_
      rintro e v1 ⟨rfl, rfl⟩
      clear E
      go_wp2_with (refine wpList_rload_g (.tmp 5) rfl rfl b rfl ⟨3, m, 0, o0, x⟩ G6.out.bx ?_)
      refine (MM.out _ G6.out.tb).mono ?_
      rintro e v2 ⟨rfl, h⟩
      have G9 := Lib.hid (G6.out.below h)
      clear MM h
      have zz := G9.out.za
      have bb : Hid (Below w.heap.size w v2) := G9.out.be
      go_wp2_with (first | (refine wpList_rload rfl (.tmp 5) rfl b rfl ⟨3, m, 0, o0, x⟩ G9.out.bx ?_) | (refine wpList_store_row rfl 30 (.tmp 2) (.tmp 42) rfl w.heap.size #[.int .i64 3, .int .i64 m, .int .i64 0, .int .i64 0, .int .i64 0, .int .i64 0, .int .i64 0, .int .i64 0, .int .i64 x.w.book, .int .i64 x.w.cust, .int .i64 x.w.dead, .int .i64 x.w.u0, .int .i64 x.w.u1, .int .i64 x.w.u2, .int .i64 x.w.price, .int .i64 x.ph, .int .i64 x.st, .int .i64 x.rs, .int .i64 x.si] rfl rfl 30 _ zz rec_size rfl (by simp [Value.oneCell']) ?_))
      refine bodyPost_ret (res_row pgetrec_results _ _ w.heap.size 30 #[.int .i64 3, .int .i64 m, .int .i64 0, .int .i64 0, .int .i64 0, .int .i64 0, .int .i64 0, .int .i64 0, .int .i64 x.w.book, .int .i64 x.w.cust, .int .i64 x.w.dead, .int .i64 x.w.u0, .int .i64 x.w.u1, .int .i64 x.w.u2, .int .i64 x.w.price, .int .i64 x.ph, .int .i64 x.st, .int .i64 x.rs, .int .i64 x.si] (0, 0) _ rfl (setRow_heap _ _ _ _ _ _ zz) Tryd.underlying30 rfl rec_size) rfl ?_
      exact ⟨bb.out.trans (setRow_below _ (Nat.le_refl _)), (by
        intro r h
        rw [FF.out] at h
        injection h with h
        subst h
        rfl), (by intro h; rw [FF.out] at h; cases h)⟩
  have PX := Lib.hid (pg_2 q1.out q2.out k1 k3)
  have n1 : (k == 1) = false := by simp [k1]
  have n3 : (k == 3) = false := by simp [k3]
  clear CI q1 q2 z2
  go_upto_region 11 with fail
  have F := PX.out
  have E := rend_any p _ _ G4.out.rd
  have MM := Lib.hid (fun w (t : Sg.Tab w) => pmay_any w t ⟨k, m, 0, o0, sz⟩)
  obtain ⟨mb, hmb⟩ : ∃ mb, rmay ⟨k, m, 0, o0, sz⟩ = mb := ⟨_, rfl⟩
  rw [hmb] at MM F
  clear hmb
  generalize hen : rEnd s2 = en at *
  clear hen
  replace E := Lib.hid E
  unfold rcv rcc at MM
  simp only [o0, sz] at MM
  replace F := Lib.hid F
  by_cases he : en = 0
  case neg =>
    have g1 : (en != 0) = true := by simp [he]
    have g2 : (en == 0) = false := by simp [he]
    have FF : Hid (rget bs = none) := by unfold Hid; rw [F.out, if_neg (fun h => he h.1)]
    go_wp2_with fail
    refine E.out.mono ?_
    rintro e v1 ⟨rfl, rfl⟩
    clear E MM F
    have zz := G4.out.za
    have bb : Hid (Below w.heap.size w _) := G4.out.be
    go_wp2_with (refine wpList_store_row rfl 30 (.tmp 2) (.tmp 41) rfl w.heap.size #[.int .i64 0, .int .i64 0, .int .i64 0, .int .i64 0, .int .i64 0, .int .i64 0, .int .i64 0, .int .i64 0, .int .i64 0, .int .i64 0, .int .i64 0, .int .i64 0, .int .i64 0, .int .i64 0, .int .i64 0, .int .i64 0, .int .i64 0, .int .i64 0, .int .i64 0] rfl rfl 30 _ zz rec_size rfl (by simp [Value.oneCell']) ?_)
    refine bodyPost_ret (res_row pgetrec_results _ _ w.heap.size 30 #[.int .i64 0, .int .i64 0, .int .i64 0, .int .i64 0, .int .i64 0, .int .i64 0, .int .i64 0, .int .i64 0, .int .i64 0, .int .i64 0, .int .i64 0, .int .i64 0, .int .i64 0, .int .i64 0, .int .i64 0, .int .i64 0, .int .i64 0, .int .i64 0, .int .i64 0] (0, 0) _ rfl (setRow_heap _ _ _ _ _ _ zz) Tryd.underlying30 rfl rec_size) rfl ?_
    exact ⟨bb.out.trans (setRow_below _ (Nat.le_refl _)), fun r h => (by rw [FF.out] at h; cases h), fun _ => rfl⟩
  subst he
  cases mb with
  | false =>
    have FF : Hid (rget bs = none) := by unfold Hid; rw [F.out, if_neg (fun h => by cases h.2)]
    clear F
    go_wp2_with fail
    refine E.out.mono ?_
    rintro e v1 ⟨rfl, rfl⟩
    clear E
    go_wp2_with (refine wpList_rload_g (.tmp 5) rfl rfl b rfl ⟨k, m, 0, o0, sz⟩ G4.out.bx ?_)
    refine (MM.out _ G4.out.tb).mono ?_
    rintro e v2 ⟨rfl, h⟩
    have G9 := Lib.hid (G4.out.below h)
    clear MM h
    have zz := G9.out.za
    have bb : Hid (Below w.heap.size w _) := G9.out.be
    go_wp2_with (refine wpList_store_row rfl 30 (.tmp 2) (.tmp 41) rfl w.heap.size #[.int .i64 0, .int .i64 0, .int .i64 0, .int .i64 0, .int .i64 0, .int .i64 0, .int .i64 0, .int .i64 0, .int .i64 0, .int .i64 0, .int .i64 0, .int .i64 0, .int .i64 0, .int .i64 0, .int .i64 0, .int .i64 0, .int .i64 0, .int .i64 0, .int .i64 0] rfl rfl 30 _ zz rec_size rfl (by simp [Value.oneCell']) ?_)
    refine bodyPost_ret (res_row pgetrec_results _ _ w.heap.size 30 #[.int .i64 0, .int .i64 0, .int .i64 0, .int .i64 0, .int .i64 0, .int .i64 0, .int .i64 0, .int .i64 0, .int .i64 0, .int .i64 0, .int .i64 0, .int .i64 0, .int .i64 0, .int .i64 0, .int .i64 0, .int .i64 0, .int .i64 0, .int .i64 0, .int .i64 0] (0, 0) _ rfl (setRow_heap _ _ _ _ _ _ zz) Tryd.underlying30 rfl rec_size) rfl ?_
    exact ⟨bb.out.trans (setRow_below _ (Nat.le_refl _)), fun r h => (by rw [FF.out] at h; cases h), fun _ => rfl⟩
  | true =>
    have FF : Hid (rget bs = some ⟨k, m, 0, o0, sz⟩) := by unfold Hid; rw [F.out, if_pos ⟨rfl, rfl⟩]
    clear F
    go_wp2_with fail
    refine E.out.mono ?_
    rintro e v1 ⟨rfl, rfl⟩
    clear E
    go_wp2_with (refine wpList_rload_g (.tmp 5) rfl rfl b rfl ⟨k, m, 0, o0, sz⟩ G4.out.bx ?_)
    refine (MM.out _ G4.out.tb).mono ?_
    rintro e v2 ⟨rfl, h⟩
    have G9 := Lib.hid (G4.out.below h)
    clear MM h
    have zz := G9.out.za
    have bb : Hid (Below w.heap.size w v2) := G9.out.be
    go_wp2_with (first | (refine wpList_rload rfl (.tmp 5) rfl b rfl ⟨k, m, 0, o0, sz⟩ G9.out.bx ?_) | (refine wpList_store_row rfl 30 (.tmp 2) (.tmp 42) rfl w.heap.size #[.int .i64 k, .int .i64 m, .int .i64 0, .int .i64 0, .int .i64 0, .int .i64 0, .int .i64 0, .int .i64 0, .int .i64 0, .int .i64 0, .int .i64 0, .int .i64 0, .int .i64 0, .int .i64 0, .int .i64 0, .int .i64 0, .int .i64 0, .int .i64 0, .int .i64 0] rfl rfl 30 _ zz rec_size rfl (by simp [Value.oneCell']) ?_))
    refine bodyPost_ret (res_row pgetrec_results _ _ w.heap.size 30 #[.int .i64 k, .int .i64 m, .int .i64 0, .int .i64 0, .int .i64 0, .int .i64 0, .int .i64 0, .int .i64 0, .int .i64 0, .int .i64 0, .int .i64 0, .int .i64 0, .int .i64 0, .int .i64 0, .int .i64 0, .int .i64 0, .int .i64 0, .int .i64 0, .int .i64 0] (0, 0) _ rfl (setRow_heap _ _ _ _ _ _ zz) Tryd.underlying30 rfl rec_size) rfl ?_
    exact ⟨bb.out.trans (setRow_below _ (Nat.le_refl _)), (by
      intro r h
      rw [FF.out] at h
      injection h with h
      subst h
      rfl), (by intro h; rw [FF.out] at h; cases h)⟩
end Re
end Go.Proofs.YtidfpbnepdjagaaDoor

namespace Go.Proofs.YtidfpbnepdjagaaDoor
open Go.RowKit
open Go.Proofs.YtidfpbnepdjagaaDoor.Pk
namespace Re

theorem prg : Prg where
  may := pmay_any
  put := pput_any
  get := pget_any
  same := fun w _ r s => psame_any w r s
end Re
end Go.Proofs.YtidfpbnepdjagaaDoor
