/- Parts of the claim: ReD, ReQA -/
import Derived.Test.YtpkdigegkemogaaGreatDoorTkT
import Derived.ProofKit
import Derived.OpenShut
import Derived.Deep.Slices
import Derived.Carry
import Derived.Laws.IdiomArrays
import Derived.WalkSpells
import Derived.WalkLawsBesides
import Derived.Lib.Hide
import Derived.Deep.QuietTactic
import Derived.BigQuiet
import Derived.Laws.BitsAllLaws
import Derived.Laws.DeepNot64
import Derived.Deep.RegionWith
import Derived.Lib.SlBytesConst
import Derived.Lib.QuietBelow
import Derived.Deep.MidRow
import Derived.Test.YtpkdigegkemogaaGreatDoorReBT
import Derived.Test.YtpkdigegkemogaaGreatDoorSgXbT
import Derived.Test.YtpkdigegkemogaaGreatDoorWtXbT
import Derived.Test.YtpkdigegkemogaaGreatDoorPkXT
import Derived.Test.YtpkdigegkemogaaGreatDoorSgQXaT
namespace Go.Proofs.YtpkdigegkemogaaGreatDoor
set_option maxRecDepth 100000
open Go.RowKit
open Go.Proofs.YtpkdigegkemogaaGreatDoor.Pk
namespace Re
open Go.Proofs.YtpkdigegkemogaaGreatDoor.Sg (Sag sz smay sgc sgv res_row sag_size)
open Wt (Opn mayOp op_info)
open Pl (wpList_store_row setRow_below)

def stv (cs : Array Value) (o : Nat) : List Value → Array Value
  | [] => cs
  | v :: vs => stv (cs.setIfInBounds o v) (o + 1) vs
theorem setCells_heap {b : Nat} {t : TypeId} (vs : List Value) : ∀ (w : World) (o : Nat) (cs : Array Value), w.heap[b]? = some (.cells cs t (0, 0)) → (w.setCells b o vs).heap[b]? = some (.cells (stv cs o vs) t (0, 0)) := by
  induction vs with
  | nil => intro w o cs h; exact h
  | cons v vs ih => intro w o cs h; exact ih _ _ _ (one_set h v)
theorem setCells_grown {b : Nat} (vs : List Value) : ∀ (w : World) (o : Nat), w.grownBy (w.setCells b o vs) (some b) := by
  induction vs with
  | nil => intro w o; exact grown_refl _ _
  | cons v vs ih => intro w o; exact grown_trans (grown_set w b o v) (ih _ _)
theorem stv5 (k n a : Int) (x : Opn) : stv (rcc ⟨k, n, a, o0, sz⟩) 3 [.int .i64 x.kind, .int .i64 x.book, .int .i64 x.units, .int .i64 x.cust, .int .i64 x.amount] = rcc ⟨k, n, a, x, sz⟩ := by simp [stv, rcc, o0, sz]
theorem stv11 (k n a : Int) (x : Sag) : stv (rcc ⟨k, n, a, o0, sz⟩) 8 [.int .i64 x.w.book, .int .i64 x.w.cust, .int .i64 x.w.dead, .int .i64 x.w.u0, .int .i64 x.w.u1, .int .i64 x.w.u2, .int .i64 x.w.price, .int .i64 x.ph, .int .i64 x.st, .int .i64 x.rs, .int .i64 x.si] = rcc ⟨k, n, a, o0, x⟩ := by simp [stv, rcc, o0, sz]
end Re
end Go.Proofs.YtpkdigegkemogaaGreatDoor
namespace Go.Proofs.YtpkdigegkemogaaGreatDoor
set_option maxRecDepth 100000
open Go.RowKit
open Go.Proofs.YtpkdigegkemogaaGreatDoor.Pk
namespace Re
open Go.Proofs.YtpkdigegkemogaaGreatDoor.Sg (Sag sz smay sgc sgv sag_size smay_any)
open Wt (Opn mayOp inR inR_at inR_no mayop_any op_info)
open Pl (setRow_below regionAt)

theorem pwithin_any (w : World) (v lo hi : Int) :
    Calls Tryz.prog 69 #[.int .i64 v, .int .i64 lo, .int .i64 hi] w fun e w' => e = .returned (.bool (inR v lo hi)) ∧ w = w' := by
  by_cases h : lo ≤ v
  · have E := Lib.hid (inR_at (hi := hi) h)
    go_enter Tryz.func69, Tryz.ntmps69
    go_wp2
    go_ret
    rw [← E.out]
    exact ⟨rfl, rfl⟩
  · have E := Lib.hid (inR_no (hi := hi) (Int.not_le.1 h))
    go_enter Tryz.func69, Tryz.ntmps69
    go_wp2
    go_ret
    rw [E.out]
    exact ⟨rfl, rfl⟩
theorem inR_12 (a : Int) : inR a 1 2 = (a == 1 || a == 2) := by
  unfold inR
  by_cases h1 : a = 1
  · subst h1; rfl
  · by_cases h2 : a = 2
    · subst h2; rfl
    · rw [decide_eq_false (by omega)]; simp [h1, h2]
theorem eq_1 (r : Rec) : decide (r = ⟨r.kd, r.now, r.an, r.op, sz⟩) = decide (r.sg = sz) := by
  obtain ⟨a, b, c, d, e⟩ := r
  simp
theorem eq_2 (r : Rec) : decide (r = ⟨r.kd, r.now, 0, o0, sz⟩) = (decide (r.op = o0) && r.an == 0 && decide (r.sg = sz)) := by
  obtain ⟨a, b, c, d, e⟩ := r
  by_cases h1 : c = 0 <;> by_cases h2 : d = o0 <;> by_cases h3 : e = sz <;> simp [h1, h2, h3]
theorem eq_3 (r : Rec) : decide (r = ⟨r.kd, r.now, 0, o0, r.sg⟩) = (decide (r.op = o0) && r.an == 0) := by
  obtain ⟨a, b, c, d, e⟩ := r
  by_cases h1 : c = 0 <;> by_cases h2 : d = o0 <;> simp [h1, h2]
theorem pm_1 {r : Rec} (h : inR r.now 0 1099511627776 = true) (k : r.kd = 1) : rmay r = (mayOp r.op && (inR r.an 1 2 && decide (r = ⟨r.kd, r.now, r.an, r.op, sz⟩))) := by
  unfold rmay
  rw [h, if_pos k, eq_1, inR_12, Bool.true_and, Bool.and_assoc]
theorem pm_2 {r : Rec} (h : inR r.now 0 1099511627776 = true) (k : r.kd = 2) : rmay r = decide (r = ⟨r.kd, r.now, 0, o0, sz⟩) := by
  unfold rmay
  rw [h, if_neg (by omega), if_pos k, eq_2, Bool.true_and]
theorem pm_3 {r : Rec} (h : inR r.now 0 1099511627776 = true) (k : r.kd = 3) : rmay r = (smay r.sg && decide (r = ⟨r.kd, r.now, 0, o0, r.sg⟩)) := by
  unfold rmay
  rw [h, if_neg (by omega), if_neg (by omega), if_pos k, eq_3, Bool.true_and, Bool.and_comm]
theorem pm_4 {r : Rec} (k1 : r.kd ≠ 1) (k2 : r.kd ≠ 2) (k3 : r.kd ≠ 3) : rmay r = false := by
  unfold rmay
  rw [if_neg k1, if_neg k2, if_neg k3, Bool.and_false]
theorem pm_0 {r : Rec} (h : inR r.now 0 1099511627776 = false) : rmay r = false := by
  unfold rmay
  rw [h, Bool.false_and]
theorem below_grown2 {a b w : World} {q g : Nat} (hq : q ≤ g) (ha : g < a.heap.size) (h : Below q w a) (k : a.grownBy b (some g)) : Below q w b :=
  h.trans ⟨k.os, k.tape, k.output, k.size, fun j hj => k.block j (by omega) (fun e => by injection e with e; omega)⟩
theorem step_store_mid {P : Program} {ops : Array Oper} {o : Oper} {a : Act} {w : World} {K : Act → World → Prop} {Q : Exit → Act → World → Prop} {E : Prop} (hgd : o.guard = none) (ty : TypeId) (x y : Operand) (ho : o.op = .store ty x y)
    (b i : Nat) (cells : Array Value) (hx : a.eval x = .pointer (some ⟨b, i, none⟩)) (hy : a.eval y = .agg cells)
    (ht : w.there b i cells.size) (hi : (P.info? ty).map (·.size) = some cells.size) (h1 : cells.all (·.oneCell') = true)
    (h : K (a.put o.dst undef) (w.setCells b i cells.toList)) : if Region.wanted o (yielded ops a.tmps) = true then Oper.wp P o a w K Q else E := by
  have hw : Region.wanted o (yielded ops a.tmps) = true := by simp [Region.wanted, hgd]
  rw [if_pos hw]
  exact wp_store_mid ty x y ho b i cells hx hy ht hi h1 h

noncomputable def pm_6 : Code := (Tryz.f39.body.bind (regionAt 6)).getD .skip
set_option maxHeartbeats 12800000 in
theorem pm6 (z0 z2 z4 z5 z6 z7 z8 z9 z10 z11 z12 z13 z14 z15 z16 z17 z18 z19 z20 z21 z22 z23 z24 z25 z26 z27 z28 z29 z30 z31 z32 z33 z34 z35 z36 z37 z38 z39 z40 z41 z42 z43 z44 z45 z46 z47 z48 z49 z50 z51 z52 z53 : Value) (W : World) (p g : Nat) (r : Rec) (hpg : p < g)
    (B0 : BoxR W p r)
    (OW : BoxR W g ⟨r.kd, r.now, 0, o0, sz⟩)
    (Q : Exit → Act → World → Prop)
    (hP : ∀ c a d v w, Q (.panic c) (Act.put a d v) w → Q (.panic c) a w)
    (hQ : ∀ (y17 y18 y19 y20 y21 y22 : Value)  (W3 : World), BoxR W3 g ⟨r.kd, r.now, r.an, r.op, sz⟩ → Below g W W3 → Q .normal ⟨#[z0, .pointer (some ⟨p, 0, none⟩), z2, .pointer (some ⟨g, 0, none⟩), z4, z5, z6, z7, z8, z9, z10, z11, z12, z13, z14, z15, z16, y17, y18, y19, y20, y21, y22, z23, z24, z25, z26, z27, z28, z29, z30, z31, z32, z33, z34, z35, z36, z37, z38, z39, z40, z41, z42, z43, z44, z45, z46, z47, z48, z49, z50, z51, z52, z53], []⟩ W3) :
    Code.wp Tryz.prog pm_6 Q ⟨#[z0, .pointer (some ⟨p, 0, none⟩), z2, .pointer (some ⟨g, 0, none⟩), z4, z5, z6, z7, z8, z9, z10, z11, z12, z13, z14, z15, z16, z17, z18, z19, z20, z21, z22, z23, z24, z25, z26, z27, z28, z29, z30, z31, z32, z33, z34, z35, z36, z37, z38, z39, z40, z41, z42, z43, z44, z45, z46, z47, z48, z49, z50, z51, z52, z53], []⟩ W := by
  conv => arg 2; whnf
  have b0 : Below g W W.drew := ⟨rfl, rfl, rfl, Nat.le_refl _, fun _ _ => rfl⟩
  refine wp_region_held_drew (S := fun w => Below g W w) (by kernel_rfl) b0 (fun hHeld => ?_)
  replace hQ := Lib.hid hQ
  clear b0
  obtain ⟨v0, hv⟩ : ∃ v, v = W.drew := ⟨_, rfl⟩
  have O0 : BoxR v0 g ⟨r.kd, r.now, 0, o0, sz⟩ := by rw [hv]; exact OW
  rw [← hv] at hHeld ⊢
  clear hv
  refine' tkY 0 hP ?c hHeld ?_
  case c => intro w _; go_simp; try with_reducible rfl
  simp only [Act.put, sQa, sQb, sQc]
  refine' tkY 1 hP ?c hHeld ?_
  case c => intro w hSw; obtain ⟨c0, c1, c2, c3, c4, c5, c6, c7, c8, c9, c10, c11, c12, c13, c14, c15, c16, c17, c18⟩ := (show BoxR w p r from (hSw.block p hpg).trans B0).cells; go_simp; try with_reducible rfl
  simp only [Act.put, sQa, sQb, sQc]
  refine' tkY 2 hP ?c hHeld ?_
  case c => intro w _; go_simp; try with_reducible rfl
  simp only [Act.put, sQa, sQb, sQc]
  refine' tkY 3 hP ?c hHeld ?_
  case c => intro w hSw; have c2 := (show BoxR w p r from (hSw.block p hpg).trans B0).cells.c2; go_simp; try with_reducible rfl
  simp only [Act.put, sQa, sQb, sQc]
  refine' tkY 4 hP ?c hHeld ?_
  case c => intro w _; go_simp; try with_reducible rfl
  simp only [Act.put, sQa, sQb, sQc]
  refine wpAnyH_ready (rs := [5]) (by kernel_rfl) (by simp) ?_
  refine' tkC 5 (fun K hK => ?st6) ?mo6
  case st6 =>
    have TH : v0.there g 3 5 := fun j hj => ⟨by rw [one_at O0, Array.getElem?_eq_getElem (by simp; omega)]; rfl, one_free O0⟩
    refine step_store_mid rfl 34 (.tmp 21) (.tmp 18) rfl g 3 #[.int .i64 r.op.kind, .int .i64 r.op.book, .int .i64 r.op.units, .int .i64 r.op.cust, .int .i64 r.op.amount] rfl rfl TH op_info (by simp [Value.oneCell']) ?_
    have hHeld2 : Below g W (v0.setCells g 3 (#[.int .i64 r.op.kind, .int .i64 r.op.book, .int .i64 r.op.units, .int .i64 r.op.cust, .int .i64 r.op.amount] : Array Value).toList) := below_grown2 (Nat.le_refl _) (lt_some O0) hHeld (setCells_grown _ _ _)
    refine hK.out _ _ hHeld2 (fun hHeld3 => ?_)
    clear hK K hHeld3
    try simp only [Act.put]
    replace O0 : BoxR (v0.setCells g 3 (#[.int .i64 r.op.kind, .int .i64 r.op.book, .int .i64 r.op.units, .int .i64 r.op.cust, .int .i64 r.op.amount] : Array Value).toList) g ⟨r.kd, r.now, 0, r.op, sz⟩ := by
      have := setCells_heap [.int .i64 r.op.kind, .int .i64 r.op.book, .int .i64 r.op.units, .int .i64 r.op.cust, .int .i64 r.op.amount] v0 3 _ O0
      rw [stv5] at this
      exact this
    obtain ⟨v1, hv⟩ : ∃ v, v = v0.setCells g 3 (#[.int .i64 r.op.kind, .int .i64 r.op.book, .int .i64 r.op.units, .int .i64 r.op.cust, .int .i64 r.op.amount] : Array Value).toList := ⟨_, rfl⟩
    rw [← hv] at O0 hHeld2 ⊢
    clear hv hHeld TH
    have hHeld := hHeld2
    clear hHeld2
    try simp only [Act.put, sQa, sQb, sQc]
    refine' tkY 6 hP ?c hHeld ?_
    case c => intro w _; go_simp; try with_reducible rfl
    simp only [Act.put, sQa, sQb, sQc]
    refine wpAnyH_ready (rs := [7]) (by kernel_rfl) (by simp) ?_
    refine' tkC 7 (fun K hK => ?st8) ?mo8
    case st8 =>
      have fm : v1.frozen? ⟨g, 2, none⟩ = false := one_free O0
      have cm : v1.cell? ⟨g, 2, none⟩ = some (.int .i64 0) := one_at O0
      go_simp
      have hHeld2 : Below g W (v1.setCell ⟨g, 2, none⟩ (.int .i64 r.an)) := below_grown2 (Nat.le_refl _) (lt_some O0) hHeld (grown_set _ g 2 _)
      refine hK.out _ _ hHeld2 (fun hHeld3 => ?_)
      clear hK K hHeld3
      try simp only [Act.put]
      replace O0 : BoxR (v1.setCell ⟨g, 2, none⟩ (.int .i64 r.an)) g ⟨r.kd, r.now, r.an, r.op, sz⟩ := one_set O0 _
      obtain ⟨v2, hv⟩ : ∃ v, v = v1.setCell ⟨g, 2, none⟩ (.int .i64 r.an) := ⟨_, rfl⟩
      rw [← hv] at O0 hHeld2 ⊢
      clear hv hHeld fm cm
      have hHeld := hHeld2
      clear hHeld2
      try simp only [Act.put, sQa, sQb, sQc]
      refine wpAnyH_done (by kernel_rfl) ?_ _
      exact hQ.out _ _ _ _ _ _ _ O0 hHeld
    case mo8 => exact AllReadyH.nil
  case mo6 => exact AllReadyH.nil

set_option maxHeartbeats 12800000 in
theorem pmay_any (w : World) (t : Sg.Tab w) (r : Rec) : Calls Tryz.prog 39 #[rcv r] w fun e w' => e = .returned (.bool (rmay r)) ∧ Below w.heap.size w w' := by
  obtain ⟨w0, e0⟩ : ∃ z, z = w.alloc (.cells (rcc r) 64) := ⟨_, rfl⟩
  have be0 : Hid (Below w.heap.size w w0) := by rw [e0]; exact (Below.refl _ w).alloc (Nat.le_refl _) _
  have hB : Hid (BoxR w0 w.heap.size r) := by rw [e0]; exact heap_alloc_new _ _
  have T0 : Hid (Sg.Tab w0) := t.below be0.out
  have WN : Hid (∀ w, Calls Tryz.prog 69 #[.int .i64 r.now, .int .i64 0, .int .i64 1099511627776] w fun e w' => e = .returned (.bool (inR r.now 0 1099511627776)) ∧ w = w') := fun w => pwithin_any w _ _ _
  have WA : Hid (∀ w, Calls Tryz.prog 69 #[.int .i64 r.an, .int .i64 1, .int .i64 2] w fun e w' => e = .returned (.bool (inR r.an 1 2)) ∧ w = w') := fun w => pwithin_any w _ _ _
  have MO : Hid (∀ w, Calls Tryz.prog 70 #[.agg #[.int .i64 r.op.kind, .int .i64 r.op.book, .int .i64 r.op.units, .int .i64 r.op.cust, .int .i64 r.op.amount]] w fun e w' => e = .returned (.bool (mayOp r.op)) ∧ Below w.heap.size w w') := fun w => mayop_any w r.op
  have MS : Hid (∀ w', Below w0.heap.size w0 w' → Calls Tryz.prog 71 #[.agg #[.int .i64 r.sg.w.book, .int .i64 r.sg.w.cust, .int .i64 r.sg.w.dead, .int .i64 r.sg.w.u0, .int .i64 r.sg.w.u1, .int .i64 r.sg.w.u2, .int .i64 r.sg.w.price, .int .i64 r.sg.ph, .int .i64 r.sg.st, .int .i64 r.sg.rs, .int .i64 r.sg.si]] w' fun e w'' => e = .returned (.bool (smay r.sg)) ∧ Below w'.heap.size w' w'') := fun w' h => smay_any w' (T0.out.below h) r.sg
  obtain ⟨c0, c1, c2, c3, c4, c5, c6, c7, c8, c9, c10, c11, c12, c13, c14, c15, c16, c17, c18⟩ := hB.out.cells
  have lk := hB.out.lt
  replace e0 := Lib.hid e0
  clear t T0
  unfold rcv rcc
  cases hn : inR r.now 0 1099511627776 with
  | false =>
    have F := Lib.hid (pm_0 hn)
    rw [hn] at WN
    clear MO MS WA hn
    go_enter Tryz.func39, Tryz.ntmps39
    go_upto_region 1 with fail
    have e0' := e0.out
    unfold rcc at e0'
    rw [← e0']
    clear e0'
    go_wp2_with fail
    refine (WN.out _).mono ?_
    rintro e w1 ⟨rfl, rfl⟩
    go_wp2
    go_ret
    rw [F.out]
    exact ⟨rfl, be0.out⟩
  | true =>
    rw [hn] at WN
    replace hn := Lib.hid hn
    go_enter Tryz.func39, Tryz.ntmps39
    go_upto_region 1 with fail
    have e0' := e0.out
    unfold rcc at e0'
    rw [← e0']
    clear e0'
    go_wp2_with fail
    refine (WN.out _).mono ?_
    rintro e w1 ⟨rfl, rfl⟩
    go_upto_region 4 with (refine wpList_rstore rfl (.tmp 3) (.tmp 12) rfl w0.heap.size rfl ⟨r.kd, r.now, 0, o0, sz⟩ rfl r0 (heap_alloc_new _ _) ?_)
    obtain ⟨u, eu⟩ : ∃ z, z = (w0.alloc (.cells #[.int .i64 0, .int .i64 0, .int .i64 0, .int .i64 0, .int .i64 0, .int .i64 0, .int .i64 0, .int .i64 0, .int .i64 0, .int .i64 0, .int .i64 0, .int .i64 0, .int .i64 0, .int .i64 0, .int .i64 0, .int .i64 0, .int .i64 0, .int .i64 0, .int .i64 0] 64)).setRow w0.heap.size (rcc ⟨r.kd, r.now, 0, o0, sz⟩) := ⟨_, rfl⟩
    rw [← eu]
    have b1 : Below w0.heap.size w0 u := by rw [eu]; exact ((Below.refl _ _).alloc (Nat.le_refl _) _).trans (setRow_below _ (Nat.le_refl _))
    have BO : Hid (BoxR u w0.heap.size ⟨r.kd, r.now, 0, o0, sz⟩) := by rw [eu]; exact setRow_heap _ _ _ _ _ _ (heap_alloc_new _ _)
    have BR : Hid (BoxR u w.heap.size r) := hB.out.below b1
    have be1 : Hid (Below w.heap.size w u) := be0.out.trans (b1.mono be0.out.size)
    replace MS : Hid (∀ w', Below w0.heap.size u w' → Calls Tryz.prog 71 #[.agg #[.int .i64 r.sg.w.book, .int .i64 r.sg.w.cust, .int .i64 r.sg.w.dead, .int .i64 r.sg.w.u0, .int .i64 r.sg.w.u1, .int .i64 r.sg.w.u2, .int .i64 r.sg.w.price, .int .i64 r.sg.ph, .int .i64 r.sg.st, .int .i64 r.sg.rs, .int .i64 r.sg.si]] w' fun e w'' => e = .returned (.bool (smay r.sg)) ∧ Below w'.heap.size w' w'') := fun w' h => MS.out w' (b1.trans h)
    obtain ⟨g, eg⟩ : ∃ z, z = w0.heap.size := ⟨_, rfl⟩
    rw [← eg] at BO MS lk ⊢
    clear eu eg b1 e0 be0 hB WN c0 c1 c2 c3 c4 c5 c6 c7 c8 c9 c10 c11 c12 c13 c14 c15 c16 c17 c18
    have kk := BR.out.cells.c0
    have lr := BR.out.lt
    have lo := BO.out.lt
    by_cases k1 : r.kd = 1
    · have F := pm_1 hn.out k1
      have EQ := fun w => eq_rec w r ⟨r.kd, r.now, r.an, r.op, sz⟩
      rw [k1] at kk
      generalize decide (r = ⟨r.kd, r.now, r.an, r.op, sz⟩) = dq at EQ F
      replace F := Lib.hid F
      replace lk := Lib.hid lk
      replace k1 := Lib.hid k1
      clear MS
      go_upto_region 6 with fail
      refine pm6 _ _ _ _ _ _ _ _ _ _ _ _ _ _ _ _ _ _ _ _ _ _ _ _ _ _ _ _ _ _ _ _ _ _ _ _ _ _ _ _ _ _ _ _ _ _ _ _ _ _ _ _ u w.heap.size g r lk.out BR.out BO.out _ (fun _ _ d _ _ h => by cases d <;> exact h) (fun _ _ _ _ _ _ w3 BO3 h => ?_)
      have BR3 : Hid (BoxR w3 w.heap.size r) := (h.block _ lk.out).trans BR.out
      have be3 : Hid (Below w.heap.size w w3) := be1.out.trans (h.mono (Nat.le_of_lt lk.out))
      replace BO3 := Lib.hid BO3
      clear h BR BO be1 kk lr lo k1
      have lr := BR3.out.lt
      obtain ⟨c0, c1, c2, c3, c4, c5, c6, c7, c8, c9, c10, c11, c12, c13, c14, c15, c16, c17, c18⟩ := BR3.out.cells
      go_wp2_with fail
      refine (MO.out _).mono ?_
      rintro e w4 ⟨rfl, h⟩
      have BR4 : Hid (BoxR w4 w.heap.size r) := BR3.out.below h
      have BO4 : Hid (BoxR w4 g ⟨r.kd, r.now, r.an, r.op, sz⟩) := BO3.out.below h
      have be4 : Hid (Below w.heap.size w w4) := be3.out.trans (h.mono be3.out.size)
      clear h BR3 BO3 be3 MO lr c0 c1 c2 c3 c4 c5 c6 c7 c8 c9 c10 c11 c12 c13 c14 c15 c16 c17 c18
      cases hm : mayOp r.op with
      | false =>
        rw [hm] at F
        clear hm
        go_wp2
        go_ret
        rw [F.out]
        exact ⟨rfl, be4.out⟩
      | true =>
        rw [hm] at F
        clear hm
        have c2 := BR4.out.cells.c2
        have lr := BR4.out.lt
        go_wp2_with fail
        refine (WA.out _).mono ?_
        rintro e w5 ⟨rfl, rfl⟩
        clear WA c2
        cases hi : inR r.an 1 2 with
        | false =>
          rw [hi] at F
          clear hi
          go_wp2
          go_ret
          rw [F.out]
          exact ⟨rfl, be4.out⟩
        | true =>
          rw [hi] at F
          clear hi
          replace F : Hid (rmay r = dq) := by show rmay r = dq; have := F.out; simpa using this
          go_wp2_with (first | (refine wpList_rload_g (.tmp 1) rfl rfl w.heap.size rfl r BR4.out ?_) | (refine wpList_rload_g (.tmp 3) rfl rfl g rfl ⟨r.kd, r.now, r.an, r.op, sz⟩ BO4.out ?_))
          go_ret
          rw [F.out]
          exact ⟨rfl, be4.out⟩
    by_cases k2 : r.kd = 2
    · have F := pm_2 hn.out k2
      have EQ := fun w => eq_rec w r ⟨r.kd, r.now, 0, o0, sz⟩
      rw [k2] at kk
      generalize decide (r = ⟨r.kd, r.now, 0, o0, sz⟩) = dq at EQ F
      replace F := Lib.hid F
      clear MS MO WA k1 k2
      go_wp2_with (first | (refine wpList_rload rfl (.tmp 1) rfl w.heap.size rfl r BR.out ?_) | (refine wpList_rload rfl (.tmp 3) rfl g rfl ⟨r.kd, r.now, 0, o0, sz⟩ BO.out ?_))
      go_ret
      rw [F.out]
      exact ⟨rfl, be1.out⟩
    by_cases k3 : r.kd = 3
    · have F := pm_3 hn.out k3
      have EQ := fun w => eq_rec w r ⟨r.kd, r.now, 0, o0, r.sg⟩
      rw [k3] at kk
      generalize decide (r = ⟨r.kd, r.now, 0, o0, r.sg⟩) = dq at EQ F
      replace F := Lib.hid F
      replace lk := Lib.hid lk
      clear MO WA k1 k2 k3
      obtain ⟨c0, c1, c2, c3, c4, c5, c6, c7, c8, c9, c10, c11, c12, c13, c14, c15, c16, c17, c18⟩ := BR.out.cells
      clear c0
      have TH : Hid (u.there g 8 11) := fun j hj => ⟨by rw [one_at BO.out, Array.getElem?_eq_getElem (by simp; omega)]; rfl, one_free BO.out⟩
      go_upto_region 12 with (refine wpList_store_mid rfl 57 (.tmp 45) (.tmp 44) rfl g 8 #[.int .i64 r.sg.w.book, .int .i64 r.sg.w.cust, .int .i64 r.sg.w.dead, .int .i64 r.sg.w.u0, .int .i64 r.sg.w.u1, .int .i64 r.sg.w.u2, .int .i64 r.sg.w.price, .int .i64 r.sg.ph, .int .i64 r.sg.st, .int .i64 r.sg.rs, .int .i64 r.sg.si] rfl rfl TH.out sag_size (by simp [Value.oneCell']) ?_)
      obtain ⟨w3, hu⟩ : ∃ z, z = u.setCells g 8 (#[.int .i64 r.sg.w.book, .int .i64 r.sg.w.cust, .int .i64 r.sg.w.dead, .int .i64 r.sg.w.u0, .int .i64 r.sg.w.u1, .int .i64 r.sg.w.u2, .int .i64 r.sg.w.price, .int .i64 r.sg.ph, .int .i64 r.sg.st, .int .i64 r.sg.rs, .int .i64 r.sg.si] : Array Value).toList := ⟨_, rfl⟩
      rw [← hu]
      have gw : u.grownBy w3 (some g) := by rw [hu]; exact setCells_grown _ u 8
      have BO3 : Hid (BoxR w3 g ⟨r.kd, r.now, 0, o0, r.sg⟩) := by
        rw [hu]
        have := setCells_heap [.int .i64 r.sg.w.book, .int .i64 r.sg.w.cust, .int .i64 r.sg.w.dead, .int .i64 r.sg.w.u0, .int .i64 r.sg.w.u1, .int .i64 r.sg.w.u2, .int .i64 r.sg.w.price, .int .i64 r.sg.ph, .int .i64 r.sg.st, .int .i64 r.sg.rs, .int .i64 r.sg.si] u 8 _ BO.out
        rw [stv11] at this
        exact this
      have BR3 : Hid (BoxR w3 w.heap.size r) := (gw.block _ lr (fun e => by injection e with e; have := lk.out; omega)).trans BR.out
      have h3 : Below g u w3 := below_grown2 (Nat.le_refl _) BO.out.lt (Below.refl _ _) gw
      have be3 : Hid (Below w.heap.size w w3) := be1.out.trans (h3.mono (Nat.le_of_lt lk.out))
      have M3 := Lib.hid (MS.out w3 h3)
      clear hu gw h3 BO BR be1 TH MS lr lo kk c1 c2 c3 c4 c5 c6 c7 c8 c9 c10 c11 c12 c13 c14 c15 c16 c17 c18
      have lr := BR3.out.lt
      obtain ⟨c0, c1, c2, c3, c4, c5, c6, c7, c8, c9, c10, c11, c12, c13, c14, c15, c16, c17, c18⟩ := BR3.out.cells
      go_wp2_with fail
      refine M3.out.mono ?_
      rintro e w4 ⟨rfl, h⟩
      have BR4 : Hid (BoxR w4 w.heap.size r) := BR3.out.below h
      have BO4 : Hid (BoxR w4 g ⟨r.kd, r.now, 0, o0, r.sg⟩) := BO3.out.below h
      have be4 : Hid (Below w.heap.size w w4) := be3.out.trans (h.mono be3.out.size)
      clear h BR3 BO3 be3 M3 lr c0 c1 c2 c3 c4 c5 c6 c7 c8 c9 c10 c11 c12 c13 c14 c15 c16 c17 c18
      cases hm : smay r.sg with
      | false =>
        rw [hm] at F
        clear hm
        go_wp2
        go_ret
        rw [F.out]
        exact ⟨rfl, be4.out⟩
      | true =>
        rw [hm] at F
        clear hm
        replace F : Hid (rmay r = dq) := by show rmay r = dq; have := F.out; simpa using this
        go_wp2_with (first | (refine wpList_rload_g (.tmp 1) rfl rfl w.heap.size rfl r BR4.out ?_) | (refine wpList_rload_g (.tmp 3) rfl rfl g rfl ⟨r.kd, r.now, 0, o0, r.sg⟩ BO4.out ?_))
        go_ret
        rw [F.out]
        exact ⟨rfl, be4.out⟩
    have F := Lib.hid (pm_4 k1 k2 k3)
    have n1 : (r.kd == 1) = false := by simp [k1]
    have n2 : (r.kd == 2) = false := by simp [k2]
    have n3 : (r.kd == 3) = false := by simp [k3]
    clear MS MO WA
    go_wp2
    go_ret
    rw [F.out]
    exact ⟨rfl, be1.out⟩

end Re
end Go.Proofs.YtpkdigegkemogaaGreatDoor
