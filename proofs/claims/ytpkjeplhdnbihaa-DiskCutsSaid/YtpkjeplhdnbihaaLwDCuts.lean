/- Proved: a file that is cut has its first bytes, and they are synced (DiskCuts), for any bytes, any place, any bytes behind. -/
import Derived.Test.YtpkjeplhdnbihaaDkP
namespace Go.Proofs.Ytpkjeplhdnbihaa.diskCuts
open Go.ChangeShapes Go.WideShapes Go.ChangeAt Go.WideElems Go.RowKit
open Go.ChangeMaps (open_string shut_string)
open Go.Proofs.Ytpkjeplhdnbihaa.Pk Go.Proofs.Ytpkjeplhdnbihaa.Dk

open Go.Sort (grow)
set_option maxHeartbeats 6400000 in
set_option maxRecDepth 100000 in
theorem walk (A0 A1 : Option Addr) (n0 n1 c0 c1 : Nat) (a b : Bs) (k keep : Int) (w : World) (R0 : Rb w (fun g => g < w.heap.size) A0 n0 a) (R1 : Rb w (fun g => g < w.heap.size) A1 n1 b)
    (m0 : A0 = none → c0 = 0) (m1 : A1 = none → c1 = 0) (l0 : n0 ≤ c0) (l1 : n1 ≤ c1) (hK1 : -9223372036854775808 ≤ keep) (hK2 : keep ≤ 9223372036854775807) :
    Calls Try.prog 8 #[.slice A0 n0 c0, .int .i64 k, .slice A1 n1 c1, .int .i64 keep] w fun e w' => e = .returned (.bool true) ∧ Below w.heap.size w w' := by
  have TA := Lib.hid told_any
  have N0 := Lib.hid (l_new w 1000 (by omega) (Below.refl w.heap.size w))
  have y0 := R0.len
  have y1 := R1.len
  by_cases hz : n0 ≤ 100 ∧ n1 ≤ 100
  · obtain ⟨z0, z1⟩ := hz
    have q0 : decide ((100 : Int) < (n0 : Int)) = false := decide_eq_false (by omega)
    have q1 : decide ((100 : Int) < (n1 : Int)) = false := decide_eq_false (by omega)
    have S1 : sApp 1000 [] [102] a = (0, [([102], a, 0)]) := by
      rw [app_ok (by decide) (by simp [used, sum]; omega)]
      simp [Dk.look, Dk.put]
    have hk : k < 0 ∨ (¬ k < 0 ∧ (n0 : Int) < k) ∨ (¬ k < 0 ∧ ¬ (n0 : Int) < k) := by omega
    rcases hk with hk | hk | hk
    · have d0 : decide (k < 0) = true := decide_eq_true (by omega)
      have S2 : sCut [([102], a, 0)] [102] k = (3, [([102], a, 0)]) := by
        simp only [sCut, Dk.look, if_true, Option.elim]
        rw [if_pos (by omega)]
      have U : used [([102], a, 0)] = n0 := by simp [used, sum, y0]
      have LS : (Dk.look [102] [([102], a, 0)]).elim 0 (fun a => a.2) = 0 := by simp [Dk.look]
      replace S1 := Lib.hid S1
      replace S2 := Lib.hid S2
      replace U := Lib.hid U
      replace LS := Lib.hid LS
      replace R0 := Lib.hid R0
      replace z0 := Lib.hid z0
      clear R1 z1 y0 y1 hk hK1 hK2
      go_enter Try.func8, Try.ntmps8
      go_wp2_with fail
      refine N0.out.mono ?_
      rintro e w1 ⟨p, rfl, V1⟩
      have C1 := l_append V1 ⟨#[102]⟩ A0 n0 c0 a (V1.rb R0.out) (fun _ h => h) (by have := z0.out; omega) (by simp)
      rw [show nm ⟨#[102]⟩ = [102] from rfl, S1.out] at C1
      replace C1 := Lib.hid C1
      clear N0 V1 S1 R0 z0
      go_wp2_with fail
      refine C1.out.mono ?_
      rintro e w2 ⟨rfl, V2⟩
      have C2 := l_cut V2.1 ⟨#[102]⟩ k (by decide) (by simp)
      rw [show nm ⟨#[102]⟩ = [102] from rfl, S2.out] at C2
      replace C2 := Lib.hid C2
      clear C1 V2 S2
      go_wp2_with fail
      refine C2.out.mono ?_
      rintro e w3 ⟨rfl, V3⟩
      replace V3 := Lib.hid V3.1
      clear C2
      go_wp2_with fail
      refine (TA.out _).mono ?_
      rintro e w4 ⟨rfl, b4⟩
      have V4 : Hid (Live w w4 p 1000 _ _) := V3.out.below b4
      have C4 := l_used V4.out
      rw [U.out] at C4
      replace C4 := Lib.hid C4
      clear V3 b4 TA
      go_wp2_with fail
      refine C4.out.mono ?_
      rintro e w5 ⟨rfl, rfl⟩
      have C5 := l_synced V4.out ⟨#[102]⟩ (by decide)
      rw [show nm ⟨#[102]⟩ = [102] from rfl, LS.out] at C5
      replace C5 := Lib.hid C5
      clear C4
      go_wp2_with fail
      refine C5.out.mono ?_
      rintro e w6 ⟨rfl, b6⟩
      have be : Hid (Below w.heap.size w w6) := (V4.out.below b6).be
      clear C5 V4 b6
      go_wp2
      go_ret
      exact ⟨rfl, be.out⟩
    · have d0 : decide (k < 0) = false := decide_eq_false (by omega)
      have d1 : decide ((n0 : Int) < k) = true := decide_eq_true (by omega)
      have S2 : sCut [([102], a, 0)] [102] k = (3, [([102], a, 0)]) := by
        simp only [sCut, Dk.look, if_true, Option.elim]
        rw [if_pos (by omega)]
      have U : used [([102], a, 0)] = n0 := by simp [used, sum, y0]
      have LS : (Dk.look [102] [([102], a, 0)]).elim 0 (fun a => a.2) = 0 := by simp [Dk.look]
      replace S1 := Lib.hid S1
      replace S2 := Lib.hid S2
      replace U := Lib.hid U
      replace LS := Lib.hid LS
      replace R0 := Lib.hid R0
      replace z0 := Lib.hid z0
      clear R1 z1 y0 y1 hk hK1 hK2
      go_enter Try.func8, Try.ntmps8
      go_wp2_with fail
      refine N0.out.mono ?_
      rintro e w1 ⟨p, rfl, V1⟩
      have C1 := l_append V1 ⟨#[102]⟩ A0 n0 c0 a (V1.rb R0.out) (fun _ h => h) (by have := z0.out; omega) (by simp)
      rw [show nm ⟨#[102]⟩ = [102] from rfl, S1.out] at C1
      replace C1 := Lib.hid C1
      clear N0 V1 S1 R0 z0
      go_wp2_with fail
      refine C1.out.mono ?_
      rintro e w2 ⟨rfl, V2⟩
      have C2 := l_cut V2.1 ⟨#[102]⟩ k (by decide) (by simp)
      rw [show nm ⟨#[102]⟩ = [102] from rfl, S2.out] at C2
      replace C2 := Lib.hid C2
      clear C1 V2 S2
      go_wp2_with fail
      refine C2.out.mono ?_
      rintro e w3 ⟨rfl, V3⟩
      replace V3 := Lib.hid V3.1
      clear C2
      go_wp2_with fail
      refine (TA.out _).mono ?_
      rintro e w4 ⟨rfl, b4⟩
      have V4 : Hid (Live w w4 p 1000 _ _) := V3.out.below b4
      have C4 := l_used V4.out
      rw [U.out] at C4
      replace C4 := Lib.hid C4
      clear V3 b4 TA
      go_wp2_with fail
      refine C4.out.mono ?_
      rintro e w5 ⟨rfl, rfl⟩
      have C5 := l_synced V4.out ⟨#[102]⟩ (by decide)
      rw [show nm ⟨#[102]⟩ = [102] from rfl, LS.out] at C5
      replace C5 := Lib.hid C5
      clear C4
      go_wp2_with fail
      refine C5.out.mono ?_
      rintro e w6 ⟨rfl, b6⟩
      have be : Hid (Below w.heap.size w w6) := (V4.out.below b6).be
      clear C5 V4 b6
      go_wp2
      go_ret
      exact ⟨rfl, be.out⟩
    · obtain ⟨j, rfl⟩ : ∃ j : Nat, k = j := ⟨k.toNat, by omega⟩
      have hj : j ≤ n0 := by omega
      have d0 : decide ((j : Int) < 0) = false := decide_eq_false (by omega)
      have d1 : decide (n0 < j) = false := decide_eq_false (by omega)
      have hjl : (a.take j).length = j := by rw [List.length_take]; omega
      have S2 : sCut [([102], a, 0)] [102] (j : Int) = (0, [([102], a.take j, j)]) := by
        simp only [sCut, Dk.look, if_true, Option.elim]
        rw [if_neg (by omega)]
        simp [Dk.put]
      have LS : (Dk.look [102] [([102], a.take j, j)]).elim 0 (fun a => a.2) = j := by simp [Dk.look]
      have S3 : sApp 1000 [([102], a.take j, j)] [102] b = (0, [([102], a.take j ++ b, j)]) := by
        rw [app_ok (by decide) (by simp [used, sum]; omega)]
        simp [Dk.look, Dk.put]
      obtain ⟨m, hm⟩ : ∃ z, z = (max 0 (min keep b.length)).toNat := ⟨_, rfl⟩
      have hmI : max 0 (min keep (n1 : Int)) = (m : Int) := by omega
      have hm2 : m ≤ n1 := by omega
      obtain ⟨x, hx⟩ : ∃ z, z = a.take j ++ b.take m := ⟨_, rfl⟩
      obtain ⟨lx, hlx⟩ : ∃ z, z = j + m := ⟨_, rfl⟩
      have xl : x.length = lx := by rw [hx, hlx, List.length_append, hjl, List.length_take]; omega
      have S4 : sCrash keep [([102], a.take j ++ b, j)] = [([102], x, lx)] := by
        have := cr_app keep (a.take j) b
        rw [hjl, ← hm, ← hx, ← hlx] at this
        unfold sCrash vals
        simp only [List.map_cons, List.map_nil, this]
      have hadd : ∀ w, (Op.stringOp .add (str (a.take j)) (str (b.take m))).run Try.prog w = .ok (.string (str x)) w := fun w => by rw [str_add _ _ (by rw [hjl, List.length_take]; omega), hx]
      have LX : Dk.look [102] [([102], x, lx)] = some (x, lx) := by simp [Dk.look]
      have LG : Dk.look (nm ⟨#[103]⟩) [([102], x, lx)] = none := by simp [Dk.look, nm]
      obtain ⟨at_, hat⟩ : ∃ z, z = a.take j := ⟨_, rfl⟩
      obtain ⟨bt, hbt⟩ : ∃ z, z = b.take m := ⟨_, rfl⟩
      have Ra : Hid (Rb w (fun g => g < w.heap.size) A0 j at_) := by rw [hat]; exact R0.take hj
      have Rt : Hid (Rb w (fun g => g < w.heap.size) A1 m bt) := by rw [hbt]; exact R1.take hm2
      rw [← hat, ← hbt] at hadd
      rw [← hat] at S2 S3 S4 LS
      have sl0 := slice_run A0 n0 c0 j m0 (by omega)
      have sl1 := slice_run A1 n1 c1 m m1 (by omega)
      replace S1 := Lib.hid S1
      replace S2 := Lib.hid S2
      replace S3 := Lib.hid S3
      replace S4 := Lib.hid S4
      replace LS := Lib.hid LS
      replace LX := Lib.hid LX
      replace LG := Lib.hid LG
      replace R0 := Lib.hid R0
      replace R1 := Lib.hid R1
      replace z0 := Lib.hid z0
      replace z1 := Lib.hid z1
      replace hadd := Lib.hid hadd
      replace sl0 := Lib.hid sl0
      replace sl1 := Lib.hid sl1
      replace hmI := Lib.hid hmI
      replace xl := Lib.hid xl
      replace hK1 := Lib.hid hK1
      replace hK2 := Lib.hid hK2
      clear hm hm2 hx hlx hat hbt hjl hj y0 y1 hk
      go_enter Try.func8, Try.ntmps8
      go_wp2_with fail
      refine N0.out.mono ?_
      rintro e w1 ⟨p, rfl, V1⟩
      have C1 := l_append V1 ⟨#[102]⟩ A0 n0 c0 a (V1.rb R0.out) (fun _ h => h) (by have := z0.out; omega) (by simp)
      rw [show nm ⟨#[102]⟩ = [102] from rfl, S1.out] at C1
      replace C1 := Lib.hid C1
      clear N0 V1 S1
      go_wp2_with fail
      refine C1.out.mono ?_
      rintro e w2 ⟨rfl, V2⟩
      have C2 := l_cut V2.1 ⟨#[102]⟩ (j : Int) (by decide) (by simp)
      rw [show nm ⟨#[102]⟩ = [102] from rfl, S2.out] at C2
      replace C2 := Lib.hid C2
      clear C1 V2 S2
      go_wp2_with fail
      refine C2.out.mono ?_
      rintro e w3 ⟨rfl, V3⟩
      have C3 := l_synced V3.1 ⟨#[102]⟩ (by decide)
      rw [show nm ⟨#[102]⟩ = [102] from rfl, LS.out] at C3
      replace C3 := Lib.hid C3
      replace V3 := Lib.hid V3.1
      clear C2 LS
      go_wp2_with fail
      refine C3.out.mono ?_
      rintro e w4 ⟨rfl, b4⟩
      have V4 := V3.out.below b4
      have C4 := l_append V4 ⟨#[102]⟩ A1 n1 c1 b (V4.rb R1.out) (fun _ h => h) (by have := z1.out; omega) (by simp)
      rw [show nm ⟨#[102]⟩ = [102] from rfl, S3.out] at C4
      replace C4 := Lib.hid C4
      clear C3 V3 V4 b4 S3
      go_wp2_with fail
      refine C4.out.mono ?_
      rintro e w5 ⟨rfl, V5⟩
      have C5 := l_crash V5.1 keep (by simp) hK1.out hK2.out
      rw [S4.out] at C5
      replace C5 := Lib.hid C5
      clear C4 V5 S4
      go_wp2_with fail
      refine C5.out.mono ?_
      rintro e w6 ⟨rfl, V6⟩
      have C6 := l_read V6.1 ⟨#[102]⟩ (by decide)
      rw [show nm ⟨#[102]⟩ = [102] from rfl, LX.out] at C6
      replace C6 := Lib.hid C6
      replace V6 := Lib.hid V6.1
      clear C5 LX
      go_wp2_with fail
      refine C6.out.mono ?_
      rintro e wa (⟨h, _⟩ | ⟨bs, k, v, h, rfl, ho, ba⟩)
      · cases h
      obtain ⟨rfl, rfl⟩ : bs = x ∧ k = lx := by
        injection h with h
        injection h with h1 h2
        exact ⟨h1.symm, h2.symm⟩
      rw [xl.out] at ho
      obtain ⟨Ap, cp, rfl⟩ := own_form ho
      have Pa : Hid (Rb wa (fun g => g < wa.heap.size) Ap k bs) := rb_own ho
      have Va : Hid (Live w wa p 1000 _ _) := V6.out.below ba
      clear C6 V6 h ho ba
      go_wp2
      rw [hmI.out]
      clear q0 q1 d0 d1 hmI
      have t1 := fun d os => str_regrown (c := cp) Pa.out d os
      have t2 := fun d os => str_regrown (c := c0) (Va.out.rb Ra.out) d os
      have t3 := fun d os => str_regrown (c := c1) (Va.out.rb Rt.out) d os
      have sl0' := sl0.out
      have sl1' := sl1.out
      have hadd' := hadd.out
      have Q1 := fun d os => Calls.regrown_of (told_any (grow (redrawn wa d) os))
      have Q2 := fun d os => Calls.regrown_of (cut_absent (Va.out.below (below_regrown wa d os)) ⟨#[103]⟩ 0 (by decide) LG.out)
      have be : Hid (Below w.heap.size w wa) := Va.out.be
      clear hadd sl0 sl1 Ra Rt R0 R1 Pa xl TA z0 z1 hK1 hK2 Va LG
      refine wp_region_quiet_below (by kernel_rfl) (by kernel_rfl) ?_
      repeat (go_big_quiet_step (first | with_reducible exact Q1 _ _ | with_reducible exact Q2 _ _))
      refine wpQuiet_nil ?_
      intro w7 hw'
      obtain ⟨⟨dq, osq⟩, hw7⟩ := hw'
      have be7 : Hid (Below w.heap.size w w7) := by rw [hw7]; exact be.out.trans ((below_regrown wa dq osq).mono be.out.size)
      clear hw7
      go_wp2_with fail
      go_ret
      exact ⟨rfl, be7.out⟩

  · have h : 100 < n0 ∨ (n0 ≤ 100 ∧ 100 < n1) := by omega
    clear R0 R1 y0 y1 m0 m1 l0 l1 hK1 hK2
    rcases h with h | h
    · have q0 : decide ((100 : Int) < (n0 : Int)) = true := decide_eq_true (by omega)
      clear h hz
      go_enter Try.func8, Try.ntmps8
      go_wp2_with fail
      refine N0.out.mono ?_
      rintro e w1 ⟨p, rfl, V⟩
      replace V := Lib.hid V.be
      go_wp2_with fail
      refine (TA.out _).mono ?_
      rintro e w2 ⟨rfl, hb⟩
      have b2 : Hid (Below w.heap.size w w2) := V.out.trans (hb.mono V.out.size)
      clear hb V
      go_wp2
      go_ret
      exact ⟨rfl, b2.out⟩
    · have q0 : decide ((100 : Int) < (n0 : Int)) = false := decide_eq_false (by omega)
      have q1 : decide ((100 : Int) < (n1 : Int)) = true := decide_eq_true (by omega)
      clear h hz
      go_enter Try.func8, Try.ntmps8
      go_wp2_with fail
      refine N0.out.mono ?_
      rintro e w1 ⟨p, rfl, V⟩
      replace V := Lib.hid V.be
      go_wp2_with fail
      refine (TA.out _).mono ?_
      rintro e w2 ⟨rfl, hb⟩
      have b2 : Hid (Below w.heap.size w w2) := V.out.trans (hb.mono V.out.size)
      clear hb V
      go_wp2
      go_ret
      exact ⟨rfl, b2.out⟩

theorem walkd {W : World} (v0 : Value) (a0 : Bs) (w0 : Src W v0 a0) (a1 : Int) (_w1 : (Lit.int .i64 a1).wf = true) (v2 : Value) (a2 : Bs) (w2 : Src W v2 a2) (a3 : Int) (w3 : (Lit.int .i64 a3).wf = true) (W' : World) (hW : W' = W) :
    Calls Try.prog 8 #[v0, .int .i64 a1, v2, .int .i64 a3] W' fun e w' => e = .returned (.bool true) ∧ Below W'.heap.size W' w' := by
  subst hW
  obtain ⟨A0, n0, c0, rfl, m0, l0, _, R0⟩ := w0
  obtain ⟨A2, n2, c2, rfl, m2, l2, _, R2⟩ := w2
  have hI := bounds_i64 w3
  exact walk A0 A2 n0 n2 c0 c2 a0 a2 a1 a3 W' R0 R2 m0 m2 l0 l2 hI.1 hI.2


/-! The row: every input. -/
set_option linter.unusedVariables false
set_option maxRecDepth 100000 in
theorem lifted (os : Os) (started : os.Started) (H : Type) (enc : TypeId × Value → H) :
    ReturnsInHanded {} Try.checked os 8 .any (Rows.diskCutsSpec.pre6 enc Try.prog Try.f8 Rows.diskCutsRow.domain false) (Rows.diskCutsSpec.post enc Try.prog Try.f8 false true false false) := by
  refine returnsInHanded_of_change (C := Try.checked) own started (by kernel_rfl) Try.func8
    (ChangeSpec.witness6 (enc := enc) (C := Try.checked) false ⟨#[], #[.slice none 0 0, .int .i64 0, .slice none 0 0, .int .i64 0], []⟩ 8 (by kernel_rfl) (by kernel_rfl) (by kernel_rfl) (by kernel_rfl)) ?_
  intro W base args ds gs before hval0 hW _ _
  have hval : ∀ (j : Nat) t v, Try.f8.params[j]? = some t → args[j]? = some v → Value.okWide Try.prog W .any base t v := hval0
  have hW' := hW
  obtain ⟨p, q, hA0, hV, rfl, hfz, hnd⟩ := hW
  have hA : DataW.TrodAll enc Try.prog W 0 (fun _ => true) true Try.f8.params.toList args.toList ds p := hA0
  rw [Try.params8] at hA hval
  obtain ⟨v0, vs0, d0, ds0, p0, q0, hargs, rfl, rfl, h0, r0⟩ := trodAll_cons hA
  obtain ⟨v1, vs1, d1, ds1, p1, q1, rfl, rfl, rfl, h1, r1⟩ := trodAll_cons r0
  obtain ⟨v2, vs2, d2, ds2, p2, q2, rfl, rfl, rfl, h2, r2⟩ := trodAll_cons r1
  obtain ⟨v3, vs3, d3, ds3, p3, q3, rfl, rfl, rfl, h3, r3⟩ := trodAll_cons r2
  obtain ⟨rfl, rfl, rfl⟩ := trodAll_nil r3
  obtain rfl : args = #[v0, v1, v2, v3] := by cases args; simp_all
  obtain ⟨rfl, rfl⟩ := trodVars_none hV
  obtain ⟨a0, w0⟩ := view_bytes (hval 0 31 v0 rfl rfl) h0
  obtain ⟨a1, rfl, rfl, rfl, w1⟩ := open_int Try.underlying3 (hval 1 3 v1 rfl rfl) h1
  obtain ⟨a2, w2⟩ := view_bytes (hval 2 31 v2 rfl rfl) h2
  obtain ⟨a3, rfl, rfl, rfl, w3⟩ := open_int Try.underlying3 (hval 3 3 v3 rfl rfl) h3
  clear hA0 hval0
  simp only [List.append_nil] at hW'
  refine (walkd v0 a0 w0 a1 w1 v2 a2 w2 a3 w3 W rfl).mono fun e W' ⟨he, hb⟩ => ?_
  subst he
  exact ⟨_, rfl, post_below (pa := p0 ++ ([] ++ (p2 ++ ([] ++ [])))) (pv := []) hW' (fun _ _ _ => (trodAll_cons_mk (shut_bool Try.underlying4 _) trodAll_mk0)) (fun sp hsp => (trodAll_cons_mk (Trod_stays laidOut (by kernel_rfl) (of_decide_eq_true (by kernel_rfl)) h0 (fun x hx => hb.same (hW'.lt x (by simp [hx]))) (fun x hx => hsp x (by simp [hx]))) (trodAll_cons_mk (shut_int Try.underlying3 w1) (trodAll_cons_mk (Trod_stays laidOut (by kernel_rfl) (of_decide_eq_true (by kernel_rfl)) h2 (fun x hx => hb.same (hW'.lt x (by simp [hx]))) (fun x hx => hsp x (by simp [hx]))) (trodAll_cons_mk (shut_int Try.underlying3 w3) trodAll_mk0))))) (fun _ _ => rfl) (by simp)
    hb (ok_one (by kernel_rfl) rfl (okWide_bool_mk Try.underlying4 _))⟩

theorem proved : Rows.DiskCutsSaid :=
  OpenClaim.holds_of_wide 8 Try.f8 rfl rfl rfl rfl rfl rfl rfl ⟨rfl, rfl, rfl, rfl, rfl⟩ rfl rfl rfl rfl rfl (by kernel_rfl) Try.func8 (by kernel_rfl)
    (of_decide_eq_true (by kernel_rfl)) (by unfold Func.isWrapper; first | (rw [if_pos (by decide +kernel)]; kernel_rfl) | (rw [if_neg (by decide +kernel)]; exact ⟨rfl, rfl⟩))
    (fun os started H enc _ => lifted os started H enc)
#print axioms proved

end Go.Proofs.Ytpkjeplhdnbihaa.diskCuts
