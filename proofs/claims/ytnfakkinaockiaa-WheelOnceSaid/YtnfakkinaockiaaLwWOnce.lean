/- Proved: each timer goes off once, not ahead of its time, in its turn (WheelOnce), for any numbers. -/
import Derived.Test.YtnfakkinaockiaaLwWOnce2
namespace Go.Proofs.Ytnfakkinaockiaa.wheelOnce
open Go.ChangeShapes Go.WideShapes Go.ChangeAt Go.WideMaps Go.WideElems Go.RowKit
open Go.Proofs.Ytnfakkinaockiaa.Pk (one_at one_free one_set lt_some grown_set)
open Go.Proofs.Ytnfakkinaockiaa.Wh

set_option maxHeartbeats 12800000 in
set_option maxRecDepth 100000 in
theorem walk (w : World) (A1 : Option Addr) (n c : Nat) (stp : Int) (xs : List Int) (R1 : Rr w (fun g => g < w.heap.size) A1 n xs) :
    Calls Try.prog 5 #[.slice A1 n c, .int .i64 stp] w fun e w' => e = .returned (.bool true) ∧ Below w.heap.size w w' := by
  have TA := Lib.hid told_any
  have NW := Lib.hid (lw_new (B := w) 0 (by decide) (Below.refl _ w))
  by_cases hbig : 40 < n
  · have d1 : decide ((40 : Int) < (n : Int)) = true := decide_eq_true (by omega)
    clear hbig R1
    go_enter Try.func5, Try.ntmps5
    go_wp2_with fail
    refine NW.out.mono ?_
    rintro e w1 ⟨q, rfl, L1, _⟩
    replace L1 := Lib.hid L1.be
    clear NW
    go_wp2_with fail
    refine (TA.out _).mono ?_
    rintro e w2 ⟨rfl, hb⟩
    have E := Lib.hid (L1.out.trans (hb.mono L1.out.size))
    clear hb L1
    go_wp2
    go_ret
    exact ⟨rfl, E.out⟩
  · have d1 : decide ((40 : Int) < (n : Int)) = false := decide_eq_false (by omega)
    have i3 : (n : Int) ≤ 40 := by omega
    have hn40 := Lib.hid hbig
    replace R1 := Lib.hid R1
    obtain ⟨i0, hi, hz0, hz1, hz2⟩ := info_parts bool_info
    replace hi := Lib.hid hi
    replace hz0 := Lib.hid hz0
    replace hz1 := Lib.hid hz1
    replace hz2 := Lib.hid hz2
    clear hbig
    go_enter Try.func5, Try.ntmps5
    go_wp2_with fail
    refine NW.out.mono ?_
    rintro e w1 ⟨q, rfl, L1, _⟩
    have st : Hid (S1At w q n xs (.int .i64 0) w1) := ⟨0, [], rfl, Nat.zero_le _, rfl, ⟨fun i hi => by omega, fun t ht => (nomatch ht)⟩, L1⟩
    clear NW L1
    go_wp2_with fail
    clear d1
    go_loopw [7] (fun i wr => S1At w q n xs i wr) (fun i _ => n - (intOf i).toNat)
    case atStart => exact st.out
    case round =>
      clear st
      obtain ⟨k, S, rfl, hk, hl, D, L⟩ := hrel
      by_cases hlt : k < n
      · have i1 : (k : Int) < (n : Int) := by omega
        have i2 : (0 : Int) ≤ (k : Int) := by omega
        obtain ⟨a1, rfl, -, -⟩ := R1.out.at_ (by omega)
        obtain ⟨x, hx⟩ : ∃ x, xs[k]? = some x := ⟨_, List.getElem?_eq_getElem (by rw [R1.out.len]; omega)⟩
        have c1 := (R1.out.below L.be).cell hx
        have ux : wrap64 ((IntKind.u64.wrap x).tmod 1001) = (tv xs k : Int) := by rw [tv_at hx]; exact usm_slot x (n := 1001) (by omega) (by omega)
        have htx := tv_le xs k
        have tk : tick (tv xs k : Int) = true := tick_iff.2 (by omega)
        have CA := lw_set L (k : Int) (tv xs k : Int) (by omega) (by omega)
        unfold setE setS at CA
        rw [tk, if_pos rfl, if_pos rfl] at CA
        replace CA := Lib.hid CA
        have NX : Hid (∀ W, LwTo w wr q 0 (sSet ((k : Int), (tv xs k : Int)) S) (fun g => g < w.heap.size) W → S1At w q n xs (.int .i64 ((k : Int) + 1)) W) := fun W T => ⟨k + 1, _, by simp, by omega, by rw [(due_set D).2, hl], (due_set D).1, T.1⟩
        generalize tv xs k = t at *
        clear D L hl hk hx tk htx
        go_wp2_with fail
        refine CA.out.mono ?_
        rintro e w5 ⟨rfl, T5⟩
        have nx := Lib.hid (NX.out w5 T5)
        clear CA T5 NX ux c1
        go_wp2
        exact ⟨nx.out, by simp [intOf]; omega⟩
      · obtain rfl : k = n := by omega
        have dJ : decide ((k : Int) < (k : Int)) = false := by simp
        rename_i K1 h1
        replace h1 := Lib.hid h1
        clear hk hl hlt
        replace L := Lib.hid L
        replace D := Lib.hid D
        go_wp2
        exact h1.out _ _ (part2 _ _ _ _ _ _ _ _ _ _ _ _ _ _ _ _ _ _ _ _ _ _ _ _ _ _ _ _ _ _ _ _ _ _ _ _ _ _ _ _ _ _ _ _ _ _ _ _ _ _ _ _ _ _ _ _ _ _ _ _ _ _ _ _ _ _ _ _ _ _ _ _ _ _ _ _ _ _ _ _ _ _ _ _ _ _ _ _ _ _ _ _ _ _ _ _ _ _ _ _ _ _ _ _ _ _ _ _ _ _ _ _ _ _ _ _ _ _ _ _ _ _ _ _ _ _ _ _ _ _ _ _ _ _ _ _ _ _ _ _ _ _ w wr A1 k c q stp xs S R1 L.out D.out i3)
theorem walkd (v0 : Value) (a0 : List Int) {W : World} (w0 : Src W v0 a0) (a1 : Int) (_w1 : (Lit.int .i64 a1).wf = true) (W' : World) (hW : W' = W) :
    Calls Try.prog 5 #[v0, .int .i64 a1] W' fun e w' => e = .returned (.bool true) ∧ Below W'.heap.size W' w' := by
  subst hW
  obtain ⟨A, n, c, rfl, h1, h2, R, _⟩ := w0
  exact walk _ A n c a1 a0 R

/-! The row: every input. -/
set_option linter.unusedVariables false
set_option maxRecDepth 100000 in
theorem lifted (os : Os) (started : os.Started) (H : Type) (enc : TypeId × Value → H) :
    ReturnsInHanded {} Try.checked os 5 .any (Rows.wheelOnceSpec.pre6 enc Try.prog Try.f5 Rows.wheelOnceRow.domain false) (Rows.wheelOnceSpec.post enc Try.prog Try.f5 false true false false) := by
  refine returnsInHanded_of_change (C := Try.checked) own started (by kernel_rfl) Try.func5
    (ChangeSpec.witness6 (enc := enc) (C := Try.checked) false ⟨#[], #[.slice none 0 0, .int .i64 0], []⟩ 8 (by kernel_rfl) (by kernel_rfl) (by kernel_rfl) (by kernel_rfl)) ?_
  intro W base args ds gs before hval0 hW _ _
  have hval : ∀ (j : Nat) t v, Try.f5.params[j]? = some t → args[j]? = some v → Value.okWide Try.prog W .any base t v := hval0
  have hW' := hW
  obtain ⟨p, q, hA0, hV, rfl, hfz, hnd⟩ := hW
  have hA : DataW.TrodAll enc Try.prog W 0 (fun _ => true) true Try.f5.params.toList args.toList ds p := hA0
  rw [Try.params5] at hA hval
  obtain ⟨v0, vs0, d0, ds0, p0, q0, hargs, rfl, rfl, h0, r0⟩ := trodAll_cons hA
  obtain ⟨v1, vs1, d1, ds1, p1, q1, rfl, rfl, rfl, h1, r1⟩ := trodAll_cons r0
  obtain ⟨rfl, rfl, rfl⟩ := trodAll_nil r1
  obtain rfl : args = #[v0, v1] := by cases args; simp_all
  obtain ⟨rfl, rfl⟩ := trodVars_none hV
  obtain ⟨a0, w0⟩ := view_nums (hval 0 22 v0 rfl rfl) h0
  obtain ⟨a1, rfl, rfl, rfl, w1⟩ := open_int Try.underlying3 (hval 1 3 v1 rfl rfl) h1
  clear hA0 hval0
  simp only [List.append_nil] at hW'
  refine (walkd v0 a0 w0 a1 w1 W rfl).mono fun e W' ⟨he, hb⟩ => ?_
  subst he
  exact ⟨_, rfl, post_below (pa := p0 ++ ([] ++ [])) (pv := []) hW' (fun _ _ _ => (trodAll_cons_mk (shut_bool Try.underlying4 _) trodAll_mk0)) (fun sp hsp => (trodAll_cons_mk (Trod_stays laidOut (by kernel_rfl) (of_decide_eq_true (by kernel_rfl)) h0 (fun x hx => hb.same (hW'.lt x (by simp [hx]))) (fun x hx => hsp x (by simp [hx]))) (trodAll_cons_mk (shut_int Try.underlying3 w1) trodAll_mk0))) (fun _ _ => rfl) (by simp)
    hb (ok_one (by kernel_rfl) rfl (okWide_bool_mk Try.underlying4 _))⟩

theorem proved : Rows.WheelOnceSaid :=
  OpenClaim.holds_of_wide 5 Try.f5 rfl rfl rfl rfl rfl rfl rfl ⟨rfl, rfl, rfl, rfl, rfl⟩ rfl rfl rfl rfl rfl (by kernel_rfl) Try.func5 (by kernel_rfl)
    (of_decide_eq_true (by kernel_rfl)) (by unfold Func.isWrapper; first | (rw [if_pos (by decide +kernel)]; kernel_rfl) | (rw [if_neg (by decide +kernel)]; exact ⟨rfl, rfl⟩))
    (fun os started H enc _ => lifted os started H enc)
#print axioms proved

end Go.Proofs.Ytnfakkinaockiaa.wheelOnce
