/- Proved: keys rise, by booking, then by kind, each once, and each has an answer (TableKeys), for any operations of small numbers. -/
import Derived.Test.YtiplhdeomlmpkaaTbO
import Derived.JoinedRecord
import Derived.HandedShaped
namespace Go.Proofs.Ytiplhdeomlmpkaa.tableKeys
set_option maxRecDepth 100000
open Go.ChangeShapes Go.WideShapes Go.ChangeAt Go.WideMaps Go.WideElems Go.RowKit
open Go.Sort (grow)
open Go.Proofs.Ytiplhdeomlmpkaa.Pk (Rb adr_block one_at one_free one_set lt_some grown_set grown_trans below_grown grown_refl u8s own_form)
open Go.Proofs.Ytiplhdeomlmpkaa.Tb
open Go.Proofs.Ytiplhdeomlmpkaa.Wt (Opn mayOp)


def KiAt (W : World) (q : Nat) (i : Value) (wr : World) : Prop := ∃ (j : Nat) (f : F), i = .int .i64 j ∧ j ≤ 80 ∧ Ow W.heap.size (fun g => g < W.heap.size) W wr q f
def KjAt (W : World) (N : Nat) (i : Value) (wr : World) : Prop := ∃ k : Nat, i = .int .i64 k ∧ k ≤ N ∧ Below W.heap.size W wr
set_option maxHeartbeats 6400000 in
theorem walk (w : World) (A : Option Addr) (n c : Nat) (l : List Int) (R : Rr w (fun g => g < w.heap.size) A n l) (hn : n ≤ 9223372036854775807) (hb : ∀ z ∈ l, -9223372036854775808 ≤ z ∧ z ≤ 9223372036854775807) :
    Calls Try.prog 5 #[.slice A n c] w fun e w' => e = .returned (.bool true) ∧ Below w.heap.size w w' := by
  have N0 := ow_new w
  replace R := Lib.hid R
  replace hb := Lib.hid hb
  go_enter Try.func5, Try.ntmps5
  go_wp2_with fail
  refine N0.mono ?_
  rintro e w1 ⟨q, rfl, O1⟩
  have st : Hid (KiAt w q (.int .i64 0) w1) := ⟨0, fz, rfl, by omega, O1⟩
  clear N0 O1
  go_wp2_with fail
  go_loopw [4] (fun i wr => KiAt w q i wr) (fun i _ => 80 - (intOf i).toNat)
  case atStart => exact st.out
  case round =>
    clear st
    obtain ⟨j, f, rfl, hj, O⟩ := hrel
    by_cases hjn : j < n
    · by_cases h60 : j < 80
      · obtain ⟨z, hs⟩ : ∃ s, l[j]? = some s := ⟨_, List.getElem?_eq_getElem (by have := R.out.len; omega)⟩
        obtain ⟨ad, rfl, hab, hat⟩ := R.out.at_ (by omega)
        have c0 := (Rr.below R.out O.be).cell hs
        have i1 : (j : Int) < 80 := by omega
        replace hat := Lib.hid hat
        replace hs := Lib.hid hs
        replace O := Lib.hid O
        clear hab
        go_upto_region 9 with fail
        obtain ⟨K, hK⟩ : ∃ K, K = wrap64 (1 + wrap64 ((IntKind.u64.wrap z).tmod 6)) := ⟨_, rfl⟩
        obtain ⟨B, hB⟩ : ∃ B, B = wrap64 (1 + wrap64 ((IntKind.u64.wrap ((IntKind.u64.wrap z).tdiv 6)).tmod 20)) := ⟨_, rfl⟩
        rw [← hK, ← hB]
        clear hK hB
        have MEAS : Hid (80 - (intOf (.int .i64 ((j : Int) + 1))).toNat < 80 - (intOf (.int .i64 (j : Int))).toNat) := by unfold Hid; simp only [intOf]; omega
        obtain ⟨an, han⟩ : ∃ a, a = wrap64 (1 + bits .and .i64 (j : Int) 1) := ⟨_, rfl⟩
        have P : Hid (∀ U, Calls Try.prog 7 #[.pointer (some ⟨q, 0, none⟩), .agg #[.int .i64 K, .int .i64 B, .int .i64 U, .int .i64 0, .int .i64 0], .int .i64 an] (wr.alloc (.cells #[.int .i64 K, .int .i64 B, .int .i64 U, .int .i64 0, .int .i64 0] 32)) fun e w' => ∃ r f', e = .returned (.bool r) ∧ Ow w.heap.size (fun g => g < w.heap.size) w w' q f') := fun U => (ow_put (O.out.below ((Below.refl _ _).alloc (Nat.le_refl _) _)) ⟨K, B, U, 0, 0⟩ an).mono fun _ _ h => ⟨_, _, h.1, h.2.1⟩
        cases hk : (K == 1) with
        | true =>
          go_wp2_with fail
          rw [← han]
          refine (P.out _).mono ?_
          rintro e w2 ⟨r, f', rfl, O2⟩
          replace O2 := Lib.hid O2
          clear P O c0
          go_wp2_with fail
          go_roundw
          case rel => exact ⟨j + 1, f', rfl, by omega, O2.out⟩
          case measure => exact MEAS.out
        | false =>
          go_wp2_with fail
          rw [← han]
          refine (P.out _).mono ?_
          rintro e w2 ⟨r, f', rfl, O2⟩
          replace O2 := Lib.hid O2
          clear P O c0
          go_wp2_with fail
          go_roundw
          case rel => exact ⟨j + 1, f', rfl, by omega, O2.out⟩
          case measure => exact MEAS.out
      · have KE := Lib.hid (ow_keys O)
        replace O := Lib.hid O
        clear R hb
        go_wp2_with fail
        refine KE.out.mono ?_
        rintro e w2 ⟨v, rfl, h2, b2⟩
        have O2 := Lib.hid (O.out.below b2)
        obtain ⟨A2, c2, rfl, hc1, hc2, hc3⟩ := rp_form h2
        obtain ⟨N, hN⟩ : ∃ N, N = (keys f).length := ⟨_, rfl⟩
        rw [← hN] at h2 hc1 ⊢
        have hN2 := cnt_le f
        have hNk : N ≤ 1200 := by rw [hN]; exact hN2
        have hNe : Hid ((cnt f : Int) = (N : Int)) := by rw [hN]; rfl
        replace h2 := Lib.hid h2
        replace hN := Lib.hid hN
        have st : Hid (KjAt w2 N (.int .i64 0) w2) := ⟨0, rfl, Nat.zero_le _, Below.refl _ _⟩
        clear KE b2 O hN2
        go_wp2_with fail
        go_loopw [8] (fun i wr => KjAt w2 N i wr) (fun i _ => N - (intOf i).toNat)
        case atStart => exact st.out
        case round =>
          clear st
          obtain ⟨i, rfl, hi, be⟩ := hrel
          have O3 := Lib.hid (O2.out.below be)
          by_cases hiN : i < N
          · obtain ⟨p, hp⟩ : ∃ p, (keys f)[i]? = some p := ⟨_, List.getElem?_eq_getElem (by rw [← hN.out]; exact hiN)⟩
            obtain ⟨g, rfl, k0, k1⟩ := rp_cell (rp_below h2.out be) hp
            obtain ⟨x, y⟩ := p
            simp only at k0 k1
            have MEAS : Hid (N - (intOf (.int .i64 ((i : Int) + 1))).toNat < N - (intOf (.int .i64 (i : Int))).toNat) := by unfold Hid; simp only [intOf]; omega
            have hk := mem_keys.1 (List.mem_of_getElem? hp)
            have hbp : Bp (x, y) := bp_in hk.1 hk.2.1
            obtain ⟨av, hav⟩ : ∃ a, a = f x y := ⟨_, rfl⟩
            have hv : Hid (av = 1 ∨ av = 2) := by rw [hav]; exact (O3.out.ok.inn x y hk.2.2).2.2
            have hne : ne0 av = true := by rw [hav]; exact ne0_iff.2 hk.2.2
            have FI : Hid (∀ w', Below wr.heap.size wr w' → Calls Try.prog 10 #[.pointer (some ⟨q, 0, none⟩), .agg #[.int .i64 y, .int .i64 x, .int .i64 0, .int .i64 0, .int .i64 0]] w' fun e w'' => e = .returned (.tuple #[.int .i64 av, .bool true]) ∧ Below w'.heap.size w' w'') := fun w' hb' => by
              have := ow_find (O3.out.below hb') ⟨y, x, 0, 0, 0⟩ hbp
              simp only at this
              rw [← hav, hne] at this
              exact this
            have iN : (i : Int) < (N : Int) := by omega
            clear hk hbp hne hav
            have BE : Hid (Below w2.heap.size w2 wr) := be
            clear be
            go_wp2_with fail
            go_cut [103] from 60 to 103 (fun s103 wx => s103 = .bool false ∧ Below wr.heap.size wr wx)
            case first =>
              rcases Nat.eq_zero_or_pos i with h0 | h0
              · have g0 : decide (0 < (i : Int)) = false := by rw [decide_eq_false_iff_not]; omega
                have g1 : decide (0 < i) = false := by rw [decide_eq_false_iff_not]; omega
                have g2 : ¬ 0 < i := by omega
                clear hp h0
                go_quiet (fail)
                go_wp2
                go_meet
                case rel => exact ⟨rfl, Tb.below_drewN wr _⟩
              · obtain ⟨m, hm⟩ : ∃ m, i = m + 1 := ⟨i - 1, by omega⟩
                obtain ⟨p', hp'⟩ : ∃ p, (keys f)[m]? = some p := ⟨_, List.getElem?_eq_getElem (by rw [← hN.out]; omega)⟩
                obtain ⟨k2, k3⟩ := rp_at (rp_below h2.out BE.out) hp'
                obtain ⟨x', y'⟩ := p'
                simp only at k2 k3
                have hlk : lk (x', y') (x, y) := rise_lt (keys_rise f) (by omega) hp hp'
                unfold lk at hlk
                simp only at hlk
                have wm : wrap64 ((i : Int) - 1) = (m : Int) := by rw [hm, IntWalk.wrap64_in _ (by omega)]; omega
                have wm' : IntKind.i64.wrap ((i : Int) - 1) = (m : Int) := by rw [IntKind.wrap_i64]; omega
                have mN : m < N := by omega
                have g0 : decide (0 < (i : Int)) = true := by rw [decide_eq_true_iff]; omega
                have g1 : decide (0 < i) = true := by rw [decide_eq_true_iff]; omega
                clear hp hp' hm
                rcases hlk with h1 | ⟨h1, h3⟩
                · have d1 : decide (x < x') = false := by rw [decide_eq_false_iff_not]; omega
                  have d2 : (x == x') = false := by rw [beq_eq_false_iff_ne]; omega
                  have d1' : ¬ x < x' := by omega
                  have d2' : ¬ x = x' := by omega
                  clear h1
                  go_quiet (fail)
                  go_wp2
                  go_meet
                  case rel => exact ⟨rfl, Tb.below_drewN wr _⟩
                · have d1 : decide (x < x') = false := by rw [decide_eq_false_iff_not]; omega
                  have d2 : (x == x') = true := by rw [beq_iff_eq]; omega
                  have d3 : decide (y ≤ y') = false := by rw [decide_eq_false_iff_not]; omega
                  have d1' : ¬ x < x' := by omega
                  have d3' : ¬ y ≤ y' := by omega
                  clear h1 h3
                  go_quiet (fail)
                  go_wp2
                  go_meet
                  case rel => exact ⟨rfl, Tb.below_drewN wr _⟩
            obtain ⟨rfl, b4⟩ := hcut
            have BC : Hid (Below w2.heap.size w2 wc) := BE.out.trans (b4.mono BE.out.size)
            obtain ⟨y0, y1⟩ := rp_at (rp_below h2.out BC.out) hp
            have z0 := cell_regrown y0
            have z1 := cell_regrown y1
            have Q := fun d os => Calls.regrown_of (FI.out (Go.Sort.grow (redrawn wc d) os) (b4.trans ((below_regrown wc d os).mono b4.size)))
            clear hp k0 k1 b4
            go_wp2_with fail
            refine wp_region_quiet_below (by kernel_rfl) (by kernel_rfl) ?_
            repeat (go_big_quiet_step (with_reducible exact Q _ _))
            refine wpQuiet_nil ?_
            intro w7 hw'
            obtain ⟨⟨dq, osq⟩, hw7⟩ := hw'
            have B7 : Hid (Below w2.heap.size w2 w7) := by rw [hw7]; exact BC.out.trans ((below_regrown wc dq osq).mono BC.out.size)
            clear hw7 z0 z1 y0 y1 Q FI
            rcases hv.out with rfl | rfl
            all_goals
              go_wp2_with fail
              go_roundw
              case rel => exact ⟨i + 1, rfl, by omega, B7.out⟩
              case measure => exact MEAS.out
          · have TA := Lib.hid (told_any wr)
            clear be
            go_wp2_with fail
            refine TA.out.mono ?_
            rintro e w3 ⟨rfl, b3⟩
            have O4 := Lib.hid (O3.out.below b3)
            have LE := ow_len O4.out
            rw [hNe.out] at LE
            replace LE := Lib.hid LE
            clear TA b3 O3
            go_wp2_with fail
            refine LE.out.mono ?_
            rintro e w' ⟨rfl, rfl⟩
            clear LE
            go_wp2
            go_ret
            exact ⟨rfl, O4.out.be⟩
    · have KE := Lib.hid (ow_keys O)
      replace O := Lib.hid O
      clear R hb
      go_wp2_with fail
      refine KE.out.mono ?_
      rintro e w2 ⟨v, rfl, h2, b2⟩
      have O2 := Lib.hid (O.out.below b2)
      obtain ⟨A2, c2, rfl, hc1, hc2, hc3⟩ := rp_form h2
      obtain ⟨N, hN⟩ : ∃ N, N = (keys f).length := ⟨_, rfl⟩
      rw [← hN] at h2 hc1 ⊢
      have hN2 := cnt_le f
      have hNk : N ≤ 1200 := by rw [hN]; exact hN2
      have hNe : Hid ((cnt f : Int) = (N : Int)) := by rw [hN]; rfl
      replace h2 := Lib.hid h2
      replace hN := Lib.hid hN
      have st : Hid (KjAt w2 N (.int .i64 0) w2) := ⟨0, rfl, Nat.zero_le _, Below.refl _ _⟩
      clear KE b2 O hN2
      go_wp2_with fail
      go_loopw [8] (fun i wr => KjAt w2 N i wr) (fun i _ => N - (intOf i).toNat)
      case atStart => exact st.out
      case round =>
        clear st
        obtain ⟨i, rfl, hi, be⟩ := hrel
        have O3 := Lib.hid (O2.out.below be)
        by_cases hiN : i < N
        · obtain ⟨p, hp⟩ : ∃ p, (keys f)[i]? = some p := ⟨_, List.getElem?_eq_getElem (by rw [← hN.out]; exact hiN)⟩
          obtain ⟨g, rfl, k0, k1⟩ := rp_cell (rp_below h2.out be) hp
          obtain ⟨x, y⟩ := p
          simp only at k0 k1
          have MEAS : Hid (N - (intOf (.int .i64 ((i : Int) + 1))).toNat < N - (intOf (.int .i64 (i : Int))).toNat) := by unfold Hid; simp only [intOf]; omega
          have hk := mem_keys.1 (List.mem_of_getElem? hp)
          have hbp : Bp (x, y) := bp_in hk.1 hk.2.1
          obtain ⟨av, hav⟩ : ∃ a, a = f x y := ⟨_, rfl⟩
          have hv : Hid (av = 1 ∨ av = 2) := by rw [hav]; exact (O3.out.ok.inn x y hk.2.2).2.2
          have hne : ne0 av = true := by rw [hav]; exact ne0_iff.2 hk.2.2
          have FI : Hid (∀ w', Below wr.heap.size wr w' → Calls Try.prog 10 #[.pointer (some ⟨q, 0, none⟩), .agg #[.int .i64 y, .int .i64 x, .int .i64 0, .int .i64 0, .int .i64 0]] w' fun e w'' => e = .returned (.tuple #[.int .i64 av, .bool true]) ∧ Below w'.heap.size w' w'') := fun w' hb' => by
            have := ow_find (O3.out.below hb') ⟨y, x, 0, 0, 0⟩ hbp
            simp only at this
            rw [← hav, hne] at this
            exact this
          have iN : (i : Int) < (N : Int) := by omega
          clear hk hbp hne hav
          have BE : Hid (Below w2.heap.size w2 wr) := be
          clear be
          go_wp2_with fail
          go_cut [103] from 60 to 103 (fun s103 wx => s103 = .bool false ∧ Below wr.heap.size wr wx)
          case first =>
            rcases Nat.eq_zero_or_pos i with h0 | h0
            · have g0 : decide (0 < (i : Int)) = false := by rw [decide_eq_false_iff_not]; omega
              have g1 : decide (0 < i) = false := by rw [decide_eq_false_iff_not]; omega
              have g2 : ¬ 0 < i := by omega
              clear hp h0
              go_quiet (fail)
              go_wp2
              go_meet
              case rel => exact ⟨rfl, Tb.below_drewN wr _⟩
            · obtain ⟨m, hm⟩ : ∃ m, i = m + 1 := ⟨i - 1, by omega⟩
              obtain ⟨p', hp'⟩ : ∃ p, (keys f)[m]? = some p := ⟨_, List.getElem?_eq_getElem (by rw [← hN.out]; omega)⟩
              obtain ⟨k2, k3⟩ := rp_at (rp_below h2.out BE.out) hp'
              obtain ⟨x', y'⟩ := p'
              simp only at k2 k3
              have hlk : lk (x', y') (x, y) := rise_lt (keys_rise f) (by omega) hp hp'
              unfold lk at hlk
              simp only at hlk
              have wm : wrap64 ((i : Int) - 1) = (m : Int) := by rw [hm, IntWalk.wrap64_in _ (by omega)]; omega
              have wm' : IntKind.i64.wrap ((i : Int) - 1) = (m : Int) := by rw [IntKind.wrap_i64]; omega
              have mN : m < N := by omega
              have g0 : decide (0 < (i : Int)) = true := by rw [decide_eq_true_iff]; omega
              have g1 : decide (0 < i) = true := by rw [decide_eq_true_iff]; omega
              clear hp hp' hm
              rcases hlk with h1 | ⟨h1, h3⟩
              · have d1 : decide (x < x') = false := by rw [decide_eq_false_iff_not]; omega
                have d2 : (x == x') = false := by rw [beq_eq_false_iff_ne]; omega
                have d1' : ¬ x < x' := by omega
                have d2' : ¬ x = x' := by omega
                clear h1
                go_quiet (fail)
                go_wp2
                go_meet
                case rel => exact ⟨rfl, Tb.below_drewN wr _⟩
              · have d1 : decide (x < x') = false := by rw [decide_eq_false_iff_not]; omega
                have d2 : (x == x') = true := by rw [beq_iff_eq]; omega
                have d3 : decide (y ≤ y') = false := by rw [decide_eq_false_iff_not]; omega
                have d1' : ¬ x < x' := by omega
                have d3' : ¬ y ≤ y' := by omega
                clear h1 h3
                go_quiet (fail)
                go_wp2
                go_meet
                case rel => exact ⟨rfl, Tb.below_drewN wr _⟩
          obtain ⟨rfl, b4⟩ := hcut
          have BC : Hid (Below w2.heap.size w2 wc) := BE.out.trans (b4.mono BE.out.size)
          obtain ⟨y0, y1⟩ := rp_at (rp_below h2.out BC.out) hp
          have z0 := cell_regrown y0
          have z1 := cell_regrown y1
          have Q := fun d os => Calls.regrown_of (FI.out (Go.Sort.grow (redrawn wc d) os) (b4.trans ((below_regrown wc d os).mono b4.size)))
          clear hp k0 k1 b4
          go_wp2_with fail
          refine wp_region_quiet_below (by kernel_rfl) (by kernel_rfl) ?_
          repeat (go_big_quiet_step (with_reducible exact Q _ _))
          refine wpQuiet_nil ?_
          intro w7 hw'
          obtain ⟨⟨dq, osq⟩, hw7⟩ := hw'
          have B7 : Hid (Below w2.heap.size w2 w7) := by rw [hw7]; exact BC.out.trans ((below_regrown wc dq osq).mono BC.out.size)
          clear hw7 z0 z1 y0 y1 Q FI
          rcases hv.out with rfl | rfl
          all_goals
            go_wp2_with fail
            go_roundw
            case rel => exact ⟨i + 1, rfl, by omega, B7.out⟩
            case measure => exact MEAS.out
        · have TA := Lib.hid (told_any wr)
          clear be
          go_wp2_with fail
          refine TA.out.mono ?_
          rintro e w3 ⟨rfl, b3⟩
          have O4 := Lib.hid (O3.out.below b3)
          have LE := ow_len O4.out
          rw [hNe.out] at LE
          replace LE := Lib.hid LE
          clear TA b3 O3
          go_wp2_with fail
          refine LE.out.mono ?_
          rintro e w' ⟨rfl, rfl⟩
          clear LE
          go_wp2
          go_ret
          exact ⟨rfl, O4.out.be⟩
theorem walkd {w : World} (v : Value) (l : List Int) (hv : Src w v l) (w' : World) (hw : w' = w) : Calls Try.prog 5 #[v] w' fun e W => e = .returned (.bool true) ∧ Below w'.heap.size w' W := by
  subst hw
  obtain ⟨A, n, c, rfl, h1, h2, R, hb⟩ := hv
  exact walk w' A n c l R (by omega) hb


/-! The row: every input. -/
set_option linter.unusedVariables false
set_option maxRecDepth 100000 in
theorem lifted (os : Os) (started : os.Started) (H : Type) (enc : TypeId × Value → H) :
    ReturnsInHanded {} Try.checked os 5 .any (Rows.tableKeysSpec.pre6 enc Try.prog Try.f5 Rows.tableKeysRow.domain false) (Rows.tableKeysSpec.post enc Try.prog Try.f5 false true false false) := by
  refine returnsInHanded_of_change (C := Try.checked) own started (by kernel_rfl) Try.func5
    (ChangeSpec.witness6 (enc := enc) (C := Try.checked) false ⟨#[], #[.slice none 0 0], []⟩ 8 (by kernel_rfl) (by kernel_rfl) (by kernel_rfl) (by kernel_rfl)) ?_
  intro W base args ds gs before hval0 hW _ _
  have hval : ∀ (j : Nat) t v, Try.f5.params[j]? = some t → args[j]? = some v → Value.okWide Try.prog W .any base t v := hval0
  have hW' := hW
  obtain ⟨p, q, hA0, hV, rfl, hfz, hnd⟩ := hW
  have hA : DataW.TrodAll enc Try.prog W 0 (fun _ => true) true Try.f5.params.toList args.toList ds p := hA0
  rw [Try.params5] at hA hval
  obtain ⟨v0, vs0, d0, ds0, p0, q0, hargs, rfl, rfl, h0, r0⟩ := trodAll_cons hA
  obtain ⟨rfl, rfl, rfl⟩ := trodAll_nil r0
  obtain rfl : args = #[v0] := by cases args; simp_all
  obtain ⟨rfl, rfl⟩ := trodVars_none hV
  obtain ⟨a0, w0⟩ := view_nums (hval 0 44 v0 rfl rfl) h0
  clear hA0 hval0
  simp only [List.append_nil] at hW'
  refine (walkd v0 a0 w0 W rfl).mono fun e W' ⟨he, hb⟩ => ?_
  subst he
  exact ⟨_, rfl, post_below (pa := p0 ++ []) (pv := []) hW' (fun _ _ _ => (trodAll_cons_mk (shut_bool Try.underlying4 _) trodAll_mk0)) (fun sp hsp => (trodAll_cons_mk (Trod_stays laidOut (by kernel_rfl) (of_decide_eq_true (by kernel_rfl)) h0 (fun x hx => hb.same (hW'.lt x (by simp [hx]))) (fun x hx => hsp x (by simp [hx]))) trodAll_mk0)) (fun _ _ => rfl) (by simp)
    hb (ok_one (by kernel_rfl) rfl (okWide_bool_mk Try.underlying4 _))⟩

theorem proved : Rows.TableKeysSaid :=
  OpenClaim.holds_of_wide 5 Try.f5 rfl rfl rfl rfl rfl rfl rfl ⟨rfl, rfl, rfl, rfl, rfl⟩ rfl rfl rfl rfl rfl (by kernel_rfl) Try.func5 (by kernel_rfl)
    (of_decide_eq_true (by kernel_rfl)) (by unfold Func.isWrapper; first | (rw [if_pos (by decide +kernel)]; kernel_rfl) | (rw [if_neg (by decide +kernel)]; exact ⟨rfl, rfl⟩))
    (fun os started H enc _ => lifted os started H enc)
#print axioms proved

end Go.Proofs.Ytiplhdeomlmpkaa.tableKeys
