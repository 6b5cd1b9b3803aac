/- Proved: no more than so many messages are on their way, and what is dropped makes room (NetFull), for any two numbers. -/
import Derived.Test.YtenlblembdnniaaNtP
import Derived.Lib.MinMax
import Derived.Deep.CutBlock
import Derived.Deep.CutRange
namespace Go.Proofs.Ytenlblembdnniaa.netFull
open Go.ChangeShapes Go.WideShapes Go.ChangeAt Go.WideMaps Go.WideElems Go.RowKit
open Go.Proofs.Ytenlblembdnniaa.Pk (Rb)
open Go.Proofs.Ytenlblembdnniaa.Nt

/-- Between two rounds. -/
def FuAt (w : World) (q k s : Nat) (i : Value) (wr : World) : Prop := ∃ j : Nat, i = .int .i64 j ∧ j ≤ s ∧ Ln w wr q k [true, true] (rp (min j k)) (fun g => g < w.heap.size)
set_option maxHeartbeats 6400000 in
set_option maxRecDepth 100000 in
theorem walkd (most : Int) (_hi : (Lit.int .i64 most).wf = true) (sent : Int) (_ha : (Lit.int .i64 sent).wf = true) (w : World) :
    Calls Try.prog 6 #[.int .i64 most, .int .i64 sent] w fun e w' => e = .returned (.bool true) ∧ Below w.heap.size w w' := by
  have TA := Lib.hid told_any
  obtain ⟨k, hk⟩ : ∃ k, k = usm most 21 := ⟨_, rfl⟩
  obtain ⟨s, hs⟩ : ∃ s, s = usm sent 41 := ⟨_, rfl⟩
  have k21 : k < 21 := by rw [hk]; exact usm_lt _ (by omega)
  have s41 : s < 41 := by rw [hs]; exact usm_lt _ (by omega)
  have ux : wrap64 ((IntKind.u64.wrap most).tmod 21) = (k : Int) := by rw [hk]; exact usm_slot most (n := 21) (by omega) (by omega)
  have uy : wrap64 ((IntKind.u64.wrap sent).tmod 41) = (s : Int) := by rw [hs]; exact usm_slot sent (n := 41) (by omega) (by omega)
  have NW := Lib.hid (new_yes w 2 k (by decide) (by decide) (by omega))
  replace hk := Lib.hid hk
  replace hs := Lib.hid hs
  go_enter Try.func6, Try.ntmps6
  go_upto_region 2 with fail
  rw [ux, uy]
  clear ux uy
  go_wp2_with fail
  refine NW.out.mono ?_
  rintro e w1 ⟨q, rfl, V1⟩
  have st : Hid (FuAt w q k s (.int .i64 0) w1) := ⟨0, rfl, Nat.zero_le _, by rw [Nat.zero_min]; exact V1⟩
  clear NW V1
  go_wp2_with fail
  go_loopw [9] (fun i wr => FuAt w q k s i wr) (fun i _ => s - (intOf i).toNat)
  case atStart => exact st.out
  case round =>
    clear st
    obtain ⟨j, rfl, hj, V⟩ := hrel
    by_cases hlt : j < s
    · have i1 : (j : Int) < (s : Int) := by omega
      have SE := ln_send V 0 1 (A := none) (n := 0) (c := 0) (T := fun _ => False) Rb.none_ (by decide)
      rw [rp_send, rp_sendC] at SE
      by_cases hk2 : j < k
      · rw [Nat.min_eq_left (by omega), if_pos hk2, if_pos hk2] at SE
        replace SE := Lib.hid SE
        have d1 : decide ((j : Int) < (k : Int)) = true := decide_eq_true (by omega)
        clear V
        go_wp2_with fail
        refine SE.out.mono ?_
        rintro e w2 ⟨rfl, V2⟩
        have nx : Hid (FuAt w q k s (.int .i64 ((j : Int) + 1)) w2) := ⟨j + 1, by simp, by omega, by rw [Nat.min_eq_left (by omega)]; exact V2.1⟩
        clear SE V2
        go_wp2
        exact ⟨nx.out, by simp [intOf]; omega⟩
      · rw [Nat.min_eq_right (by omega), if_neg (Nat.lt_irrefl k), if_neg (Nat.lt_irrefl k)] at SE
        replace SE := Lib.hid SE
        have d1 : decide ((j : Int) < (k : Int)) = false := decide_eq_false (by omega)
        clear V
        go_wp2_with fail
        refine SE.out.mono ?_
        rintro e w2 ⟨rfl, V2⟩
        have nx : Hid (FuAt w q k s (.int .i64 ((j : Int) + 1)) w2) := ⟨j + 1, by simp, by omega, by rw [Nat.min_eq_right (by omega)]; exact V2.1⟩
        clear SE V2
        go_wp2
        exact ⟨nx.out, by simp [intOf]; omega⟩
    · obtain rfl : j = s := by omega
      obtain ⟨l, hl⟩ : ∃ l, l = min j k := ⟨_, rfl⟩
      have em : min (j : Int) (k : Int) = (l : Int) := by omega
      rw [← hl] at V
      have LN := ln_len V
      rw [rp_len] at LN
      replace LN := Lib.hid LN
      have q0 : ((l : Int) != (l : Int)) = false := by simp
      by_cases h0 : l = 0
      · subst h0
        replace V := Lib.hid V
        clear hlt hl
        go_wp2_with fail
        refine LN.out.mono ?_
        rintro e w2 ⟨rfl, rfl⟩
        clear LN
        go_wp2_with fail
        refine (TA.out _).mono ?_
        rintro e w3 ⟨rfl, hb⟩
        have DB := ln_double (V.out.below hb) 0
        rw [show dblC k (rp 0) 0 = 5 from rfl] at DB
        replace DB := Lib.hid DB
        clear hb V TA
        go_wp2_with fail
        refine DB.out.mono ?_
        rintro e w4 ⟨rfl, V4⟩
        have E := Lib.hid V4.1.be
        clear DB V4
        go_wp2
        go_ret
        exact ⟨rfl, E.out⟩
      · have DB := ln_double V 0
        have hl0 : 0 < l := by omega
        rw [rp_dbl hl0, rp_dblC hl0] at DB
        obtain ⟨l2, hl2⟩ : ∃ l2, (if l < k then l + 1 else l) = l2 + 1 := ⟨(if l < k then l + 1 else l) - 1, by split <;> omega⟩
        have hk2 : l2 < k := by
          split at hl2 <;> omega
        rw [hl2] at DB
        have d1 : ((if l < k then (0 : Int) else 4) == 0) = decide ((l : Int) < (k : Int)) := by
          by_cases h : l < k
          · rw [if_pos h, decide_eq_true (by omega)]; rfl
          · rw [if_neg h, decide_eq_false (by omega)]; rfl
        obtain ⟨cd, hcd⟩ : ∃ c : Int, c = (if l < k then (0 : Int) else 4) := ⟨_, rfl⟩
        rw [← hcd] at DB d1
        replace DB := Lib.hid DB
        have q1 : ((l : Int) == 0) = false := by simp; omega
        have q2 : ∀ b : Bool, (b != b) = false := fun b => by simp
        clear V hlt hl hl2 hcd h0
        go_wp2_with fail
        refine LN.out.mono ?_
        rintro e w2 ⟨rfl, rfl⟩
        clear LN
        go_wp2_with fail
        refine DB.out.mono ?_
        rintro e w3 ⟨rfl, V3⟩
        clear DB
        have LN := ln_len V3.1
        rw [rp_len] at LN
        replace V3 := Lib.hid V3.1
        obtain ⟨N, hN⟩ : ∃ N, N = l2 + 1 := ⟨_, rfl⟩
        rw [← hN] at LN V3
        replace LN := Lib.hid LN
        have ew : (N : Int) - 1 = (l2 : Int) := by omega
        have i3 : (N : Int) ≤ 1000 := by omega
        have i4 : (0 : Int) ≤ (N : Int) := by omega
        replace hN := Lib.hid hN
        go_wp2_with fail
        refine LN.out.mono ?_
        rintro e w4 ⟨rfl, rfl⟩
        clear LN
        go_wp2_with fail
        refine (TA.out _).mono ?_
        rintro e w5 ⟨rfl, hb⟩
        have V5 := V3.out.below hb
        rw [hN.out] at V5
        have DR := ln_drop V5 (l2 : Int)
        rw [rp_drop, rp_dropC] at DR
        replace DR := Lib.hid DR
        clear V5 V3 hb TA
        go_wp2_with fail
        refine DR.out.mono ?_
        rintro e w6 ⟨rfl, V6⟩
        have LN := ln_len V6.1
        rw [rp_len] at LN
        replace LN := Lib.hid LN
        have S1 := ln_send V6.1 0 1 (A := none) (n := 0) (c := 0) (T := fun _ => False) Rb.none_ (by decide)
        rw [rp_send, rp_sendC, if_pos hk2, if_pos hk2] at S1
        replace S1 := Lib.hid S1
        clear DR V6
        go_wp2_with fail
        refine LN.out.mono ?_
        rintro e w7 ⟨rfl, rfl⟩
        clear LN
        go_wp2_with fail
        refine S1.out.mono ?_
        rintro e w8 ⟨rfl, V8⟩
        have S2 := ln_send V8.1 2 0 (A := none) (n := 0) (c := 0) (T := fun _ => False) Rb.none_ (by decide)
        rw [show sendC [true, true] k (rp (l2 + 1)) 2 0 = 1 from rfl] at S2
        replace S2 := Lib.hid S2
        clear S1 V8
        go_wp2_with fail
        refine S2.out.mono ?_
        rintro e w9 ⟨rfl, V9⟩
        have S3 := ln_send V9.1 0 (-1) (A := none) (n := 0) (c := 0) (T := fun _ => False) Rb.none_ (by decide)
        rw [show ∀ L, sendC [true, true] k L 0 (-1) = 1 from fun _ => rfl] at S3
        replace S3 := Lib.hid S3
        clear S2 V9
        go_wp2_with fail
        refine S3.out.mono ?_
        rintro e w10 ⟨rfl, V10⟩
        have E := Lib.hid V10.1.be
        clear S3 V10
        go_wp2
        go_ret
        exact ⟨rfl, E.out⟩

/-! The row: every input. -/
set_option linter.unusedVariables false
set_option maxRecDepth 100000 in
theorem lifted (os : Os) (started : os.Started) (H : Type) (enc : TypeId × Value → H) :
    ReturnsInHanded {} Try.checked os 6 .any (Rows.netFullSpec.pre6 enc Try.prog Try.f6 Rows.netFullRow.domain false) (Rows.netFullSpec.post enc Try.prog Try.f6 false true false false) := by
  refine returnsInHanded_of_change (C := Try.checked) own started (by kernel_rfl) Try.func6
    (ChangeSpec.witness6 (enc := enc) (C := Try.checked) false ⟨#[], #[.int .i64 0, .int .i64 0], []⟩ 8 (by kernel_rfl) (by kernel_rfl) (by kernel_rfl) (by kernel_rfl)) ?_
  intro W base args ds gs before hval0 hW _ _
  have hval : ∀ (j : Nat) t v, Try.f6.params[j]? = some t → args[j]? = some v → Value.okWide Try.prog W .any base t v := hval0
  have hW' := hW
  obtain ⟨p, q, hA0, hV, rfl, hfz, hnd⟩ := hW
  have hA : DataW.TrodAll enc Try.prog W 0 (fun _ => true) true Try.f6.params.toList args.toList ds p := hA0
  rw [Try.params6] at hA hval
  obtain ⟨v0, vs0, d0, ds0, p0, q0, hargs, rfl, rfl, h0, r0⟩ := trodAll_cons hA
  obtain ⟨v1, vs1, d1, ds1, p1, q1, rfl, rfl, rfl, h1, r1⟩ := trodAll_cons r0
  obtain ⟨rfl, rfl, rfl⟩ := trodAll_nil r1
  obtain rfl : args = #[v0, v1] := by cases args; simp_all
  obtain ⟨rfl, rfl⟩ := trodVars_none hV
  obtain ⟨a0, rfl, rfl, rfl, w0⟩ := open_int Try.underlying3 (hval 0 3 v0 rfl rfl) h0
  obtain ⟨a1, rfl, rfl, rfl, w1⟩ := open_int Try.underlying3 (hval 1 3 v1 rfl rfl) h1
  clear hA0 hval0
  simp only [List.append_nil] at hW'
  refine (walkd a0 w0 a1 w1 W).mono fun e W' ⟨he, hb⟩ => ?_
  subst he
  exact ⟨_, rfl, post_below (pa := []) (pv := []) hW' (fun _ _ _ => (trodAll_cons_mk (shut_bool Try.underlying4 _) trodAll_mk0)) (fun sp hsp => (trodAll_cons_mk (shut_int Try.underlying3 w0) (trodAll_cons_mk (shut_int Try.underlying3 w1) trodAll_mk0))) (fun _ _ => rfl) (by simp)
    hb (ok_one (by kernel_rfl) rfl (okWide_bool_mk Try.underlying4 _))⟩

theorem proved : Rows.NetFullSaid :=
  OpenClaim.holds_of_wide 6 Try.f6 rfl rfl rfl rfl rfl rfl rfl ⟨rfl, rfl, rfl, rfl, rfl⟩ rfl rfl rfl rfl rfl (by kernel_rfl) Try.func6 (by kernel_rfl)
    (of_decide_eq_true (by kernel_rfl)) (by unfold Func.isWrapper; first | (rw [if_pos (by decide +kernel)]; kernel_rfl) | (rw [if_neg (by decide +kernel)]; exact ⟨rfl, rfl⟩))
    (fun os started H enc _ => lifted os started H enc)
#print axioms proved

end Go.Proofs.Ytenlblembdnniaa.netFull
