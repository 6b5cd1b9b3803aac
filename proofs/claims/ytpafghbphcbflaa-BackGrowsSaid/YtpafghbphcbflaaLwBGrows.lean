/- Proved: one waits longer each time, twice as long at most, up to the bound; due is due from then on (BackGrows), for any three numbers. -/
import Derived.Test.YtpafghbphcbflaaBkO
import Derived.Deep.CutBlock
import Derived.Deep.CutRange
namespace Go.Proofs.Ytpafghbphcbflaa.backGrows
open Go.ChangeShapes Go.WideShapes Go.ChangeAt Go.WideMaps Go.WideElems Go.RowKit
open Go.Proofs.Ytpafghbphcbflaa.Bk

set_option maxHeartbeats 6400000 in
set_option maxRecDepth 100000 in
theorem walkd (tries : Int) (_h1 : (Lit.int .i64 tries).wf = true) (sent : Int) (_h2 : (Lit.int .i64 sent).wf = true) (later : Int) (_h3 : (Lit.int .i64 later).wf = true) (w : World) :
    Calls Try.prog 3 #[.int .i64 tries, .int .i64 sent, .int .i64 later] w fun e w' => e = .returned (.bool true) ∧ Below w.heap.size w w' := by
  have TA := Lib.hid told_any
  obtain ⟨u, hu⟩ : ∃ u, u = usm tries 1000 := ⟨_, rfl⟩
  obtain ⟨s, hs⟩ : ∃ s, s = usm sent 100001 := ⟨_, rfl⟩
  obtain ⟨d, hd⟩ : ∃ d, d = usm later 100 := ⟨_, rfl⟩
  have u1 : u < 1000 := by rw [hu]; exact usm_lt _ (by omega)
  have s1 : s < 100001 := by rw [hs]; exact usm_lt _ (by omega)
  have d1 : d < 100 := by rw [hd]; exact usm_lt _ (by omega)
  have ux : wrap64 ((IntKind.u64.wrap tries).tmod 1000) = (u : Int) := by rw [hu]; exact usm_slot tries (n := 1000) (by omega) (by omega)
  have sx : wrap64 ((IntKind.u64.wrap sent).tmod 100001) = (s : Int) := by rw [hs]; exact usm_slot sent (n := 100001) (by omega) (by omega)
  have dx : wrap64 ((IntKind.u64.wrap later).tmod 100) = (d : Int) := by rw [hd]; exact usm_slot later (n := 100) (by omega) (by omega)
  replace hu := Lib.hid hu
  replace hs := Lib.hid hs
  replace hd := Lib.hid hd
  go_enter Try.func3, Try.ntmps3
  go_upto_region 3 with fail
  rw [sx, dx]
  clear ux sx dx
  obtain ⟨n, hn⟩ : ∃ n : Int, n = 1 + (u : Int) := ⟨_, rfl⟩
  rw [← hn]
  have n1 : 1 ≤ n := by omega
  have n2 : n ≤ 1000 := by omega
  clear hn u1
  have CW := Lib.hid (wait_any n (by unfold I; omega))
  have CX := Lib.hid (wait_any (n + 1) (by unfold I; omega))
  have CM := Lib.hid (most_any n (by unfold I; omega))
  have CN := Lib.hid (most_any (n + 1) (by unfold I; omega))
  have CD := Lib.hid (due_any ((s : Int) + d) s n (by unfold I; omega) (by unfold I; omega) (by unfold I; omega))
  have CE := Lib.hid (due_any ((s : Int) + d + 1) s n (by unfold I; omega) (by unfold I; omega) (by unfold I; omega))
  rw [due_from (by omega) (by omega)] at CD
  rw [Int.add_assoc, due_from (by omega) (by omega), ← Int.add_assoc] at CE
  obtain ⟨g1, g2, g3, g4⟩ := wt_grows n1
  obtain ⟨g5, g6⟩ := mo_within n1 n2
  have g7 : n < 1000 → mo (n + 1) = mo n + wt (n + 1) := fun h => mo_next (by omega) h
  have g8 := mo_bd (n + 1)
  obtain ⟨a, ha⟩ : ∃ a, a = wt n := ⟨_, rfl⟩
  obtain ⟨b, hb⟩ : ∃ b, b = wt (n + 1) := ⟨_, rfl⟩
  obtain ⟨p, hp⟩ : ∃ p, p = mo n := ⟨_, rfl⟩
  obtain ⟨q, hq⟩ : ∃ q, q = mo (n + 1) := ⟨_, rfl⟩
  rw [← ha] at CW CD CE g1 g2 g3
  rw [← hb] at CX g2 g3 g4 g7
  rw [← hp] at CM g5 g6 g7
  rw [← hq] at CN g7 g8
  clear ha hb hp hq
  go_wp2_with fail
  refine (CW.out _).mono ?_
  rintro e w1 ⟨rfl, rfl⟩
  go_wp2_with fail
  refine (CX.out _).mono ?_
  rintro e w1 ⟨rfl, rfl⟩
  go_wp2_with fail
  refine (CM.out _).mono ?_
  rintro e w1 ⟨rfl, rfl⟩
  go_wp2_with fail
  refine (CM.out _).mono ?_
  rintro e w1 ⟨rfl, rfl⟩
  go_upto_region 6 with fail
  go_upto_region 8 with (first
    | (go_at_call 6; ((with_reducible refine (CM.out _).mono ?_) <;> (rintro e w2 ⟨rfl, rfl⟩)))
    | (go_at_call 6; ((with_reducible refine (CN.out _).mono ?_) <;> (rintro e w2 ⟨rfl, rfl⟩))))
  all_goals
    clear CW CX CM CN
    go_wp2_with fail
    refine (TA.out _).mono ?_
    rintro e w3 ⟨rfl, rfl⟩
    go_wp2_with fail
    refine (CD.out _).mono ?_
    rintro e w3 ⟨rfl, rfl⟩
    by_cases c : a ≤ (d : Int)
    · have c2 : a ≤ (d : Int) + 1 := by omega
      rw [decide_eq_true c2] at CE
      go_wp2_with fail
      refine (CD.out _).mono ?_
      rintro e w3 ⟨rfl, rfl⟩
      go_wp2_with fail
      refine (CE.out _).mono ?_
      rintro e w3 ⟨rfl, rfl⟩
      go_wp2
      go_ret
      exact ⟨rfl, Below.refl _ _⟩
    · go_wp2_with fail
      refine (CD.out _).mono ?_
      rintro e w3 ⟨rfl, rfl⟩
      go_wp2
      go_ret
      exact ⟨rfl, Below.refl _ _⟩

/-! The row: every input. -/
set_option linter.unusedVariables false
set_option maxRecDepth 100000 in
theorem lifted (os : Os) (started : os.Started) (H : Type) (enc : TypeId × Value → H) :
    ReturnsInHanded {} Try.checked os 3 .any (Rows.backGrowsSpec.pre6 enc Try.prog Try.f3 Rows.backGrowsRow.domain false) (Rows.backGrowsSpec.post enc Try.prog Try.f3 false true false false) := by
  refine returnsInHanded_of_change (C := Try.checked) own started (by kernel_rfl) Try.func3
    (ChangeSpec.witness6 (enc := enc) (C := Try.checked) false ⟨#[], #[.int .i64 0, .int .i64 0, .int .i64 0], []⟩ 8 (by kernel_rfl) (by kernel_rfl) (by kernel_rfl) (by kernel_rfl)) ?_
  intro W base args ds gs before hval0 hW _ _
  have hval : ∀ (j : Nat) t v, Try.f3.params[j]? = some t → args[j]? = some v → Value.okWide Try.prog W .any base t v := hval0
  have hW' := hW
  obtain ⟨p, q, hA0, hV, rfl, hfz, hnd⟩ := hW
  have hA : DataW.TrodAll enc Try.prog W 0 (fun _ => true) true Try.f3.params.toList args.toList ds p := hA0
  rw [Try.params3] at hA hval
  obtain ⟨v0, vs0, d0, ds0, p0, q0, hargs, rfl, rfl, h0, r0⟩ := trodAll_cons hA
  obtain ⟨v1, vs1, d1, ds1, p1, q1, rfl, rfl, rfl, h1, r1⟩ := trodAll_cons r0
  obtain ⟨v2, vs2, d2, ds2, p2, q2, rfl, rfl, rfl, h2, r2⟩ := trodAll_cons r1
  obtain ⟨rfl, rfl, rfl⟩ := trodAll_nil r2
  obtain rfl : args = #[v0, v1, v2] := by cases args; simp_all
  obtain ⟨rfl, rfl⟩ := trodVars_none hV
  obtain ⟨a0, rfl, rfl, rfl, w0⟩ := open_int Try.underlying3 (hval 0 3 v0 rfl rfl) h0
  obtain ⟨a1, rfl, rfl, rfl, w1⟩ := open_int Try.underlying3 (hval 1 3 v1 rfl rfl) h1
  obtain ⟨a2, rfl, rfl, rfl, w2⟩ := open_int Try.underlying3 (hval 2 3 v2 rfl rfl) h2
  clear hA0 hval0
  simp only [List.append_nil] at hW'
  refine (walkd a0 w0 a1 w1 a2 w2 W).mono fun e W' ⟨he, hb⟩ => ?_
  subst he
  exact ⟨_, rfl, post_below (pa := []) (pv := []) hW' (fun _ _ _ => (trodAll_cons_mk (shut_bool Try.underlying4 _) trodAll_mk0)) (fun sp hsp => (trodAll_cons_mk (shut_int Try.underlying3 w0) (trodAll_cons_mk (shut_int Try.underlying3 w1) (trodAll_cons_mk (shut_int Try.underlying3 w2) trodAll_mk0)))) (fun _ _ => rfl) (by simp)
    hb (ok_one (by kernel_rfl) rfl (okWide_bool_mk Try.underlying4 _))⟩

theorem proved : Rows.BackGrowsSaid :=
  OpenClaim.holds_of_wide 3 Try.f3 rfl rfl rfl rfl rfl rfl rfl ⟨rfl, rfl, rfl, rfl, rfl⟩ rfl rfl rfl rfl rfl (by kernel_rfl) Try.func3 (by kernel_rfl)
    (of_decide_eq_true (by kernel_rfl)) (by unfold Func.isWrapper; first | (rw [if_pos (by decide +kernel)]; kernel_rfl) | (rw [if_neg (by decide +kernel)]; exact ⟨rfl, rfl⟩))
    (fun os started H enc _ => lifted os started H enc)
#print axioms proved
end Go.Proofs.Ytpafghbphcbflaa.backGrows
