/- Proved: a wheel that is none has no timers and takes none (WheelNobody), for any numbers. -/
import Derived.Test.YtnfakkinaockiaaWhW
namespace Go.Proofs.Ytnfakkinaockiaa.wheelNobody
open Go.ChangeShapes Go.WideShapes Go.ChangeAt Go.WideMaps Go.WideElems Go.RowKit
open Go.Proofs.Ytnfakkinaockiaa.Wh

set_option maxHeartbeats 3200000 in
set_option maxRecDepth 100000 in
theorem walkd (id : Int) (hi : (Lit.int .i64 id).wf = true) (at_ : Int) (_ha : (Lit.int .i64 at_).wf = true) (w : World) :
    Calls Try.prog 6 #[.int .i64 id, .int .i64 at_] w fun e w' => e = .returned (.bool true) ∧ Below w.heap.size w w' := by
  have TA := Lib.hid told_any
  have hb := Lib.hid (bnd hi)
  have T : Hid (∀ w, Calls Try.prog 23 #[.pointer none] w (TmTo (Tms w [] (fun _ => False)))) := fun w => timers_nil w _
  have A1 := Lib.hid (at_of w (.pointer none) [] _ (T.out w) List.nodup_nil id hb.out)
  clear hi
  go_enter Try.func6, Try.ntmps6
  go_wp2_with fail
  refine A1.out.mono ?_
  rintro e w1 ⟨rfl, b1⟩
  have z1 : tm2 (fnd id ([] : List Tm)) = 0 := rfl
  have z2 : (fnd id ([] : List Tm)).isSome = false := rfl
  rw [z1, z2]
  have A2 := Lib.hid (next_of w1 (.pointer none) [] _ (T.out w1) List.Pairwise.nil)
  replace b1 := Lib.hid b1
  clear A1 z1 z2
  go_wp2_with fail
  refine A2.out.mono ?_
  rintro e w2 ⟨rfl, b2⟩
  have z1 : tm2 ([] : List Tm).head? = 0 := rfl
  have z2 : ([] : List Tm).head?.isSome = false := rfl
  rw [z1, z2]
  have c2 := Lib.hid (b1.out.trans (b2.mono b1.out.size))
  clear A2 z1 z2 b1 b2
  go_wp2_with fail
  refine (TA.out _).mono ?_
  rintro e w3 ⟨rfl, b3⟩
  have c3 := Lib.hid (c2.out.trans (b3.mono c2.out.size))
  have A3 := Lib.hid (set_nil w3 id at_)
  have A4 := Lib.hid (off_nil w3 id hb.out)
  clear c2 b3
  go_wp2_with fail
  refine A3.out.mono ?_
  rintro e w4 ⟨rfl, rfl⟩
  clear A3
  go_wp2_with fail
  refine A4.out.mono ?_
  rintro e w5 ⟨rfl, b5⟩
  have c5 := Lib.hid (c3.out.trans (b5.mono c3.out.size))
  have A5 := Lib.hid (turn_nil w5 at_)
  have A6 := Lib.hid (now_nil w5)
  have A7 := Lib.hid (wlen_of w5 (.pointer none) [] _ (T.out w5))
  clear A4 c3 b5
  go_wp2_with fail
  refine A5.out.mono ?_
  rintro e w6 ⟨rfl, rfl⟩
  clear A5
  go_wp2_with fail
  refine A6.out.mono ?_
  rintro e w7 ⟨rfl, rfl⟩
  clear A6
  go_wp2_with fail
  refine A7.out.mono ?_
  rintro e w8 ⟨rfl, b8⟩
  have c8 := Lib.hid (c5.out.trans (b8.mono c5.out.size))
  have z1 : ((([] : List Tm).length : Nat) : Int) = 0 := rfl
  rw [z1]
  clear A7 b8 z1 c5
  go_wp2
  go_ret
  exact ⟨rfl, c8.out⟩

/-! The row: every input. -/
set_option linter.unusedVariables false
set_option maxRecDepth 100000 in
theorem lifted (os : Os) (started : os.Started) (H : Type) (enc : TypeId × Value → H) :
    ReturnsInHanded {} Try.checked os 6 .any (Rows.wheelNobodySpec.pre6 enc Try.prog Try.f6 Rows.wheelNobodyRow.domain false) (Rows.wheelNobodySpec.post enc Try.prog Try.f6 false true false false) := by
  refine returnsInHanded_of_change (C := Try.checked) own started (by kernel_rfl) Try.func6
    (ChangeSpec.witness6 (enc := enc) (C := Try.checked) false ⟨#[], #[.int .i64 0, .int .i64 0], []⟩ 8 (by kernel_rfl) (by kernel_rfl) (by kernel_rfl) (by kernel_rfl)) ?_
  intro W base args ds gs before hval0 hW _ _
  have hval : ∀ (j : Nat) t v, Try.f6.params[j]? = some t → args[j]? = some v → Value.okWide Try.prog W .any base t v := hval0
  have hW' := hW
  obtain ⟨p, q, hA0, hV, rfl, hfz, hnd⟩ := hW
  have hA : DataW.TrodAll enc Try.prog W 0 (fun _ => true) true Try.f6.params.toList args.toList ds p := hA0
  rw [Try.params6] at hA hval
  obtain ⟨v0, vs0, d0, ds0, p0, q0, hargs, rfl, rfl, h0, r0⟩ := trodAll_cons hA
  obtain ⟨v1, vs1, d1, ds1, p1, q1, rfl, rfl, rfl, h1, r1⟩ := trodAll_cons r0
  obtain ⟨rfl, rfl, rfl⟩ := trodAll_nil r1
  obtain rfl : args = #[v0, v1] := by cases args; simp_all
  obtain ⟨rfl, rfl⟩ := trodVars_none hV
  obtain ⟨a0, rfl, rfl, rfl, w0⟩ := open_int Try.underlying3 (hval 0 3 v0 rfl rfl) h0
  obtain ⟨a1, rfl, rfl, rfl, w1⟩ := open_int Try.underlying3 (hval 1 3 v1 rfl rfl) h1
  clear hA0 hval0
  simp only [List.append_nil] at hW'
  refine (walkd a0 w0 a1 w1 W).mono fun e W' ⟨he, hb⟩ => ?_
  subst he
  exact ⟨_, rfl, post_below (pa := []) (pv := []) hW' (fun _ _ _ => (trodAll_cons_mk (shut_bool Try.underlying4 _) trodAll_mk0)) (fun sp hsp => (trodAll_cons_mk (shut_int Try.underlying3 w0) (trodAll_cons_mk (shut_int Try.underlying3 w1) trodAll_mk0))) (fun _ _ => rfl) (by simp)
    hb (ok_one (by kernel_rfl) rfl (okWide_bool_mk Try.underlying4 _))⟩

theorem proved : Rows.WheelNobodySaid :=
  OpenClaim.holds_of_wide 6 Try.f6 rfl rfl rfl rfl rfl rfl rfl ⟨rfl, rfl, rfl, rfl, rfl⟩ rfl rfl rfl rfl rfl (by kernel_rfl) Try.func6 (by kernel_rfl)
    (of_decide_eq_true (by kernel_rfl)) (by unfold Func.isWrapper; first | (rw [if_pos (by decide +kernel)]; kernel_rfl) | (rw [if_neg (by decide +kernel)]; exact ⟨rfl, rfl⟩))
    (fun os started H enc _ => lifted os started H enc)
#print axioms proved

end Go.Proofs.Ytnfakkinaockiaa.wheelNobody
