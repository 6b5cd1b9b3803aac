/- Proved: sums, differences, products, totals are what the document's own functions answer (CashAsks), for any two numbers and any numbers that come in. -/
import Derived.Test.YtddlcfefeclioaaCsO
namespace Go.Proofs.Ytddlcfefeclioaa.cashAsks
open Go.ChangeShapes Go.WideShapes Go.ChangeAt Go.WideElems Go.RowKit
open Go.Proofs.Ytddlcfefeclioaa.Cs

set_option maxHeartbeats 3200000 in
set_option maxRecDepth 100000 in
theorem walk (a b : Int) (ha : I a) (hb : I b) (A : Option Addr) (n c : Nat) (zs : List Int) (w : World) (R : Ri w w.heap.size A n zs) (hn : n ≤ 9223372036854775807) :
    Calls Try.prog 3 #[.int .i64 a, .int .i64 b, .slice A n c] w fun e w' => e = .returned (.bool true) ∧ Below w.heap.size w w' := by
  by_cases h40 : 40 < n
  · have Q := Lib.hid (told_any w)
    clear R ha hb
    go_enter Try.func3, Try.ntmps3
    go_wp2_with fail
    refine Q.out.mono ?_
    rintro e w' ⟨rfl, hb⟩
    go_wp2
    go_ret
    exact ⟨rfl, hb⟩
  have C1 := Lib.hid (fun w => add_any a b ha hb w)
  have C2 := Lib.hid (fun w => radd_any a b ha hb w)
  have C3 := Lib.hid (fun w => sub_any a b ha hb w)
  have C4 := Lib.hid (fun w => rsub_any a b ha hb w)
  have C5 := Lib.hid (fun w => mul_any a b ha hb w)
  have C6 := Lib.hid (fun w => rmul_any a b ha hb w)
  clear ha hb
  replace R := Lib.hid R
  obtain ⟨x1, hx1⟩ : ∃ x, x = a + b := ⟨_, rfl⟩
  obtain ⟨x2, hx2⟩ : ∃ x, x = a - b := ⟨_, rfl⟩
  obtain ⟨x3, hx3⟩ : ∃ x, x = a * b := ⟨_, rfl⟩
  rw [← hx1] at C1 C2
  rw [← hx2] at C3 C4
  rw [← hx3] at C5 C6
  clear hx1 hx2 hx3
  go_enter Try.func3, Try.ntmps3
  go_wp2_with fail
  refine (C1.out _).mono ?_
  rintro e w1 ⟨rfl, b1⟩
  have be1 : Hid (Below w.heap.size w w1) := b1
  clear b1
  go_wp2_with fail
  refine (C2.out _).mono ?_
  rintro e w' ⟨rfl, rfl⟩
  go_wp2_with fail
  refine (C3.out _).mono ?_
  rintro e w2 ⟨rfl, b2⟩
  have be2 : Hid (Below w.heap.size w w2) := be1.out.trans (b2.mono be1.out.size)
  clear b2 be1
  go_wp2_with fail
  refine (C4.out _).mono ?_
  rintro e w' ⟨rfl, rfl⟩
  go_wp2_with fail
  refine (C5.out _).mono ?_
  rintro e w3 ⟨rfl, b3⟩
  have be3 : Hid (Below w.heap.size w w3) := be2.out.trans (b3.mono be2.out.size)
  clear b3 be2
  go_wp2_with fail
  refine (C6.out _).mono ?_
  rintro e w' ⟨rfl, rfl⟩
  clear C1 C2 C3 C4 C5 C6
  have R3 : Hid (Ri w3 w3.heap.size A n zs) := (R.out.below be3.out).mono be3.out.size
  have T1 := Lib.hid (total_any A n c zs w3 R3.out hn)
  go_wp2_with fail
  refine T1.out.mono ?_
  rintro e w4 ⟨rfl, b4⟩
  have be4 : Hid (Below w.heap.size w w4) := be3.out.trans (b4.mono be3.out.size)
  clear b4 be3 T1 R3
  have R4 : Hid (Ri w4 w4.heap.size A n zs) := (R.out.below be4.out).mono be4.out.size
  have T2 := Lib.hid (rtotal_any A n c zs w4 R4.out hn)
  go_wp2_with fail
  refine T2.out.mono ?_
  rintro e w5 ⟨rfl, b5⟩
  have be5 : Hid (Below w.heap.size w w5) := be4.out.trans (b5.mono be4.out.size)
  clear b5 be4 T2 R4
  go_wp2_with fail
  refine (told_any w5).mono ?_
  rintro e w6 ⟨rfl, b6⟩
  have be6 : Hid (Below w.heap.size w w6) := be5.out.trans (b6.mono be5.out.size)
  clear b6
  go_wp2
  go_ret
  exact ⟨rfl, be6.out⟩

theorem walkd (a0 : Int) (w0 : (Lit.int .i64 a0).wf = true) (a1 : Int) (w1 : (Lit.int .i64 a1).wf = true) (v2 : Value) (a2 : List Int) {W : World} (w2 : Src W v2 a2) (W' : World) (hW : W' = W) :
    Calls Try.prog 3 #[.int .i64 a0, .int .i64 a1, v2] W' fun e w' => e = .returned (.bool true) ∧ Below W'.heap.size W' w' := by
  subst hW
  obtain ⟨A, n, c, rfl, _, _, R⟩ := w2
  exact walk a0 a1 (bounds_i64 w0) (bounds_i64 w1) A n c a2 _ R (by omega)

/-! The row: every input. -/
set_option linter.unusedVariables false
set_option maxRecDepth 100000 in
theorem lifted (os : Os) (started : os.Started) (H : Type) (enc : TypeId × Value → H) :
    ReturnsInHanded {} Try.checked os 3 .any (Rows.cashAsksSpec.pre6 enc Try.prog Try.f3 Rows.cashAsksRow.domain false) (Rows.cashAsksSpec.post enc Try.prog Try.f3 false true false false) := by
  refine returnsInHanded_of_change (C := Try.checked) own started (by kernel_rfl) Try.func3
    (ChangeSpec.witness6 (enc := enc) (C := Try.checked) false ⟨#[], #[.int .i64 0, .int .i64 0, .slice none 0 0], []⟩ 8 (by kernel_rfl) (by kernel_rfl) (by kernel_rfl) (by kernel_rfl)) ?_
  intro W base args ds gs before hval0 hW _ _
  have hval : ∀ (j : Nat) t v, Try.f3.params[j]? = some t → args[j]? = some v → Value.okWide Try.prog W .any base t v := hval0
  have hW' := hW
  obtain ⟨p, q, hA0, hV, rfl, hfz, hnd⟩ := hW
  have hA : DataW.TrodAll enc Try.prog W 0 (fun _ => true) true Try.f3.params.toList args.toList ds p := hA0
  rw [Try.params3] at hA hval
  obtain ⟨v0, vs0, d0, ds0, p0, q0, hargs, rfl, rfl, h0, r0⟩ := trodAll_cons hA
  obtain ⟨v1, vs1, d1, ds1, p1, q1, rfl, rfl, rfl, h1, r1⟩ := trodAll_cons r0
  obtain ⟨v2, vs2, d2, ds2, p2, q2, rfl, rfl, rfl, h2, r2⟩ := trodAll_cons r1
  obtain ⟨rfl, rfl, rfl⟩ := trodAll_nil r2
  obtain rfl : args = #[v0, v1, v2] := by cases args; simp_all
  obtain ⟨rfl, rfl⟩ := trodVars_none hV
  obtain ⟨a0, rfl, rfl, rfl, w0⟩ := open_int Try.underlying2 (hval 0 2 v0 rfl rfl) h0
  obtain ⟨a1, rfl, rfl, rfl, w1⟩ := open_int Try.underlying2 (hval 1 2 v1 rfl rfl) h1
  obtain ⟨a2, w2⟩ := view_ints (hval 2 22 v2 rfl rfl) h2
  clear hA0 hval0
  simp only [List.append_nil] at hW'
  refine (walkd a0 w0 a1 w1 v2 a2 w2 W rfl).mono fun e W' ⟨he, hb⟩ => ?_
  subst he
  exact ⟨_, rfl, post_below (pa := [] ++ ([] ++ (p2 ++ []))) (pv := []) hW' (fun _ _ _ => (trodAll_cons_mk (shut_bool Try.underlying4 _) trodAll_mk0)) (fun sp hsp => (trodAll_cons_mk (shut_int Try.underlying2 w0) (trodAll_cons_mk (shut_int Try.underlying2 w1) (trodAll_cons_mk (Trod_stays laidOut (by kernel_rfl) (of_decide_eq_true (by kernel_rfl)) h2 (fun x hx => hb.same (hW'.lt x (by simp [hx]))) (fun x hx => hsp x (by simp [hx]))) trodAll_mk0)))) (fun _ _ => rfl) (by simp)
    hb (ok_one (by kernel_rfl) rfl (okWide_bool_mk Try.underlying4 _))⟩

theorem proved : Rows.CashAsksSaid :=
  OpenClaim.holds_of_wide 3 Try.f3 rfl rfl rfl rfl rfl rfl rfl ⟨rfl, rfl, rfl, rfl, rfl⟩ rfl rfl rfl rfl rfl (by kernel_rfl) Try.func3 (by kernel_rfl)
    (of_decide_eq_true (by kernel_rfl)) (by unfold Func.isWrapper; first | (rw [if_pos (by decide +kernel)]; kernel_rfl) | (rw [if_neg (by decide +kernel)]; exact ⟨rfl, rfl⟩))
    (fun os started H enc _ => lifted os started H enc)
#print axioms proved

end Go.Proofs.Ytddlcfefeclioaa.cashAsks
