/- Proved: a purse that is none refuses all (PurseNobody), for any operation. -/
import Derived.Test.YtchlbkfkecpodaaPuO
import Derived.JoinedRecord
import Derived.HandedShaped
namespace Go.Proofs.Ytchlbkfkecpodaa.purseNobody
set_option maxRecDepth 100000
open Go.ChangeShapes Go.WideShapes Go.ChangeAt Go.WideMaps Go.WideElems Go.RowKit
open Go.Sort (grow)
open Go.Proofs.Ytchlbkfkecpodaa.Pk (Rb adr_block one_at one_free one_set lt_some grown_set grown_trans below_grown grown_refl u8s own_form)
open Go.Proofs.Ytchlbkfkecpodaa.Pu
open Go.Proofs.Ytchlbkfkecpodaa.Wt (Opn mayOp)


theorem bytes_nil (w : World) : Calls Try.prog 39 #[.pointer none] w fun e w' => e = .returned (.slice none 0 0) ∧ w = w' := by
  go_enter Try.func39, Try.ntmps39
  go_wp2
  go_ret
  exact ⟨rfl, rfl⟩
set_option maxHeartbeats 3200000 in
theorem walkd (o : Opn) (W' : World) {w : World} (_hW : W' = w) :
    Calls Try.prog 7 #[opv o] W' fun e w' => e = .returned (.bool true) ∧ Below W'.heap.size W' w' := by
  clear _hW
  obtain ⟨WA, hWA⟩ : ∃ W, W = W'.alloc (.cells #[.int .i64 o.kind, .int .i64 o.book, .int .i64 o.units, .int .i64 o.cust, .int .i64 o.amount] 30) := ⟨_, rfl⟩
  have B0 : Hid (Below W'.heap.size W' WA) := by rw [hWA]; exact (Below.refl _ _).alloc (Nat.le_refl _) _
  have h0 : Hid (WA.heap[W'.heap.size]? = some (.cells #[.int .i64 o.kind, .int .i64 o.book, .int .i64 o.units, .int .i64 o.cust, .int .i64 o.amount] 30 (0, 0))) := by rw [hWA]; exact heap_alloc_new _ _
  have TA := Lib.hid (told_any WA)
  replace hWA := Lib.hid hWA
  have EQ := eq_ent_run
  unfold opv
  go_enter Try.func7, Try.ntmps7
  go_wp2_with fail
  rw [← hWA.out]
  refine TA.out.mono ?_
  rintro e w1 ⟨rfl, b1⟩
  have h1 := (b1.block _ (lt_some h0.out)).trans h0.out
  have c0 : w1.cell? ⟨W'.heap.size, 0, none⟩ = some (.int .i64 o.kind) := one_at (i := 0) h1
  have c1 : w1.cell? ⟨W'.heap.size, 1, none⟩ = some (.int .i64 o.book) := one_at (i := 1) h1
  have c2 : w1.cell? ⟨W'.heap.size, 2, none⟩ = some (.int .i64 o.units) := one_at (i := 2) h1
  have c3 : w1.cell? ⟨W'.heap.size, 3, none⟩ = some (.int .i64 o.cust) := one_at (i := 3) h1
  have c4 : w1.cell? ⟨W'.heap.size, 4, none⟩ = some (.int .i64 o.amount) := one_at (i := 4) h1
  have B1 : Hid (Below W'.heap.size W' w1) := B0.out.trans (b1.mono B0.out.size)
  replace h1 := Lib.hid h1
  have D := Lib.hid (do_nil w1 o)
  clear TA hWA h0 B0 b1
  go_wp2_with fail
  refine D.out.mono ?_
  rintro e w3 ⟨rfl, b3⟩
  have B3 : Hid (Below W'.heap.size W' w3) := B1.out.trans (b3.mono B1.out.size)
  have h3 : Hid (w3.heap[W'.heap.size]? = _) := (b3.block _ (lt_some h1.out)).trans h1.out
  clear D b3 h1 c0 c1 c2 c3 c4 B1
  have c1 : w3.cell? ⟨W'.heap.size, 1, none⟩ = some (.int .i64 o.book) := one_at (i := 1) h3.out
  have EN := entry_nil w3 o.book
  unfold cell ez at EN
  simp only at EN
  replace EN := Lib.hid EN
  go_wp2_with fail
  refine EN.out.mono ?_
  rintro e w4 ⟨rfl, b4⟩
  have B4 : Hid (Below W'.heap.size W' w4) := B3.out.trans (b4.mono B3.out.size)
  have h4 := (b4.block _ (lt_some h3.out)).trans h3.out
  have c3 : w4.cell? ⟨W'.heap.size, 3, none⟩ = some (.int .i64 o.cust) := one_at (i := 3) h4
  have E0 := EQ w4 0 0 0 0 0 0
  rw [decide_eq_true (rfl : (⟨0, 0, 0⟩ : E) = ⟨0, 0, 0⟩)] at E0
  have F1 := fun w => bal_nil w o.cust
  have F2 := fun w => res_nil w
  have F3 := fun w => tak_nil w
  have F4 := fun w => lines_nil w
  have F5 := fun w => bytes_nil w
  have F6 := fun w => copy_nil w
  clear EN b4 c1 B3 EQ h3 h4
  go_wp2_with (first
    | (go_at_call 35; (with_reducible refine (F1 _).mono ?_); rintro e w' ⟨rfl, rfl⟩)
    | (go_at_call 36; (with_reducible refine (F2 _).mono ?_); rintro e w' ⟨rfl, rfl⟩)
    | (go_at_call 37; (with_reducible refine (F3 _).mono ?_); rintro e w' ⟨rfl, rfl⟩)
    | (go_at_call 38; (with_reducible refine (F4 _).mono ?_); rintro e w' ⟨rfl, rfl⟩)
    | (go_at_call 39; (with_reducible refine (F5 _).mono ?_); rintro e w' ⟨rfl, rfl⟩)
    | (go_at_call 32; (with_reducible refine (F6 _).mono ?_); rintro e w' ⟨rfl, rfl⟩))
  go_ret
  exact ⟨rfl, B4.out⟩


/-! The row: every input. -/
set_option linter.unusedVariables false
set_option maxRecDepth 100000 in
theorem lifted (os : Os) (started : os.Started) (H : Type) (enc : TypeId × Value → H) :
    ReturnsInHanded {} Try.checked os 7 .any (Rows.purseNobodySpec.pre6 enc Try.prog Try.f7 Rows.purseNobodyRow.domain false) (Rows.purseNobodySpec.post enc Try.prog Try.f7 false true false false) := by
  refine returnsInHanded_of_change (C := Try.checked) own started (by kernel_rfl) Try.func7
    (ChangeSpec.witness6 (enc := enc) (C := Try.checked) false ⟨#[], #[.agg #[.int .i64 0, .int .i64 0, .int .i64 0, .int .i64 0, .int .i64 0]], []⟩ 8 (by kernel_rfl) (by kernel_rfl) (by kernel_rfl) (by kernel_rfl)) ?_
  intro W base args ds gs before hval0 hW _ _
  have hval : ∀ (j : Nat) t v, Try.f7.params[j]? = some t → args[j]? = some v → Value.okWide Try.prog W .any base t v := hval0
  have hW' := hW
  obtain ⟨p, q, hA0, hV, rfl, hfz, hnd⟩ := hW
  have hA : DataW.TrodAll enc Try.prog W 0 (fun _ => true) true Try.f7.params.toList args.toList ds p := hA0
  rw [Try.params7] at hA hval
  obtain ⟨v0, vs0, d0, ds0, p0, q0, hargs, rfl, rfl, h0, r0⟩ := trodAll_cons hA
  obtain ⟨rfl, rfl, rfl⟩ := trodAll_nil r0
  obtain rfl : args = #[v0] := by cases args; simp_all
  obtain ⟨rfl, rfl⟩ := trodVars_none hV
  obtain ⟨x0, rfl⟩ := view_op (hval 0 30 v0 rfl rfl) h0
  clear hA0 hval0
  simp only [List.append_nil] at hW'
  refine (walkd x0 W rfl).mono fun e W' ⟨he, hb⟩ => ?_
  subst he
  exact ⟨_, rfl, post_below (pa := p0 ++ []) (pv := []) hW' (fun _ _ _ => (trodAll_cons_mk (shut_bool Try.underlying4 _) trodAll_mk0)) (fun sp hsp => (trodAll_cons_mk (Trod_stays laidOut (by kernel_rfl) (of_decide_eq_true (by kernel_rfl)) h0 (fun x hx => hb.same (hW'.lt x (by simp [hx]))) (fun x hx => hsp x (by simp [hx]))) trodAll_mk0)) (fun _ _ => rfl) (by simp)
    hb (ok_one (by kernel_rfl) rfl (okWide_bool_mk Try.underlying4 _))⟩

theorem proved : Rows.PurseNobodySaid :=
  OpenClaim.holds_of_wide 7 Try.f7 rfl rfl rfl rfl rfl rfl rfl ⟨rfl, rfl, rfl, rfl, rfl⟩ rfl rfl rfl rfl rfl (by kernel_rfl) Try.func7 (by kernel_rfl)
    (of_decide_eq_true (by kernel_rfl)) (by unfold Func.isWrapper; first | (rw [if_pos (by decide +kernel)]; kernel_rfl) | (rw [if_neg (by decide +kernel)]; exact ⟨rfl, rfl⟩))
    (fun os started H enc _ => lifted os started H enc)
#print axioms proved

end Go.Proofs.Ytchlbkfkecpodaa.purseNobody
