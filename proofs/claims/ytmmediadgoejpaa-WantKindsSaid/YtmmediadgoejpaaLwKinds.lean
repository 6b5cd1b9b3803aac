/- Proved: each kind of operation may have just its own parts (WantKinds), for any kind, units, customer and amount. -/
import Derived.Test.YtmmediadgoejpaaWtO
import Derived.Deep.CutRange
namespace Go.Proofs.Ytmmediadgoejpaa.wantKinds
open Go.ChangeShapes Go.WideShapes Go.ChangeAt Go.WideElems Go.RowKit
open Go.Proofs.Ytmmediadgoejpaa.Pk Go.Proofs.Ytmmediadgoejpaa.Wt

theorem md (k m : Int) (h0 : 0 < m) (h1 : m ≤ 4611686018427387904) : 0 ≤ wrap64 ((IntKind.u64.wrap k).tmod m) ∧ wrap64 ((IntKind.u64.wrap k).tmod m) < m := by
  have hw : 0 ≤ IntKind.u64.wrap k := wrap_u64_nonneg k
  rw [Int.tmod_eq_emod_of_nonneg hw]
  have a1 := Int.emod_nonneg (IntKind.u64.wrap k) (b := m) (by omega)
  have a2 := Int.emod_lt_of_pos (IntKind.u64.wrap k) h0
  unfold wrap64
  omega

theorem may_kind {kk uu cc aa : Int} {bu bc ba b1 b4 bp : Bool} (bk : 1 ≤ kk ∧ kk ≤ 6) (mu : 0 ≤ uu ∧ uu < 3) (mc : 0 ≤ cc ∧ cc < 3) (ma : 0 ≤ aa ∧ aa < 3)
    (hbu : (uu == 0) = bu) (hbc : (cc == 0) = bc) (hba : (aa == 0) = ba) (hb1 : (kk == 1) = b1) (hb4 : (kk == 4) = b4) (hbp : decide (0 < uu) = bp) :
    mayOp ⟨kk, 5, uu, cc, aa⟩ = (if b1 = true then bp && (bc && ba) else if b4 = true then bu else bu && (bc && ba)) := by
  rw [mayop_in (o := ⟨kk, 5, uu, cc, aa⟩) bk.1 bk.2 (by show (1 : Int) ≤ 5; omega) (by show (5 : Int) ≤ 200; omega)]
  subst hbu hbc hba hb1 hb4 hbp
  have e1 : inR uu 1 1000 = decide (0 < uu) := by unfold inR; rw [decide_eq_decide]; omega
  have e2 : inR cc 0 3 = true := by unfold inR; rw [decide_eq_true_iff]; omega
  have e3 : inR aa 0 1099511627776 = true := by unfold inR; rw [decide_eq_true_iff]; omega
  simp only [e1, e2, e3, beq_iff_eq]
  by_cases k1 : kk = 1
  · rw [if_pos k1, if_pos k1, if_neg (by omega)]
  · rw [if_neg k1, if_neg k1]
    by_cases k4 : kk = 4
    · rw [if_pos k4, if_pos k4]; simp
    · rw [if_neg k4, if_neg k4]

set_option maxHeartbeats 3200000 in
set_option maxRecDepth 100000 in
theorem walk (k u c a : Int) (w : World) :
    Calls Try.prog 7 #[.int .i64 k, .int .i64 u, .int .i64 c, .int .i64 a] w fun e w' => e = .returned (.bool true) ∧ Below w.heap.size w w' := by
  have mk := md k 6 (by omega) (by omega)
  have mu := md u 3 (by omega) (by omega)
  have mc := md c 3 (by omega) (by omega)
  have ma := md a 3 (by omega) (by omega)
  obtain ⟨kk, hkk⟩ : ∃ z, z = wrap64 (1 + wrap64 ((IntKind.u64.wrap k).tmod 6)) := ⟨_, rfl⟩
  have bk : 1 ≤ kk ∧ kk ≤ 6 := by rw [hkk]; generalize wrap64 ((IntKind.u64.wrap k).tmod 6) = z at mk ⊢; unfold wrap64; omega
  clear mk
  go_enter Try.func7, Try.ntmps7
  go_upto_region 3 with fail
  rw [← hkk]
  clear hkk
  generalize wrap64 ((IntKind.u64.wrap u).tmod 3) = uu at mu ⊢
  generalize wrap64 ((IntKind.u64.wrap c).tmod 3) = cc at mc ⊢
  generalize wrap64 ((IntKind.u64.wrap a).tmod 3) = aa at ma ⊢
  go_upto_region 4 with fail
  obtain ⟨bu, hbu⟩ : ∃ b, (uu == 0) = b := ⟨_, rfl⟩
  obtain ⟨bc, hbc⟩ : ∃ b, (cc == 0) = b := ⟨_, rfl⟩
  obtain ⟨ba, hba⟩ : ∃ b, (aa == 0) = b := ⟨_, rfl⟩
  obtain ⟨b1, hb1⟩ : ∃ b, (kk == 1) = b := ⟨_, rfl⟩
  obtain ⟨b4, hb4⟩ : ∃ b, (kk == 4) = b := ⟨_, rfl⟩
  obtain ⟨bp, hbp⟩ : ∃ b, decide (0 < uu) = b := ⟨_, rfl⟩
  have H := Lib.hid (may_kind bk mu mc ma hbu hbc hba hb1 hb4 hbp)
  go_cut [14] from 39 to 48 (fun s14 wx => s14 = .bool (bu && (bc && ba)) ∧ wx = w.alloc (.cells #[.int .i64 kk, .int .i64 5, .int .i64 uu, .int .i64 cc, .int .i64 aa] 35))
  case first =>
    go_wp2_with fail
    all_goals
      go_meet
      refine ⟨?_, rfl⟩
      show Value.bool _ = Value.bool _
      congr 1
      first
        | (simp [*]; done)
        | (cases bu <;> cases bc <;> cases ba <;> simp_all)
  obtain ⟨rfl, rfl⟩ := hcut
  go_upto_block 0 with fail
  go_cut [14] from 50 to 65 (fun s14 wx => s14 = .bool (mayOp ⟨kk, 5, uu, cc, aa⟩) ∧ wx = w.alloc (.cells #[.int .i64 kk, .int .i64 5, .int .i64 uu, .int .i64 cc, .int .i64 aa] 35))
  case first =>
    go_wp2_with fail
    all_goals
      go_meet
      refine ⟨?_, rfl⟩
      show Value.bool _ = Value.bool _
      congr 1
      rw [H.out]
      simp [*]
  obtain ⟨rfl, rfl⟩ := hcut
  have P : Hid (Calls Try.prog 15 #[.agg #[.int .i64 kk, .int .i64 5, .int .i64 uu, .int .i64 cc, .int .i64 aa]] (w.alloc (.cells #[.int .i64 kk, .int .i64 5, .int .i64 uu, .int .i64 cc, .int .i64 aa] 35)) _) := putop_any _ ⟨kk, 5, uu, cc, aa⟩
  have M : Hid (∀ w, Calls Try.prog 16 #[.agg #[.int .i64 kk, .int .i64 5, .int .i64 uu, .int .i64 cc, .int .i64 aa]] w _) := fun w => mayop_any w ⟨kk, 5, uu, cc, aa⟩
  have L : Hid (mayOp ⟨kk, 5, uu, cc, aa⟩ = true → 0 < (rawOp ⟨kk, 5, uu, cc, aa⟩).length) := fun h => (rawOp_len h).1
  clear H hbu hbc hba hb1 hb4 hbp
  generalize rawOp ⟨kk, 5, uu, cc, aa⟩ = bs at P L
  generalize mayOp ⟨kk, 5, uu, cc, aa⟩ = m at *
  cases m
  all_goals
    go_wp2_with fail
    refine P.out.mono ?_
    rintro e w2 h2
    first
      | (obtain rfl := h2.no rfl
         have hl : (0 : Nat) = 0 := rfl)
      | (obtain ⟨v, rfl, ho⟩ := h2.yes rfl
         obtain ⟨A, c, rfl⟩ := own_form ho
         have hl := L.out (by first | rfl | trivial))
    have be2 : Hid (Below w.heap.size w w2) := ((Below.refl _ w).alloc (Nat.le_refl _) _).trans (h2.be.mono (by simp))
    have hb := stay (lay1 w _) h2.be
    clear h2 P L
    go_wp2_with fail
    refine (told_any w2).mono ?_
    rintro e w3 ⟨rfl, b3⟩
    have be3 : Hid (Below w.heap.size w w3) := be2.out.trans (b3.mono be2.out.size)
    have hb3 := stay hb b3
    have d0 : w3.cell? ⟨w.heap.size, 0, none⟩ = some (.int .i64 kk) := one_at hb3.out
    have d1 : w3.cell? ⟨w.heap.size, 1, none⟩ = some (.int .i64 5) := one_at hb3.out
    have d2 : w3.cell? ⟨w.heap.size, 2, none⟩ = some (.int .i64 uu) := one_at hb3.out
    have d3 : w3.cell? ⟨w.heap.size, 3, none⟩ = some (.int .i64 cc) := one_at hb3.out
    have d4 : w3.cell? ⟨w.heap.size, 4, none⟩ = some (.int .i64 aa) := one_at hb3.out
    clear b3 be2 hb
    go_wp2_with fail
    refine (M.out w3).mono ?_
    rintro e w4 ⟨rfl, b4⟩
    have be4 : Hid (Below w.heap.size w w4) := be3.out.trans (b4.mono be3.out.size)
    clear b4 be3 hb3 d0 d1 d2 d3 d4
    go_wp2_with fail
    go_ret
    exact ⟨rfl, be4.out⟩

/-! The row: every input. -/
set_option linter.unusedVariables false
set_option maxRecDepth 100000 in
theorem lifted (os : Os) (started : os.Started) (H : Type) (enc : TypeId × Value → H) :
    ReturnsInHanded {} Try.checked os 7 .any (Rows.wantKindsSpec.pre6 enc Try.prog Try.f7 Rows.wantKindsRow.domain false) (Rows.wantKindsSpec.post enc Try.prog Try.f7 false true false false) := by
  refine returnsInHanded_of_change (C := Try.checked) own started (by kernel_rfl) Try.func7
    (ChangeSpec.witness6 (enc := enc) (C := Try.checked) false ⟨#[], #[.int .i64 0, .int .i64 0, .int .i64 0, .int .i64 0], []⟩ 8 (by kernel_rfl) (by kernel_rfl) (by kernel_rfl) (by kernel_rfl)) ?_
  intro W base args ds gs before hval0 hW _ _
  have hval : ∀ (j : Nat) t v, Try.f7.params[j]? = some t → args[j]? = some v → Value.okWide Try.prog W .any base t v := hval0
  have hW' := hW
  obtain ⟨p, q, hA0, hV, rfl, hfz, hnd⟩ := hW
  have hA : DataW.TrodAll enc Try.prog W 0 (fun _ => true) true Try.f7.params.toList args.toList ds p := hA0
  rw [Try.params7] at hA hval
  obtain ⟨v0, vs0, d0, ds0, p0, q0, hargs, rfl, rfl, h0, r0⟩ := trodAll_cons hA
  obtain ⟨v1, vs1, d1, ds1, p1, q1, rfl, rfl, rfl, h1, r1⟩ := trodAll_cons r0
  obtain ⟨v2, vs2, d2, ds2, p2, q2, rfl, rfl, rfl, h2, r2⟩ := trodAll_cons r1
  obtain ⟨v3, vs3, d3, ds3, p3, q3, rfl, rfl, rfl, h3, r3⟩ := trodAll_cons r2
  obtain ⟨rfl, rfl, rfl⟩ := trodAll_nil r3
  obtain rfl : args = #[v0, v1, v2, v3] := by cases args; simp_all
  obtain ⟨rfl, rfl⟩ := trodVars_none hV
  obtain ⟨a0, rfl, rfl, rfl, w0⟩ := open_int Try.underlying3 (hval 0 3 v0 rfl rfl) h0
  obtain ⟨a1, rfl, rfl, rfl, w1⟩ := open_int Try.underlying3 (hval 1 3 v1 rfl rfl) h1
  obtain ⟨a2, rfl, rfl, rfl, w2⟩ := open_int Try.underlying3 (hval 2 3 v2 rfl rfl) h2
  obtain ⟨a3, rfl, rfl, rfl, w3⟩ := open_int Try.underlying2 (hval 3 2 v3 rfl rfl) h3
  clear hA0 hval0
  simp only [List.append_nil] at hW'
  refine (walk a0 a1 a2 a3 W).mono fun e W' ⟨he, hb⟩ => ?_
  subst he
  exact ⟨_, rfl, post_below (pa := []) (pv := []) hW' (fun _ _ _ => (trodAll_cons_mk (shut_bool Try.underlying4 _) trodAll_mk0)) (fun sp hsp => (trodAll_cons_mk (shut_int Try.underlying3 w0) (trodAll_cons_mk (shut_int Try.underlying3 w1) (trodAll_cons_mk (shut_int Try.underlying3 w2) (trodAll_cons_mk (shut_int Try.underlying2 w3) trodAll_mk0))))) (fun _ _ => rfl) (by simp)
    hb (ok_one (by kernel_rfl) rfl (okWide_bool_mk Try.underlying4 _))⟩

theorem proved : Rows.WantKindsSaid :=
  OpenClaim.holds_of_wide 7 Try.f7 rfl rfl rfl rfl rfl rfl rfl ⟨rfl, rfl, rfl, rfl, rfl⟩ rfl rfl rfl rfl rfl (by kernel_rfl) Try.func7 (by kernel_rfl)
    (of_decide_eq_true (by kernel_rfl)) (by unfold Func.isWrapper; first | (rw [if_pos (by decide +kernel)]; kernel_rfl) | (rw [if_neg (by decide +kernel)]; exact ⟨rfl, rfl⟩))
    (fun os started H enc _ => lifted os started H enc)
#print axioms proved
end Go.Proofs.Ytmmediadgoejpaa.wantKinds
