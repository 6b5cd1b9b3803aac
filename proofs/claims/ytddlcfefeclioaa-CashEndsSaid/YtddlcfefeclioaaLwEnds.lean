/- Proved: at the ends of the numbers sums, differences and products are told, or refused, just so (CashEnds), for any two of them. -/
import Derived.Test.YtddlcfefeclioaaCsV
import Derived.Deep.DeepCutAuto
import Derived.Deep.CutRange
namespace Go.Proofs.Ytddlcfefeclioaa.cashEnds
open Go.ChangeShapes Go.WideShapes Go.ChangeAt Go.WideElems Go.RowKit
open Go.Proofs.Ytddlcfefeclioaa.Cs

theorem place (at_ : Int) : ∃ k : Nat, wrap64 ((IntKind.u64.wrap at_).tmod 11) = (k : Int) ∧ k < 11 := by
  have h1 := Int.emod_nonneg (IntKind.u64.wrap at_) (show (11 : Int) ≠ 0 by omega)
  have h2 := Int.emod_lt_of_pos (IntKind.u64.wrap at_) (show (0 : Int) < 11 by omega)
  refine ⟨((IntKind.u64.wrap at_) % 11).toNat, ?_, by omega⟩
  have h0 : 0 ≤ IntKind.u64.wrap at_ := by rw [IntKind.wrap_u64]; omega
  rw [Int.tmod_eq_emod_of_nonneg h0]; unfold wrap64; omega
theorem one_of (W : World) (k : Nat) (hk : k < 11) : ∃ x, I x ∧ (W.alloc (.cells #[.int .i64 (-9223372036854775808), .int .i64 (-9223372036854775807), .int .i64 (-4611686018427387904), .int .i64 (-2), .int .i64 (-1), .int .i64 0, .int .i64 1, .int .i64 2, .int .i64 4611686018427387904, .int .i64 9223372036854775806, .int .i64 9223372036854775807] 2)).cell? ⟨W.heap.size, k, none⟩ = some (.int .i64 x) := by
  match k, hk with
  | 0, _ | 1, _ | 2, _ | 3, _ | 4, _ | 5, _ | 6, _ | 7, _ | 8, _ | 9, _ | 10, _ => refine ⟨_, ?_, by rw [World.cell?_alloc_new]; rfl⟩; unfold I; omega
theorem wrap_of {x : Int} (h : I x) : wrap64 x = x := by unfold I at h; unfold wrap64; omega
/-- Is it none of int64? -/
def ov (x : Int) : Bool := !decide (I x)
theorem ov_t {x : Int} (h : ¬ I x) : ov x = true := by simp [ov, h]
theorem ov_f {x : Int} (h : I x) : ov x = false := by simp [ov, h]

set_option maxHeartbeats 16000000 in
set_option maxRecDepth 100000 in
theorem walk (a b : Int) (w : World) :
    Calls Try.prog 7 #[.int .i64 a, .int .i64 b] w fun e w' => e = .returned (.bool true) ∧ Below w.heap.size w w' := by
  obtain ⟨k1, hK1, hk1⟩ := place a
  obtain ⟨k2, hK2, hk2⟩ := place b
  obtain ⟨x, hx, q1⟩ := one_of w k1 hk1
  obtain ⟨y, hy, q2⟩ := one_of w k2 hk2
  have C1 := Lib.hid (fun w => add_any x y hx hy w)
  have C2 := Lib.hid (fun w => sub_any x y hx hy w)
  have C3 := Lib.hid (fun w => mul_any x y hx hy w)
  have C4 := Lib.hid (fun w => mul_any y x hy hx w)
  rw [Int.mul_comm y x] at C4
  unfold NumTo at C1 C2 C3 C4
  obtain ⟨s, hs⟩ : ∃ z, z = okv (x + y) := ⟨_, rfl⟩
  obtain ⟨e1, he1⟩ : ∃ z, z = oke (x + y) := ⟨_, rfl⟩
  obtain ⟨d, hd⟩ : ∃ z, z = okv (x - y) := ⟨_, rfl⟩
  obtain ⟨e2, he2⟩ : ∃ z, z = oke (x - y) := ⟨_, rfl⟩
  obtain ⟨p, hp⟩ : ∃ z, z = okv (x * y) := ⟨_, rfl⟩
  obtain ⟨e3, he3⟩ : ∃ z, z = oke (x * y) := ⟨_, rfl⟩
  rw [← hs, ← he1] at C1
  rw [← hd, ← he2] at C2
  rw [← hp, ← he3] at C3 C4
  replace hs := Lib.hid hs
  replace he1 := Lib.hid he1
  replace hd := Lib.hid hd
  replace he2 := Lib.hid he2
  replace hp := Lib.hid hp
  replace he3 := Lib.hid he3
  unfold I at hx hy
  go_enter Try.func7, Try.ntmps7
  go_wp2_with fail
  rw [hK1, hK2]
  clear hK1 hK2
  go_quiet (fail)
  have be1 : Hid (Below w.heap.size w ((w.alloc (.cells #[.int .i64 (-9223372036854775808), .int .i64 (-9223372036854775807), .int .i64 (-4611686018427387904), .int .i64 (-2), .int .i64 (-1), .int .i64 0, .int .i64 1, .int .i64 2, .int .i64 4611686018427387904, .int .i64 9223372036854775806, .int .i64 9223372036854775807] 2)).drewN nq)) :=
    ((Below.refl _ w).alloc (Nat.le_refl _) _).trans (below_drewN _ nq (by simp))
  clear q1 q2
  generalize World.drewN (w.alloc (.cells #[.int .i64 (-9223372036854775808), .int .i64 (-9223372036854775807), .int .i64 (-4611686018427387904), .int .i64 (-2), .int .i64 (-1), .int .i64 0, .int .i64 1, .int .i64 2, .int .i64 4611686018427387904, .int .i64 9223372036854775806, .int .i64 9223372036854775807] 2)) nq = w1 at be1 ⊢
  go_wp2_with fail
  refine (C1.out _).mono ?_
  rintro e w2 ⟨rfl, b2⟩
  have be2 : Hid (Below w.heap.size w w2) := be1.out.trans (b2.mono be1.out.size)
  clear b2 be1 C1
  go_upto_region 5 with fail

  go_cut [12] from 42 to 59 (fun s12 wx => s12 = .bool (ov (x + y)) ∧ wx = w2)
  case first =>
    by_cases h1 : 0 < x
    · by_cases h2 : 9223372036854775807 - x < y
      · have o := Lib.hid (ov_t (x := x + y) (by unfold I; omega))
        go_wp2_with fail
        go_meet
        exact ⟨by rw [o.out], rfl⟩
      · have o := Lib.hid (ov_f (x := x + y) (by unfold I; omega))
        go_wp2_with fail
        go_meet
        exact ⟨by rw [o.out], rfl⟩
    · by_cases h3 : x < 0
      · by_cases h2 : y < -9223372036854775808 - x
        · have o := Lib.hid (ov_t (x := x + y) (by unfold I; omega))
          go_wp2_with fail
          go_meet
          exact ⟨by rw [o.out], rfl⟩
        · have o := Lib.hid (ov_f (x := x + y) (by unfold I; omega))
          go_wp2_with fail
          go_meet
          exact ⟨by rw [o.out], rfl⟩
      · have o := Lib.hid (ov_f (x := x + y) (by unfold I; omega))
        go_wp2_with fail
        go_meet
        exact ⟨by rw [o.out], rfl⟩
  obtain ⟨rfl, rfl⟩ := hcut
  obtain ⟨w3, hv⟩ : ∃ z, z = wc := ⟨_, rfl⟩
  subst hv
  go_upto_region 6 with fail
  go_cut [12, 85] from 60 to 84 (fun _ sb wx => sb = .bool false ∧ wx = w3)
  case first =>
    obtain ⟨o, ho⟩ : ∃ o, o = ov (x + y) := ⟨_, rfl⟩
    rw [← ho]
    by_cases hI : I (x + y)
    · have e0 : o = false := by rw [ho]; exact ov_f hI
      subst e0
      clear ho
      have f1 : (e1 == 3) = false := by rw [he1.out, oke_in hI]; rfl
      have f2 : (e1 != 0) = false := by rw [he1.out, oke_in hI]; rfl
      have f3 : (s != x + y) = false := by rw [hs.out, okv_in hI]; simp
      unfold I at hI
      go_wp2_with fail
      go_meet
      exact ⟨rfl, rfl⟩
    · have e0 : o = true := by rw [ho]; exact ov_t hI
      subst e0
      clear ho
      have f1 : (e1 == 3) = true := by rw [he1.out, oke_out hI]; rfl
      have f3 : (s != 0) = false := by rw [hs.out, okv_out hI]; rfl
      clear hI
      go_wp2_with fail
      go_meet
      exact ⟨rfl, rfl⟩
  obtain ⟨rfl, rfl⟩ := hcut
  obtain ⟨w4, hv⟩ : ∃ z, z = wc := ⟨_, rfl⟩
  subst hv
  go_wp2_with fail
  refine (C2.out _).mono ?_
  rintro e w5 ⟨rfl, b5⟩
  have be5 : Hid (Below w.heap.size w w5) := be2.out.trans (b5.mono be2.out.size)
  clear b5 be2 C2
  go_upto_region 9 with fail

  go_cut [12] from 92 to 109 (fun s12 wx => s12 = .bool (ov (x - y)) ∧ wx = w5)
  case first =>
    by_cases h1 : y < 0
    · by_cases h2 : 9223372036854775807 + y < x
      · have o := Lib.hid (ov_t (x := x - y) (by unfold I; omega))
        go_wp2_with fail
        go_meet
        exact ⟨by rw [o.out], rfl⟩
      · have o := Lib.hid (ov_f (x := x - y) (by unfold I; omega))
        go_wp2_with fail
        go_meet
        exact ⟨by rw [o.out], rfl⟩
    · by_cases h3 : 0 < y
      · by_cases h2 : x < -9223372036854775808 + y
        · have o := Lib.hid (ov_t (x := x - y) (by unfold I; omega))
          go_wp2_with fail
          go_meet
          exact ⟨by rw [o.out], rfl⟩
        · have o := Lib.hid (ov_f (x := x - y) (by unfold I; omega))
          go_wp2_with fail
          go_meet
          exact ⟨by rw [o.out], rfl⟩
      · have o := Lib.hid (ov_f (x := x - y) (by unfold I; omega))
        go_wp2_with fail
        go_meet
        exact ⟨by rw [o.out], rfl⟩
  obtain ⟨rfl, rfl⟩ := hcut
  obtain ⟨w6, hv⟩ : ∃ z, z = wc := ⟨_, rfl⟩
  subst hv
  go_upto_region 10 with fail
  go_cut [12, 135] from 110 to 134 (fun _ sb wx => sb = .bool false ∧ wx = w6)
  case first =>
    obtain ⟨o, ho⟩ : ∃ o, o = ov (x - y) := ⟨_, rfl⟩
    rw [← ho]
    by_cases hI : I (x - y)
    · have e0 : o = false := by rw [ho]; exact ov_f hI
      subst e0
      clear ho
      have f1 : (e2 == 3) = false := by rw [he2.out, oke_in hI]; rfl
      have f2 : (e2 != 0) = false := by rw [he2.out, oke_in hI]; rfl
      have f3 : (d != x - y) = false := by rw [hd.out, okv_in hI]; simp
      unfold I at hI
      go_wp2_with fail
      go_meet
      exact ⟨rfl, rfl⟩
    · have e0 : o = true := by rw [ho]; exact ov_t hI
      subst e0
      clear ho
      have f1 : (e2 == 3) = true := by rw [he2.out, oke_out hI]; rfl
      have f3 : (d != 0) = false := by rw [hd.out, okv_out hI]; rfl
      clear hI
      go_wp2_with fail
      go_meet
      exact ⟨rfl, rfl⟩
  obtain ⟨rfl, rfl⟩ := hcut
  obtain ⟨w7, hv⟩ : ∃ z, z = wc := ⟨_, rfl⟩
  subst hv
  go_wp2_with fail
  refine (C3.out _).mono ?_
  rintro e w8 ⟨rfl, b8⟩
  have be8 : Hid (Below w.heap.size w w8) := be5.out.trans (b8.mono be5.out.size)
  clear b8 be5 C3
  go_wp2_with fail
  refine (C4.out _).mono ?_
  rintro e w9 ⟨rfl, b9⟩
  have be9 : Hid (Below w.heap.size w w9) := be8.out.trans (b9.mono be8.out.size)
  clear b9 be8 C4
  go_upto_region 14 with fail
  go_cut [162] from 148 to 161 (fun sb wx => sb = .bool false ∧ wx = w9)
  case first =>
    rcases oke_two (x * y) with h | h
    · have f1 : (e3 == 3) = false := by rw [he3.out, h]; rfl
      have f2 : (e3 != 0) = false := by rw [he3.out, h]; rfl
      clear h
      go_wp2_with fail
      go_meet
      exact ⟨rfl, rfl⟩
    · have f1 : (e3 == 3) = true := by rw [he3.out, h]; rfl
      have f2 : (e3 != 0) = true := by rw [he3.out, h]; rfl
      clear h
      go_wp2_with fail
      go_meet
      exact ⟨rfl, rfl⟩
  obtain ⟨rfl, rfl⟩ := hcut
  obtain ⟨w10, hv⟩ : ∃ z, z = wc := ⟨_, rfl⟩
  subst hv
  by_cases x0 : x = 0
  · have f1 : (e3 == 0) = true := by rw [he3.out, x0, Int.zero_mul]; rfl
    have f2 : (p == 0) = true := by rw [hp.out, x0, Int.zero_mul]; rfl
    have f3 : (x == 0) = true := by simpa using x0
    replace x0 := Lib.hid x0
    go_wp2_with fail
    refine (told_any _).mono ?_
    rintro e w11 ⟨rfl, b11⟩
    have be11 : Hid (Below w.heap.size w w11) := be9.out.trans (b11.mono be9.out.size)
    clear b11
    go_wp2
    go_ret
    exact ⟨rfl, be11.out⟩
  have fx0 : (x == 0) = false := by simpa using x0
  by_cases y0 : y = 0
  · have f1 : (e3 == 0) = true := by rw [he3.out, y0, Int.mul_zero]; rfl
    have f2 : (p == 0) = true := by rw [hp.out, y0, Int.mul_zero]; rfl
    have f3 : (y == 0) = true := by simpa using y0
    replace y0 := Lib.hid y0
    replace x0 := Lib.hid x0
    go_wp2_with fail
    refine (told_any _).mono ?_
    rintro e w11 ⟨rfl, b11⟩
    have be11 : Hid (Below w.heap.size w w11) := be9.out.trans (b11.mono be9.out.size)
    clear b11
    go_wp2
    go_ret
    exact ⟨rfl, be11.out⟩
  have fy0 : (y == 0) = false := by simpa using y0
  by_cases x1 : x = 1
  · have hI : I (x * y) := by rw [x1, Int.one_mul]; exact hy
    have f1 : (e3 == 0) = true := by rw [he3.out, oke_in hI]; rfl
    have f2 : (p == wrap64 (x * y)) = true := by rw [hp.out, okv_in hI, wrap_of hI]; simp
    have f3 : (x == 1) = true := by simpa using x1
    replace x1 := Lib.hid x1
    replace x0 := Lib.hid x0
    clear hI
    go_wp2_with fail
    refine (told_any _).mono ?_
    rintro e w11 ⟨rfl, b11⟩
    have be11 : Hid (Below w.heap.size w w11) := be9.out.trans (b11.mono be9.out.size)
    clear b11
    go_wp2
    go_ret
    exact ⟨rfl, be11.out⟩
  have fx1 : (x == 1) = false := by simpa using x1
  by_cases y1 : y = 1
  · have hI : I (x * y) := by rw [y1, Int.mul_one]; exact hx
    have f1 : (e3 == 0) = true := by rw [he3.out, oke_in hI]; rfl
    have f2 : (p == wrap64 (x * y)) = true := by rw [hp.out, okv_in hI, wrap_of hI]; simp
    have f3 : (y == 1) = true := by simpa using y1
    replace y1 := Lib.hid y1
    replace x1 := Lib.hid x1
    replace x0 := Lib.hid x0
    clear hI
    go_wp2_with fail
    refine (told_any _).mono ?_
    rintro e w11 ⟨rfl, b11⟩
    have be11 : Hid (Below w.heap.size w w11) := be9.out.trans (b11.mono be9.out.size)
    clear b11
    go_wp2
    go_ret
    exact ⟨rfl, be11.out⟩
  have fy1 : (y == 1) = false := by simpa using y1
  by_cases xm : x = -1
  · have f3 : (x == -1) = true := by simpa using xm
    by_cases ym : y = -9223372036854775808
    · have hI : ¬ I (x * y) := by rw [xm, ym]; decide
      have f1 : (e3 == 0) = false := by rw [he3.out, oke_out hI]; rfl
      have f2 : (e3 != 0) = true := by rw [he3.out, oke_out hI]; rfl
      have f4 : (y != -9223372036854775808) = false := by simpa using ym
      clear hI
      replace ym := Lib.hid ym
      replace xm := Lib.hid xm
      replace x0 := Lib.hid x0
      replace x1 := Lib.hid x1
      go_wp2_with fail
      refine (told_any _).mono ?_
      rintro e w11 ⟨rfl, b11⟩
      have be11 : Hid (Below w.heap.size w w11) := be9.out.trans (b11.mono be9.out.size)
      clear b11
      go_wp2
      go_ret
      exact ⟨rfl, be11.out⟩
    · have hI : I (x * y) := by rw [xm]; unfold I; omega
      have f1 : (e3 == 0) = true := by rw [he3.out, oke_in hI]; rfl
      have f2 : (e3 != 0) = false := by rw [he3.out, oke_in hI]; rfl
      have f4 : (y != -9223372036854775808) = true := by simpa using ym
      have f5 : (p == -y) = true := by rw [hp.out, okv_in hI, xm]; simp
      have ym2 : -9223372036854775807 ≤ y := by omega
      clear hI
      replace ym := Lib.hid ym
      replace xm := Lib.hid xm
      replace x0 := Lib.hid x0
      replace x1 := Lib.hid x1
      go_wp2_with fail
      refine (told_any _).mono ?_
      rintro e w11 ⟨rfl, b11⟩
      have be11 : Hid (Below w.heap.size w w11) := be9.out.trans (b11.mono be9.out.size)
      clear b11
      go_wp2
      go_ret
      exact ⟨rfl, be11.out⟩
  have fxm : (x == -1) = false := by simpa using xm
  by_cases hI : I (x * y)
  · have f1 : (e3 == 0) = true := by rw [he3.out, oke_in hI]; rfl
    have f2 : (e3 != 0) = false := by rw [he3.out, oke_in hI]; rfl
    have f5 : wrap64 (p.tdiv y) = x := by rw [hp.out, okv_in hI, Int.mul_tdiv_cancel _ y0, wrap_of hx]
    have f6 : wrap64 (p.tmod y) = 0 := by rw [hp.out, okv_in hI, Int.mul_tmod_left]; exact wrap_of (by unfold I; omega)
    have f7 : p.tmod y = 0 := by rw [hp.out, okv_in hI, Int.mul_tmod_left]
    clear hI
    replace xm := Lib.hid xm
    replace x0 := Lib.hid x0
    replace x1 := Lib.hid x1
    go_wp2_with fail
    refine (told_any _).mono ?_
    rintro e w11 ⟨rfl, b11⟩
    have be11 : Hid (Below w.heap.size w w11) := be9.out.trans (b11.mono be9.out.size)
    clear b11
    go_wp2
    go_ret
    exact ⟨rfl, be11.out⟩
  · have f1 : (e3 == 0) = false := by rw [he3.out, oke_out hI]; rfl
    have f2 : (e3 != 0) = true := by rw [he3.out, oke_out hI]; rfl
    clear hI
    replace xm := Lib.hid xm
    replace x0 := Lib.hid x0
    replace x1 := Lib.hid x1
    go_wp2_with fail
    refine (told_any _).mono ?_
    rintro e w11 ⟨rfl, b11⟩
    have be11 : Hid (Below w.heap.size w w11) := be9.out.trans (b11.mono be9.out.size)
    clear b11
    go_wp2
    go_ret
    exact ⟨rfl, be11.out⟩

theorem walkd (a0 : Int) (_w0 : (Lit.int .i64 a0).wf = true) (a1 : Int) (_w1 : (Lit.int .i64 a1).wf = true) (W' : World) :
    Calls Try.prog 7 #[.int .i64 a0, .int .i64 a1] W' fun e w' => e = .returned (.bool true) ∧ Below W'.heap.size W' w' := walk a0 a1 W'

/-! The row: every input. -/
set_option linter.unusedVariables false
set_option maxRecDepth 100000 in
theorem lifted (os : Os) (started : os.Started) (H : Type) (enc : TypeId × Value → H) :
    ReturnsInHanded {} Try.checked os 7 .any (Rows.cashEndsSpec.pre6 enc Try.prog Try.f7 Rows.cashEndsRow.domain false) (Rows.cashEndsSpec.post enc Try.prog Try.f7 false true false false) := by
  refine returnsInHanded_of_change (C := Try.checked) own started (by kernel_rfl) Try.func7
    (ChangeSpec.witness6 (enc := enc) (C := Try.checked) false ⟨#[], #[.int .i64 0, .int .i64 0], []⟩ 8 (by kernel_rfl) (by kernel_rfl) (by kernel_rfl) (by kernel_rfl)) ?_
  intro W base args ds gs before hval0 hW _ _
  have hval : ∀ (j : Nat) t v, Try.f7.params[j]? = some t → args[j]? = some v → Value.okWide Try.prog W .any base t v := hval0
  have hW' := hW
  obtain ⟨p, q, hA0, hV, rfl, hfz, hnd⟩ := hW
  have hA : DataW.TrodAll enc Try.prog W 0 (fun _ => true) true Try.f7.params.toList args.toList ds p := hA0
  rw [Try.params7] at hA hval
  obtain ⟨v0, vs0, d0, ds0, p0, q0, hargs, rfl, rfl, h0, r0⟩ := trodAll_cons hA
  obtain ⟨v1, vs1, d1, ds1, p1, q1, rfl, rfl, rfl, h1, r1⟩ := trodAll_cons r0
  obtain ⟨rfl, rfl, rfl⟩ := trodAll_nil r1
  obtain rfl : args = #[v0, v1] := by cases args; simp_all
  obtain ⟨rfl, rfl⟩ := trodVars_none hV
  obtain ⟨a0, rfl, rfl, rfl, w0⟩ := open_int Try.underlying3 (hval 0 3 v0 rfl rfl) h0
  obtain ⟨a1, rfl, rfl, rfl, w1⟩ := open_int Try.underlying3 (hval 1 3 v1 rfl rfl) h1
  clear hA0 hval0
  simp only [List.append_nil] at hW'
  refine (walkd a0 w0 a1 w1 W).mono fun e W' ⟨he, hb⟩ => ?_
  subst he
  exact ⟨_, rfl, post_below (pa := []) (pv := []) hW' (fun _ _ _ => (trodAll_cons_mk (shut_bool Try.underlying4 _) trodAll_mk0)) (fun sp hsp => (trodAll_cons_mk (shut_int Try.underlying3 w0) (trodAll_cons_mk (shut_int Try.underlying3 w1) trodAll_mk0))) (fun _ _ => rfl) (by simp)
    hb (ok_one (by kernel_rfl) rfl (okWide_bool_mk Try.underlying4 _))⟩

theorem proved : Rows.CashEndsSaid :=
  OpenClaim.holds_of_wide 7 Try.f7 rfl rfl rfl rfl rfl rfl rfl ⟨rfl, rfl, rfl, rfl, rfl⟩ rfl rfl rfl rfl rfl (by kernel_rfl) Try.func7 (by kernel_rfl)
    (of_decide_eq_true (by kernel_rfl)) (by unfold Func.isWrapper; first | (rw [if_pos (by decide +kernel)]; kernel_rfl) | (rw [if_neg (by decide +kernel)]; exact ⟨rfl, rfl⟩))
    (fun os started H enc _ => lifted os started H enc)
#print axioms proved

end Go.Proofs.Ytddlcfefeclioaa.cashEnds
