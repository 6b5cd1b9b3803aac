/- Proved: all of it goes to the only part; shares of twice as much are twice as much, but for two (CashOne), for any whole that may be, any place and any parts that come in. -/
import Derived.Test.YtddlcfefeclioaaCsR
import Derived.Test.YtddlcfefeclioaaCsV
namespace Go.Proofs.Ytddlcfefeclioaa.cashOne
open Go.ChangeShapes Go.WideShapes Go.ChangeAt Go.WideElems Go.RowKit
open Go.Proofs.Ytddlcfefeclioaa.Cs

/-- The only part. -/
def oneF (k i : Nat) : Int := if i = k then 7 else 0
def ones (n k : Nat) : List Int := lst n (oneF k)
theorem zeros_set (n k : Nat) (hk : k < n) : (lst n fun _ => 0).set k 7 = ones n k :=
  lst_set hk (if_pos rfl) fun i _ e => if_neg e
theorem at0_ones {n k i : Nat} (h : i < n) : at0 (ones n k) i = oneF k i := at0_of (lst_get h)
theorem ones_len (n k : Nat) : (ones n k).length = n := lst_len _ _
theorem sm_one (f : Nat → Int) (k : Nat) (v : Int) (hf : ∀ i, f i = if i = k then v else 0) (m : Nat) : sm f m = if k < m then v else 0 := by
  induction m with
  | zero => simp [sm]
  | succ m ih =>
    simp only [sm]
    rw [ih, hf m]
    by_cases e : k < m
    · rw [if_pos e, if_neg (by omega), if_pos (by omega)]; omega
    · rw [if_neg e]
      by_cases e2 : m = k
      · rw [if_pos e2, if_pos (by omega)]; omega
      · rw [if_neg e2, if_neg (by omega)]; omega
theorem at0_ones_all (n k : Nat) (hk : k < n) (i : Nat) : at0 (ones n k) i = if i = k then 7 else 0 := by
  by_cases h : i < n
  · exact at0_ones h
  · rw [if_neg (by omega)]
    unfold at0
    rw [List.getD_eq_getElem?_getD, List.getElem?_eq_none (by rw [ones_len]; omega)]
    rfl
theorem ttl_ones (n k : Nat) (hk : k < n) : ttl (ones n k) = 7 := by
  unfold ttl
  rw [ones_len, sm_one _ k 7 (at0_ones_all n k hk), if_pos hk]
theorem base_ones (all : Int) (n k : Nat) (hk : k < n) (i : Nat) : base all 7 (ones n k) i = if i = k then all else 0 := by
  unfold base
  rw [at0_ones_all n k hk]
  split
  · omega
  · simp
theorem share_ones (all : Int) (n k : Nat) (hk : k < n) (i : Nat) : share all (ones n k) i = if i = k then all else 0 := by
  have h1 : rest all (ones n k) = 0 := by
    unfold rest left
    rw [ttl_ones n k hk, ones_len, sm_one _ k all (base_ones all n k hk), if_pos hk]
    omega
  have h2 : bon 0 (ones n k) i = 0 := if_neg fun x => by have := x.2; omega
  unfold share
  rw [h1, h2, ttl_ones n k hk, base_ones all n k hk]
  omega
theorem may_ones {all : Int} {n k : Nat} (h0 : 0 ≤ all) (h1 : all ≤ 1099511627776) (hk : k < n) (hn : n ≤ 100) : May all (ones n k) :=
  ⟨h0, h1, by rw [ones_len]; omega, by rw [ones_len]; omega, fun p hp => by
    obtain ⟨i, _, rfl⟩ := mem_lst hp
    unfold oneF; split <;> omega, ⟨7, List.mem_of_getElem? (i := k) (by unfold ones; rw [lst_get hk]; simp [oneF]), by omega⟩⟩
theorem ones_I (n k : Nat) : ∀ z ∈ ones n k, I z := fun z hz => by
  obtain ⟨i, _, rfl⟩ := mem_lst hz
  unfold oneF I; split <;> omega
theorem may_twice {all : Int} {ps : List Int} (h0 : 0 ≤ all) (h1 : all ≤ 549755813888) : May all ps ↔ May (2 * all) ps :=
  ⟨fun h => ⟨by omega, by omega, h.n0, h.n1, h.pp, h.one⟩, fun h => ⟨by omega, by omega, h.n0, h.n1, h.pp, h.one⟩⟩
theorem twice {all : Int} {ps : List Int} (h : May all ps) (i : Nat) : 2 * share all ps i - 2 ≤ share (2 * all) ps i ∧ share (2 * all) ps i ≤ 2 * share all ps i + 2 := by
  have ht := h.ttl
  have hp := at0_in h.pp i
  have h1 := bon_two (rest all ps) ps i
  have h2 := bon_two (rest (2 * all) ps) ps i
  unfold share base
  obtain ⟨b1, e1⟩ : ∃ b, b = bon (rest all ps) ps i := ⟨_, rfl⟩
  obtain ⟨b2, e2⟩ : ∃ b, b = bon (rest (2 * all) ps) ps i := ⟨_, rfl⟩
  rw [← e1] at h1 ⊢
  rw [← e2] at h2 ⊢
  rw [Int.mul_assoc]
  obtain ⟨y, hy⟩ : ∃ y, y = all * at0 ps i := ⟨_, rfl⟩
  rw [← hy]
  obtain ⟨T, hT⟩ : ∃ T, T = ttl ps := ⟨_, rfl⟩
  rw [← hT] at ht ⊢
  have d1 := Int.mul_ediv_add_emod y T
  have d2 := Int.mul_ediv_add_emod (2 * y) T
  have m1 := Int.emod_nonneg y (show T ≠ 0 by omega)
  have m2 := Int.emod_lt_of_pos y (show 0 < T by omega)
  have m3 := Int.emod_nonneg (2 * y) (show T ≠ 0 by omega)
  have m4 := Int.emod_lt_of_pos (2 * y) (show 0 < T by omega)
  obtain ⟨q1, hq1⟩ : ∃ q, q = y / T := ⟨_, rfl⟩
  obtain ⟨q2, hq2⟩ : ∃ q, q = 2 * y / T := ⟨_, rfl⟩
  rw [← hq1] at d1 ⊢
  rw [← hq2] at d2 ⊢
  have k1 : 2 * q1 ≤ q2 := by
    have : T * (2 * q1) < T * (q2 + 1) := by rw [Int.mul_add, Int.mul_left_comm]; omega
    have := Int.lt_of_mul_lt_mul_left this (by omega)
    omega
  have k2 : q2 ≤ 2 * q1 + 1 := by
    have : T * q2 < T * (2 * q1 + 2) := by rw [Int.mul_add, Int.mul_left_comm]; omega
    have := Int.lt_of_mul_lt_mul_left this (by omega)
    omega
  omega
theorem place (at_ : Int) (L : Nat) (hL : 0 < L) (hm : L ≤ 500) : ∃ k : Nat, wrap64 ((IntKind.u64.wrap at_).tmod (L : Int)) = (k : Int) ∧ k < L := by
  have h1 := Int.emod_nonneg (IntKind.u64.wrap at_) (show (L : Int) ≠ 0 by omega)
  have h2 := Int.emod_lt_of_pos (IntKind.u64.wrap at_) (show (0 : Int) < L by omega)
  refine ⟨((IntKind.u64.wrap at_) % (L : Int)).toNat, ?_, by omega⟩
  have h0 : 0 ≤ IntKind.u64.wrap at_ := by rw [IntKind.wrap_u64]; omega
  rw [Int.tmod_eq_emod_of_nonneg h0]; unfold wrap64; omega

set_option maxHeartbeats 6400000 in
set_option maxRecDepth 100000 in
theorem walk (all at_ : Int) (A : Option Addr) (n c : Nat) (zs : List Int) (w : World) (R : Ri w w.heap.size A n zs) (hn : n ≤ 9223372036854775807) :
    Calls Try.prog 8 #[.int .i64 all, .int .i64 at_, .slice A n c] w fun e w' => e = .returned (.bool true) ∧ Below w.heap.size w w' := by
  have Q := Lib.hid (told_any w)
  by_cases g3 : all < 0
  · clear R
    go_enter Try.func8, Try.ntmps8
    go_wp2_with fail
    refine Q.out.mono ?_
    rintro e w' ⟨rfl, hb⟩
    go_wp2
    go_ret
    exact ⟨rfl, hb⟩
  by_cases g4 : 549755813888 < all
  · clear R
    go_enter Try.func8, Try.ntmps8
    go_wp2_with fail
    refine Q.out.mono ?_
    rintro e w' ⟨rfl, hb⟩
    go_wp2
    go_ret
    exact ⟨rfl, hb⟩
  by_cases g1 : n < 1
  · clear R
    go_enter Try.func8, Try.ntmps8
    go_wp2_with fail
    refine Q.out.mono ?_
    rintro e w' ⟨rfl, hb⟩
    go_wp2
    go_ret
    exact ⟨rfl, hb⟩
  by_cases g2 : 12 < n
  · clear R
    go_enter Try.func8, Try.ntmps8
    go_wp2_with fail
    refine Q.out.mono ?_
    rintro e w' ⟨rfl, hb⟩
    go_wp2
    go_ret
    exact ⟨rfl, hb⟩
  obtain ⟨i0, hi, hz0, hz1, hz2⟩ := info_parts i64_info
  replace hi := Lib.hid hi
  replace hz0 := Lib.hid hz0
  replace hz1 := Lib.hid hz1
  replace hz2 := Lib.hid hz2
  have hl := Lib.hid R.len
  replace R := Lib.hid R
  obtain ⟨k, hK, hkn⟩ := place at_ n (by omega) (by omega)
  have hm1 : 0 < n := by omega
  go_enter Try.func8, Try.ntmps8
  go_wp2_with (at_make; go_loud (refine wpList_make_full _ rfl _ _ 22 rfl w.heap.size 2 i0 (.int .i64 0) 1 Try.underlying22 hi.out hz0.out hz1.out .i64 .i64 _ _ n rfl rfl rfl rfl ?c1 ?c2 ?c3 ?_))
  case c1 => rw [hz2.out]; omega
  case c2 => unfold maxLen; omega
  intro w2 hown2 hg2
  obtain ⟨g, hge⟩ : ∃ g, g = w.heap.size := ⟨_, rfl⟩
  have O2 : Hid (w2.ownsRow w.heap.size 2 1 (.slice (some ⟨g, 0, none⟩) n n) n (i64s (lst n fun _ => 0))) := by
    have e : (madeCells #[Value.int .i64 0] n).toList = i64s (lst n fun _ => 0) := by
      refine (toList_madeCells_one _ _).trans ?_
      unfold i64s lst
      rw [List.map_map]
      exact (List.eq_replicate_iff.2 ⟨by simp, fun b hb => by simp at hb; exact hb.2.symm⟩).symm
    rw [e] at hown2
    rw [hge]
    exact hown2
  have be2 : Hid (Below w.heap.size w w2) := (Below.refl _ w).grown hg2 (Nat.le_refl _) (fun k hk => by cases hk)
  have hgB : w.heap.size ≤ g := by rw [hge]; exact Nat.le_refl _
  rw [← hge]
  replace hge := Lib.hid hge
  have q2 : w2.frozen? ⟨g, k, none⟩ = false := O2.out.frozenAt k
  have q1 : w2.cell? ⟨g, k, none⟩ = some (.int .i64 0) := own_cell O2.out hkn (lst_get hkn)
  have O3 : Hid ((w2.setCell ⟨g, k, none⟩ (.int .i64 7)).ownsRow w.heap.size 2 1 (.slice (some ⟨g, 0, none⟩) n n) n (i64s (ones n k))) := by
    rw [← zeros_set n k hkn, ← i64s_set]
    exact (O2.out.stored k _).1
  have be3 : Hid (Below w.heap.size w (w2.setCell ⟨g, k, none⟩ (.int .i64 7))) := be2.out.setCell hgB _
  have R3 := Lib.hid (ri_own O3.out (ones_I n k))
  have C := Lib.hid (share_yes all (some ⟨g, 0, none⟩) n n (ones n k) (w2.setCell ⟨g, k, none⟩ (.int .i64 7)) R3.out (may_ones (by omega) (by omega) hkn (by omega)))
  clear hown2 hg2 O2 be2
  go_wp2_with fail
  rw [hK]
  clear hK
  refine C.out.mono ?_
  rintro e w4 ⟨g4, c4, rfl, ho4, b4⟩
  have be4 : Hid (Below w.heap.size w w4) := be3.out.trans (b4.mono be3.out.size)
  rw [ones_len] at ho4 ⊢
  have R4 : Hid (Ri w4 w4.heap.size (some ⟨g4, 0, none⟩) n (lst n (share all (ones n k)))) := ri_own ho4 (share_I (may_ones (by omega) (by omega) hkn (by omega)) _)
  clear b4 ho4 C be3 R3 O3 q1 q2
  have st : Hid (∃ j : Nat, Value.int .i64 0 = .int .i64 (j : Int) ∧ j ≤ n) := ⟨0, rfl, Nat.zero_le _⟩
  go_wp2_with fail
  go_loop [11] (fun i => ∃ j : Nat, i = .int .i64 (j : Int) ∧ j ≤ n) (fun i => n - (intOf i).toNat)
  case atStart => exact st.out
  case round =>
    obtain ⟨j, rfl, hj⟩ := hrel
    by_cases hlt : j < n
    · have q1 := ri_cell R4.out hlt (lst_get hlt)
      rw [share_ones all n k hkn] at q1
      by_cases e : j = k
      · subst e
        rw [if_pos rfl] at q1
        go_wp2
        exact ⟨⟨j + 1, by go_num, hlt⟩, by simp [intOf]; omega⟩
      · rw [if_neg e] at q1
        have e1 : ((j : Int) == (k : Int)) = false := by simpa using (fun h => e (by omega))
        go_wp2
        exact ⟨⟨j + 1, by go_num, hlt⟩, by simp [intOf]; omega⟩
    · have hjn : j = n := by omega
      clear hjn
      have R5 : Hid (Ri w4 w4.heap.size A n zs) := ri_of R.out be4.out
      by_cases hM : May all zs
      · have C1 := Lib.hid (share_yes all A n c zs w4 R5.out hM)
        go_wp2_with fail
        refine C1.out.mono ?_
        rintro e w5 ⟨g5, c5, rfl, ho5, b5⟩
        have be5 : Hid (Below w.heap.size w w5) := be4.out.trans (b5.mono be4.out.size)
        rw [hl.out] at ho5 ⊢
        have R6 : Hid (Ri w5 w5.heap.size (some ⟨g5, 0, none⟩) n (lst n (share all zs))) := ri_own ho5 (share_I hM _)
        have R7 : Hid (Ri w5 w5.heap.size A n zs) := ri_of R5.out b5
        have hM2 := (may_twice (by omega) (by omega)).1 hM
        have C2 := Lib.hid (share_yes (2 * all) A n c zs w5 R7.out hM2)
        clear ho5 b5 C1 R5 R7
        have sI : Hid (∀ i, 0 ≤ share all zs i ∧ share all zs i ≤ 1099511627776001) := share_bound hM
        have tw : Hid (∀ i, 2 * share all zs i - 2 ≤ share (2 * all) zs i ∧ share (2 * all) zs i ≤ 2 * share all zs i + 2) := twice hM
        replace hM := Lib.hid hM
        replace hM2 := Lib.hid hM2
        go_wp2_with fail
        refine C2.out.mono ?_
        rintro e w6 ⟨g6, c6, rfl, ho6, b6⟩
        have be6 : Hid (Below w.heap.size w w6) := be5.out.trans (b6.mono be5.out.size)
        rw [hl.out] at ho6 ⊢
        have R8 : Hid (Ri w6 w6.heap.size (some ⟨g6, 0, none⟩) n (lst n (share (2 * all) zs))) := ri_own ho6 (share_I hM2.out _)
        have R9 : Hid (Ri w6 w6.heap.size (some ⟨g5, 0, none⟩) n (lst n (share all zs))) := ri_of R6.out b6
        clear ho6 b6 C2 R6 be5
        have st2 : Hid (GoAt w6 n (.int .i64 0) w6) := ⟨0, rfl, Nat.zero_le _, Below.refl _ _⟩
        go_wp2_with fail
        go_loopw [16] (fun i wr => GoAt w6 n i wr) (fun i _ => n - (intOf i).toNat)
        case atStart => exact st2.out
        case round =>
          obtain ⟨i, rfl, hi2, hb⟩ := hrel
          replace hb := Lib.hid hb
          by_cases hlt2 : i < n
          · have q1 := ri_cell (ri_of R8.out hb.out) hlt2 (lst_get hlt2)
            have q2 := ri_cell (ri_of R9.out hb.out) hlt2 (lst_get hlt2)
            have t1 := tw.out i
            have s1 := sI.out i
            obtain ⟨x, hx⟩ : ∃ x, x = share all zs i := ⟨_, rfl⟩
            obtain ⟨y, hy⟩ : ∃ y, y = share (2 * all) zs i := ⟨_, rfl⟩
            rw [← hy] at q1 t1
            rw [← hx] at q2 t1 s1
            clear hx hy
            obtain ⟨z, hz⟩ : ∃ z, z = 2 * x := ⟨_, rfl⟩
            obtain ⟨z1, hz1'⟩ : ∃ a, a = z - 2 := ⟨_, rfl⟩
            obtain ⟨z2, hz2'⟩ : ∃ a, a = z + 2 := ⟨_, rfl⟩
            have v1 : IntKind.i64.wrap (2 * x) = z := by rw [hz, IntKind.wrap_i64]; omega
            have v2 : IntKind.i64.wrap (z - 2) = z1 := by rw [hz1', IntKind.wrap_i64]; omega
            have v3 : IntKind.i64.wrap (z + 2) = z2 := by rw [hz2', IntKind.wrap_i64]; omega
            have d1 : decide (y < z1) = false := by simpa using (show z1 ≤ y by omega)
            have d2 : decide (z2 < y) = false := by simpa using (show y ≤ z2 by omega)
            clear hz hz1' hz2' t1 s1
            go_wp2_with fail
            go_quiet (fail)
            have nx : Hid (GoAt w6 n (.int .i64 ((i : Int) + 1)) (wr.drewN nq)) := ⟨i + 1, rfl, hlt2, hb.out.trans (below_drewN wr nq hb.out.size)⟩
            go_wp2
            exact ⟨nx.out, by simp [intOf]; omega⟩
          · go_wp2_with fail
            refine (told_any wr).mono ?_
            rintro e w7 ⟨rfl, b7⟩
            have be7 : Hid (Below w.heap.size w w7) := be6.out.trans ((hb.out.mono be6.out.size).trans (b7.mono (Nat.le_trans be6.out.size hb.out.size)))
            clear b7
            go_wp2
            go_ret
            exact ⟨rfl, be7.out⟩
      · have hM2 : ¬ May (2 * all) zs := fun h => hM ((may_twice (by omega) (by omega)).2 h)
        have C1 := Lib.hid (share_no all A n c zs w4 R5.out hn hM)
        have C2 := Lib.hid (share_no (2 * all) A n c zs w4 R5.out hn hM2)
        clear hM hM2
        go_wp2_with fail
        refine C1.out.mono ?_
        rintro e w' ⟨rfl, rfl⟩
        go_wp2_with fail
        refine C2.out.mono ?_
        rintro e w' ⟨rfl, rfl⟩
        go_wp2_with fail
        go_loop [16] (fun i => i = .int .i64 0) (fun _ => 0)
        case atStart => rfl
        case round =>
          subst hrel
          go_wp2_with fail
          refine (told_any w4).mono ?_
          rintro e w7 ⟨rfl, b7⟩
          have be7 : Hid (Below w.heap.size w w7) := be4.out.trans (b7.mono be4.out.size)
          clear b7
          go_wp2
          go_ret
          exact ⟨rfl, be7.out⟩

theorem walkd (a0 : Int) (_w0 : (Lit.int .i64 a0).wf = true) (a1 : Int) (_w1 : (Lit.int .i64 a1).wf = true) (v2 : Value) (a2 : List Int) {W : World} (w2 : Src W v2 a2) (W' : World) (hW : W' = W) :
    Calls Try.prog 8 #[.int .i64 a0, .int .i64 a1, v2] W' fun e w' => e = .returned (.bool true) ∧ Below W'.heap.size W' w' := by
  subst hW
  obtain ⟨A, n, c, rfl, _, _, R⟩ := w2
  exact walk a0 a1 A n c a2 _ R (by omega)

/-! The row: every input. -/
set_option linter.unusedVariables false
set_option maxRecDepth 100000 in
theorem lifted (os : Os) (started : os.Started) (H : Type) (enc : TypeId × Value → H) :
    ReturnsInHanded {} Try.checked os 8 .any (Rows.cashOneSpec.pre6 enc Try.prog Try.f8 Rows.cashOneRow.domain false) (Rows.cashOneSpec.post enc Try.prog Try.f8 false true false false) := by
  refine returnsInHanded_of_change (C := Try.checked) own started (by kernel_rfl) Try.func8
    (ChangeSpec.witness6 (enc := enc) (C := Try.checked) false ⟨#[], #[.int .i64 0, .int .i64 0, .slice none 0 0], []⟩ 8 (by kernel_rfl) (by kernel_rfl) (by kernel_rfl) (by kernel_rfl)) ?_
  intro W base args ds gs before hval0 hW _ _
  have hval : ∀ (j : Nat) t v, Try.f8.params[j]? = some t → args[j]? = some v → Value.okWide Try.prog W .any base t v := hval0
  have hW' := hW
  obtain ⟨p, q, hA0, hV, rfl, hfz, hnd⟩ := hW
  have hA : DataW.TrodAll enc Try.prog W 0 (fun _ => true) true Try.f8.params.toList args.toList ds p := hA0
  rw [Try.params8] at hA hval
  obtain ⟨v0, vs0, d0, ds0, p0, q0, hargs, rfl, rfl, h0, r0⟩ := trodAll_cons hA
  obtain ⟨v1, vs1, d1, ds1, p1, q1, rfl, rfl, rfl, h1, r1⟩ := trodAll_cons r0
  obtain ⟨v2, vs2, d2, ds2, p2, q2, rfl, rfl, rfl, h2, r2⟩ := trodAll_cons r1
  obtain ⟨rfl, rfl, rfl⟩ := trodAll_nil r2
  obtain rfl : args = #[v0, v1, v2] := by cases args; simp_all
  obtain ⟨rfl, rfl⟩ := trodVars_none hV
  obtain ⟨a0, rfl, rfl, rfl, w0⟩ := open_int Try.underlying2 (hval 0 2 v0 rfl rfl) h0
  obtain ⟨a1, rfl, rfl, rfl, w1⟩ := open_int Try.underlying3 (hval 1 3 v1 rfl rfl) h1
  obtain ⟨a2, w2⟩ := view_ints (hval 2 22 v2 rfl rfl) h2
  clear hA0 hval0
  simp only [List.append_nil] at hW'
  refine (walkd a0 w0 a1 w1 v2 a2 w2 W rfl).mono fun e W' ⟨he, hb⟩ => ?_
  subst he
  exact ⟨_, rfl, post_below (pa := [] ++ ([] ++ (p2 ++ []))) (pv := []) hW' (fun _ _ _ => (trodAll_cons_mk (shut_bool Try.underlying4 _) trodAll_mk0)) (fun sp hsp => (trodAll_cons_mk (shut_int Try.underlying2 w0) (trodAll_cons_mk (shut_int Try.underlying3 w1) (trodAll_cons_mk (Trod_stays laidOut (by kernel_rfl) (of_decide_eq_true (by kernel_rfl)) h2 (fun x hx => hb.same (hW'.lt x (by simp [hx]))) (fun x hx => hsp x (by simp [hx]))) trodAll_mk0)))) (fun _ _ => rfl) (by simp)
    hb (ok_one (by kernel_rfl) rfl (okWide_bool_mk Try.underlying4 _))⟩

theorem proved : Rows.CashOneSaid :=
  OpenClaim.holds_of_wide 8 Try.f8 rfl rfl rfl rfl rfl rfl rfl ⟨rfl, rfl, rfl, rfl, rfl⟩ rfl rfl rfl rfl rfl (by kernel_rfl) Try.func8 (by kernel_rfl)
    (of_decide_eq_true (by kernel_rfl)) (by unfold Func.isWrapper; first | (rw [if_pos (by decide +kernel)]; kernel_rfl) | (rw [if_neg (by decide +kernel)]; exact ⟨rfl, rfl⟩))
    (fun os started H enc _ => lifted os started H enc)
#print axioms proved

end Go.Proofs.Ytddlcfefeclioaa.cashOne
