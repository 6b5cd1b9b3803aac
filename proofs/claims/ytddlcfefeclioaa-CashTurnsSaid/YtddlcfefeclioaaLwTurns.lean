/- Proved: what was added can be taken away, and the other way; a product is a sum of so many (CashTurns), for any two numbers and any small factor. -/
import Derived.Test.YtddlcfefeclioaaCsO
namespace Go.Proofs.Ytddlcfefeclioaa.cashTurns
open Go.ChangeShapes Go.WideShapes Go.ChangeAt Go.WideElems Go.RowKit
open Go.Proofs.Ytddlcfefeclioaa.Cs

theorem ri_own {w : World} {base n c : Nat} {A : Option Addr} {zs : List Int} (h : w.ownsRow base 2 1 (.slice A n c) n (i64s zs)) (hI : ∀ z ∈ zs, I z) : Ri w w.heap.size A n zs := by
  have hl := h.1
  rw [i64s_len] at hl
  refine ⟨by omega, fun hn => ?_, hI⟩
  rcases h.2 with ⟨_, h0⟩ | ⟨g, cap, cur, hv, hb, hh, _⟩
  · omega
  · have hA : A = some ⟨g, 0, none⟩ := by injection hv
    subst hA
    refine ⟨_, rfl, lt_some hh, fun j z hj => ?_⟩
    exact h.cells (g := g) rfl j _ (i64s_get hj)
theorem own_form {w : World} {base : Nat} {n : Nat} {e : TypeId} {v : Value} {xs : List Value} (h : w.ownsRow base e 1 v n xs) : ∃ A c, v = .slice A n c := by
  rcases h.2 with ⟨rfl, rfl⟩ | ⟨g, cap, cur, rfl, _⟩
  · exact ⟨_, _, rfl⟩
  · exact ⟨_, _, rfl⟩
theorem small (n : Int) : ∃ k : Nat, wrap64 ((IntKind.u64.wrap n).tmod 20) = (k : Int) ∧ (IntKind.u64.wrap n).tmod 20 = (k : Int) ∧ k < 20 := by
  have h1 := Int.emod_nonneg (IntKind.u64.wrap n) (show (20 : Int) ≠ 0 by omega)
  have h2 := Int.emod_lt_of_pos (IntKind.u64.wrap n) (show (0 : Int) < 20 by omega)
  have h0 : 0 ≤ IntKind.u64.wrap n := by rw [IntKind.wrap_u64]; omega
  have e : (IntKind.u64.wrap n).tmod 20 = (IntKind.u64.wrap n) % 20 := Int.tmod_eq_emod_of_nonneg h0
  refine ⟨((IntKind.u64.wrap n) % 20).toNat, ?_, ?_, by omega⟩
  · rw [e]; unfold wrap64; omega
  · rw [e]; omega
def LAt (w : World) (a : Int) (m : Nat) (v i : Value) (wr : World) : Prop :=
  ∃ k : Nat, i = .int .i64 k ∧ k ≤ m ∧ wr.ownsRow w.heap.size 2 1 v k (i64s (List.replicate k a)) ∧ Below w.heap.size w wr

set_option maxHeartbeats 8000000 in
set_option maxRecDepth 100000 in
theorem walk (a b n : Int) (ha : I a) (hb : I b) (w : World) :
    Calls Try.prog 4 #[.int .i64 a, .int .i64 b, .int .i64 n] w fun e w' => e = .returned (.bool true) ∧ Below w.heap.size w w' := by
  obtain ⟨i0, hi, hz0, hz1, hz2⟩ := info_parts i64_info
  replace hi := Lib.hid hi
  replace hz0 := Lib.hid hz0
  replace hz1 := Lib.hid hz1
  replace hz2 := Lib.hid hz2
  have C1 := Lib.hid (fun w => add_any a b ha hb w)
  have TT : Hid (∀ k : Nat, totv (List.replicate k a) = okv (a * k) ∧ tote (List.replicate k a) = oke (a * k)) := fun k => by
    have h := tot_same a k
    rw [Int.mul_comm (k : Int) a] at h
    by_cases hI : I (a * k)
    · rw [if_pos hI] at h; rw [totv_of h, tote_of h, okv_in hI, oke_in hI]; exact ⟨rfl, rfl⟩
    · rw [if_neg hI] at h; rw [totv_none h, tote_none h, okv_out hI, oke_out hI]; exact ⟨rfl, rfl⟩
  have CM : Hid (∀ (k : Nat) (w : World), k < 20 → Calls Try.prog 14 #[.int .i64 a, .int .i64 k] w (NumTo (a * k) w)) := fun k w hk => mul_any a k ha (by unfold I; omega) w
  obtain ⟨m, hK, hK2, hm⟩ := small n
  by_cases hI : I (a + b)
  · have C2 := Lib.hid (fun w => sub_any (a + b) b hI hb w)
    have C3 := Lib.hid (fun w => add_any b a hb ha w)
    rw [show a + b - b = a by omega] at C2
    rw [Int.add_comm b a] at C3
    unfold NumTo at C1 C2 C3
    rw [okv_in hI, oke_in hI] at C1 C3
    rw [okv_in ha, oke_in ha] at C2
    obtain ⟨s, hs⟩ : ∃ s, s = a + b := ⟨_, rfl⟩
    rw [← hs] at C1 C2 C3
    clear hs hI hb
    replace ha := Lib.hid ha
    go_enter Try.func4, Try.ntmps4
    go_wp2_with fail
    refine (C1.out _).mono ?_
    rintro e w1 ⟨rfl, b1⟩
    have be1 : Hid (Below w.heap.size w w1) := b1
    clear b1
    go_wp2_with fail
    refine (C2.out _).mono ?_
    rintro e w2 ⟨rfl, b2⟩
    have be2 : Hid (Below w.heap.size w w2) := be1.out.trans (b2.mono be1.out.size)
    clear b2 be1
    go_wp2_with fail
    refine (C3.out _).mono ?_
    rintro e w3 ⟨rfl, b3⟩
    have be3 : Hid (Below w.heap.size w w3) := be2.out.trans (b3.mono be2.out.size)
    clear b3 be2 C1 C2 C3

    have st : Hid (LAt w a m (.slice none 0 0) (.int .i64 0) w3) := ⟨0, rfl, Nat.zero_le _, World.ownsRow_nil _ _ _ _, be3.out⟩
    go_wp2_with fail
    clear hK hK2
    go_loopw [14, 15] (fun v i wr => LAt w a m v i wr) (fun _ i _ => m - (intOf i).toNat)
    case atStart => exact st.out
    case round =>
      obtain ⟨k, rfl, hk, ho, hb⟩ := hrel
      replace hb := Lib.hid hb
      by_cases hlt : k < m
      · go_wp2_with (at_builtin; go_loud (refine wpList_append_own _ rfl (.tmp 74) (.tmp 76) 22 rfl w.heap.size 2 i0 (.int .i64 0) 1 8 Try.underlying22 hi.out hz0.out hz1.out hz2.out rfl (by decide) _ k (i64s (List.replicate k a)) rfl (ho.alloc _) ⟨wr.heap.size, 0, none⟩ 1 1 [.int .i64 a] rfl rfl ?c1 ?c2 ?c3 ?c4 ?c5 ?_))
        case c1 =>
          intro j u hj
          match j, hj with
          | 0, hj => simp at hj; subst hj; simp [Addr.add]
        case c2 => intro u hu; simp at hu; subst hu; rfl
        case c3 => unfold maxLen; omega
        case c4 => omega
        case c5 => have := hb.out.size; simp; omega
        intro v' w1 ho1 hg1 _
        have nx : Hid (LAt w a m v' (.int .i64 ((k : Int) + 1)) w1) := by
          refine ⟨k + 1, rfl, hlt, ?_, (hb.out.alloc hb.out.size _).grown hg1 (by have := hb.out.size; simp; omega) (fun g hg => ?_)⟩
          · rw [List.replicate_succ', i64s_app]
            exact ho1
          · rcases ho.2 with ⟨rfl, _⟩ | ⟨g2, cap, cur, rfl, hB, _⟩
            · cases hg
            · simp [Value.ownBlock] at hg; omega
        clear ho1 hg1 ho
        go_wp2
        go_roundw
        case rel => exact nx.out
        case measure => simp [intOf]; omega
      · obtain rfl : k = m := by omega
        obtain ⟨A, c, rfl⟩ := own_form ho
        have R : Hid (Ri wr wr.heap.size A k (List.replicate k a)) := ri_own ho (fun z hz => by rw [List.mem_replicate] at hz; rw [hz.2]; exact ha.out)
        have T := Lib.hid (total_any A k c _ wr R.out (by omega))
        unfold TotTo at T
        rw [(TT.out k).1, (TT.out k).2] at T
        have CM2 := Lib.hid (fun w => CM.out k w hm)
        obtain ⟨p, hp⟩ : ∃ p, p = a * (k : Int) := ⟨_, rfl⟩
        rw [← hp] at T CM2
        clear hp ho R TT CM
        go_wp2_with fail
        refine T.out.mono ?_
        rintro e w5 ⟨rfl, b5⟩
        have be5 : Hid (Below w.heap.size w w5) := hb.out.trans (b5.mono hb.out.size)
        clear b5 T
        go_wp2_with fail
        refine (CM2.out _).mono ?_
        rintro e w6 ⟨rfl, b6⟩
        have be6 : Hid (Below w.heap.size w w6) := be5.out.trans (b6.mono be5.out.size)
        clear b6 be5 CM2
        go_wp2_with fail
        refine (told_any w6).mono ?_
        rintro e w7 ⟨rfl, b7⟩
        have be7 : Hid (Below w.heap.size w w7) := be6.out.trans (b7.mono be6.out.size)
        clear b7 be6
        go_wp2
        go_ret
        exact ⟨rfl, be7.out⟩
  by_cases hs : 0 ≤ a
  · have hs2 : 0 ≤ b := by unfold I at *; omega
    unfold NumTo at C1
    rw [okv_out hI, oke_out hI] at C1
    replace ha := Lib.hid ha
    clear hI hb
    go_enter Try.func4, Try.ntmps4
    go_wp2_with fail
    refine (C1.out _).mono ?_
    rintro e w1 ⟨rfl, b1⟩
    have be1 : Hid (Below w.heap.size w w1) := b1
    clear b1 C1

    have st : Hid (LAt w a m (.slice none 0 0) (.int .i64 0) w1) := ⟨0, rfl, Nat.zero_le _, World.ownsRow_nil _ _ _ _, be1.out⟩
    go_wp2_with fail
    clear hK hK2
    go_loopw [14, 15] (fun v i wr => LAt w a m v i wr) (fun _ i _ => m - (intOf i).toNat)
    case atStart => exact st.out
    case round =>
      obtain ⟨k, rfl, hk, ho, hb⟩ := hrel
      replace hb := Lib.hid hb
      by_cases hlt : k < m
      · go_wp2_with (at_builtin; go_loud (refine wpList_append_own _ rfl (.tmp 74) (.tmp 76) 22 rfl w.heap.size 2 i0 (.int .i64 0) 1 8 Try.underlying22 hi.out hz0.out hz1.out hz2.out rfl (by decide) _ k (i64s (List.replicate k a)) rfl (ho.alloc _) ⟨wr.heap.size, 0, none⟩ 1 1 [.int .i64 a] rfl rfl ?c1 ?c2 ?c3 ?c4 ?c5 ?_))
        case c1 =>
          intro j u hj
          match j, hj with
          | 0, hj => simp at hj; subst hj; simp [Addr.add]
        case c2 => intro u hu; simp at hu; subst hu; rfl
        case c3 => unfold maxLen; omega
        case c4 => omega
        case c5 => have := hb.out.size; simp; omega
        intro v' w1 ho1 hg1 _
        have nx : Hid (LAt w a m v' (.int .i64 ((k : Int) + 1)) w1) := by
          refine ⟨k + 1, rfl, hlt, ?_, (hb.out.alloc hb.out.size _).grown hg1 (by have := hb.out.size; simp; omega) (fun g hg => ?_)⟩
          · rw [List.replicate_succ', i64s_app]
            exact ho1
          · rcases ho.2 with ⟨rfl, _⟩ | ⟨g2, cap, cur, rfl, hB, _⟩
            · cases hg
            · simp [Value.ownBlock] at hg; omega
        clear ho1 hg1 ho
        go_wp2
        go_roundw
        case rel => exact nx.out
        case measure => simp [intOf]; omega
      · obtain rfl : k = m := by omega
        obtain ⟨A, c, rfl⟩ := own_form ho
        have R : Hid (Ri wr wr.heap.size A k (List.replicate k a)) := ri_own ho (fun z hz => by rw [List.mem_replicate] at hz; rw [hz.2]; exact ha.out)
        have T := Lib.hid (total_any A k c _ wr R.out (by omega))
        unfold TotTo at T
        rw [(TT.out k).1, (TT.out k).2] at T
        have CM2 := Lib.hid (fun w => CM.out k w hm)
        obtain ⟨p, hp⟩ : ∃ p, p = a * (k : Int) := ⟨_, rfl⟩
        rw [← hp] at T CM2
        clear hp ho R TT CM
        go_wp2_with fail
        refine T.out.mono ?_
        rintro e w5 ⟨rfl, b5⟩
        have be5 : Hid (Below w.heap.size w w5) := hb.out.trans (b5.mono hb.out.size)
        clear b5 T
        go_wp2_with fail
        refine (CM2.out _).mono ?_
        rintro e w6 ⟨rfl, b6⟩
        have be6 : Hid (Below w.heap.size w w6) := be5.out.trans (b6.mono be5.out.size)
        clear b6 be5 CM2
        go_wp2_with fail
        refine (told_any w6).mono ?_
        rintro e w7 ⟨rfl, b7⟩
        have be7 : Hid (Below w.heap.size w w7) := be6.out.trans (b7.mono be6.out.size)
        clear b7 be6
        go_wp2
        go_ret
        exact ⟨rfl, be7.out⟩
  · have hs2 : b < 0 := by unfold I at *; omega
    have hs3 : a < 0 := by omega
    have hs4 : decide (0 ≤ a) = false := by simpa using hs
    have hs5 : decide (0 ≤ b) = false := by simpa using hs2
    unfold NumTo at C1
    rw [okv_out hI, oke_out hI] at C1
    replace ha := Lib.hid ha
    clear hI hb hs
    go_enter Try.func4, Try.ntmps4
    go_wp2_with fail
    refine (C1.out _).mono ?_
    rintro e w1 ⟨rfl, b1⟩
    have be1 : Hid (Below w.heap.size w w1) := b1
    clear b1 C1

    have st : Hid (LAt w a m (.slice none 0 0) (.int .i64 0) w1) := ⟨0, rfl, Nat.zero_le _, World.ownsRow_nil _ _ _ _, be1.out⟩
    go_wp2_with fail
    clear hK hK2
    go_loopw [14, 15] (fun v i wr => LAt w a m v i wr) (fun _ i _ => m - (intOf i).toNat)
    case atStart => exact st.out
    case round =>
      obtain ⟨k, rfl, hk, ho, hb⟩ := hrel
      replace hb := Lib.hid hb
      by_cases hlt : k < m
      · go_wp2_with (at_builtin; go_loud (refine wpList_append_own _ rfl (.tmp 74) (.tmp 76) 22 rfl w.heap.size 2 i0 (.int .i64 0) 1 8 Try.underlying22 hi.out hz0.out hz1.out hz2.out rfl (by decide) _ k (i64s (List.replicate k a)) rfl (ho.alloc _) ⟨wr.heap.size, 0, none⟩ 1 1 [.int .i64 a] rfl rfl ?c1 ?c2 ?c3 ?c4 ?c5 ?_))
        case c1 =>
          intro j u hj
          match j, hj with
          | 0, hj => simp at hj; subst hj; simp [Addr.add]
        case c2 => intro u hu; simp at hu; subst hu; rfl
        case c3 => unfold maxLen; omega
        case c4 => omega
        case c5 => have := hb.out.size; simp; omega
        intro v' w1 ho1 hg1 _
        have nx : Hid (LAt w a m v' (.int .i64 ((k : Int) + 1)) w1) := by
          refine ⟨k + 1, rfl, hlt, ?_, (hb.out.alloc hb.out.size _).grown hg1 (by have := hb.out.size; simp; omega) (fun g hg => ?_)⟩
          · rw [List.replicate_succ', i64s_app]
            exact ho1
          · rcases ho.2 with ⟨rfl, _⟩ | ⟨g2, cap, cur, rfl, hB, _⟩
            · cases hg
            · simp [Value.ownBlock] at hg; omega
        clear ho1 hg1 ho
        go_wp2
        go_roundw
        case rel => exact nx.out
        case measure => simp [intOf]; omega
      · obtain rfl : k = m := by omega
        obtain ⟨A, c, rfl⟩ := own_form ho
        have R : Hid (Ri wr wr.heap.size A k (List.replicate k a)) := ri_own ho (fun z hz => by rw [List.mem_replicate] at hz; rw [hz.2]; exact ha.out)
        have T := Lib.hid (total_any A k c _ wr R.out (by omega))
        unfold TotTo at T
        rw [(TT.out k).1, (TT.out k).2] at T
        have CM2 := Lib.hid (fun w => CM.out k w hm)
        obtain ⟨p, hp⟩ : ∃ p, p = a * (k : Int) := ⟨_, rfl⟩
        rw [← hp] at T CM2
        clear hp ho R TT CM
        go_wp2_with fail
        refine T.out.mono ?_
        rintro e w5 ⟨rfl, b5⟩
        have be5 : Hid (Below w.heap.size w w5) := hb.out.trans (b5.mono hb.out.size)
        clear b5 T
        go_wp2_with fail
        refine (CM2.out _).mono ?_
        rintro e w6 ⟨rfl, b6⟩
        have be6 : Hid (Below w.heap.size w w6) := be5.out.trans (b6.mono be5.out.size)
        clear b6 be5 CM2
        go_wp2_with fail
        refine (told_any w6).mono ?_
        rintro e w7 ⟨rfl, b7⟩
        have be7 : Hid (Below w.heap.size w w7) := be6.out.trans (b7.mono be6.out.size)
        clear b7 be6
        go_wp2
        go_ret
        exact ⟨rfl, be7.out⟩

theorem walkd (a0 : Int) (w0 : (Lit.int .i64 a0).wf = true) (a1 : Int) (w1 : (Lit.int .i64 a1).wf = true) (a2 : Int) (_w2 : (Lit.int .i64 a2).wf = true) (W' : World)  :
    Calls Try.prog 4 #[.int .i64 a0, .int .i64 a1, .int .i64 a2] W' fun e w' => e = .returned (.bool true) ∧ Below W'.heap.size W' w' := walk a0 a1 a2 (bounds_i64 w0) (bounds_i64 w1) W'

/-! The row: every input. -/
set_option linter.unusedVariables false
set_option maxRecDepth 100000 in
theorem lifted (os : Os) (started : os.Started) (H : Type) (enc : TypeId × Value → H) :
    ReturnsInHanded {} Try.checked os 4 .any (Rows.cashTurnsSpec.pre6 enc Try.prog Try.f4 Rows.cashTurnsRow.domain false) (Rows.cashTurnsSpec.post enc Try.prog Try.f4 false true false false) := by
  refine returnsInHanded_of_change (C := Try.checked) own started (by kernel_rfl) Try.func4
    (ChangeSpec.witness6 (enc := enc) (C := Try.checked) false ⟨#[], #[.int .i64 0, .int .i64 0, .int .i64 0], []⟩ 8 (by kernel_rfl) (by kernel_rfl) (by kernel_rfl) (by kernel_rfl)) ?_
  intro W base args ds gs before hval0 hW _ _
  have hval : ∀ (j : Nat) t v, Try.f4.params[j]? = some t → args[j]? = some v → Value.okWide Try.prog W .any base t v := hval0
  have hW' := hW
  obtain ⟨p, q, hA0, hV, rfl, hfz, hnd⟩ := hW
  have hA : DataW.TrodAll enc Try.prog W 0 (fun _ => true) true Try.f4.params.toList args.toList ds p := hA0
  rw [Try.params4] at hA hval
  obtain ⟨v0, vs0, d0, ds0, p0, q0, hargs, rfl, rfl, h0, r0⟩ := trodAll_cons hA
  obtain ⟨v1, vs1, d1, ds1, p1, q1, rfl, rfl, rfl, h1, r1⟩ := trodAll_cons r0
  obtain ⟨v2, vs2, d2, ds2, p2, q2, rfl, rfl, rfl, h2, r2⟩ := trodAll_cons r1
  obtain ⟨rfl, rfl, rfl⟩ := trodAll_nil r2
  obtain rfl : args = #[v0, v1, v2] := by cases args; simp_all
  obtain ⟨rfl, rfl⟩ := trodVars_none hV
  obtain ⟨a0, rfl, rfl, rfl, w0⟩ := open_int Try.underlying2 (hval 0 2 v0 rfl rfl) h0
  obtain ⟨a1, rfl, rfl, rfl, w1⟩ := open_int Try.underlying2 (hval 1 2 v1 rfl rfl) h1
  obtain ⟨a2, rfl, rfl, rfl, w2⟩ := open_int Try.underlying3 (hval 2 3 v2 rfl rfl) h2
  clear hA0 hval0
  simp only [List.append_nil] at hW'
  refine (walkd a0 w0 a1 w1 a2 w2 W).mono fun e W' ⟨he, hb⟩ => ?_
  subst he
  exact ⟨_, rfl, post_below (pa := []) (pv := []) hW' (fun _ _ _ => (trodAll_cons_mk (shut_bool Try.underlying4 _) trodAll_mk0)) (fun sp hsp => (trodAll_cons_mk (shut_int Try.underlying2 w0) (trodAll_cons_mk (shut_int Try.underlying2 w1) (trodAll_cons_mk (shut_int Try.underlying3 w2) trodAll_mk0)))) (fun _ _ => rfl) (by simp)
    hb (ok_one (by kernel_rfl) rfl (okWide_bool_mk Try.underlying4 _))⟩

theorem proved : Rows.CashTurnsSaid :=
  OpenClaim.holds_of_wide 4 Try.f4 rfl rfl rfl rfl rfl rfl rfl ⟨rfl, rfl, rfl, rfl, rfl⟩ rfl rfl rfl rfl rfl (by kernel_rfl) Try.func4 (by kernel_rfl)
    (of_decide_eq_true (by kernel_rfl)) (by unfold Func.isWrapper; first | (rw [if_pos (by decide +kernel)]; kernel_rfl) | (rw [if_neg (by decide +kernel)]; exact ⟨rfl, rfl⟩))
    (fun os started H enc _ => lifted os started H enc)
#print axioms proved

end Go.Proofs.Ytddlcfefeclioaa.cashTurns
