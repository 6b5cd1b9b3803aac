/- Proved: what was given back, or refused, is never authorised or captured again (PurseGone), for any operations, any booking, any operations more. -/
import Derived.Test.YtmjbphepdjdlkaaPuP
import Derived.JoinedRecord
import Derived.HandedShaped
namespace Go.Proofs.Ytmjbphepdjdlkaa.purseGone
set_option maxRecDepth 100000
open Go.ChangeShapes Go.WideShapes Go.ChangeAt Go.WideMaps Go.WideElems Go.RowKit
open Go.Sort (grow)
open Go.Proofs.Ytmjbphepdjdlkaa.Pk (Rb adr_block one_at one_free one_set lt_some grown_set grown_trans below_grown grown_refl u8s own_form)
open Go.Proofs.Ytmjbphepdjdlkaa.Pu
open Go.Proofs.Ytmjbphepdjdlkaa.Wt (Opn mayOp)
open Go.Proofs.Ytmjbphepdjdlkaa.Wt (refmayop_any)

def GoAt1 (w : World) (q : Nat) (i : Value) (wr : World) : Prop := ∃ (j : Nat) (p : S), i = .int .i64 j ∧ j ≤ 40 ∧ Ow w.heap.size (fun g => g < w.heap.size) w wr q p
def GoAt2 (w : World) (q : Nat) (b : Int) (i : Value) (wr : World) : Prop := ∃ (j : Nat) (p : S), i = .int .i64 j ∧ j ≤ 40 ∧ Ow w.heap.size (fun g => g < w.heap.size) w wr q p ∧ p.f b = eg
set_option maxHeartbeats 6400000 in
theorem walk (w : World) (A : Option Addr) (n c : Nat) (l : List Opn) (R : Ops w w.heap.size A n l) (a1 : Int) (A2 : Option Addr) (n2 c2 : Nat) (l2 : List Opn) (R2 : Ops w w.heap.size A2 n2 l2) (hn : n ≤ 9223372036854775807) (hn2 : n2 ≤ 9223372036854775807) :
    Calls Try.prog 6 #[.slice A n c, .int .i64 a1, .slice A2 n2 c2] w fun e w' => e = .returned (.bool true) ∧ Below w.heap.size w w' := by
  obtain ⟨b', hb'⟩ : ∃ k, k = usm a1 12 := ⟨_, rfl⟩
  have b1' : b' < 12 := by rw [hb']; exact usm_lt _ (by omega)
  have ux : wrap64 ((IntKind.u64.wrap a1).tmod 12) = (b' : Int) := by rw [hb']; exact usm_slot a1 (n := 12) (by omega) (by omega)
  obtain ⟨b, hb⟩ : ∃ b : Int, b = 1 + (b' : Int) := ⟨_, rfl⟩
  have b1 : 1 ≤ b := by omega
  have b2 : b ≤ 12 := by omega
  have N := Lib.hid (ow_new w 100 50 10 0 (by unfold Cs.I; simp) (by decide))
  replace R := Lib.hid R
  replace R2 := Lib.hid R2
  replace hb' := Lib.hid hb'
  go_enter Try.func6, Try.ntmps6
  go_wp2_with fail
  refine N.out.mono ?_
  rintro e w1 ⟨q, rfl, O1⟩
  have st : Hid (GoAt1 w q (.int .i64 0) w1) := ⟨0, _, rfl, by omega, O1⟩
  clear N O1
  go_upto_region 5 with fail
  rw [ux, ← hb]
  clear ux
  replace hb := Lib.hid hb
  go_wp2_with fail
  go_loopw [10] (fun i wr => GoAt1 w q i wr) (fun i _ => 40 - (intOf i).toNat)
  case atStart => exact st.out
  case round =>
    clear st
    obtain ⟨j, p, rfl, hj, O⟩ := hrel
    by_cases hjn : j < n
    · by_cases h40 : j < 40
      · obtain ⟨s, hs⟩ : ∃ s, l[j]? = some s := ⟨_, List.getElem?_eq_getElem (by have := R.out.len; omega)⟩
        obtain ⟨ad, rfl, hab, hat⟩ := R.out.at_ (by omega)
        obtain ⟨c1, c2, c3, c4, c5⟩ := (hat j s hs).same (O.be.block _ hab)
        have i1 : (j : Int) < 40 := by omega
        have D := Lib.hid (ow_do O s)
        unfold opv at D
        replace hs := Lib.hid hs
        replace hat := Lib.hid hat
        clear O
        go_wp2_with fail
        refine D.out.mono ?_
        rintro e w2 ⟨rfl, O2, _⟩
        have nx : Hid (GoAt1 w q (.int .i64 ((j + 1 : Nat) : Int)) w2) := ⟨j + 1, _, rfl, by omega, O2⟩
        clear D O2
        go_wp2
        exact ⟨nx.out, by simp [intOf]; omega⟩
      · have i1 : ¬ (j : Int) < 40 := by omega
        have D : Calls Try.prog 13 #[.pointer (some ⟨q, 0, none⟩), .agg #[.int .i64 6, .int .i64 b, .int .i64 0, .int .i64 0, .int .i64 0]] wr fun e w' => e = .returned (.int .i64 1) ∧ OwTo w.heap.size (fun g => g < w.heap.size) w wr q (void p b) w' := by
          have := ow_do O ⟨6, b, 0, 0, 0⟩
          rw [d_void b1 (by omega)] at this
          exact this
        replace D := Lib.hid D
        clear O
        go_wp2_with fail
        refine D.out.mono ?_
        rintro e w2 ⟨rfl, O2, _⟩
        have st : Hid (GoAt2 w q b (.int .i64 0) w2) := ⟨0, _, rfl, by omega, O2, void_at⟩
        clear D O2
        go_wp2_with fail
        clear hj
        go_loopw [11] (fun i wr => GoAt2 w q b i wr) (fun i _ => 40 - (intOf i).toNat)
        case atStart => exact st.out
        case round =>
          clear st
          obtain ⟨j, p, rfl, hj, O, hg⟩ := hrel
          have TA := Lib.hid (told_any wr)
          by_cases hjn : j < n2
          · by_cases h40 : j < 40
            · obtain ⟨s, hs⟩ : ∃ s, l2[j]? = some s := ⟨_, List.getElem?_eq_getElem (by have := R2.out.len; omega)⟩
              obtain ⟨ad, rfl, hab, hat⟩ := R2.out.at_ (by omega)
              have hat1 := hat j s hs
              obtain ⟨c0, c1, c2, c3, c4⟩ := hat1.same (O.be.block _ hab)
              have i1 : (j : Int) < 40 := by omega
              obtain ⟨g1, g2⟩ := gone_do (o := s) hg
              have D := Lib.hid (ow_do O s)
              unfold opv at D
              obtain ⟨r, hr⟩ : ∃ r, r = (dstp p s).2 := ⟨_, rfl⟩
              rw [← hr] at D g2
              replace g1 := Lib.hid g1
              replace hs := Lib.hid hs
              replace hat := Lib.hid hat
              replace hat1 := Lib.hid hat1
              clear O hr hg
              go_wp2_with fail
              refine D.out.mono ?_
              rintro e w6 ⟨rfl, O6, K6⟩
              obtain ⟨v0, v1, v2, v3, v4⟩ := hat1.out.same (O6.be.block _ hab)
              have EQ := fun w => eq_ent_run w 3 0 0 3 0 0
              rw [decide_eq_true (rfl : (⟨3, 0, 0⟩ : E) = ⟨3, 0, 0⟩)] at EQ
              have MO := Lib.hid (refmayop_any w6 s)
              have key : ∀ w8, Below w6.heap.size w6 w8 → Ow w.heap.size (fun g => g < w.heap.size) w w8 q (dstp p s).1 ∧ Calls Try.prog 21 #[.pointer (some ⟨q, 0, none⟩), .int .i64 b] w8 fun e w' => e = .returned (.agg #[.int .i64 3, .int .i64 0, .int .i64 0, .int .i64 0, .int .i64 0]) ∧ Below w8.heap.size w8 w' := fun w8 hb8 => by
                have O8 := O6.below hb8
                have := ow_entry O8 b
                rw [g1.out] at this
                exact ⟨O8, this⟩
              replace key := Lib.hid key
              clear D O6 K6 c0 c1 c2 c3 c4
              by_cases hbk : s.book = b
              · have gb : (s.book == b) = true := by simpa using hbk
                have g3 := g2 hbk
                clear hbk
                cases hk3 : (s.kind == 6) with
                | true =>
                  rw [hk3, Bool.true_and] at g3
                  obtain ⟨mo, hmo⟩ : ∃ mo, mo = mayOp s := ⟨_, rfl⟩
                  rw [← hmo] at g3 MO
                  clear g2 hmo
                  cases mo
                  all_goals
                    go_wp2_with fail
                    refine MO.out.mono ?_
                    rintro e w8 ⟨rfl, b8⟩
                    obtain ⟨O8, EN⟩ := key.out w8 b8
                    replace O8 := Lib.hid O8
                    clear MO b8 key
                    go_wp2_with fail
                    refine EN.mono ?_
                    rintro e w9 ⟨rfl, b9⟩
                    have nx : Hid (GoAt2 w q b (.int .i64 ((j + 1 : Nat) : Int)) w9) := ⟨j + 1, _, rfl, by omega, O8.out.below b9, g1.out⟩
                    clear EN b9
                    go_wp2
                    exact ⟨nx.out, by simp [intOf]; omega⟩
                | false =>
                  rw [hk3, Bool.false_and] at g3
                  obtain ⟨O8, EN⟩ := key.out w6 (Below.refl _ _)
                  replace O8 := Lib.hid O8
                  clear g2 MO key
                  go_wp2_with fail
                  refine EN.mono ?_
                  rintro e w9 ⟨rfl, b9⟩
                  have nx : Hid (GoAt2 w q b (.int .i64 ((j + 1 : Nat) : Int)) w9) := ⟨j + 1, _, rfl, by omega, O8.out.below b9, g1.out⟩
                  clear EN b9
                  go_wp2
                  exact ⟨nx.out, by simp [intOf]; omega⟩
              · have gb : (s.book == b) = false := by simpa using hbk
                obtain ⟨O8, EN⟩ := key.out w6 (Below.refl _ _)
                replace O8 := Lib.hid O8
                clear g2 MO key
                go_wp2_with fail
                refine EN.mono ?_
                rintro e w9 ⟨rfl, b9⟩
                have nx : Hid (GoAt2 w q b (.int .i64 ((j + 1 : Nat) : Int)) w9) := ⟨j + 1, _, rfl, by omega, O8.out.below b9, g1.out⟩
                clear EN b9
                go_wp2
                exact ⟨nx.out, by simp [intOf]; omega⟩
            · have i1 : ¬ (j : Int) < 40 := by omega
              replace O := Lib.hid O
              go_wp2_with fail
              refine TA.out.mono ?_
              rintro e w8 ⟨rfl, b8⟩
              have E := Lib.hid ((O.out.below b8).be)
              clear TA b8 O
              go_wp2
              go_ret
              exact ⟨rfl, E.out⟩
          · have i1 : ¬ (j : Int) < (n2 : Int) := by omega
            replace O := Lib.hid O
            go_wp2_with fail
            refine TA.out.mono ?_
            rintro e w8 ⟨rfl, b8⟩
            have E := Lib.hid ((O.out.below b8).be)
            clear TA b8 O
            go_wp2
            go_ret
            exact ⟨rfl, E.out⟩
    · have i1 : ¬ (j : Int) < (n : Int) := by omega
      have D : Calls Try.prog 13 #[.pointer (some ⟨q, 0, none⟩), .agg #[.int .i64 6, .int .i64 b, .int .i64 0, .int .i64 0, .int .i64 0]] wr fun e w' => e = .returned (.int .i64 1) ∧ OwTo w.heap.size (fun g => g < w.heap.size) w wr q (void p b) w' := by
        have := ow_do O ⟨6, b, 0, 0, 0⟩
        rw [d_void b1 (by omega)] at this
        exact this
      replace D := Lib.hid D
      clear O
      go_wp2_with fail
      refine D.out.mono ?_
      rintro e w2 ⟨rfl, O2, _⟩
      have st : Hid (GoAt2 w q b (.int .i64 0) w2) := ⟨0, _, rfl, by omega, O2, void_at⟩
      clear D O2
      go_wp2_with fail
      clear hj
      go_loopw [11] (fun i wr => GoAt2 w q b i wr) (fun i _ => 40 - (intOf i).toNat)
      case atStart => exact st.out
      case round =>
        clear st
        obtain ⟨j, p, rfl, hj, O, hg⟩ := hrel
        have TA := Lib.hid (told_any wr)
        by_cases hjn : j < n2
        · by_cases h40 : j < 40
          · obtain ⟨s, hs⟩ : ∃ s, l2[j]? = some s := ⟨_, List.getElem?_eq_getElem (by have := R2.out.len; omega)⟩
            obtain ⟨ad, rfl, hab, hat⟩ := R2.out.at_ (by omega)
            have hat1 := hat j s hs
            obtain ⟨c0, c1, c2, c3, c4⟩ := hat1.same (O.be.block _ hab)
            have i1 : (j : Int) < 40 := by omega
            obtain ⟨g1, g2⟩ := gone_do (o := s) hg
            have D := Lib.hid (ow_do O s)
            unfold opv at D
            obtain ⟨r, hr⟩ : ∃ r, r = (dstp p s).2 := ⟨_, rfl⟩
            rw [← hr] at D g2
            replace g1 := Lib.hid g1
            replace hs := Lib.hid hs
            replace hat := Lib.hid hat
            replace hat1 := Lib.hid hat1
            clear O hr hg
            go_wp2_with fail
            refine D.out.mono ?_
            rintro e w6 ⟨rfl, O6, K6⟩
            obtain ⟨v0, v1, v2, v3, v4⟩ := hat1.out.same (O6.be.block _ hab)
            have EQ := fun w => eq_ent_run w 3 0 0 3 0 0
            rw [decide_eq_true (rfl : (⟨3, 0, 0⟩ : E) = ⟨3, 0, 0⟩)] at EQ
            have MO := Lib.hid (refmayop_any w6 s)
            have key : ∀ w8, Below w6.heap.size w6 w8 → Ow w.heap.size (fun g => g < w.heap.size) w w8 q (dstp p s).1 ∧ Calls Try.prog 21 #[.pointer (some ⟨q, 0, none⟩), .int .i64 b] w8 fun e w' => e = .returned (.agg #[.int .i64 3, .int .i64 0, .int .i64 0, .int .i64 0, .int .i64 0]) ∧ Below w8.heap.size w8 w' := fun w8 hb8 => by
              have O8 := O6.below hb8
              have := ow_entry O8 b
              rw [g1.out] at this
              exact ⟨O8, this⟩
            replace key := Lib.hid key
            clear D O6 K6 c0 c1 c2 c3 c4
            by_cases hbk : s.book = b
            · have gb : (s.book == b) = true := by simpa using hbk
              have g3 := g2 hbk
              clear hbk
              cases hk3 : (s.kind == 6) with
              | true =>
                rw [hk3, Bool.true_and] at g3
                obtain ⟨mo, hmo⟩ : ∃ mo, mo = mayOp s := ⟨_, rfl⟩
                rw [← hmo] at g3 MO
                clear g2 hmo
                cases mo
                all_goals
                  go_wp2_with fail
                  refine MO.out.mono ?_
                  rintro e w8 ⟨rfl, b8⟩
                  obtain ⟨O8, EN⟩ := key.out w8 b8
                  replace O8 := Lib.hid O8
                  clear MO b8 key
                  go_wp2_with fail
                  refine EN.mono ?_
                  rintro e w9 ⟨rfl, b9⟩
                  have nx : Hid (GoAt2 w q b (.int .i64 ((j + 1 : Nat) : Int)) w9) := ⟨j + 1, _, rfl, by omega, O8.out.below b9, g1.out⟩
                  clear EN b9
                  go_wp2
                  exact ⟨nx.out, by simp [intOf]; omega⟩
              | false =>
                rw [hk3, Bool.false_and] at g3
                obtain ⟨O8, EN⟩ := key.out w6 (Below.refl _ _)
                replace O8 := Lib.hid O8
                clear g2 MO key
                go_wp2_with fail
                refine EN.mono ?_
                rintro e w9 ⟨rfl, b9⟩
                have nx : Hid (GoAt2 w q b (.int .i64 ((j + 1 : Nat) : Int)) w9) := ⟨j + 1, _, rfl, by omega, O8.out.below b9, g1.out⟩
                clear EN b9
                go_wp2
                exact ⟨nx.out, by simp [intOf]; omega⟩
            · have gb : (s.book == b) = false := by simpa using hbk
              obtain ⟨O8, EN⟩ := key.out w6 (Below.refl _ _)
              replace O8 := Lib.hid O8
              clear g2 MO key
              go_wp2_with fail
              refine EN.mono ?_
              rintro e w9 ⟨rfl, b9⟩
              have nx : Hid (GoAt2 w q b (.int .i64 ((j + 1 : Nat) : Int)) w9) := ⟨j + 1, _, rfl, by omega, O8.out.below b9, g1.out⟩
              clear EN b9
              go_wp2
              exact ⟨nx.out, by simp [intOf]; omega⟩
          · have i1 : ¬ (j : Int) < 40 := by omega
            replace O := Lib.hid O
            go_wp2_with fail
            refine TA.out.mono ?_
            rintro e w8 ⟨rfl, b8⟩
            have E := Lib.hid ((O.out.below b8).be)
            clear TA b8 O
            go_wp2
            go_ret
            exact ⟨rfl, E.out⟩
        · have i1 : ¬ (j : Int) < (n2 : Int) := by omega
          replace O := Lib.hid O
          go_wp2_with fail
          refine TA.out.mono ?_
          rintro e w8 ⟨rfl, b8⟩
          have E := Lib.hid ((O.out.below b8).be)
          clear TA b8 O
          go_wp2
          go_ret
          exact ⟨rfl, E.out⟩
theorem walkd (v0 : Value) (a0 : List Opn) {W : World} (w0 : Osrc W v0 a0) (a1 : Int) (_w1 : (Lit.int .i64 a1).wf = true) (v2 : Value) (a2 : List Opn) (w2 : Osrc W v2 a2) (W' : World) (hW : W' = W) :
    Calls Try.prog 6 #[v0, .int .i64 a1, v2] W' fun e w' => e = .returned (.bool true) ∧ Below W'.heap.size W' w' := by
  subst hW
  obtain ⟨A, n, c, rfl, h1, h2, R⟩ := w0
  obtain ⟨A2, n2, c2, rfl, k1, k2, R2⟩ := w2
  exact walk W' A n c a0 R a1 A2 n2 c2 a2 R2 (by omega) (by omega)


/-! The row: every input. -/
set_option linter.unusedVariables false
set_option maxRecDepth 100000 in
theorem lifted (os : Os) (started : os.Started) (H : Type) (enc : TypeId × Value → H) :
    ReturnsInHanded {} Try.checked os 6 .any (Rows.purseGoneSpec.pre6 enc Try.prog Try.f6 Rows.purseGoneRow.domain false) (Rows.purseGoneSpec.post enc Try.prog Try.f6 false true false false) := by
  refine returnsInHanded_of_change (C := Try.checked) own started (by kernel_rfl) Try.func6
    (ChangeSpec.witness6 (enc := enc) (C := Try.checked) false ⟨#[], #[.slice none 0 0, .int .i64 0, .slice none 0 0], []⟩ 8 (by kernel_rfl) (by kernel_rfl) (by kernel_rfl) (by kernel_rfl)) ?_
  intro W base args ds gs before hval0 hW _ _
  have hval : ∀ (j : Nat) t v, Try.f6.params[j]? = some t → args[j]? = some v → Value.okWide Try.prog W .any base t v := hval0
  have hW' := hW
  obtain ⟨p, q, hA0, hV, rfl, hfz, hnd⟩ := hW
  have hA : DataW.TrodAll enc Try.prog W 0 (fun _ => true) true Try.f6.params.toList args.toList ds p := hA0
  rw [Try.params6] at hA hval
  obtain ⟨v0, vs0, d0, ds0, p0, q0, hargs, rfl, rfl, h0, r0⟩ := trodAll_cons hA
  obtain ⟨v1, vs1, d1, ds1, p1, q1, rfl, rfl, rfl, h1, r1⟩ := trodAll_cons r0
  obtain ⟨v2, vs2, d2, ds2, p2, q2, rfl, rfl, rfl, h2, r2⟩ := trodAll_cons r1
  obtain ⟨rfl, rfl, rfl⟩ := trodAll_nil r2
  obtain rfl : args = #[v0, v1, v2] := by cases args; simp_all
  obtain ⟨rfl, rfl⟩ := trodVars_none hV
  obtain ⟨a0, w0⟩ := view_aops (hval 0 23 v0 rfl rfl) h0
  obtain ⟨a1, rfl, rfl, rfl, w1⟩ := open_int Try.underlying3 (hval 1 3 v1 rfl rfl) h1
  obtain ⟨a2, w2⟩ := view_aops (hval 2 23 v2 rfl rfl) h2
  clear hA0 hval0
  simp only [List.append_nil] at hW'
  refine (walkd v0 a0 w0 a1 w1 v2 a2 w2 W rfl).mono fun e W' ⟨he, hb⟩ => ?_
  subst he
  exact ⟨_, rfl, post_below (pa := p0 ++ ([] ++ (p2 ++ []))) (pv := []) hW' (fun _ _ _ => (trodAll_cons_mk (shut_bool Try.underlying4 _) trodAll_mk0)) (fun sp hsp => (trodAll_cons_mk (Trod_stays laidOut (by kernel_rfl) (of_decide_eq_true (by kernel_rfl)) h0 (fun x hx => hb.same (hW'.lt x (by simp [hx]))) (fun x hx => hsp x (by simp [hx]))) (trodAll_cons_mk (shut_int Try.underlying3 w1) (trodAll_cons_mk (Trod_stays laidOut (by kernel_rfl) (of_decide_eq_true (by kernel_rfl)) h2 (fun x hx => hb.same (hW'.lt x (by simp [hx]))) (fun x hx => hsp x (by simp [hx]))) trodAll_mk0)))) (fun _ _ => rfl) (by simp)
    hb (ok_one (by kernel_rfl) rfl (okWide_bool_mk Try.underlying4 _))⟩

theorem proved : Rows.PurseGoneSaid :=
  OpenClaim.holds_of_wide 6 Try.f6 rfl rfl rfl rfl rfl rfl rfl ⟨rfl, rfl, rfl, rfl, rfl⟩ rfl rfl rfl rfl rfl (by kernel_rfl) Try.func6 (by kernel_rfl)
    (of_decide_eq_true (by kernel_rfl)) (by unfold Func.isWrapper; first | (rw [if_pos (by decide +kernel)]; kernel_rfl) | (rw [if_neg (by decide +kernel)]; exact ⟨rfl, rfl⟩))
    (fun os started H enc _ => lifted os started H enc)
#print axioms proved

end Go.Proofs.Ytmjbphepdjdlkaa.purseGone
