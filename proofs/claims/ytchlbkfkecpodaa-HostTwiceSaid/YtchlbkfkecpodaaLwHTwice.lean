/- Proved: each operation that comes again, at any later time, is answered as it was, and changes nothing (HostTwice), for any operations, any order of repeats. -/
import Derived.Test.YtchlbkfkecpodaaHoR
import Derived.JoinedRecord
import Derived.HandedShaped
namespace Go.Proofs.Ytchlbkfkecpodaa.hostTwice
set_option maxRecDepth 100000
open Go.ChangeShapes Go.WideShapes Go.ChangeAt Go.WideMaps Go.WideElems Go.RowKit
open Go.Sort (grow)
open Go.Proofs.Ytchlbkfkecpodaa.Pk (Rb adr_block one_at one_free one_set lt_some grown_set grown_trans below_grown grown_refl u8s own_form)
open Go.Proofs.Ytchlbkfkecpodaa.St (Stp Ops OpAt Osrc view_sops view_nums view_stock Rr Src usm usm_lt usm_slot own laidOut bnd post_below E eg ez cell eq_ent_run grq Kx dstp stp tick tick_of tick_iff swF swL RowI ivs ByTo upd upd_same upd_other gone_do)
open Go.Proofs.Ytchlbkfkecpodaa.Ho
open Go.Proofs.Ytchlbkfkecpodaa.Wt (Opn mayOp)


/-- What was asked so far was answered so. -/
def Said (s : S) (l : List Stp) (rs : List Int) : Prop := ∀ (k : Nat) (x : Stp) (a : Int), l[k]? = some x → rs[k]? = some a → HTold s x.o a
def TwAt1 (w : World) (q : Nat) (l : List Stp) (vn v vi : Value) (wr : World) : Prop := ∃ (j : Nat) (nw : Int) (s : S) (rs : List Int) (A : Option Addr) (c : Nat), vi = .int .i64 j ∧ vn = .int .i64 nw ∧ v = .slice A rs.length c ∧ rs.length = j ∧ j ≤ 40 ∧ j ≤ l.length ∧ 0 ≤ nw ∧ nw ≤ 30 * j ∧ Sr w q s (.slice A rs.length c) rs wr ∧ Said s l rs
def TwAt2 (w : World) (q : Nat) (s : S) (v : Value) (rs : List Int) (vi : Value) (wr : World) : Prop := ∃ j : Nat, vi = .int .i64 (j : Int) ∧ j ≤ 40 ∧ Sr w q s v rs wr
theorem said_next {s : S} {l : List Stp} {rs : List Int} {x : Stp} {t : Int} (h : Said s l rs) (hx : l[rs.length]? = some x) (ht : tick t = true) : Said (asked 15 2 s x.o t) l (rs ++ [ans 15 2 s x.o t]) := by
  intro k y a hy ha
  rw [List.getElem?_append] at ha
  split at ha
  · exact told_keep (h k y a hy ha)
  · rename_i hge
    have hk : k - rs.length = 0 := by
      rcases Nat.eq_zero_or_pos (k - rs.length) with e | e
      · exact e
      · rw [List.getElem?_eq_none (by simp; omega)] at ha; cases ha
    rw [hk] at ha
    simp only [List.getElem?_cons_zero, Option.some.injEq] at ha
    obtain rfl : k = rs.length := by omega
    rw [hx] at hy
    injection hy with hy
    subst hy
    subst ha
    exact told_new ht
set_option maxHeartbeats 12800000 in
theorem walk (w : World) (A : Option Addr) (n c : Nat) (l : List Stp) (R : Ops w w.heap.size A n l) (A2 : Option Addr) (n2 c2 : Nat) (l2 : List Int) (R2 : Rr w (fun g => g < w.heap.size) A2 n2 l2) (hn : n ≤ 9223372036854775807) (hn2 : n2 ≤ 9223372036854775807) :
    Calls Try.prog 8 #[.slice A n c, .slice A2 n2 c2] w fun e w' => e = .returned (.bool true) ∧ Below w.heap.size w w' := by
  have N := Lib.hid (ow_new w 15 2 (by decide))
  have TO := Lib.hid htold_any
  replace R := Lib.hid R
  replace R2 := Lib.hid R2
  go_enter Try.func8, Try.ntmps8
  go_wp2_with fail
  refine N.out.mono ?_
  rintro e w1 ⟨q, rfl, O1⟩
  have st : Hid (TwAt1 w q l (.int .i64 0) (.slice none 0 0) (.int .i64 0) w1) := ⟨0, 0, sz, [], none, 0, rfl, rfl, rfl, rfl, by omega, by omega, by omega, by omega, .start O1, fun k x a _ h => by simp at h⟩
  clear N O1
  go_wp2_with fail
  go_loopw [7, 8, 9] (fun vn v vi wr => TwAt1 w q l vn v vi wr) (fun _ _ i _ => 40 - (intOf i).toNat)
  case atStart => exact st.out
  case round =>
    clear st
    obtain ⟨j, nw, s, rs, A1, c1', rfl, rfl, rfl, hrs, hj, hjl, n0, n1, X, SA⟩ := hrel
    replace hrs := Lib.hid hrs
    obtain ⟨bb, hbb⟩ : ∃ b : Bool, b = (decide (j < n) && decide (j < 40)) := ⟨_, rfl⟩
    go_upto_region 7 with fail
    go_cut [38] from 31 to 38 (fun s38 wx => s38 = .bool bb ∧ wx = wr)
    case first =>
      by_cases hjn : j < n
      · by_cases h40 : j < 40
        · have i1 : (j : Int) < 40 := by omega
          have F : Hid (bb = true) := by unfold Hid; rw [hbb, decide_eq_true hjn, decide_eq_true h40]; rfl
          clear hbb X SA
          go_wp2
          go_meet
          case rel => exact ⟨by rw [F.out], rfl⟩
        · have i1 : ¬ (j : Int) < 40 := by omega
          have F : Hid (bb = false) := by unfold Hid; rw [hbb, decide_eq_true hjn, decide_eq_false h40]; rfl
          clear hbb X SA
          go_wp2
          go_meet
          case rel => exact ⟨by rw [F.out], rfl⟩
      · have F : Hid (bb = false) := by unfold Hid; rw [hbb, decide_eq_false hjn]; rfl
        clear hbb X SA
        go_wp2
        go_meet
        case rel => exact ⟨by rw [F.out], rfl⟩
    case rest =>
    obtain ⟨rfl, rfl⟩ := hcut
    obtain ⟨wr, ewr⟩ : ∃ x, x = wc := ⟨_, rfl⟩
    subst ewr
    cases bb with
    | true =>
        have hjn : j < n := by
          have := hbb.symm
          rw [Bool.and_eq_true, decide_eq_true_iff, decide_eq_true_iff] at this
          exact this.1
        have h40 : j < 40 := by
          have := hbb.symm
          rw [Bool.and_eq_true, decide_eq_true_iff, decide_eq_true_iff] at this
          exact this.2
        clear hbb
        obtain ⟨x, hs⟩ : ∃ s, l[j]? = some s := ⟨_, List.getElem?_eq_getElem (by have := R.out.len; omega)⟩
        obtain ⟨ad, rfl, hab, hat⟩ := R.out.at_ (by omega)
        obtain ⟨-, c1, c2', c3, c4, c5, c6, -, -⟩ := (hat j x hs).same (X.ow.be.block _ hab)
        have i1 : (j : Int) < 40 := by omega
        obtain ⟨d', hd'⟩ : ∃ k, k = usm x.d 30 := ⟨_, rfl⟩
        have d1' : d' < 30 := by rw [hd']; exact usm_lt _ (by omega)
        have uz : wrap64 ((IntKind.u64.wrap x.d).tmod 30) = (d' : Int) := by rw [hd']; exact usm_slot x.d (n := 30) (by omega) (by omega)
        obtain ⟨nw2, hnw⟩ : ∃ x : Int, x = nw + (d' : Int) := ⟨_, rfl⟩
        have D := Lib.hid (sr_ask X x.o nw2)
        have m0 : 0 ≤ nw2 := by omega
        have m1 : nw2 ≤ 30 * ((j + 1 : Nat) : Int) := by omega
        have S2 : Hid (Said (asked 15 2 s x.o nw2) l (rs ++ [ans 15 2 s x.o nw2])) := said_next SA (by rw [hrs.out]; exact hs) (tick_of m0 (by omega))
        generalize asked 15 2 s x.o nw2 = s' at *
        generalize ans 15 2 s x.o nw2 = a at *
        generalize isNew s x.o nw2 = b' at *
        have hl : j + 1 ≤ l.length := by have := R.out.len; omega
        have r41 : rs.length ≤ 40 := by have := hrs.out; omega
        replace hs := Lib.hid hs
        replace hat := Lib.hid hat
        replace hd' := Lib.hid hd'
        clear X SA
        go_upto_region 10 with fail
        rw [uz, ← hnw]
        clear uz
        replace hnw := Lib.hid hnw
        go_wp2_with fail
        refine D.out.mono ?_
        rintro e w2 ⟨rfl, X2⟩
        obtain ⟨A3, c3', w3, hrun, X3⟩ := X2.app a r41
        have nx : Hid (TwAt1 w q l (.int .i64 nw2) (.slice A3 (rs.length + 1) c3') (.int .i64 ((j + 1 : Nat) : Int)) w3) := ⟨j + 1, nw2, s', rs ++ [a], A3, c3', rfl, rfl, by rw [List.length_append]; rfl, by rw [List.length_append, hrs.out]; rfl, by omega, hl, m0, m1, by rw [List.length_append]; exact X3, S2.out⟩
        replace hrun := Lib.hid hrun
        clear D X2 X3 c1 c2' c3 c4 c5 c6
        go_wp2_with (at_builtin; refine wpList_run_app rfl (.tmp 62) (.tmp 64) rfl rfl _ _ rfl rfl hrun.out ?_)
        exact ⟨nx.out, by simp [intOf]; omega⟩
    | false =>
      have BY := Lib.hid (ow_bytes X.ow)
      obtain ⟨rn, hrn⟩ : ∃ k, k = rs.length := ⟨_, rfl⟩
      rw [← hrn] at X ⊢
      have few : rn ≤ 40 := by have := hrs.out; omega
      have rnl : rn ≤ l.length := by have := hrs.out; omega
      have n1200 : nw ≤ 1200 := by omega
      replace hrn := Lib.hid hrn
      replace X := Lib.hid X
      replace SA := Lib.hid SA
      clear hbb hrs hj hjl n1
      go_wp2_with fail
      refine BY.out.mono ?_
      intro e w2 hby
      obtain ⟨Ba, nb, cb, rfl, sr, b2⟩ := St.by_str hby
      have st : Hid (TwAt2 w q s (.slice A1 rn c1') rs (.int .i64 0) w2) := ⟨0, rfl, by omega, X.out.below b2⟩
      obtain ⟨s0, hs0⟩ : ∃ z, z = Pk.str (hbts 15 2 s) := ⟨_, rfl⟩
      rw [← hs0] at sr
      replace hs0 := Lib.hid hs0
      clear BY hby X b2
      go_wp2_with fail
      clear sr
      go_loopw [13] (fun vi wr => TwAt2 w q s (.slice A1 rn c1') rs vi wr) (fun i _ => 40 - (intOf i).toNat)
      case atStart => exact st.out
      case round =>
        clear st
        obtain ⟨j, rfl, hj, X⟩ := hrel
        obtain ⟨bb, hbb⟩ : ∃ b : Bool, b = (decide (j < n2) && decide (j < 40) && decide (0 < rn)) := ⟨_, rfl⟩
        go_upto_region 14 with fail
        go_cut [81] from 69 to 81 (fun s81 wx => s81 = .bool bb ∧ wx = wr)
        case first =>
          by_cases hjn : j < n2
          · by_cases h40 : j < 40
            · have i1 : (j : Int) < 40 := by omega
              by_cases h0 : 0 < rn
              · have F : Hid (bb = true) := by unfold Hid; rw [hbb, decide_eq_true hjn, decide_eq_true h40, decide_eq_true h0]; rfl
                have i2 : (0 : Int) < (rn : Int) := by omega
                clear hbb X
                go_wp2
                go_meet
                case rel => exact ⟨by rw [F.out], rfl⟩
              · have F : Hid (bb = false) := by unfold Hid; rw [hbb, decide_eq_false h0, Bool.and_false]
                have i2 : ¬ (0 : Int) < (rn : Int) := by omega
                clear hbb X
                go_wp2
                go_meet
                case rel => exact ⟨by rw [F.out], rfl⟩
            · have i1 : ¬ (j : Int) < 40 := by omega
              have F : Hid (bb = false) := by unfold Hid; rw [hbb, decide_eq_true hjn, decide_eq_false h40]; rfl
              clear hbb X
              go_wp2
              go_meet
              case rel => exact ⟨by rw [F.out], rfl⟩
          · have F : Hid (bb = false) := by unfold Hid; rw [hbb, decide_eq_false hjn]; rfl
            clear hbb X
            go_wp2
            go_meet
            case rel => exact ⟨by rw [F.out], rfl⟩
        case rest =>
        obtain ⟨rfl, rfl⟩ := hcut
        obtain ⟨wr, ewr⟩ : ∃ x, x = wc := ⟨_, rfl⟩
        subst ewr
        cases bb with
        | true =>
          have hb := hbb.symm
          rw [Bool.and_eq_true, Bool.and_eq_true, decide_eq_true_iff, decide_eq_true_iff, decide_eq_true_iff] at hb
          obtain ⟨⟨hjn, h40⟩, h0⟩ := hb
          clear hbb
          obtain ⟨z, hz⟩ : ∃ z, l2[j]? = some z := ⟨_, List.getElem?_eq_getElem (by have := R2.out.len; omega)⟩
          obtain ⟨ad2, rfl, -, -⟩ := R2.out.at_ (by omega)
          have cz := (R2.out.below X.ow.be).cell hz
          obtain ⟨k, hk⟩ : ∃ k, k = usm z rn := ⟨_, rfl⟩
          have kr : k < rn := by rw [hk]; exact usm_lt _ h0
          have uz : wrap64 ((IntKind.u64.wrap z).tmod (rn : Int)) = (k : Int) := by rw [hk]; exact usm_slot z h0 (by omega)
          replace hk := Lib.hid hk
          obtain ⟨x, hs⟩ : ∃ s, l[k]? = some s := ⟨_, List.getElem?_eq_getElem (by omega)⟩
          obtain ⟨a, ha⟩ : ∃ a, rs[k]? = some a := ⟨_, List.getElem?_eq_getElem (by have := hrn.out; omega)⟩
          obtain ⟨ad, rfl, hab, hat⟩ := R.out.at_ (by have := R.out.len; omega)
          obtain ⟨-, c1, c2', c3, c4, c5, c6, -, -⟩ := (hat k x hs).same (X.ow.be.block _ hab)
          have kn : k < n := by have := R.out.len; omega
          obtain ⟨e1, e2, e3⟩ := told_again (cap := 15) (over := 2) (tick_of (n := nw + (j : Int)) (by omega) (by omega)) (SA.out k x a hs ha)
          have D := Lib.hid (sr_ask X x.o (nw + (j : Int)))
          rw [e1, e2, e3] at D
          have NZ : Hid (∀ W, Sr w q s (.slice A1 rn c1') rs W → ∃ ad, A1 = some ad ∧ W.cell? (ad.add k) = some (.int .i64 a)) := fun W XW => by
            have hrow := XW.row
            rw [← hrn.out] at hrow
            obtain ⟨ad, h1, -, -, h2⟩ := St.Nz.of_row hrow hrn.out.symm k a ha
            exact ⟨ad, h1, h2⟩
          have q1 : (a != a) = false := by simp
          replace hs := Lib.hid hs
          replace hat := Lib.hid hat
          replace hz := Lib.hid hz
          replace ha := Lib.hid ha
          clear e1 e2 e3 X
          go_upto_region 17 with fail
          rw [uz]
          clear uz
          go_wp2_with fail
          refine D.out.mono ?_
          rintro e w3 ⟨rfl, X3⟩
          obtain ⟨ad3, rfl, cc⟩ := NZ.out w3 X3
          have nx : Hid (TwAt2 w q s (.slice (some ad3) rn c1') rs (.int .i64 ((j + 1 : Nat) : Int)) w3) := ⟨j + 1, rfl, by omega, X3⟩
          clear D NZ X3 c1 c2' c3 c4 c5 c6 cz
          go_wp2
          exact ⟨nx.out, by simp [intOf]; omega⟩
        | false =>
          clear hbb
          replace X := Lib.hid X
          go_wp2_with fail
          refine (ask_nil _ ⟨3, 1, 0, 0, 0⟩ 5).mono ?_
          rintro e w3 ⟨rfl, b3⟩
          have X3 := Lib.hid (X.out.below b3)
          have TA := Lib.hid (TO.out w3)
          clear X b3
          go_wp2_with fail
          refine TA.out.mono ?_
          rintro e w4 ⟨rfl, b4⟩
          have X4 := X3.out.below b4
          have BY := Lib.hid (ow_bytes X4.ow)
          replace X4 := Lib.hid X4
          clear TA X3 b4
          go_wp2_with fail
          refine BY.out.mono ?_
          intro e w5 hby
          obtain ⟨Bb, nb2, cb2, rfl, sr, b5⟩ := St.by_str hby
          rw [← hs0.out] at sr
          have q9 : (s0.data.toList == s0.data.toList) = true := by simp
          have E : Hid (Below w.heap.size w w5) := (X4.out.below b5).ow.be
          clear BY hby X4 b5
          go_wp2_with (first
            | (go_at_call 42; refine (bytes_nil _).mono ?_; rintro e w' ⟨rfl, rfl⟩)
            | (go_at_call 44; refine (answers_nil _).mono ?_; rintro e w' ⟨rfl, rfl⟩)
            | (go_at_call 45; refine (sweep_nil _ _).mono ?_; rintro e w' ⟨rfl, rfl⟩)
            | (go_at_call 46; refine (stock_nil _).mono ?_; rintro e w' ⟨rfl, rfl⟩))
          go_ret
          exact ⟨rfl, E.out⟩
theorem walkd (v0 : Value) (a0 : List Stp) {W : World} (w0 : Osrc W v0 a0) (v1 : Value) (a1 : List Int) (w1 : Src W v1 a1) (W' : World) (hW : W' = W) :
    Calls Try.prog 8 #[v0, v1] W' fun e w' => e = .returned (.bool true) ∧ Below W'.heap.size W' w' := by
  subst hW
  obtain ⟨A, n, c, rfl, h1, h2, R⟩ := w0
  obtain ⟨A2, n2, c2, rfl, k1, k2, R2, -⟩ := w1
  exact walk W' A n c a0 R A2 n2 c2 a1 R2 (by omega) (by omega)


/-! The row: every input. -/
set_option linter.unusedVariables false
set_option maxRecDepth 100000 in
theorem lifted (os : Os) (started : os.Started) (H : Type) (enc : TypeId × Value → H) :
    ReturnsInHanded {} Try.checked os 8 .any (Rows.hostTwiceSpec.pre6 enc Try.prog Try.f8 Rows.hostTwiceRow.domain false) (Rows.hostTwiceSpec.post enc Try.prog Try.f8 false true false false) := by
  refine returnsInHanded_of_change (C := Try.checked) own started (by kernel_rfl) Try.func8
    (ChangeSpec.witness6 (enc := enc) (C := Try.checked) false ⟨#[], #[.slice none 0 0, .slice none 0 0], []⟩ 8 (by kernel_rfl) (by kernel_rfl) (by kernel_rfl) (by kernel_rfl)) ?_
  intro W base args ds gs before hval0 hW _ _
  have hval : ∀ (j : Nat) t v, Try.f8.params[j]? = some t → args[j]? = some v → Value.okWide Try.prog W .any base t v := hval0
  have hW' := hW
  obtain ⟨p, q, hA0, hV, rfl, hfz, hnd⟩ := hW
  have hA : DataW.TrodAll enc Try.prog W 0 (fun _ => true) true Try.f8.params.toList args.toList ds p := hA0
  rw [Try.params8] at hA hval
  obtain ⟨v0, vs0, d0, ds0, p0, q0, hargs, rfl, rfl, h0, r0⟩ := trodAll_cons hA
  obtain ⟨v1, vs1, d1, ds1, p1, q1, rfl, rfl, rfl, h1, r1⟩ := trodAll_cons r0
  obtain ⟨rfl, rfl, rfl⟩ := trodAll_nil r1
  obtain rfl : args = #[v0, v1] := by cases args; simp_all
  obtain ⟨rfl, rfl⟩ := trodVars_none hV
  obtain ⟨a0, w0⟩ := view_sops (hval 0 22 v0 rfl rfl) h0
  obtain ⟨a1, w1⟩ := view_nums (hval 1 37 v1 rfl rfl) h1
  clear hA0 hval0
  simp only [List.append_nil] at hW'
  refine (walkd v0 a0 w0 v1 a1 w1 W rfl).mono fun e W' ⟨he, hb⟩ => ?_
  subst he
  exact ⟨_, rfl, post_below (pa := p0 ++ (p1 ++ [])) (pv := []) hW' (fun _ _ _ => (trodAll_cons_mk (shut_bool Try.underlying4 _) trodAll_mk0)) (fun sp hsp => (trodAll_cons_mk (Trod_stays laidOut (by kernel_rfl) (of_decide_eq_true (by kernel_rfl)) h0 (fun x hx => hb.same (hW'.lt x (by simp [hx]))) (fun x hx => hsp x (by simp [hx]))) (trodAll_cons_mk (Trod_stays laidOut (by kernel_rfl) (of_decide_eq_true (by kernel_rfl)) h1 (fun x hx => hb.same (hW'.lt x (by simp [hx]))) (fun x hx => hsp x (by simp [hx]))) trodAll_mk0))) (fun _ _ => rfl) (by simp)
    hb (ok_one (by kernel_rfl) rfl (okWide_bool_mk Try.underlying4 _))⟩

theorem proved : Rows.HostTwiceSaid :=
  OpenClaim.holds_of_wide 8 Try.f8 rfl rfl rfl rfl rfl rfl rfl ⟨rfl, rfl, rfl, rfl, rfl⟩ rfl rfl rfl rfl rfl (by kernel_rfl) Try.func8 (by kernel_rfl)
    (of_decide_eq_true (by kernel_rfl)) (by unfold Func.isWrapper; first | (rw [if_pos (by decide +kernel)]; kernel_rfl) | (rw [if_neg (by decide +kernel)]; exact ⟨rfl, rfl⟩))
    (fun os started H enc _ => lifted os started H enc)
#print axioms proved

end Go.Proofs.Ytchlbkfkecpodaa.hostTwice
