/- Proved: a purse does what the document says (PursePlays), for any funds, any operations, copies between. -/
import Derived.Test.YtchlbkfkecpodaaPrF
import Derived.Test.YtchlbkfkecpodaaPuQ
import Derived.JoinedRecord
import Derived.HandedShaped
import Derived.Deep.RegionHeld3
namespace Go.Proofs.Ytchlbkfkecpodaa.pursePlays
set_option maxRecDepth 100000
open Go.ChangeShapes Go.WideShapes Go.ChangeAt Go.WideMaps Go.WideElems Go.RowKit
open Go.Sort (grow)
open Go.Proofs.Ytchlbkfkecpodaa.Pk (Rb adr_block one_at one_free one_set lt_some grown_set grown_trans below_grown grown_refl u8s own_form)
open Go.Proofs.Ytchlbkfkecpodaa.Pu
open Go.Proofs.Ytchlbkfkecpodaa.Wt (Opn mayOp)


def PlAt (B : World) (d : Nat) (a i : Value) (wr : World) : Prop := ∃ (j q : Nat) (p : S), a = .pointer (some ⟨q, 0, none⟩) ∧ i = .int .i64 (j : Int) ∧ j ≤ 80 ∧ Md B q d p p wr
set_option maxHeartbeats 6400000 in
theorem walk (w : World) (a b c d : Int) (hI : ∀ z ∈ [a, b, c, d], Cs.I z) (A : Option Addr) (n cc : Nat) (l : List Opn) (R : Ops w w.heap.size A n l) (cp : Int) (hn : n ≤ 9223372036854775807) :
    Calls Try.prog 6 #[.agg #[.int .i64 a, .int .i64 b, .int .i64 c, .int .i64 d], .slice A n cc, .int .i64 cp] w fun e w' => e = .returned (.bool true) ∧ Below w.heap.size w w' := by
  obtain ⟨fb, hfb⟩ : ∃ x, x = w.heap.size := ⟨_, rfl⟩
  obtain ⟨w1, hw1⟩ : ∃ x, x = w.alloc (.cells #[.int .i64 a, .int .i64 b, .int .i64 c, .int .i64 d] 54) := ⟨_, rfl⟩
  have B1 : Hid (Below w.heap.size w w1) := by rw [hw1]; exact (Below.refl _ _).alloc (Nat.le_refl _) _
  have G1 : Hid (w1.heap[fb]? = some (.cells (fcs a b c d) 54 (0, 0))) := by rw [hw1, hfb]; exact heap_alloc_new _ _
  have HC : Hid (∀ w', Below w1.heap.size w1 w' → w'.cell? ⟨fb, 0, none⟩ = some (.int .i64 a) ∧ w'.cell? ⟨fb, 1, none⟩ = some (.int .i64 b) ∧ w'.cell? ⟨fb, 2, none⟩ = some (.int .i64 c) ∧ w'.cell? ⟨fb, 3, none⟩ = some (.int .i64 d)) := fun w' hb => by
    have h := (hb.block _ (lt_some G1.out)).trans G1.out
    exact ⟨one_at (i := 0) h, one_at (i := 1) h, one_at (i := 2) h, one_at (i := 3) h⟩
  obtain ⟨c0, c1, c2, c3⟩ := HC.out w1 (Below.refl _ _)
  have hI' := Lib.hid hI
  replace hw1 := Lib.hid hw1
  replace hfb := Lib.hid hfb
  replace R := Lib.hid R
  have MF := Lib.hid (fun w => refMayFunds_any w a b c d)
  clear hI
  cases hm : mayF a b c d with
  | false =>
    have N := Lib.hid (new_no w1 a b c d hI'.out hm)
    rw [hm] at MF
    clear hm
    go_enter Try.func6, Try.ntmps6
    go_upto_region 1 with fail
    rw [← hw1.out, ← hfb.out]
    go_wp2_with fail
    refine N.out.mono ?_
    rintro e w2 ⟨rfl, hb2⟩
    obtain ⟨d0, d1, d2, d3⟩ := HC.out w2 hb2
    have B2 : Hid (Below w.heap.size w w2) := B1.out.trans (hb2.mono B1.out.size)
    have M2 := Lib.hid (MF.out w2)
    clear N hb2 c0 c1 c2 c3 MF HC
    go_wp2_with fail
    refine M2.out.mono ?_
    rintro e w3 ⟨rfl, hb3⟩
    have B3 : Hid (Below w.heap.size w w3) := B2.out.trans (hb3.mono B2.out.size)
    have TA := Lib.hid (told_any w3)
    clear M2 hb3 d0 d1 d2 d3
    go_wp2_with fail
    refine TA.out.mono ?_
    rintro e w4 ⟨rfl, hb4⟩
    have B4 : Hid (Below w.heap.size w w4) := B3.out.trans (hb4.mono B3.out.size)
    clear TA hb4
    go_wp2
    go_ret
    exact ⟨rfl, B4.out⟩
  | true =>
    have N := Lib.hid (ow_new w1 a b c d hI'.out hm)
    have hm' := Lib.hid hm
    rw [hm] at MF
    clear hm
    go_enter Try.func6, Try.ntmps6
    go_upto_region 1 with fail
    rw [← hw1.out, ← hfb.out]
    go_wp2_with fail
    refine N.out.mono ?_
    rintro e w2 ⟨q, rfl, O2⟩
    obtain ⟨d0, d1, d2, d3⟩ := HC.out w2 O2.be
    have M2 := Lib.hid (MF.out w2)
    replace O2 := Lib.hid O2
    clear N c0 c1 c2 c3 MF
    go_wp2_with fail
    refine M2.out.mono ?_
    rintro e w3 ⟨rfl, hb3⟩
    have O3 := Lib.hid (O2.out.below hb3)
    obtain ⟨e0, e1, e2, e3⟩ := HC.out w3 O3.out.be
    have X := Lib.hid (refnew_any w3 a b c d hm'.out)
    clear M2 hb3 d0 d1 d2 d3 O2
    go_wp2_with fail
    refine X.out.mono ?_
    rintro e w4 ⟨dd, rfl, hd, L4, hb4⟩
    have st : Hid (PlAt w1 dd (.pointer (some ⟨q, 0, none⟩)) (.int .i64 0) w4) := ⟨0, q, _, rfl, rfl, by omega, md_start O3.out hd L4 hb4⟩
    clear X hd L4 hb4 O3 e0 e1 e2 e3 HC
    go_wp2_with fail
    go_loopw [7, 10] (fun a i wr => PlAt w1 dd a i wr) (fun _ i _ => 80 - (intOf i).toNat)
    case atStart => exact st.out
    case round =>
      clear st
      obtain ⟨j, q1, p, rfl, rfl, hj, M⟩ := hrel
      by_cases hjn : j < n
      · by_cases h80 : j < 80
        · obtain ⟨s, hs⟩ : ∃ s, l[j]? = some s := ⟨_, List.getElem?_eq_getElem (by have := R.out.len; omega)⟩
          obtain ⟨ad, rfl, hab, hat⟩ := R.out.at_ (by omega)
          have SA : Hid (∀ w', Below w1.heap.size w1 w' → w'.cell? (ad.add (j * 5)) = some (.int .i64 s.kind) ∧ w'.cell? ⟨(ad.add (j * 5)).block, (ad.add (j * 5)).off + 1, none⟩ = some (.int .i64 s.book) ∧ w'.cell? ⟨(ad.add (j * 5)).block, (ad.add (j * 5)).off + 2, none⟩ = some (.int .i64 s.units) ∧ w'.cell? ⟨(ad.add (j * 5)).block, (ad.add (j * 5)).off + 3, none⟩ = some (.int .i64 s.cust) ∧ w'.cell? ⟨(ad.add (j * 5)).block, (ad.add (j * 5)).off + 4, none⟩ = some (.int .i64 s.amount)) := fun w' hb => by
            obtain ⟨x1, x2, x3, x4, x5⟩ := ((hat j s hs).same (B1.out.block _ hab)).same (hb.block _ (Nat.lt_of_lt_of_le hab B1.out.size))
            exact ⟨x1, x2, x3, x4, x5⟩
          have i1 : (j : Int) < 80 := by omega
          have QD : Hid (∀ p2 w', Md w1 q1 dd p p2 w' → Calls Try.prog 30 #[.pointer (some ⟨q1, 0, none⟩), .agg #[.int .i64 s.kind, .int .i64 s.book, .int .i64 s.units, .int .i64 s.cust, .int .i64 s.amount]] w' fun e w'' => e = .returned (.int .i64 (dstp p s).2) ∧ Md w1 q1 dd (dstp p s).1 p2 w'') := fun p2 w' h => md_do h s
          have QX : Hid (∀ p1 w', Md w1 q1 dd p1 p w' → Calls Try.prog 31 #[.pointer (some ⟨dd, 0, none⟩), .agg #[.int .i64 s.kind, .int .i64 s.book, .int .i64 s.units, .int .i64 s.cust, .int .i64 s.amount]] w' fun e w'' => e = .returned (.int .i64 (dstp p s).2) ∧ Md w1 q1 dd p1 (dstp p s).1 w'') := fun p1 w' h => mx_do h s
          have m0' := M.drew
          have s0 := SA.out _ m0'.be
          generalize (dstp p s).2 = er at *
          generalize (dstp p s).1 = p' at *
          have q9 : (er != er) = false := by simp
          have j0 : (0 : Int) ≤ (j : Int) := by omega
          have jn : (j : Int) < (n : Int) := by omega
          clear M hs hat hab
          go_upto_region 10 with fail
          go_cut [59] from 47 to 59 (fun s59 wx => s59 = .bool false ∧ Md w1 q1 dd p' p' wx)
          case first =>
            go_region_held3 (fun w' => w'.cell? (ad.add (j * 5)) = some (.int .i64 s.kind) ∧ w'.cell? ⟨(ad.add (j * 5)).block, (ad.add (j * 5)).off + 1, none⟩ = some (.int .i64 s.book) ∧ w'.cell? ⟨(ad.add (j * 5)).block, (ad.add (j * 5)).off + 2, none⟩ = some (.int .i64 s.units) ∧ w'.cell? ⟨(ad.add (j * 5)).block, (ad.add (j * 5)).off + 3, none⟩ = some (.int .i64 s.cust) ∧ w'.cell? ⟨(ad.add (j * 5)).block, (ad.add (j * 5)).off + 4, none⟩ = some (.int .i64 s.amount)) (first | assumption | exact s0 | go_keep)
              ((first
                | (go_at_call 30; refine (QD.out _ _ (by assumption)).mono ?_; rintro e w6 ⟨rfl, hM⟩; have sr := SA.out _ hM.be)
                | (go_at_call 31; refine (QX.out _ _ (by assumption)).mono ?_; rintro e w6 ⟨rfl, hM⟩; have sr := SA.out _ hM.be)))
            all_goals
              go_wp2
              go_meet
              case rel => exact ⟨by simp, by assumption⟩
          case rest =>
            obtain ⟨rfl, M5⟩ := hcut
            replace M5 := Lib.hid M5
            clear QD QX SA m0' s0 q9
            have a31 := i64_and31 (j : Int)
            obtain ⟨sh, hsh⟩ : ∃ x : Int, x = (j : Int) % 32 := ⟨_, rfl⟩
            have h0 : 0 ≤ sh := by omega
            have h31 : sh ≤ 31 := by omega
            rw [← hsh] at a31
            replace hsh := Lib.hid hsh
            go_upto_region 12 with fail
            go_cut [66] from 60 to 66 (fun s66 wx => ∃ b : Bool, s66 = .bool b ∧ wx = wc)
            case first =>
              go_wp2
              go_meet
              case rel => exact ⟨_, rfl, rfl⟩
            case rest =>
              obtain ⟨bb, rfl, rfl⟩ := hcut
              have a7 := i64_and7 (j : Int)
              clear a31 h0 h31 hsh
              cases bb
              · have P2 := M5
                clear M5
                have nx : Hid (∀ wx, Below wc.heap.size wc wx → PlAt w1 dd (.pointer (some ⟨q1, 0, none⟩)) (.int .i64 ((j : Int) + 1)) wx) := fun wx hb => ⟨j + 1, q1, p', rfl, by simp, by omega, P2.out.below hb⟩
                by_cases h7 : (j : Int) % 8 = 7
                · have g7 : ((j : Int) % 8 == 7) = true := by simpa using h7
                  have SM := Lib.hid (md_same P2.out)
                  clear h7 P2
                  go_wp2_with fail
                  refine SM.out.mono ?_
                  rintro e w8 ⟨rfl, b8⟩
                  have F := Lib.hid (nx.out w8 b8)
                  clear SM b8 nx
                  go_wp2
                  exact ⟨F.out, by simp [intOf]; omega⟩
                · have g7 : ((j : Int) % 8 == 7) = false := by simpa using h7
                  have F := Lib.hid (nx.out wc (Below.refl _ _))
                  clear h7 P2 nx
                  go_wp2
                  exact ⟨F.out, by simp [intOf]; omega⟩
              · have CP := Lib.hid (md_copy M5.out)
                clear M5
                go_wp2_with fail
                refine CP.out.mono ?_
                rintro e w6 ⟨q2, rfl, DO⟩
                have D1 := Lib.hid (DO ⟨6, 1, 0, 0, 0⟩)
                unfold opv at D1
                clear CP DO
                go_wp2_with fail
                refine D1.out.mono ?_
                rintro e w7 ⟨rfl, M7⟩
                have P2 := Lib.hid M7
                clear D1 M7
                have nx : Hid (∀ wx, Below w7.heap.size w7 wx → PlAt w1 dd (.pointer (some ⟨q2, 0, none⟩)) (.int .i64 ((j : Int) + 1)) wx) := fun wx hb => ⟨j + 1, q2, p', rfl, by simp, by omega, P2.out.below hb⟩
                by_cases h7 : (j : Int) % 8 = 7
                · have g7 : ((j : Int) % 8 == 7) = true := by simpa using h7
                  have SM := Lib.hid (md_same P2.out)
                  clear h7 P2
                  go_wp2_with fail
                  refine SM.out.mono ?_
                  rintro e w8 ⟨rfl, b8⟩
                  have F := Lib.hid (nx.out w8 b8)
                  clear SM b8 nx
                  go_wp2
                  exact ⟨F.out, by simp [intOf]; omega⟩
                · have g7 : ((j : Int) % 8 == 7) = false := by simpa using h7
                  have F := Lib.hid (nx.out w7 (Below.refl _ _))
                  clear h7 P2 nx
                  go_wp2
                  exact ⟨F.out, by simp [intOf]; omega⟩
        · have i1 : ¬ (j : Int) < 80 := by omega
          have TA := Lib.hid (told_any wr)
          replace M := Lib.hid M
          go_wp2_with fail
          refine TA.out.mono ?_
          rintro e w8 ⟨rfl, b8⟩
          have P8 := M.out.below b8
          have SM := Lib.hid (md_same P8)
          have be : Hid (Below w.heap.size w w8) := B1.out.trans (P8.be.mono B1.out.size)
          clear TA b8 P8
          go_wp2_with fail
          refine SM.out.mono ?_
          rintro e w9 ⟨rfl, b9⟩
          have E : Hid (Below w.heap.size w w9) := be.out.trans (b9.mono be.out.size)
          clear SM b9
          go_wp2
          go_ret
          exact ⟨rfl, E.out⟩
      · have i1 : ¬ (j : Int) < (n : Int) := by omega
        have TA := Lib.hid (told_any wr)
        replace M := Lib.hid M
        go_wp2_with fail
        refine TA.out.mono ?_
        rintro e w8 ⟨rfl, b8⟩
        have P8 := M.out.below b8
        have SM := Lib.hid (md_same P8)
        have be : Hid (Below w.heap.size w w8) := B1.out.trans (P8.be.mono B1.out.size)
        clear TA b8 P8
        go_wp2_with fail
        refine SM.out.mono ?_
        rintro e w9 ⟨rfl, b9⟩
        have E : Hid (Below w.heap.size w w9) := be.out.trans (b9.mono be.out.size)
        clear SM b9
        go_wp2
        go_ret
        exact ⟨rfl, E.out⟩
theorem walkd (x : Four) (hI : ∀ z ∈ [x.a, x.b, x.c, x.d], Cs.I z) (v1 : Value) (a1 : List Opn) {W : World} (w1 : Osrc W v1 a1) (a2 : Int) (_w2 : (Lit.int .i64 a2).wf = true) (W' : World) (hW : W' = W) :
    Calls Try.prog 6 #[x.v, v1, .int .i64 a2] W' fun e w' => e = .returned (.bool true) ∧ Below W'.heap.size W' w' := by
  subst hW
  obtain ⟨A, n, c, rfl, h1, h2, R⟩ := w1
  exact walk W' x.a x.b x.c x.d hI A n c a1 R a2 (by omega)


/-! The row: every input. -/
set_option linter.unusedVariables false
set_option maxRecDepth 100000 in
theorem lifted (os : Os) (started : os.Started) (H : Type) (enc : TypeId × Value → H) :
    ReturnsInHanded {} Try.checked os 6 .any (Rows.pursePlaysSpec.pre6 enc Try.prog Try.f6 Rows.pursePlaysRow.domain false) (Rows.pursePlaysSpec.post enc Try.prog Try.f6 false true false false) := by
  refine returnsInHanded_of_change (C := Try.checked) own started (by kernel_rfl) Try.func6
    (ChangeSpec.witness6 (enc := enc) (C := Try.checked) false ⟨#[], #[.agg #[.int .i64 0, .int .i64 0, .int .i64 0, .int .i64 0], .slice none 0 0, .int .i64 0], []⟩ 8 (by kernel_rfl) (by kernel_rfl) (by kernel_rfl) (by kernel_rfl)) ?_
  intro W base args ds gs before hval0 hW _ _
  have hval : ∀ (j : Nat) t v, Try.f6.params[j]? = some t → args[j]? = some v → Value.okWide Try.prog W .any base t v := hval0
  have hW' := hW
  obtain ⟨p, q, hA0, hV, rfl, hfz, hnd⟩ := hW
  have hA : DataW.TrodAll enc Try.prog W 0 (fun _ => true) true Try.f6.params.toList args.toList ds p := hA0
  rw [Try.params6] at hA hval
  obtain ⟨v0, vs0, d0, ds0, p0, q0, hargs, rfl, rfl, h0, r0⟩ := trodAll_cons hA
  obtain ⟨v1, vs1, d1, ds1, p1, q1, rfl, rfl, rfl, h1, r1⟩ := trodAll_cons r0
  obtain ⟨v2, vs2, d2, ds2, p2, q2, rfl, rfl, rfl, h2, r2⟩ := trodAll_cons r1
  obtain ⟨rfl, rfl, rfl⟩ := trodAll_nil r2
  obtain rfl : args = #[v0, v1, v2] := by cases args; simp_all
  obtain ⟨rfl, rfl⟩ := trodVars_none hV
  obtain ⟨x0, rfl, w0⟩ := view_four (hval 0 54 v0 rfl rfl) h0
  obtain ⟨a1, w1⟩ := view_aops (hval 1 55 v1 rfl rfl) h1
  obtain ⟨a2, rfl, rfl, rfl, w2⟩ := open_int Try.underlying3 (hval 2 3 v2 rfl rfl) h2
  clear hA0 hval0
  simp only [List.append_nil] at hW'
  refine (walkd x0 w0 v1 a1 w1 a2 w2 W rfl).mono fun e W' ⟨he, hb⟩ => ?_
  subst he
  exact ⟨_, rfl, post_below (pa := p0 ++ (p1 ++ ([] ++ []))) (pv := []) hW' (fun _ _ _ => (trodAll_cons_mk (shut_bool Try.underlying4 _) trodAll_mk0)) (fun sp hsp => (trodAll_cons_mk (Trod_stays laidOut (by kernel_rfl) (of_decide_eq_true (by kernel_rfl)) h0 (fun x hx => hb.same (hW'.lt x (by simp [hx]))) (fun x hx => hsp x (by simp [hx]))) (trodAll_cons_mk (Trod_stays laidOut (by kernel_rfl) (of_decide_eq_true (by kernel_rfl)) h1 (fun x hx => hb.same (hW'.lt x (by simp [hx]))) (fun x hx => hsp x (by simp [hx]))) (trodAll_cons_mk (shut_int Try.underlying3 w2) trodAll_mk0)))) (fun _ _ => rfl) (by simp)
    hb (ok_one (by kernel_rfl) rfl (okWide_bool_mk Try.underlying4 _))⟩

theorem proved : Rows.PursePlaysSaid :=
  OpenClaim.holds_of_wide 6 Try.f6 rfl rfl rfl rfl rfl rfl rfl ⟨rfl, rfl, rfl, rfl, rfl⟩ rfl rfl rfl rfl rfl (by kernel_rfl) Try.func6 (by kernel_rfl)
    (of_decide_eq_true (by kernel_rfl)) (by unfold Func.isWrapper; first | (rw [if_pos (by decide +kernel)]; kernel_rfl) | (rw [if_neg (by decide +kernel)]; exact ⟨rfl, rfl⟩))
    (fun os started H enc _ => lifted os started H enc)
#print axioms proved

end Go.Proofs.Ytchlbkfkecpodaa.pursePlays
