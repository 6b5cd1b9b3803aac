/- Proved: an inventory does what the document says (StockPlays), for any inventory, any steps. -/
import Derived.Test.YtchlbkfkecpodaaDsF
import Derived.JoinedRecord
import Derived.HandedShaped
import Derived.Deep.RegionHeld3
namespace Go.Proofs.Ytchlbkfkecpodaa.stockPlays
set_option maxRecDepth 100000
open Go.ChangeShapes Go.WideShapes Go.ChangeAt Go.WideMaps Go.WideElems Go.RowKit
open Go.Sort (grow)
open Go.Proofs.Ytchlbkfkecpodaa.Pk (Rb adr_block one_at one_free one_set lt_some grown_set grown_trans below_grown grown_refl u8s own_form)
open Go.Proofs.Ytchlbkfkecpodaa.St
open Go.Proofs.Ytchlbkfkecpodaa.Wt (Opn mayOp)

def PlAt (B : World) (d : Nat) (cap over : Int) (a nw i : Value) (wr : World) : Prop := ∃ (j : Nat) (n : Int) (q : Nat) (f : F), a = .pointer (some ⟨q, 0, none⟩) ∧ nw = .int .i64 n ∧ i = .int .i64 j ∧ j ≤ 80 ∧ 0 ≤ n ∧ n ≤ 40 * j ∧ Pd B q d cap over f wr
set_option maxHeartbeats 6400000 in
theorem walk (w : World) (cap over : Int) (A : Option Addr) (n c : Nat) (l : List Stp) (R : Ops w w.heap.size A n l) (hn : n ≤ 9223372036854775807) :
    Calls Try.prog 4 #[.agg #[.int .i64 cap, .int .i64 over], .slice A n c] w fun e w' => e = .returned (.bool true) ∧ Below w.heap.size w w' := by
  obtain ⟨W0, hW0⟩ : ∃ W, W = w.alloc (.cells #[.int .i64 cap, .int .i64 over] 27) := ⟨_, rfl⟩
  have B0 : Hid (Below w.heap.size w W0) := by rw [hW0]; exact (Below.refl _ _).alloc (Nat.le_refl _) _
  have h0 : Hid (W0.heap[w.heap.size]? = some (.cells #[.int .i64 cap, .int .i64 over] 27 (0, 0))) := by rw [hW0]; exact heap_alloc_new _ _
  have HC : Hid (∀ w', Below W0.heap.size W0 w' → w'.cell? ⟨w.heap.size, 0, none⟩ = some (.int .i64 cap) ∧ w'.cell? ⟨w.heap.size, 1, none⟩ = some (.int .i64 over)) := fun w' hb =>
    ⟨one_at (i := 0) ((hb.block _ (lt_some h0.out)).trans h0.out), one_at (i := 1) ((hb.block _ (lt_some h0.out)).trans h0.out)⟩
  have MS := Lib.hid (fun w => refMayStock_any w cap over)
  replace hW0 := Lib.hid hW0
  replace R := Lib.hid R
  cases hms : mayS cap over with
  | false =>
    have N := Lib.hid (new_no W0 cap over hms)
    rw [hms] at MS
    clear hms
    go_enter Try.func4, Try.ntmps4
    go_wp2_with fail
    rw [← hW0.out]
    refine N.out.mono ?_
    rintro e w1 ⟨rfl, b1⟩
    obtain ⟨p0, p1⟩ := HC.out w1 b1
    have B1 : Hid (Below w.heap.size w w1) := B0.out.trans (b1.mono B0.out.size)
    clear N b1 HC
    go_wp2_with fail
    refine (MS.out w1).mono ?_
    rintro e w2 ⟨rfl, b2⟩
    have B2 : Hid (Below w.heap.size w w2) := B1.out.trans (b2.mono B1.out.size)
    have TA := Lib.hid (told_any w2)
    clear MS b2 p0 p1
    go_wp2_with fail
    refine TA.out.mono ?_
    rintro e w3 ⟨rfl, b3⟩
    have B3 : Hid (Below w.heap.size w w3) := B2.out.trans (b3.mono B2.out.size)
    clear TA b3
    go_wp2
    go_ret
    exact ⟨rfl, B3.out⟩
  | true =>
    have N := Lib.hid (ow_new W0 cap over hms)
    rw [hms] at MS
    obtain ⟨⟨ca0, ca1⟩, ov0, ov1⟩ := mayS_iff.1 hms
    go_enter Try.func4, Try.ntmps4
    go_wp2_with fail
    rw [← hW0.out]
    refine N.out.mono ?_
    rintro e w1 ⟨q, rfl, O1⟩
    obtain ⟨p0, p1⟩ := HC.out w1 O1.be
    clear N
    go_wp2_with fail
    refine (MS.out w1).mono ?_
    rintro e w2 ⟨rfl, b2⟩
    have O2 := Lib.hid (O1.below b2)
    obtain ⟨p0, p1⟩ := HC.out w2 O2.out.be
    clear MS b2 hms O1
    go_upto_region 6 with fail
    go_wp2_with (first | (refine wpList_build9 rfl (.tmp 36) rfl cap over rfl ?_) | (refine wpList_box9 rfl (.tmp 37) rfl (stcs cap over fz) rfl ?_; have P0 := Lib.hid (pd_start O2.out); have BX : Hid (Below w.heap.size w W0) := B0.out; generalize w2.heap.size = d at P0 ⊢; generalize w2.alloc (.cells (stcs cap over fz) 48) = w3 at P0 ⊢))
    have st : Hid (PlAt W0 d cap over (.pointer (some ⟨q, 0, none⟩)) (.int .i64 0) (.int .i64 0) w3) := ⟨0, 0, q, fz, rfl, rfl, rfl, by omega, by omega, by omega, P0.out⟩
    clear O2 P0 p0 p1 h0 HC hW0
    go_wp2_with fail
    go_loopw [5, 8, 9] (fun a nw i wr => PlAt W0 d cap over a nw i wr) (fun _ _ i _ => 80 - (intOf i).toNat)
    case atStart => exact st.out
    case round =>
      clear st
      obtain ⟨j, nw, q1, f, rfl, rfl, rfl, hj, n0, n1, P⟩ := hrel
      by_cases hjn : j < n
      · by_cases h80 : j < 80
        · obtain ⟨s, hs⟩ : ∃ s, l[j]? = some s := ⟨_, List.getElem?_eq_getElem (by have := R.out.len; omega)⟩
          obtain ⟨ad, rfl, hab, hat⟩ := R.out.at_ (by omega)
          have bw : Below w.heap.size w wr := B0.out.trans (P.ow.be.mono B0.out.size)
          obtain ⟨c0, c1, c2, c3, c4, c5, c6, c7, c8⟩ := (hat j s hs).same (bw.block _ hab)
          have i1 : (j : Int) < 80 := by omega
          obtain ⟨d', hd'⟩ : ∃ k, k = usm s.d 40 := ⟨_, rfl⟩
          have d1' : d' < 40 := by rw [hd']; exact usm_lt _ (by omega)
          have uz : wrap64 ((IntKind.u64.wrap s.d).tmod 40) = (d' : Int) := by rw [hd']; exact usm_slot s.d (n := 40) (by omega) (by omega)
          obtain ⟨nw2, hnw⟩ : ∃ x : Int, x = nw + (d' : Int) := ⟨_, rfl⟩
          have m0 : 0 ≤ nw2 := by omega
          have m1 : nw2 ≤ 40 * ((j + 1 : Nat) : Int) := by omega
          replace hs := Lib.hid hs
          replace hat := Lib.hid hat
          replace hd' := Lib.hid hd'
          obtain ⟨ob, hob⟩ : ∃ x, x = wr.heap.size := ⟨_, rfl⟩
          obtain ⟨W5, hW5⟩ : ∃ X, X = wr.alloc (.cells #[.int .i64 s.kind, .int .i64 s.o.kind, .int .i64 s.o.book, .int .i64 s.o.units, .int .i64 s.o.cust, .int .i64 s.o.amount, .int .i64 s.d, .int .i64 s.now, .bool s.raw] 32) := ⟨_, rfl⟩
          have M : Hid (Md W0 q1 d ob cap over f f s W5) := by rw [hW5, hob]; exact P.box s
          clear P bw hs hat
          go_upto_region 13 with fail
          rw [uz, ← hnw]
          clear uz
          replace hnw := Lib.hid hnw
          replace hW5 := Lib.hid hW5
          rw [← hob, ← hW5.out]
          replace hob := Lib.hid hob
          obtain ⟨y0, y1, y2, y3, y4, y5, y6, y7, y8⟩ := M.out.cells
          obtain ⟨rb, hrb⟩ : ∃ b, b = s.raw := ⟨_, rfl⟩
          rw [← hrb] at y8
          clear c0 c1 c2 c3 c4 c5 c6 c7 c8 hW5 hrb
          go_upto_if 62 with fail
          go_cut [11] from 61 to 64 (fun s11 wx => wx = W5 ∧ ∃ t : Int, s11 = .int .i64 t)
          case first =>
            cases rb
            · go_wp2
              go_meet
              case rel => exact ⟨rfl, _, rfl⟩
            · go_wp2
              go_meet
              case rel => exact ⟨rfl, _, rfl⟩
          case rest =>
            obtain ⟨rfl, t, rfl⟩ := hcut
            go_upto_block 2 with fail
            go_cut [5, 12] from 67 to 98 (fun s5 _ wx => ∃ q2 f', s5 = .pointer (some ⟨q2, 0, none⟩) ∧ Pd W0 q2 d cap over f' wx)
            case first =>
              by_cases k0 : s.kind = 0
              · have x0 : (s.kind == 0) = true := by simpa using k0
                have QD : Hid (∀ f2 w', Md W0 q1 d ob cap over f f2 s w' → Calls Try.prog 12 #[.pointer (some ⟨q1, 0, none⟩), .agg #[.int .i64 s.o.kind, .int .i64 s.o.book, .int .i64 s.o.units, .int .i64 s.o.cust, .int .i64 s.o.amount], .int .i64 t] w' fun e w'' => e = .returned (.int .i64 (dstp cap over f s.o t).2) ∧ Md W0 q1 d ob cap over (dstp cap over f s.o t).1 f2 s w'') := fun f2 w' h => md_do h s.o t
                have QX : Hid (∀ f1 w', Md W0 q1 d ob cap over f1 f s w' → Calls Try.prog 19 #[.pointer (some ⟨d, 0, none⟩), .agg #[.int .i64 s.o.kind, .int .i64 s.o.book, .int .i64 s.o.units, .int .i64 s.o.cust, .int .i64 s.o.amount], .int .i64 t] w' fun e w'' => e = .returned (.int .i64 (dstp cap over f s.o t).2) ∧ Md W0 q1 d ob cap over f1 (dstp cap over f s.o t).1 s w'') := fun f1 w' h => mx_do h s.o t
                have SA : Hid (∀ f1 f2 w', Md W0 q1 d ob cap over f1 f2 s w' → w'.cell? ⟨ob, 1, none⟩ = some (.int .i64 s.o.kind) ∧ w'.cell? ⟨ob, 2, none⟩ = some (.int .i64 s.o.book) ∧ w'.cell? ⟨ob, 3, none⟩ = some (.int .i64 s.o.units) ∧ w'.cell? ⟨ob, 4, none⟩ = some (.int .i64 s.o.cust) ∧ w'.cell? ⟨ob, 5, none⟩ = some (.int .i64 s.o.amount)) := fun f1 f2 w' h => ⟨h.cells.2.1, h.cells.2.2.1, h.cells.2.2.2.1, h.cells.2.2.2.2.1, h.cells.2.2.2.2.2.1⟩
                have m0' := M.out.drew
                have s0 := SA.out _ _ _ m0'
                generalize (dstp cap over f s.o t).2 = er at *
                generalize (dstp cap over f s.o t).1 = f' at *
                have q9 : (er != er) = false := by simp
                clear k0 M
                go_upto_region 23 with fail
                go_cut [88] from 78 to 88 (fun s88 wx => s88 = .bool false ∧ Md W0 q1 d ob cap over f' f' s wx)
                case first =>
                  go_region_held3 (fun w' => w'.cell? ⟨ob, 1, none⟩ = some (.int .i64 s.o.kind) ∧ w'.cell? ⟨ob, 2, none⟩ = some (.int .i64 s.o.book) ∧ w'.cell? ⟨ob, 3, none⟩ = some (.int .i64 s.o.units) ∧ w'.cell? ⟨ob, 4, none⟩ = some (.int .i64 s.o.cust) ∧ w'.cell? ⟨ob, 5, none⟩ = some (.int .i64 s.o.amount)) (first | assumption | exact s0 | go_keep)
                    ((first
                      | (go_at_call 12; refine (QD.out _ _ (by assumption)).mono ?_; rintro e w6 ⟨rfl, hM⟩; have sr := SA.out _ _ _ hM)
                      | (go_at_call 19; refine (QX.out _ _ (by assumption)).mono ?_; rintro e w6 ⟨rfl, hM⟩; have sr := SA.out _ _ _ hM)))
                  all_goals
                    go_wp2
                    go_meet
                    case rel => exact ⟨by simp, by assumption⟩
                case rest =>
                  obtain ⟨rfl, hM⟩ := hcut
                  have E := Lib.hid hM.pair
                  clear hM QD QX SA m0' s0 q9
                  go_wp2
                  go_meet
                  case rel => exact ⟨q1, f', rfl, E.out⟩
              · have x0 : (s.kind == 0) = false := by simpa using k0
                by_cases k1 : s.kind = 1
                · have x1 : (s.kind == 1) = true := by simpa using k1
                  have SW := Lib.hid (md_sweep M.out t)
                  have dlt := Lib.hid M.out.ds.lt
                  clear k0 k1 M
                  go_wp2_with fail
                  refine SW.out.mono ?_
                  rintro e w6 ⟨A1, c1, rfl, r1, sz, M6⟩
                  have SX := Lib.hid (mx_sweep M6 t r1 dlt.out)
                  clear SW r1 sz M6
                  go_wp2_with fail
                  refine SX.out.mono ?_
                  rintro e w7 ⟨A2, c2, rfl, r2, r1, M7⟩
                  have IS := Lib.hid (ints_same w7 A1 A2 _ c1 c2 (swL f t) (Nz.of_row r1 rfl) (Nz.of_row r2 rfl) rfl (swL_few f t))
                  have P7 := Lib.hid M7.pair
                  clear SX r1 r2 M7
                  go_wp2_with fail
                  refine IS.out.mono ?_
                  rintro e w8 ⟨rfl, b8⟩
                  have E := Lib.hid (P7.out.below b8)
                  clear IS P7 b8
                  go_wp2
                  go_meet
                  case rel => exact ⟨q1, swF f t, rfl, E.out⟩
                · have x1 : (s.kind == 1) = false := by simpa using k1
                  have CP := Lib.hid (ow_copy2 M.out.ow)
                  have DM := Lib.hid M.out.ds
                  have dl := Lib.hid M.out.dlt
                  clear k0 k1 M
                  go_wp2_with fail
                  refine CP.out.mono ?_
                  rintro e w6 ⟨q2, fp', rfl, hf, L', O6, b6⟩
                  have DO := Lib.hid (ow_do O6 ⟨3, 1, 0, 0, 0⟩ nw2)
                  unfold opv at DO
                  have EX : Hid (∀ w7, OwTo W0.heap.size (fun g => (g = ob ∨ g = d) ∨ fp' g) W0 w6 q1 cap over (dstp cap over f ⟨3, 1, 0, 0, 0⟩ nw2).1 w7 → Pd W0 q2 d cap over f w7) := fun w7 h7 => ⟨(Ow.of_copy L' hf h7).less fun g h => .inr h, (DM.out.below b6).keep (h7.2.2 d (.inl (.inr rfl))), dl.out⟩
                  clear CP hf L' O6 b6 DM dl
                  go_wp2_with fail
                  refine DO.out.mono ?_
                  rintro e w7 ⟨rfl, h7⟩
                  have E := Lib.hid (EX.out w7 h7)
                  clear DO EX h7
                  go_wp2
                  go_meet
                  case rel => exact ⟨q2, f, rfl, E.out⟩
            case rest =>
              obtain ⟨q2, f', rfl, P2⟩ := hcut
              clear M y0 y1 y2 y3 y4 y5 y6 y7 y8
              have a7 := i64_and7 (j : Int)
              have nx : Hid (∀ wx, Below wc.heap.size wc wx → PlAt W0 d cap over (.pointer (some ⟨q2, 0, none⟩)) (.int .i64 nw2) (.int .i64 ((j : Int) + 1)) wx) := fun wx hb => ⟨j + 1, nw2, q2, f', rfl, rfl, by simp, by omega, m0, m1, P2.below hb⟩
              by_cases h7 : (j : Int) % 8 = 7
              · have g7 : ((j : Int) % 8 == 7) = true := by simpa using h7
                have SM := Lib.hid (pd_same P2)
                clear h7 P2
                go_wp2_with fail
                refine SM.out.mono ?_
                rintro e w8 ⟨rfl, b8⟩
                have F := Lib.hid (nx.out w8 b8)
                clear SM b8 nx
                go_wp2
                exact ⟨F.out, by simp [intOf]; omega⟩
              · have g7 : ((j : Int) % 8 == 7) = false := by simpa using h7
                have F := Lib.hid (nx.out wc (Below.refl _ _))
                clear h7 P2 nx
                go_wp2
                exact ⟨F.out, by simp [intOf]; omega⟩
        · have i1 : ¬ (j : Int) < 80 := by omega
          have TA := Lib.hid (told_any wr)
          replace P := Lib.hid P
          go_wp2_with fail
          refine TA.out.mono ?_
          rintro e w8 ⟨rfl, b8⟩
          have P8 := P.out.below b8
          have SM := Lib.hid (pd_same P8)
          have be : Hid (Below w.heap.size w w8) := B0.out.trans (P8.ow.be.mono B0.out.size)
          clear TA b8 P8
          go_wp2_with fail
          refine SM.out.mono ?_
          rintro e w9 ⟨rfl, b9⟩
          have E : Hid (Below w.heap.size w w9) := be.out.trans (b9.mono be.out.size)
          clear SM b9
          go_wp2
          go_ret
          exact ⟨rfl, E.out⟩
      · have i1 : ¬ (j : Int) < (n : Int) := by omega
        have TA := Lib.hid (told_any wr)
        replace P := Lib.hid P
        go_wp2_with fail
        refine TA.out.mono ?_
        rintro e w8 ⟨rfl, b8⟩
        have P8 := P.out.below b8
        have SM := Lib.hid (pd_same P8)
        have be : Hid (Below w.heap.size w w8) := B0.out.trans (P8.ow.be.mono B0.out.size)
        clear TA b8 P8
        go_wp2_with fail
        refine SM.out.mono ?_
        rintro e w9 ⟨rfl, b9⟩
        have E : Hid (Below w.heap.size w w9) := be.out.trans (b9.mono be.out.size)
        clear SM b9
        go_wp2
        go_ret
        exact ⟨rfl, E.out⟩
theorem walkd (x0 : Int × Int) (v1 : Value) (a1 : List Stp) {W : World} (w1 : Osrc W v1 a1) (W' : World) (hW : W' = W) :
    Calls Try.prog 4 #[.agg #[.int .i64 x0.1, .int .i64 x0.2], v1] W' fun e w' => e = .returned (.bool true) ∧ Below W'.heap.size W' w' := by
  subst hW
  obtain ⟨A, n, c, rfl, h1, h2, R⟩ := w1
  exact walk W' x0.1 x0.2 A n c a1 R (by omega)


/-! The row: every input. -/
set_option linter.unusedVariables false
set_option maxRecDepth 100000 in
theorem lifted (os : Os) (started : os.Started) (H : Type) (enc : TypeId × Value → H) :
    ReturnsInHanded {} Try.checked os 4 .any (Rows.stockPlaysSpec.pre6 enc Try.prog Try.f4 Rows.stockPlaysRow.domain false) (Rows.stockPlaysSpec.post enc Try.prog Try.f4 false true false false) := by
  refine returnsInHanded_of_change (C := Try.checked) own started (by kernel_rfl) Try.func4
    (ChangeSpec.witness6 (enc := enc) (C := Try.checked) false ⟨#[], #[.agg #[.int .i64 0, .int .i64 0], .slice none 0 0], []⟩ 8 (by kernel_rfl) (by kernel_rfl) (by kernel_rfl) (by kernel_rfl)) ?_
  intro W base args ds gs before hval0 hW _ _
  have hval : ∀ (j : Nat) t v, Try.f4.params[j]? = some t → args[j]? = some v → Value.okWide Try.prog W .any base t v := hval0
  have hW' := hW
  obtain ⟨p, q, hA0, hV, rfl, hfz, hnd⟩ := hW
  have hA : DataW.TrodAll enc Try.prog W 0 (fun _ => true) true Try.f4.params.toList args.toList ds p := hA0
  rw [Try.params4] at hA hval
  obtain ⟨v0, vs0, d0, ds0, p0, q0, hargs, rfl, rfl, h0, r0⟩ := trodAll_cons hA
  obtain ⟨v1, vs1, d1, ds1, p1, q1, rfl, rfl, rfl, h1, r1⟩ := trodAll_cons r0
  obtain ⟨rfl, rfl, rfl⟩ := trodAll_nil r1
  obtain rfl : args = #[v0, v1] := by cases args; simp_all
  obtain ⟨rfl, rfl⟩ := trodVars_none hV
  obtain ⟨x0, rfl⟩ := view_stock (hval 0 27 v0 rfl rfl) h0
  obtain ⟨a1, w1⟩ := view_sops (hval 1 22 v1 rfl rfl) h1
  clear hA0 hval0
  simp only [List.append_nil] at hW'
  refine (walkd x0 v1 a1 w1 W rfl).mono fun e W' ⟨he, hb⟩ => ?_
  subst he
  exact ⟨_, rfl, post_below (pa := p0 ++ (p1 ++ [])) (pv := []) hW' (fun _ _ _ => (trodAll_cons_mk (shut_bool Try.underlying4 _) trodAll_mk0)) (fun sp hsp => (trodAll_cons_mk (Trod_stays laidOut (by kernel_rfl) (of_decide_eq_true (by kernel_rfl)) h0 (fun x hx => hb.same (hW'.lt x (by simp [hx]))) (fun x hx => hsp x (by simp [hx]))) (trodAll_cons_mk (Trod_stays laidOut (by kernel_rfl) (of_decide_eq_true (by kernel_rfl)) h1 (fun x hx => hb.same (hW'.lt x (by simp [hx]))) (fun x hx => hsp x (by simp [hx]))) trodAll_mk0))) (fun _ _ => rfl) (by simp)
    hb (ok_one (by kernel_rfl) rfl (okWide_bool_mk Try.underlying4 _))⟩

theorem proved : Rows.StockPlaysSaid :=
  OpenClaim.holds_of_wide 4 Try.f4 rfl rfl rfl rfl rfl rfl rfl ⟨rfl, rfl, rfl, rfl, rfl⟩ rfl rfl rfl rfl rfl (by kernel_rfl) Try.func4 (by kernel_rfl)
    (of_decide_eq_true (by kernel_rfl)) (by unfold Func.isWrapper; first | (rw [if_pos (by decide +kernel)]; kernel_rfl) | (rw [if_neg (by decide +kernel)]; exact ⟨rfl, rfl⟩))
    (fun os started H enc _ => lifted os started H enc)
#print axioms proved

end Go.Proofs.Ytchlbkfkecpodaa.stockPlays
