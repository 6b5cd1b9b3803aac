/- Proved: a hold is done just if so many units are free, and then they are not (StockFits), for any inventory up to fifty units, any holds of other bookings each. -/
import Derived.Test.YtnjcdlenpcpjaaaStP
import Derived.JoinedRecord
import Derived.HandedShaped
namespace Go.Proofs.Ytnjcdlenpcpjaaa.stockFits
set_option maxRecDepth 100000
open Go.ChangeShapes Go.WideShapes Go.ChangeAt Go.WideMaps Go.WideElems Go.RowKit
open Go.Sort (grow)
open Go.Proofs.Ytnjcdlenpcpjaaa.Pk (Rb adr_block one_at one_free one_set lt_some grown_set grown_trans below_grown grown_refl u8s own_form)
open Go.Proofs.Ytnjcdlenpcpjaaa.St
open Go.Proofs.Ytnjcdlenpcpjaaa.Wt (Opn mayOp)


theorem room_upd {cap over b : Int} {f : F} (e : E) (b1 : 1 ≤ b) (b2 : b ≤ 200) : room cap over (upd f b e) = room cap over f - (hu 1 e - hu 1 (f b)) - (hu 2 e - hu 2 (f b)) := by
  unfold room
  rw [uni_upd 1 f e b1 b2, uni_upd 2 f e b1 b2]
  omega
/-- Between two rounds, as values. -/
structure Fi (cap over fr : Int) (j : Nat) (f : F) : Prop where
  room : room cap over f = fr
  conf : uni 2 f = 0
  new : ∀ k : Int, (j : Int) < k → f k = ez
theorem fi_put {cap over fr : Int} {j : Nat} {f : F} (h : Fi cap over fr j f) (hj : j < 30) (e : E) (h2 : hu 2 e = 0) : Fi cap over (fr - hu 1 e) (j + 1) (upd f ((j : Int) + 1) e) := by
  have hz : f ((j : Int) + 1) = ez := h.new _ (by omega)
  have z1 : hu 1 ez = 0 := by decide
  have z2 : hu 2 ez = 0 := by decide
  refine ⟨?_, ?_, fun k hk => ?_⟩
  · rw [room_upd e (by omega) (by omega), hz, h.room]; omega
  · rw [uni_upd 2 f e (by omega) (by omega), hz, h.conf]; omega
  · rw [upd_other (by omega)]; exact h.new k (by omega)
theorem fi_held {cap over fr : Int} {j : Nat} {f : F} (h : Fi cap over fr j f) : uni 1 f = cap + over - fr := by
  have := h.room
  unfold St.room at this
  rw [h.conf] at this
  omega
def FiAt (W : World) (q : Nat) (cap over : Int) (vf i : Value) (wr : World) : Prop := ∃ (j : Nat) (fr : Int) (f : F), i = .int .i64 j ∧ vf = .int .i64 fr ∧ j ≤ 30 ∧ Ow W.heap.size (fun g => g < W.heap.size) W wr q cap over f ∧ Fi cap over fr j f
set_option maxHeartbeats 6400000 in
theorem walk (w : World) (a0 a1 : Int) (A : Option Addr) (n c : Nat) (zs : List Int) (R : Rr w (fun g => g < w.heap.size) A n zs) (_hc : n ≤ c) (_hm : c ≤ 9223372036854775807) :
    Calls Try.prog 9 #[.int .i64 a0, .int .i64 a1, .slice A n c] w fun e w' => e = .returned (.bool true) ∧ Below w.heap.size w w' := by
  obtain ⟨t', ht'⟩ : ∃ k, k = usm a0 41 := ⟨_, rfl⟩
  obtain ⟨d', hd'⟩ : ∃ k, k = usm a1 11 := ⟨_, rfl⟩
  have t1' : t' < 41 := by rw [ht']; exact usm_lt _ (by omega)
  have d1' : d' < 11 := by rw [hd']; exact usm_lt _ (by omega)
  have ux : wrap64 ((IntKind.u64.wrap a0).tmod 41) = (t' : Int) := by rw [ht']; exact usm_slot a0 (n := 41) (by omega) (by omega)
  have uy : wrap64 ((IntKind.u64.wrap a1).tmod 11) = (d' : Int) := by rw [hd']; exact usm_slot a1 (n := 11) (by omega) (by omega)
  obtain ⟨cap, hca⟩ : ∃ t : Int, t = t' := ⟨_, rfl⟩
  obtain ⟨over, hov⟩ : ∃ t : Int, t = d' := ⟨_, rfl⟩
  rw [← hca] at ux
  rw [← hov] at uy
  have t0 : 0 ≤ cap := by omega
  have t1 : cap ≤ 40 := by omega
  have d0 : 0 ≤ over := by omega
  have d1 : over ≤ 10 := by omega
  clear ht' hd' t1' d1' hca hov
  obtain ⟨W, hW⟩ : ∃ W, W = w.alloc (.cells #[.int .i64 cap, .int .i64 over] 27) := ⟨_, rfl⟩
  have BW : Hid (Below w.heap.size w W) := by rw [hW]; exact (Below.refl _ _).alloc (Nat.le_refl _) _
  have hP : Hid (W.heap[w.heap.size]? = some (.cells #[.int .i64 cap, .int .i64 over] 27 (0, 0))) := by rw [hW]; exact heap_alloc_new _ _
  have sW : Hid (w.heap.size < W.heap.size) := lt_some hP.out
  have N := Lib.hid (ow_new W cap over (mayS_iff.2 ⟨⟨t0, by omega⟩, d0, by omega⟩))
  replace hW := Lib.hid hW
  replace R := Lib.hid R
  have HC : Hid (∀ w', Below W.heap.size W w' → w'.cell? ⟨w.heap.size, 0, none⟩ = some (.int .i64 cap) ∧ w'.cell? ⟨w.heap.size, 1, none⟩ = some (.int .i64 over)) := fun w' hb =>
    ⟨one_at (i := 0) ((hb.block _ sW.out).trans hP.out), one_at (i := 1) ((hb.block _ sW.out).trans hP.out)⟩
  go_enter Try.func9, Try.ntmps9
  go_upto_region 2 with fail
  rw [ux, uy]
  clear ux uy
  rw [← hW.out]
  have p0 := (HC.out W (Below.refl _ _)).1
  have p1 := (HC.out W (Below.refl _ _)).2
  go_wp2_with fail
  refine N.out.mono ?_
  rintro e w1 ⟨q, rfl, O1⟩
  clear p0 p1 N hW
  obtain ⟨p0, p1⟩ := HC.out w1 O1.be
  obtain ⟨co, hco⟩ : ∃ x, x = cap + over := ⟨_, rfl⟩
  have eco : IntKind.i64.wrap (cap + over) = co := by rw [IntKind.wrap_i64]; omega
  have st : Hid (FiAt W q cap over (.int .i64 co) (.int .i64 0) w1) := ⟨0, co, fz, rfl, rfl, by omega, O1, room_z cap over |>.trans hco.symm, uni_z 2, fun k _ => rfl⟩
  replace hco := Lib.hid hco
  clear O1
  go_wp2_with fail
  clear p0 p1
  go_loopw [10, 11] (fun vf i wr => FiAt W q cap over vf i wr) (fun _ i _ => 30 - (intOf i).toNat)
  case atStart => exact st.out
  case round =>
    clear st
    obtain ⟨j, fr, f, rfl, rfl, hj, O, H⟩ := hrel
    have bw : Hid (Below w.heap.size w wr) := BW.out.trans (O.be.mono BW.out.size)
    have b1 := O.ok.bds
    rw [H.room] at b1
    obtain ⟨-, -, -, -, r0, -⟩ := b1
    have r1 : fr ≤ 50 := by
      have h1 := H.room
      have h2 := O.ok.uni0 1
      have h3 := O.ok.uni0 2
      unfold St.room at h1
      omega
    by_cases hn : j < n
    · by_cases h30 : j < 30
      · obtain ⟨z, hz⟩ : ∃ z, zs[j]? = some z := ⟨_, List.getElem?_eq_getElem (by have := R.out.len; omega)⟩
        obtain ⟨ad, rfl, hab, hcz⟩ := R.out.at_ (by omega)
        have k0 : wr.cell? (ad.add j) = some (.int .i64 z) := (World.cell?_of_block (by rw [adr_block]; exact bw.out.block _ hab)).trans (hcz j z hz)
        obtain ⟨u', hu'⟩ : ∃ k, k = usm z 15 := ⟨_, rfl⟩
        have u1' : u' < 15 := by rw [hu']; exact usm_lt _ (by omega)
        have uz : wrap64 ((IntKind.u64.wrap z).tmod 15) = (u' : Int) := by rw [hu']; exact usm_slot z (n := 15) (by omega) (by omega)
        obtain ⟨u, hu⟩ : ∃ u : Int, u = 1 + (u' : Int) := ⟨_, rfl⟩
        have u1 : 1 ≤ u := by omega
        have u2 : u ≤ 15 := by omega
        have i1 : (j : Int) < 30 := by omega
        obtain ⟨b, hb⟩ : ∃ b : Int, b = (j : Int) + 1 := ⟨_, rfl⟩
        have b1 : 1 ≤ b := by omega
        have b2 : b ≤ 200 := by omega
        have tj : tick (j : Int) = true := tick_of (by omega) (by omega)
        have fb : f b = ez := by rw [hb]; exact H.new _ (by omega)
        have ea : bits .and .i64 (j : Int) 3 = (j : Int) % 4 := i64_and3 _
        by_cases hr : u ≤ fr
        · have g1 : decide (u ≤ fr) = true := decide_eq_true hr
          have HO : Hid (dstp cap over f ⟨1, b, u, 0, 0⟩ j = (upd f b ⟨1, u, (j : Int) + 60⟩, 1)) := d_hold_yes b1 b2 u1 (by omega) tj (by rw [fb]; rfl) (by rw [H.room]; exact hr)
          have H2 := fi_put H h30 ⟨1, u, (j : Int) + 60⟩ (by simp [St.hu])
          rw [← hb, show St.hu 1 ⟨1, u, (j : Int) + 60⟩ = u from by simp [St.hu]] at H2
          have D : Calls Try.prog 12 #[.pointer (some ⟨q, 0, none⟩), .agg #[.int .i64 1, .int .i64 b, .int .i64 u, .int .i64 0, .int .i64 0], .int .i64 j] wr fun e w' => e = .returned (.int .i64 1) ∧ OwTo W.heap.size (fun g => g < W.heap.size) W wr q cap over (upd f b ⟨1, u, (j : Int) + 60⟩) w' := by
            have := ow_do O ⟨1, b, u, 0, 0⟩ j
            rw [HO.out] at this
            exact this
          obtain ⟨fr2, hf2⟩ : ∃ x, x = fr - u := ⟨_, rfl⟩
          have ef2 : IntKind.i64.wrap (fr - u) = fr2 := by rw [IntKind.wrap_i64]; omega
          rw [← hf2] at H2
          have es : IntKind.i64.wrap (cap + over) = co := eco
          have eh : IntKind.i64.wrap (co - fr2) = co - fr2 := by have := hco.out; rw [IntKind.wrap_i64]; omega
          replace D := Lib.hid D
          replace H := Lib.hid H
          replace fb := Lib.hid fb
          replace hz := Lib.hid hz
          replace hf2 := Lib.hid hf2
          replace hu' := Lib.hid hu'
          have F3 : Hid (dstp cap over (upd f b ⟨1, u, (j : Int) + 60⟩) ⟨3, b, 0, 0, 0⟩ j = (upd f b eg, 1)) := by
            show _ = _
            rw [d_rel b1 b2 tj, upd_upd]
          have H3 : Hid (Fi cap over fr (j + 1) (upd f b eg)) := by
            have := fi_put H.out h30 eg (by decide)
            rw [← hb, show St.hu 1 eg = 0 from by decide] at this
            show Fi cap over fr (j + 1) (upd f b eg)
            simpa using this
          clear O b1 b2 tj HO
          go_upto_region 10 with fail
          rw [uz, ← hu]
          clear uz k0
          replace hu := Lib.hid hu
          go_wp2_with fail
          rw [← hb]
          refine D.out.mono ?_
          rintro e w2 ⟨rfl, O2, _⟩
          clear D
          obtain ⟨p0, p1⟩ := HC.out w2 O2.be
          have z0 := cell_regrown p0
          have z1 := cell_regrown p1
          have Q1 := fun dd os => Calls.regrown_of (ow_free (O2.below (below_regrown w2 dd os)))
          have Q2 := fun dd os => Calls.regrown_of (ow_held (O2.below (below_regrown w2 dd os)))
          rw [H2.room] at Q1
          have hh := fi_held H2
          rw [← hco.out] at hh
          rw [hh] at Q2
          replace O2 := Lib.hid O2
          replace H2 := Lib.hid H2
          clear hh p0 p1
          go_wp2_with fail
          refine wp_region_quiet_below (by kernel_rfl) (by kernel_rfl) ?_
          repeat (go_big_quiet_step (first | with_reducible exact Q1 _ _ | with_reducible exact Q2 _ _))
          refine wpQuiet_nil ?_
          intro w7 hw'
          obtain ⟨⟨dq, osq⟩, hw7⟩ := hw'
          have O7 : Hid (Ow W.heap.size (fun g => g < W.heap.size) W w7 q cap over (upd f b ⟨1, u, (j : Int) + 60⟩)) := by rw [hw7]; exact O2.out.below (below_regrown w2 dq osq)
          clear hw7 Q1 Q2 z0 z1 O2
          by_cases h3 : (j : Int) % 4 = 3
          · have g3 : ((j : Int) % 4 == 3) = true := by simpa using h3
            have D : Calls Try.prog 12 #[.pointer (some ⟨q, 0, none⟩), .agg #[.int .i64 3, .int .i64 b, .int .i64 0, .int .i64 0, .int .i64 0], .int .i64 j] w7 fun e w' => e = .returned (.int .i64 1) ∧ OwTo W.heap.size (fun g => g < W.heap.size) W w7 q cap over (upd f b eg) w' := by
              have := ow_do O7.out ⟨3, b, 0, 0, 0⟩ j
              rw [F3.out] at this
              exact this
            replace D := Lib.hid D
            have ef3 : IntKind.i64.wrap (fr2 + u) = fr := by have := hf2.out; rw [IntKind.wrap_i64]; omega
            clear O7
            go_wp2_with fail
            rw [← hb]
            refine D.out.mono ?_
            rintro e w8 ⟨rfl, O8, _⟩
            have nx : Hid (FiAt W q cap over (.int .i64 fr) (.int .i64 ((j + 1 : Nat) : Int)) w8) := ⟨j + 1, fr, _, rfl, rfl, by omega, O8, H3.out⟩
            clear D O8
            go_wp2
            exact ⟨nx.out, by simp [intOf]; omega⟩
          · have g3 : ((j : Int) % 4 == 3) = false := by simpa using h3
            have nx : Hid (FiAt W q cap over (.int .i64 fr2) (.int .i64 ((j + 1 : Nat) : Int)) w7) := ⟨j + 1, fr2, _, rfl, rfl, by omega, O7.out, H2.out⟩
            clear O7
            go_wp2
            exact ⟨nx.out, by simp [intOf]; omega⟩
        · have g1 : decide (u ≤ fr) = false := decide_eq_false hr
          have HO : Hid (dstp cap over f ⟨1, b, u, 0, 0⟩ j = (upd f b eg, 2)) := d_hold_no b1 b2 u1 (by omega) tj (by rw [fb]; rfl) (by rw [H.room]; exact hr)
          have H2 : Fi cap over fr (j + 1) (upd f b eg) := by
            have := fi_put H h30 eg (by decide)
            rw [← hb, show St.hu 1 eg = 0 from by decide] at this
            simpa using this
          have D : Calls Try.prog 12 #[.pointer (some ⟨q, 0, none⟩), .agg #[.int .i64 1, .int .i64 b, .int .i64 u, .int .i64 0, .int .i64 0], .int .i64 j] wr fun e w' => e = .returned (.int .i64 2) ∧ OwTo W.heap.size (fun g => g < W.heap.size) W wr q cap over (upd f b eg) w' := by
            have := ow_do O ⟨1, b, u, 0, 0⟩ j
            rw [HO.out] at this
            exact this
          have es : IntKind.i64.wrap (cap + over) = co := eco
          have eh : IntKind.i64.wrap (co - fr) = co - fr := by have := hco.out; rw [IntKind.wrap_i64]; omega
          replace D := Lib.hid D
          replace H := Lib.hid H
          replace fb := Lib.hid fb
          replace hz := Lib.hid hz
          replace hu' := Lib.hid hu'
          clear O b1 b2 tj HO
          go_upto_region 10 with fail
          rw [uz, ← hu]
          clear uz k0
          replace hu := Lib.hid hu
          go_wp2_with fail
          rw [← hb]
          refine D.out.mono ?_
          rintro e w2 ⟨rfl, O2, _⟩
          clear D
          obtain ⟨p0, p1⟩ := HC.out w2 O2.be
          have z0 := cell_regrown p0
          have z1 := cell_regrown p1
          have Q1 := fun dd os => Calls.regrown_of (ow_free (O2.below (below_regrown w2 dd os)))
          have Q2 := fun dd os => Calls.regrown_of (ow_held (O2.below (below_regrown w2 dd os)))
          rw [H2.room] at Q1
          have hh := fi_held H2
          rw [← hco.out] at hh
          rw [hh] at Q2
          replace O2 := Lib.hid O2
          replace H2 := Lib.hid H2
          clear hh p0 p1
          go_wp2_with fail
          refine wp_region_quiet_below (by kernel_rfl) (by kernel_rfl) ?_
          repeat (go_big_quiet_step (first | with_reducible exact Q1 _ _ | with_reducible exact Q2 _ _))
          refine wpQuiet_nil ?_
          intro w7 hw'
          obtain ⟨⟨dq, osq⟩, hw7⟩ := hw'
          have O7 : Hid (Ow W.heap.size (fun g => g < W.heap.size) W w7 q cap over (upd f b eg)) := by rw [hw7]; exact O2.out.below (below_regrown w2 dq osq)
          clear hw7 Q1 Q2 z0 z1 O2
          have nx : Hid (FiAt W q cap over (.int .i64 fr) (.int .i64 ((j + 1 : Nat) : Int)) w7) := ⟨j + 1, fr, _, rfl, rfl, by omega, O7.out, H2.out⟩
          clear O7
          go_wp2
          exact ⟨nx.out, by simp [intOf]; omega⟩
      · have i1 : ¬ (j : Int) < 30 := by omega
        have TA := Lib.hid (told_any wr)
        replace O := Lib.hid O
        replace H := Lib.hid H
        go_wp2_with fail
        refine TA.out.mono ?_
        rintro e w8 ⟨rfl, b8⟩
        have O8 := O.out.below b8
        have FR := ow_free O8
        rw [H.out.room] at FR
        replace FR := Lib.hid FR
        replace O8 := Lib.hid O8
        clear TA b8 O
        go_wp2_with fail
        refine FR.out.mono ?_
        rintro e w9 ⟨rfl, b9⟩
        have E : Hid (Below w.heap.size w w9) := BW.out.trans (((O8.out.below b9).be).mono BW.out.size)
        clear FR b9 O8
        go_wp2
        go_ret
        exact ⟨rfl, E.out⟩
    · have i1 : ¬ (j : Int) < (n : Int) := by omega
      have TA := Lib.hid (told_any wr)
      replace O := Lib.hid O
      replace H := Lib.hid H
      go_wp2_with fail
      refine TA.out.mono ?_
      rintro e w8 ⟨rfl, b8⟩
      have O8 := O.out.below b8
      have FR := ow_free O8
      rw [H.out.room] at FR
      replace FR := Lib.hid FR
      replace O8 := Lib.hid O8
      clear TA b8 O
      go_wp2_with fail
      refine FR.out.mono ?_
      rintro e w9 ⟨rfl, b9⟩
      have E : Hid (Below w.heap.size w w9) := BW.out.trans (((O8.out.below b9).be).mono BW.out.size)
      clear FR b9 O8
      go_wp2
      go_ret
      exact ⟨rfl, E.out⟩
theorem walkd (a0 : Int) (_w0 : (Lit.int .i64 a0).wf = true) (a1 : Int) (_w1 : (Lit.int .i64 a1).wf = true) (v2 : Value) (a2 : List Int) {W : World} (w2 : Src W v2 a2) (W' : World) (hW : W' = W) :
    Calls Try.prog 9 #[.int .i64 a0, .int .i64 a1, v2] W' fun e w' => e = .returned (.bool true) ∧ Below W'.heap.size W' w' := by
  subst hW
  obtain ⟨A, n, c, rfl, h1, h2, R, _⟩ := w2
  exact walk W' a0 a1 A n c a2 R h1 h2


/-! The row: every input. -/
set_option linter.unusedVariables false
set_option maxRecDepth 100000 in
theorem lifted (os : Os) (started : os.Started) (H : Type) (enc : TypeId × Value → H) :
    ReturnsInHanded {} Try.checked os 9 .any (Rows.stockFitsSpec.pre6 enc Try.prog Try.f9 Rows.stockFitsRow.domain false) (Rows.stockFitsSpec.post enc Try.prog Try.f9 false true false false) := by
  refine returnsInHanded_of_change (C := Try.checked) own started (by kernel_rfl) Try.func9
    (ChangeSpec.witness6 (enc := enc) (C := Try.checked) false ⟨#[], #[.int .i64 0, .int .i64 0, .slice none 0 0], []⟩ 8 (by kernel_rfl) (by kernel_rfl) (by kernel_rfl) (by kernel_rfl)) ?_
  intro W base args ds gs before hval0 hW _ _
  have hval : ∀ (j : Nat) t v, Try.f9.params[j]? = some t → args[j]? = some v → Value.okWide Try.prog W .any base t v := hval0
  have hW' := hW
  obtain ⟨p, q, hA0, hV, rfl, hfz, hnd⟩ := hW
  have hA : DataW.TrodAll enc Try.prog W 0 (fun _ => true) true Try.f9.params.toList args.toList ds p := hA0
  rw [Try.params9] at hA hval
  obtain ⟨v0, vs0, d0, ds0, p0, q0, hargs, rfl, rfl, h0, r0⟩ := trodAll_cons hA
  obtain ⟨v1, vs1, d1, ds1, p1, q1, rfl, rfl, rfl, h1, r1⟩ := trodAll_cons r0
  obtain ⟨v2, vs2, d2, ds2, p2, q2, rfl, rfl, rfl, h2, r2⟩ := trodAll_cons r1
  obtain ⟨rfl, rfl, rfl⟩ := trodAll_nil r2
  obtain rfl : args = #[v0, v1, v2] := by cases args; simp_all
  obtain ⟨rfl, rfl⟩ := trodVars_none hV
  obtain ⟨a0, rfl, rfl, rfl, w0⟩ := open_int Try.underlying3 (hval 0 3 v0 rfl rfl) h0
  obtain ⟨a1, rfl, rfl, rfl, w1⟩ := open_int Try.underlying3 (hval 1 3 v1 rfl rfl) h1
  obtain ⟨a2, w2⟩ := view_nums (hval 2 37 v2 rfl rfl) h2
  clear hA0 hval0
  simp only [List.append_nil] at hW'
  refine (walkd a0 w0 a1 w1 v2 a2 w2 W rfl).mono fun e W' ⟨he, hb⟩ => ?_
  subst he
  exact ⟨_, rfl, post_below (pa := [] ++ ([] ++ (p2 ++ []))) (pv := []) hW' (fun _ _ _ => (trodAll_cons_mk (shut_bool Try.underlying4 _) trodAll_mk0)) (fun sp hsp => (trodAll_cons_mk (shut_int Try.underlying3 w0) (trodAll_cons_mk (shut_int Try.underlying3 w1) (trodAll_cons_mk (Trod_stays laidOut (by kernel_rfl) (of_decide_eq_true (by kernel_rfl)) h2 (fun x hx => hb.same (hW'.lt x (by simp [hx]))) (fun x hx => hsp x (by simp [hx]))) trodAll_mk0)))) (fun _ _ => rfl) (by simp)
    hb (ok_one (by kernel_rfl) rfl (okWide_bool_mk Try.underlying4 _))⟩

theorem proved : Rows.StockFitsSaid :=
  OpenClaim.holds_of_wide 9 Try.f9 rfl rfl rfl rfl rfl rfl rfl ⟨rfl, rfl, rfl, rfl, rfl⟩ rfl rfl rfl rfl rfl (by kernel_rfl) Try.func9 (by kernel_rfl)
    (of_decide_eq_true (by kernel_rfl)) (by unfold Func.isWrapper; first | (rw [if_pos (by decide +kernel)]; kernel_rfl) | (rw [if_neg (by decide +kernel)]; exact ⟨rfl, rfl⟩))
    (fun os started H enc _ => lifted os started H enc)
#print axioms proved

end Go.Proofs.Ytnjcdlenpcpjaaa.stockFits
