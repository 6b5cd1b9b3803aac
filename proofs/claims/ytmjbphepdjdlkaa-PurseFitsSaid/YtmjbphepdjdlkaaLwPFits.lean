/- Proved: an authorisation is done just if the customer has so much; a capture takes it, a void gives it back (PurseFits), for any funds, any bookings of one customer. -/
import Derived.Test.YtmjbphepdjdlkaaPuP
import Derived.JoinedRecord
import Derived.HandedShaped
namespace Go.Proofs.Ytmjbphepdjdlkaa.purseFits
set_option maxRecDepth 100000
open Go.ChangeShapes Go.WideShapes Go.ChangeAt Go.WideMaps Go.WideElems Go.RowKit
open Go.Sort (grow)
open Go.Proofs.Ytmjbphepdjdlkaa.Pk (Rb adr_block one_at one_free one_set lt_some grown_set grown_trans below_grown grown_refl u8s own_form)
open Go.Proofs.Ytmjbphepdjdlkaa.Pu
open Go.Proofs.Ytmjbphepdjdlkaa.Wt (Opn mayOp)


/-- Between two rounds, as values. -/
structure Fit (p : S) (j : Nat) (h k t f : Int) : Prop where
  a1 : p.a 1 = h
  a4 : p.a 4 = k
  a5 : p.a 5 = t
  a0 : p.a 0 = 0
  sum : h + k + t = f
  new : ∀ x : Int, (j : Int) < x → (p.f x).st = 0
def P1 (p : S) (b m : Int) : S := Pu.put (mv p b 1 4 m) b ⟨4, 1, m⟩
def P2 (p : S) (b m : Int) : S := Pu.put (mv p b 4 5 m) b ⟨5, 1, m⟩
def P3 (p : S) (b s m : Int) : S := Pu.put (mv p b s 1 m) b eg
section
variable {p : S} {j : Nat} {h k t f b m : Int}
theorem Fit.now (F : Fit p j h k t f) (hb : b = (j : Int) + 1) : (p.f b).st = 0 := F.new b (by omega)
theorem fit_end (F : Fit p j h k t f) (hb : b = (j : Int) + 1) : Fit (Pu.put p b eg) (j + 1) h k t f :=
  ⟨F.a1, F.a4, F.a5, F.a0, F.sum, fun x hx => by show (upd p.f b eg x).st = 0; rw [upd_other (by omega)]; exact F.new x (by omega)⟩
theorem fit_1 (F : Fit p j h k t f) (hb : b = (j : Int) + 1) : Fit (P1 p b m) (j + 1) (h - m) (k + m) t f :=
  ⟨by show mvA p.a 1 4 m 1 = _; rw [mvA_fr _ _ (by omega), F.a1], by show mvA p.a 1 4 m 4 = _; rw [mvA_to, F.a4], by show mvA p.a 1 4 m 5 = _; rw [mvA_not _ _ (by omega) (by omega), F.a5], by show mvA p.a 1 4 m 0 = _; rw [mvA_not _ _ (by omega) (by omega), F.a0], by have := F.sum; omega, fun x hx => by show (upd p.f b _ x).st = 0; rw [upd_other (by omega)]; exact F.new x (by omega)⟩
theorem fit_2 (F : Fit p j h k t f) (hb : b < (j : Int) + 1) : Fit (P2 p b m) j h (k - m) (t + m) f :=
  ⟨by show mvA p.a 4 5 m 1 = _; rw [mvA_not _ _ (by omega) (by omega), F.a1], by show mvA p.a 4 5 m 4 = _; rw [mvA_fr _ _ (by omega), F.a4], by show mvA p.a 4 5 m 5 = _; rw [mvA_to, F.a5], by show mvA p.a 4 5 m 0 = _; rw [mvA_not _ _ (by omega) (by omega), F.a0], by have := F.sum; omega, fun x hx => by show (upd p.f b _ x).st = 0; rw [upd_other (by omega)]; exact F.new x (by omega)⟩
theorem fit_3 (F : Fit p j h k t f) (hb : b < (j : Int) + 1) : Fit (P3 p b 4 m) j (h + m) (k - m) t f :=
  ⟨by show mvA p.a 4 1 m 1 = _; rw [mvA_to, F.a1], by show mvA p.a 4 1 m 4 = _; rw [mvA_fr _ _ (by omega), F.a4], by show mvA p.a 4 1 m 5 = _; rw [mvA_not _ _ (by omega) (by omega), F.a5], by show mvA p.a 4 1 m 0 = _; rw [mvA_not _ _ (by omega) (by omega), F.a0], by have := F.sum; omega, fun x hx => by show (upd p.f b _ x).st = 0; rw [upd_other (by omega)]; exact F.new x (by omega)⟩
theorem fit_4 (F : Fit p j h k t f) (hb : b < (j : Int) + 1) : Fit (P3 p b 5 m) j (h + m) k (t - m) f :=
  ⟨by show mvA p.a 5 1 m 1 = _; rw [mvA_to, F.a1], by show mvA p.a 5 1 m 4 = _; rw [mvA_not _ _ (by omega) (by omega), F.a4], by show mvA p.a 5 1 m 5 = _; rw [mvA_fr _ _ (by omega), F.a5], by show mvA p.a 5 1 m 0 = _; rw [mvA_not _ _ (by omega) (by omega), F.a0], by have := F.sum; omega, fun x hx => by show (upd p.f b _ x).st = 0; rw [upd_other (by omega)]; exact F.new x (by omega)⟩
theorem at_1 : (P1 p b m).f b = ⟨4, 1, m⟩ := upd_same _ _ _
theorem at_2 : (P2 p b m).f b = ⟨5, 1, m⟩ := upd_same _ _ _
theorem auth_yes (h0 : (p.f b).st = 0) (hm : m ≤ p.a 1) : Pu.auth p b 1 m = (P1 p b m, 1) := by unfold Pu.auth; rw [if_pos h0, if_pos hm]; rfl
theorem auth_no (h0 : (p.f b).st = 0) (hm : ¬ m ≤ p.a 1) : Pu.auth p b 1 m = (Pu.put p b eg, 2) := by unfold Pu.auth; rw [if_pos h0, if_neg hm]
theorem capt_gone : Pu.capt (Pu.put p b eg) b = (Pu.put (Pu.put p b eg) b eg, 2) := by
  have e : (Pu.put p b eg).f b = eg := upd_same _ _ _
  unfold Pu.capt
  rw [e, if_neg (by decide), if_neg (by decide)]
theorem capt_yes (h4 : p.f b = ⟨4, 1, m⟩) : Pu.capt p b = (P2 p b m, 1) := by unfold Pu.capt; rw [h4, if_neg (show ¬ (4 : Int) = 5 by decide), if_pos rfl]; rfl
theorem void_4 (h4 : p.f b = ⟨4, 1, m⟩) : Pu.void p b = P3 p b 4 m := by unfold Pu.void; rw [h4, if_pos rfl]; rfl
theorem void_5 (h5 : p.f b = ⟨5, 1, m⟩) : Pu.void p b = P3 p b 5 m := by unfold Pu.void; rw [h5, if_neg (show ¬ (5 : Int) = 4 by decide), if_pos rfl]; rfl
theorem put_put : Pu.put (Pu.put p b eg) b eg = Pu.put p b eg := by
  have e : (Pu.put p b eg).f b = eg := upd_same _ _ _
  show (⟨p.a, upd (Pu.put p b eg).f b eg, p.l⟩ : S) = _
  rw [upd_id e]
  rfl
theorem fit_bds (F : Fit p j h k t f) (O : Ok p) : (0 ≤ h ∧ h ≤ 4398046511104) ∧ (0 ≤ k ∧ k ≤ 4398046511104) ∧ 0 ≤ t ∧ t ≤ 4398046511104 := by
  have b1 := O.bds (k := 1) (by omega) (by omega)
  have b4 := O.bds (k := 4) (by omega) (by omega)
  have b5 := O.bds (k := 5) (by omega) (by omega)
  rw [F.a1] at b1
  rw [F.a4] at b4
  rw [F.a5] at b5
  exact ⟨b1, b4, b5⟩
end
def FitAt (W : World) (q : Nat) (f : Int) (vh vk vt i : Value) (wr : World) : Prop := ∃ (j : Nat) (h k t : Int) (p : S), i = .int .i64 j ∧ vh = .int .i64 h ∧ vk = .int .i64 k ∧ vt = .int .i64 t ∧ j ≤ 30 ∧ Ow W.heap.size (fun g => g < W.heap.size) W wr q p ∧ Fit p j h k t f
/-- What is read of a purse at a round's end. -/
structure Reads (q : Nat) (h k t : Int) (w : World) : Prop where
  b1 : Calls Try.prog 19 #[.pointer (some ⟨q, 0, none⟩), .int .i64 1] w fun e w' => e = .returned (.int .i64 h) ∧ w = w'
  b0 : Calls Try.prog 19 #[.pointer (some ⟨q, 0, none⟩), .int .i64 0] w fun e w' => e = .returned (.int .i64 0) ∧ w = w'
  r : Calls Try.prog 17 #[.pointer (some ⟨q, 0, none⟩)] w fun e w' => e = .returned (.int .i64 k) ∧ w = w'
  t : Calls Try.prog 18 #[.pointer (some ⟨q, 0, none⟩)] w fun e w' => e = .returned (.int .i64 t) ∧ w = w'
theorem reads {B : Nat} {X : Nat → Prop} {w0 w : World} {q : Nat} {p : S} {j : Nat} {h k t f : Int} (O : Ow B X w0 w q p) (F : Fit p j h k t f) : Reads q h k t w := by
  have e1 := ow_bal O 1
  have e0 := ow_bal O 0
  have e4 := ow_res O
  have e5 := ow_tak O
  rw [show bal p 1 = h from (if_pos (by omega)).trans F.a1] at e1
  rw [show bal p 0 = 0 from (if_pos (by omega)).trans F.a0] at e0
  rw [F.a4] at e4
  rw [F.a5] at e5
  exact ⟨e1, e0, e4, e5⟩
set_option maxHeartbeats 6400000 in
theorem walk (w : World) (a0 : Int) (A : Option Addr) (n c : Nat) (zs : List Int) (R : Rr w (fun g => g < w.heap.size) A n zs) (_hc : n ≤ c) (_hm : c ≤ 9223372036854775807) :
    Calls Try.prog 8 #[.int .i64 a0, .slice A n c] w fun e w' => e = .returned (.bool true) ∧ Below w.heap.size w w' := by
  obtain ⟨f', hf'⟩ : ∃ k, k = usm a0 501 := ⟨_, rfl⟩
  have f1' : f' < 501 := by rw [hf']; exact usm_lt _ (by omega)
  have ux : wrap64 ((IntKind.u64.wrap a0).tmod 501) = (f' : Int) := by rw [hf']; exact usm_slot a0 (n := 501) (by omega) (by omega)
  obtain ⟨f, hf⟩ : ∃ t : Int, t = f' := ⟨_, rfl⟩
  rw [← hf] at ux
  have f0 : 0 ≤ f := by omega
  have f1 : f ≤ 500 := by omega
  clear hf' f1' hf
  have N := Lib.hid (ow_new w 0 f 0 0 (fun z hz => by unfold Cs.I; simp at hz; omega) (mayF_iff.2 ⟨by omega, by omega, by omega, by omega⟩))
  replace R := Lib.hid R
  go_enter Try.func8, Try.ntmps8
  go_upto_region 2 with fail
  rw [ux]
  clear ux
  go_wp2_with fail
  refine N.out.mono ?_
  rintro e w1 ⟨q, rfl, O1⟩
  have st : Hid (FitAt w q f (.int .i64 f) (.int .i64 0) (.int .i64 0) (.int .i64 0) w1) := ⟨0, f, 0, 0, _, rfl, rfl, rfl, rfl, by omega, O1, ⟨rfl, rfl, rfl, rfl, by omega, fun x _ => rfl⟩⟩
  clear N O1
  go_wp2_with fail
  go_loopw [8, 9, 10, 11] (fun h k t i wr => FitAt w q f h k t i wr) (fun _ _ _ i _ => 30 - (intOf i).toNat)
  case atStart => exact st.out
  case round =>
    clear st
    obtain ⟨j, h, k, t, p, rfl, rfl, rfl, rfl, hj, O, F⟩ := hrel
    obtain ⟨⟨h0, h1⟩, ⟨k0, k1⟩, t0, t1⟩ := fit_bds F O.ok
    have TO := Lib.hid (told_any wr)
    have sm := Lib.hid F.sum
    by_cases hjn : j < n
    · by_cases h30 : j < 30
      · obtain ⟨z, hz⟩ : ∃ z, zs[j]? = some z := ⟨_, List.getElem?_eq_getElem (by have := R.out.len; omega)⟩
        obtain ⟨ad, rfl, hab, hcell⟩ := R.out.at_ (by omega)
        have q0 := (World.cell?_of_block (w' := wr) (by rw [adr_block]; exact O.be.block _ hab)).trans (hcell j z hz)
        have i1 : (j : Int) < 30 := by omega
        obtain ⟨m', hm'⟩ : ∃ k, k = usm z 90 := ⟨_, rfl⟩
        have m1' : m' < 90 := by rw [hm']; exact usm_lt _ (by omega)
        have uz : wrap64 ((IntKind.u64.wrap z).tmod 90) = (m' : Int) := by rw [hm']; exact usm_slot z (n := 90) (by omega) (by omega)
        obtain ⟨s, hs⟩ : ∃ k, k = usm z 4 := ⟨_, rfl⟩
        have s4 : s < 4 := by rw [hs]; exact usm_lt _ (by omega)
        have us : wrap64 ((IntKind.u64.wrap z).tmod 4) = (s : Int) := by rw [hs]; exact usm_slot z (n := 4) (by omega) (by omega)
        obtain ⟨m, hmm⟩ : ∃ x : Int, x = m' := ⟨_, rfl⟩
        rw [← hmm] at uz
        have m0 : 0 ≤ m := by omega
        have m1 : m < 90 := by omega
        replace us := Lib.hid us
        replace s4 := Lib.hid s4
        have b1 : 1 ≤ (j : Int) + 1 := by omega
        have b2 : (j : Int) + 1 ≤ 200 := by omega
        have hst := F.now (b := (j : Int) + 1) rfl
        have DA := ow_do O ⟨4, (j : Int) + 1, 0, 1, m⟩
        rw [d_auth b1 b2 (by omega) (by omega) m0 (by omega)] at DA
        clear hm' m1' hmm hs
        replace hcell := Lib.hid hcell
        replace hz := Lib.hid hz
        by_cases hle : m ≤ h
        · rw [auth_yes hst (by rw [F.a1]; exact hle)] at DA
          unfold opv at DA
          have F1 := Lib.hid (fit_1 (m := m) (b := (j : Int) + 1) F rfl)
          have d1 : decide (m ≤ h) = true := decide_eq_true hle
          replace DA := Lib.hid DA
          replace F := Lib.hid F
          replace hst := Lib.hid hst
          clear O
          go_upto_region 10 with fail
          rw [uz]
          clear uz
          go_wp2_with fail
          (with_reducible refine DA.out.mono ?_)
          rintro e w2 ⟨rfl, O2, K2⟩
          obtain ⟨h', hh⟩ : ∃ x, x = h - m := ⟨_, rfl⟩
          obtain ⟨k', hk⟩ : ∃ x, x = k + m := ⟨_, rfl⟩
          rw [← hh, ← hk] at F1
          obtain ⟨⟨y0, y1⟩, ⟨y2, y3⟩, -⟩ := fit_bds F1.out O2.ok
          have sm1 := Lib.hid F1.out.sum
          have q2 := (World.cell?_of_block (w' := w2) (by rw [adr_block]; exact O2.be.block _ hab)).trans (hcell.out j z hz.out)
          clear DA d1 hst F sm
          go_upto_region 15 with fail
          rw [← hh, ← hk]
          replace hh := Lib.hid hh
          replace hk := Lib.hid hk
          go_upto_region 16 with fail
          rw [us.out]
          obtain ⟨sI, hsI⟩ : ∃ x : Int, x = (s : Int) := ⟨_, rfl⟩
          rw [← hsI]
          have s5 : 0 ≤ sI ∧ sI ≤ 3 := by have := s4.out; omega
          obtain ⟨s6, s7⟩ := s5
          have hkm : k' - m = k := by have := hk.out; omega
          replace hkm := Lib.hid hkm
          clear hsI us s4 q0 q2 h0 h1 k0 k1 hle
          by_cases g1 : sI = 1
          · have g1' : (sI == 1) = true := by simpa using g1
            have DB := ow_do O2 ⟨5, (j : Int) + 1, 0, 0, 0⟩
            rw [d_capt b1 b2, capt_yes at_1] at DB
            unfold opv at DB
            have F2 := Lib.hid (fit_2 (m := m) (b := (j : Int) + 1) F1.out (by omega))
            replace DB := Lib.hid DB
            clear O2 g1
            go_wp2_with fail
            (with_reducible refine DB.out.mono ?_)
            rintro e w3 ⟨rfl, O3, K3⟩
            clear DB
            have RD := reads O3 F2.out
            obtain ⟨r1, r0, r4, r5⟩ := RD
            have nx : Hid (FitAt w q f (.int .i64 h') (.int .i64 (k' - m)) (.int .i64 (t + m)) (.int .i64 ((j + 1 : Nat) : Int)) w3) := ⟨j + 1, h', (k' - m), (t + m), _, rfl, rfl, rfl, rfl, by omega, O3, F2.out⟩
            clear O3 F2
            go_wp2_with (first
              | (go_at_call 19; (first | with_reducible refine r1.mono ?_ | with_reducible refine r0.mono ?_); rintro e w' ⟨rfl, rfl⟩)
              | (go_at_call 17; (with_reducible refine r4.mono ?_); rintro e w' ⟨rfl, rfl⟩)
              | (go_at_call 18; (with_reducible refine r5.mono ?_); rintro e w' ⟨rfl, rfl⟩))
            exact ⟨nx.out, by simp [intOf]; omega⟩
          · have g1' : (sI == 1) = false := by simpa using g1
            by_cases g2 : sI = 2
            · have g2' : (sI == 2) = true := by simpa using g2
              have DB : Calls Try.prog 13 #[.pointer (some ⟨q, 0, none⟩), opv ⟨6, (j : Int) + 1, 0, 0, 0⟩] w2 _ := ow_do O2 ⟨6, (j : Int) + 1, 0, 0, 0⟩
              rw [d_void b1 b2, void_4 at_1] at DB
              unfold opv at DB
              have F2 := Lib.hid (fit_3 (m := m) (b := (j : Int) + 1) F1.out (by omega))
              replace DB := Lib.hid DB
              clear O2 g1 g2
              go_wp2_with fail
              (with_reducible refine DB.out.mono ?_)
              rintro e w3 ⟨rfl, O3, K3⟩
              clear DB
              have RD := reads O3 F2.out
              obtain ⟨r1, r0, r4, r5⟩ := RD
              have nx : Hid (FitAt w q f (.int .i64 (h' + m)) (.int .i64 (k' - m)) (.int .i64 t) (.int .i64 ((j + 1 : Nat) : Int)) w3) := ⟨j + 1, (h' + m), (k' - m), t, _, rfl, rfl, rfl, rfl, by omega, O3, F2.out⟩
              clear O3 F2
              go_wp2_with (first
                | (go_at_call 19; (first | with_reducible refine r1.mono ?_ | with_reducible refine r0.mono ?_); rintro e w' ⟨rfl, rfl⟩)
                | (go_at_call 17; (with_reducible refine r4.mono ?_); rintro e w' ⟨rfl, rfl⟩)
                | (go_at_call 18; (with_reducible refine r5.mono ?_); rintro e w' ⟨rfl, rfl⟩))
              exact ⟨nx.out, by simp [intOf]; omega⟩
            · have g2' : (sI == 2) = false := by simpa using g2
              by_cases g3 : sI = 3
              · have g3' : (sI == 3) = true := by simpa using g3
                have DB := ow_do O2 ⟨5, (j : Int) + 1, 0, 0, 0⟩
                rw [d_capt b1 b2, capt_yes at_1] at DB
                unfold opv at DB
                have F2 := Lib.hid (fit_2 (m := m) (b := (j : Int) + 1) F1.out (by omega))
                replace DB := Lib.hid DB
                clear O2 g1 g2 g3
                go_wp2_with fail
                (with_reducible refine DB.out.mono ?_)
                rintro e w3 ⟨rfl, O3, K3⟩
                have DC := ow_do O3 ⟨6, (j : Int) + 1, 0, 0, 0⟩
                rw [d_void b1 b2, void_5 at_2] at DC
                unfold opv at DC
                have F3 := fit_4 (m := m) (b := (j : Int) + 1) F2.out (by omega)
                rw [show t + m - m = t by omega] at F3
                replace F3 := Lib.hid F3
                replace DC := Lib.hid DC
                clear DB O3 F2
                go_wp2_with fail
                (with_reducible refine DC.out.mono ?_)
                rintro e w4 ⟨rfl, O4, K4⟩
                clear DC
                have RD := reads O4 F3.out
                obtain ⟨r1, r0, r4, r5⟩ := RD
                have nx : Hid (FitAt w q f (.int .i64 (h' + m)) (.int .i64 (k' - m)) (.int .i64 t) (.int .i64 ((j + 1 : Nat) : Int)) w4) := ⟨j + 1, (h' + m), (k' - m), t, _, rfl, rfl, rfl, rfl, by omega, O4, F3.out⟩
                clear O4 F3
                go_wp2_with (first
                  | (go_at_call 19; (first | with_reducible refine r1.mono ?_ | with_reducible refine r0.mono ?_); rintro e w' ⟨rfl, rfl⟩)
                  | (go_at_call 17; (with_reducible refine r4.mono ?_); rintro e w' ⟨rfl, rfl⟩)
                  | (go_at_call 18; (with_reducible refine r5.mono ?_); rintro e w' ⟨rfl, rfl⟩))
                exact ⟨nx.out, by simp [intOf]; omega⟩
              · have g3' : (sI == 3) = false := by simpa using g3
                clear g1 g2 g3
                have RD := reads O2 F1.out
                obtain ⟨r1, r0, r4, r5⟩ := RD
                have nx : Hid (FitAt w q f (.int .i64 h') (.int .i64 k') (.int .i64 t) (.int .i64 ((j + 1 : Nat) : Int)) w2) := ⟨j + 1, h', k', t, _, rfl, rfl, rfl, rfl, by omega, O2, F1.out⟩
                clear O2 F1
                go_wp2_with (first
                  | (go_at_call 19; (first | with_reducible refine r1.mono ?_ | with_reducible refine r0.mono ?_); rintro e w' ⟨rfl, rfl⟩)
                  | (go_at_call 17; (with_reducible refine r4.mono ?_); rintro e w' ⟨rfl, rfl⟩)
                  | (go_at_call 18; (with_reducible refine r5.mono ?_); rintro e w' ⟨rfl, rfl⟩))
                exact ⟨nx.out, by simp [intOf]; omega⟩
        · rw [auth_no hst (by rw [F.a1]; exact hle)] at DA
          unfold opv at DA
          have F1 := Lib.hid (fit_end (b := (j : Int) + 1) F rfl)
          have d1 : decide (m ≤ h) = false := decide_eq_false hle
          replace DA := Lib.hid DA
          replace F := Lib.hid F
          replace hst := Lib.hid hst
          clear O
          go_upto_region 10 with fail
          rw [uz]
          clear uz
          go_wp2_with fail
          (with_reducible refine DA.out.mono ?_)
          rintro e w2 ⟨rfl, O2, K2⟩
          have DB := ow_do O2 ⟨5, (j : Int) + 1, 0, 0, 0⟩
          rw [d_capt b1 b2, capt_gone, put_put] at DB
          unfold opv at DB
          replace DB := Lib.hid DB
          clear DA hst F O2 us s4
          go_wp2_with fail
          (with_reducible refine DB.out.mono ?_)
          rintro e w3 ⟨rfl, O3, K3⟩
          clear DB
          have RD := reads O3 F1.out
          obtain ⟨r1, r0, r4, r5⟩ := RD
          have nx : Hid (FitAt w q f (.int .i64 h) (.int .i64 k) (.int .i64 t) (.int .i64 ((j + 1 : Nat) : Int)) w3) := ⟨j + 1, h, k, t, _, rfl, rfl, rfl, rfl, by omega, O3, F1.out⟩
          clear O3 F1
          go_wp2_with (first
            | (go_at_call 19; (first | with_reducible refine r1.mono ?_ | with_reducible refine r0.mono ?_); rintro e w' ⟨rfl, rfl⟩)
            | (go_at_call 17; (with_reducible refine r4.mono ?_); rintro e w' ⟨rfl, rfl⟩)
            | (go_at_call 18; (with_reducible refine r5.mono ?_); rintro e w' ⟨rfl, rfl⟩))
          exact ⟨nx.out, by simp [intOf]; omega⟩
      · have i1 : ¬ (j : Int) < 30 := by omega
        have e1 : (h + k + t == f) = true := by have := sm.out; simpa using this
        replace O := Lib.hid O
        clear F
        go_wp2_with fail
        refine TO.out.mono ?_
        rintro e w8 ⟨rfl, b8⟩
        have E := Lib.hid ((O.out.below b8).be)
        clear TO b8 O
        go_wp2
        go_ret
        exact ⟨rfl, E.out⟩
    · have i1 : ¬ (j : Int) < (n : Int) := by omega
      have e1 : (h + k + t == f) = true := by have := sm.out; simpa using this
      replace O := Lib.hid O
      clear F
      go_wp2_with fail
      refine TO.out.mono ?_
      rintro e w8 ⟨rfl, b8⟩
      have E := Lib.hid ((O.out.below b8).be)
      clear TO b8 O
      go_wp2
      go_ret
      exact ⟨rfl, E.out⟩
theorem walkd (a0 : Int) (_w0 : (Lit.int .i64 a0).wf = true) (v1 : Value) (a1 : List Int) {W : World} (w1 : Src W v1 a1) (W' : World) (hW : W' = W) :
    Calls Try.prog 8 #[.int .i64 a0, v1] W' fun e w' => e = .returned (.bool true) ∧ Below W'.heap.size W' w' := by
  subst hW
  obtain ⟨A, n, c, rfl, h1, h2, R, -⟩ := w1
  exact walk W' a0 A n c a1 R h1 h2


/-! The row: every input. -/
set_option linter.unusedVariables false
set_option maxRecDepth 100000 in
theorem lifted (os : Os) (started : os.Started) (H : Type) (enc : TypeId × Value → H) :
    ReturnsInHanded {} Try.checked os 8 .any (Rows.purseFitsSpec.pre6 enc Try.prog Try.f8 Rows.purseFitsRow.domain false) (Rows.purseFitsSpec.post enc Try.prog Try.f8 false true false false) := by
  refine returnsInHanded_of_change (C := Try.checked) own started (by kernel_rfl) Try.func8
    (ChangeSpec.witness6 (enc := enc) (C := Try.checked) false ⟨#[], #[.int .i64 0, .slice none 0 0], []⟩ 8 (by kernel_rfl) (by kernel_rfl) (by kernel_rfl) (by kernel_rfl)) ?_
  intro W base args ds gs before hval0 hW _ _
  have hval : ∀ (j : Nat) t v, Try.f8.params[j]? = some t → args[j]? = some v → Value.okWide Try.prog W .any base t v := hval0
  have hW' := hW
  obtain ⟨p, q, hA0, hV, rfl, hfz, hnd⟩ := hW
  have hA : DataW.TrodAll enc Try.prog W 0 (fun _ => true) true Try.f8.params.toList args.toList ds p := hA0
  rw [Try.params8] at hA hval
  obtain ⟨v0, vs0, d0, ds0, p0, q0, hargs, rfl, rfl, h0, r0⟩ := trodAll_cons hA
  obtain ⟨v1, vs1, d1, ds1, p1, q1, rfl, rfl, rfl, h1, r1⟩ := trodAll_cons r0
  obtain ⟨rfl, rfl, rfl⟩ := trodAll_nil r1
  obtain rfl : args = #[v0, v1] := by cases args; simp_all
  obtain ⟨rfl, rfl⟩ := trodVars_none hV
  obtain ⟨a0, rfl, rfl, rfl, w0⟩ := open_int Try.underlying2 (hval 0 2 v0 rfl rfl) h0
  obtain ⟨a1, w1⟩ := view_nums (hval 1 56 v1 rfl rfl) h1
  clear hA0 hval0
  simp only [List.append_nil] at hW'
  refine (walkd a0 w0 v1 a1 w1 W rfl).mono fun e W' ⟨he, hb⟩ => ?_
  subst he
  exact ⟨_, rfl, post_below (pa := [] ++ (p1 ++ [])) (pv := []) hW' (fun _ _ _ => (trodAll_cons_mk (shut_bool Try.underlying4 _) trodAll_mk0)) (fun sp hsp => (trodAll_cons_mk (shut_int Try.underlying2 w0) (trodAll_cons_mk (Trod_stays laidOut (by kernel_rfl) (of_decide_eq_true (by kernel_rfl)) h1 (fun x hx => hb.same (hW'.lt x (by simp [hx]))) (fun x hx => hsp x (by simp [hx]))) trodAll_mk0))) (fun _ _ => rfl) (by simp)
    hb (ok_one (by kernel_rfl) rfl (okWide_bool_mk Try.underlying4 _))⟩

theorem proved : Rows.PurseFitsSaid :=
  OpenClaim.holds_of_wide 8 Try.f8 rfl rfl rfl rfl rfl rfl rfl ⟨rfl, rfl, rfl, rfl, rfl⟩ rfl rfl rfl rfl rfl (by kernel_rfl) Try.func8 (by kernel_rfl)
    (of_decide_eq_true (by kernel_rfl)) (by unfold Func.isWrapper; first | (rw [if_pos (by decide +kernel)]; kernel_rfl) | (rw [if_neg (by decide +kernel)]; exact ⟨rfl, rfl⟩))
    (fun os started H enc _ => lifted os started H enc)
#print axioms proved

end Go.Proofs.Ytmjbphepdjdlkaa.purseFits
