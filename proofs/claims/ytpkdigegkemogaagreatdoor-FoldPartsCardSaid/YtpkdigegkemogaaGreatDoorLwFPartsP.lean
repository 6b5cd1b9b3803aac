/- Part of the claim: LwFParts -/
import Derived.Deep.CutRange
import Derived.Test.YtpkdigegkemogaaGreatDoorFoYP
namespace Go.Proofs.YtpkdigegkemogaaGreatDoor.foldParts
set_option maxRecDepth 100000
open Go.RowKit
open Go.Proofs.YtpkdigegkemogaaGreatDoor.Pk (one_at one_free one_set lt_some Copied)
open Go.Proofs.YtpkdigegkemogaaGreatDoor.Re (Rec rcc rcv r0 wpList_rload)
open Go.Proofs.YtpkdigegkemogaaGreatDoor.Fo
open Go.Proofs.YtpkdigegkemogaaGreatDoor.Pl (wpList_store_row setRow_below)

theorem conf_size : (Tryz.prog.info? 29).map (·.size) = some 10 := by kernel_rfl
def At1 (P : Prg) (w : World) (kc q n : Nat) (nd : Int) (l : List Rec) (v i : Value) (wr : World) : Prop :=
  ∃ k : Nat, i = .int .i64 (k : Int) ∧ k ≤ n ∧ k ≤ 50 ∧ Sr P w kc q (run P.ap (P.ini nd) (l.take k)) v wr
def At2 (P : Prg) (W1 : World) (q2 : Nat) (nd : Int) (gl : List Rec) (k0 : Nat) (i : Value) (wr : World) : Prop :=
  ∃ (k : Nat) (s : P.S), i = .int .i64 (k : Int) ∧ k0 ≤ k ∧ k ≤ gl.length ∧ apl P.ap (P.ini nd) (gl.take k) = some s ∧ Ow P W1.heap.size (fun g => g < W1.heap.size) W1 wr q2 s
set_option maxHeartbeats 12800000 in
theorem walk (P : Prg) (w : World) (ht : P.tb w) (a0 : Int) (A : Option Addr) (n c : Nat) (l : List Rec) (_hA : A = none → c = 0) (hnc : n ≤ c) (hc : c ≤ 9223372036854775807) (R : Rin w (fun g => g < w.heap.size) A n l) (a2 : Int) :
    Calls Tryz.prog 4 #[.int .i64 a0, .slice A n c, .int .i64 a2] w fun e w' => e = .returned (.bool true) ∧ Below w.heap.size w w' := by
  obtain ⟨nd, hnd⟩ : ∃ z : Int, z = usm a0 5 := ⟨_, rfl⟩
  have n5 : Hid (0 ≤ nd ∧ nd ≤ 4) := by have := usm_lt a0 (n := 5) (by omega); show _ ∧ _; omega
  have nx : wrap64 ((IntKind.u64.wrap a0).tmod 5) = nd := by rw [hnd]; exact usm_slot a0 (n := 5) (by omega) (by omega)
  clear hnd
  have hR : Hid (Rin w (fun g => g < w.heap.size) A n l) := R
  have hlen := R.len
  have hl : Hid (l.length = n ∧ n ≤ c ∧ c ≤ 9223372036854775807) := ⟨hlen, hnc, hc⟩
  have htb : Hid (P.tb w) := ht
  clear R hlen _hA hnc hc ht
  go_enter Tryz.func4, Tryz.ntmps4
  go_upto_region 2 with (refine wpList_store_row rfl 29 (.tmp 7) (.tmp 26) rfl w.heap.size #[.int .i64 9, .int .i64 1, .int .i64 5, .int .i64 0, .int .i64 3, .int .i64 0, .int .i64 100, .int .i64 10, .int .i64 1000, .int .i64 0] rfl rfl 29 _ (heap_alloc_new _ _) conf_size rfl (by simp [Value.oneCell']) ?_)
  obtain ⟨w1, e1⟩ : ∃ z, z = (w.alloc (.cells #[.int .i64 0, .int .i64 0, .int .i64 0, .int .i64 0, .int .i64 0, .int .i64 0, .int .i64 0, .int .i64 0, .int .i64 0, .int .i64 0] 29)).setRow w.heap.size #[.int .i64 9, .int .i64 1, .int .i64 5, .int .i64 0, .int .i64 3, .int .i64 0, .int .i64 100, .int .i64 10, .int .i64 1000, .int .i64 0] := ⟨_, rfl⟩
  rw [← e1]
  have b1 : Hid (Below w.heap.size w w1) := by rw [e1]; exact ((Below.refl _ _).alloc (Nat.le_refl _) _).trans (setRow_below _ (Nat.le_refl _))
  have c1 : Hid (w1.heap[w.heap.size]? = some (.cells cfP 29 (0, 0))) := by rw [e1]; exact setRow_heap _ _ _ _ _ _ (heap_alloc_new _ _)
  have t1 : Hid (P.tb w1) := P.tb_sub htb.out b1.out (P.tb_lt htb.out)
  clear e1
  have d0 : w1.cell? ⟨w.heap.size, 0, none⟩ = some (.int .i64 9) := one_at c1.out
  have d1 : w1.cell? ⟨w.heap.size, 1, none⟩ = some (.int .i64 1) := one_at c1.out
  have d2 : w1.cell? ⟨w.heap.size, 2, none⟩ = some (.int .i64 5) := one_at c1.out
  have d3 : w1.cell? ⟨w.heap.size, 3, none⟩ = some (.int .i64 0) := one_at c1.out
  have d4 : w1.cell? ⟨w.heap.size, 4, none⟩ = some (.int .i64 3) := one_at c1.out
  have d5 : w1.cell? ⟨w.heap.size, 5, none⟩ = some (.int .i64 0) := one_at c1.out
  have d6 : w1.cell? ⟨w.heap.size, 6, none⟩ = some (.int .i64 100) := one_at c1.out
  have d7 : w1.cell? ⟨w.heap.size, 7, none⟩ = some (.int .i64 10) := one_at c1.out
  have d8 : w1.cell? ⟨w.heap.size, 8, none⟩ = some (.int .i64 1000) := one_at c1.out
  have d9 : w1.cell? ⟨w.heap.size, 9, none⟩ = some (.int .i64 0) := one_at c1.out
  have lk := lt_some c1.out
  have NW := Lib.hid (ow_new P w1 t1.out nd n5.out.1 n5.out.2)
  go_upto_region 3 with fail
  go_wp2_with fail
  refine NW.out.mono ?_
  rintro e w2 ⟨q, rfl, O⟩
  have S2 : Hid (Sr P w w.heap.size q (P.ini nd, []) (.slice none 0 0) w2) := Sr.start O rfl b1.out c1.out (Nat.le_refl _)
  clear NW O lk d0 d1 d2 d3 d4 d5 d6 d7 d8 d9
  go_upto_region 7 with fail
  go_wp2_with fail
  go_loopw [11, 12] (fun v i wr => At1 P w w.heap.size q n nd l v i wr) (fun _ i _ => 50 - (intOf i).toNat)
  case atStart => exact ⟨0, rfl, by omega, by omega, S2.out⟩
  case round =>
    clear S2 c1 b1 t1
    obtain ⟨k, rfl, hkn, hk50, S⟩ := hrel
    replace S := Lib.hid S
    obtain ⟨bb, hbb⟩ : ∃ b : Bool, b = (decide (k < n) && decide (k < 50)) := ⟨_, rfl⟩
    go_upto_region 8 with fail
    go_cut [50] from 43 to 50 (fun s50 wx => s50 = .bool bb ∧ wx = wr)
    case first =>
      by_cases h1 : k < n
      · by_cases h2 : k < 50
        · have i1 : (k : Int) < 50 := by omega
          have F : Hid (bb = true) := by unfold Hid; rw [hbb, decide_eq_true h1, decide_eq_true h2]; rfl
          clear hbb S
          go_wp2
          go_meet
          case rel => exact ⟨by rw [F.out], rfl⟩
        · have i1 : ¬ (k : Int) < 50 := by omega
          have F : Hid (bb = false) := by unfold Hid; rw [hbb, decide_eq_true h1, decide_eq_false h2]; rfl
          clear hbb S
          go_wp2
          go_meet
          case rel => exact ⟨by rw [F.out], rfl⟩
      · have F : Hid (bb = false) := by unfold Hid; rw [hbb, decide_eq_false h1]; rfl
        clear hbb S
        go_wp2
        go_meet
        case rel => exact ⟨by rw [F.out], rfl⟩
    case rest =>
    obtain ⟨rfl, rfl⟩ := hcut
    obtain ⟨wr, ewr⟩ : ∃ x, x = wc := ⟨_, rfl⟩
    subst ewr
    cases bb with
    | true =>
      have hk := hbb.symm
      rw [Bool.and_eq_true, decide_eq_true_iff, decide_eq_true_iff] at hk
      obtain ⟨hk1, hk2⟩ := hk
      clear hbb
      have i1 : (k : Int) < (n : Int) := by omega
      have i2 : (k : Int) < 50 := by omega
      have i0 : (0 : Int) ≤ (k : Int) := by omega
      obtain ⟨a, rfl, hT, ha⟩ := hR.out.at_ (by omega)
      obtain ⟨r, hr⟩ : ∃ r, l[k]? = some r := ⟨_, List.getElem?_eq_getElem (by have := hl.out; omega)⟩
      have RA : Hid (RAt w a k r) := ha k r hr
      have hsn : Hid (run P.ap (P.ini nd) (l.take (k + 1)) = if (P.ap (run P.ap (P.ini nd) (l.take k)).1 r).1 = true then ((P.ap (run P.ap (P.ini nd) (l.take k)).1 r).2, (run P.ap (P.ini nd) (l.take k)).2 ++ [r]) else run P.ap (P.ini nd) (l.take k)) := by
        show _ = _
        rw [List.take_add_one, hr]
        exact run_snoc
      have hln : Hid ((run P.ap (P.ini nd) (l.take k)).2.length ≤ 50) := by
        have := run_len (ap := P.ap) (s := P.ini nd) (l := l.take k)
        rw [List.length_take] at this
        show _ ≤ _
        omega
      obtain ⟨x, hx⟩ : ∃ x, x = run P.ap (P.ini nd) (l.take k) := ⟨_, rfl⟩
      rw [← hx] at S hsn hln
      clear hx ha hr
      replace hT := Lib.hid hT
      go_upto_region 10 with fail
      go_wp2_with fail
      refine (sr_bytes S.out htb.out).mono ?_
      intro e w3 h
      obtain ⟨A3, c3, rfl, CV, -, b3⟩ := copied_str h
      have S3 := Lib.hid (S.out.below b3)
      clear h b3 S
      go_upto_region 11 with fail
      clear CV
      have ra3 := RA.out.same (w' := w3) (S3.out.ow.be.block _ hT.out)
      go_wp2_with (refine wpList_rload_at rfl (.tmp 59) rfl _ rfl r ra3 ?_)
      refine (sr_apply S3.out htb.out r).mono ?_
      rintro e w4 ⟨rfl, S4⟩
      replace S4 := Lib.hid S4
      clear ra3
      have no := P.no (s := x.1) (r := r)
      generalize hap : P.ap x.1 r = y at *
      obtain ⟨ok, s'⟩ := y
      simp only at no hsn S4
      cases ok with
      | true =>
        have ra4 := RA.out.same (w' := w4) (S4.out.ow.be.block _ hT.out)
        obtain ⟨A5, c5, w5, hap5, S5⟩ := S4.out.app r (by have := hln.out; simp only; omega)
        have hs2 : run P.ap (P.ini nd) (l.take (k + 1)) = (s', x.2 ++ [r]) := hsn.out
        replace S5 := Lib.hid S5
        replace hs2 := Lib.hid hs2
        clear hsn no hap
        go_wp2_with (first | (refine wpList_rload_at rfl (.tmp 65) rfl _ rfl r ra4 ?_) | (refine wpList_bslice1 rfl (.tmp 66) rfl r rfl ?_) | (refine wpList_app rfl (.tmp 62) (.tmp 67) rfl rfl _ _ rfl rfl hap5 ?_))
        go_roundw
        case rel => exact ⟨k + 1, by simp, by omega, by omega, by rw [hs2.out]; exact S5.out⟩
        case measure => simp [intOf]; omega
      | false =>
        have hs : s' = x.1 := no rfl
        subst hs
        have hs2 : run P.ap (P.ini nd) (l.take (k + 1)) = x := hsn.out
        replace hs2 := Lib.hid hs2
        clear hsn no hap
        go_wp2_with fail
        refine (sr_bytes S4.out htb.out).mono ?_
        intro e w5 h
        obtain ⟨A5, c5, rfl, CV, -, b5⟩ := copied_str h
        have S5 := Lib.hid (S4.out.below b5)
        have EQ := strs_eq (P.bys x.1)
        clear h b5 S4
        go_wp2_with fail
        go_roundw
        case rel => exact ⟨k + 1, by simp, by omega, by omega, by rw [hs2.out]; exact S5.out⟩
        case measure => simp [intOf]; omega
    | false =>
      have hrl := run_len (ap := P.ap) (s := P.ini nd) (l := l.take k)
      have hap := apl_run (ap := P.ap) (s := P.ini nd) (l := l.take k)
      rw [List.length_take] at hrl
      generalize run P.ap (P.ini nd) (l.take k) = x at *
      obtain ⟨s1, gl⟩ := x
      simp only at hrl hap
      have hg : Hid (gl.length ≤ 50) := by show _ ≤ _; omega
      obtain ⟨A1, k1, rfl, kc1, kc2, kA⟩ := rr_form S.out.row
      simp only at kc1
      have hka : Hid (gl.length ≤ k1 ∧ k1 ≤ 9223372036854775807 ∧ (A1 = none → k1 = 0)) := ⟨kc1, kc2, kA⟩
      obtain ⟨m, hm⟩ : ∃ m, m = gl.length := ⟨_, rfl⟩
      have S1 : Hid (Sr P w w.heap.size q (s1, gl) (.slice A1 m k1) wr) := by rw [hm]; exact S.out
      simp only
      rw [← hm] at hg hka ⊢
      have r0 : (0 : Int) ≤ (m : Int) := by omega
      have r1 : (m : Int) + 1 ≤ 51 := by have := hg.out; omega
      obtain ⟨k0, hk0⟩ : ∃ k0, k0 = usm a2 (m + 1) := ⟨_, rfl⟩
      have k0m : Hid (k0 ≤ m) := by have := usm_lt a2 (n := m + 1) (by omega); show _ ≤ _; omega
      have ux : wrap64 ((IntKind.u64.wrap a2).tmod ((m : Int) + 1)) = (k0 : Int) := by have := usm_slot a2 (n := m + 1) (by omega) (by have := hg.out; omega); rw [← hk0] at this; rw [← this]; rfl
      replace hap := Lib.hid hap
      replace hm := Lib.hid hm
      clear hk0 S hrl kc1 kc2 kA hbb hkn hk50
      go_upto_region 16 with fail
      rw [ux]
      clear ux
      obtain ⟨s2, ha2, hb2⟩ := apl_cut (ap := P.ap) (l := gl.take k0) (m := gl.drop k0) (s' := s1) (by rw [List.take_append_drop]; exact hap.out)
      have CFh : Hid (∀ w', Below wr.heap.size wr w' → w'.heap[w.heap.size]? = some (.cells cfP 29 (0, 0))) := fun w' h => (S1.out.below h).cf
      have hrow : Hid (RowR wr w.heap.size (.slice A1 m k1) m gl) := by have := S1.out.row; rw [← hm.out] at this; exact this
      have FD : Hid (∀ w', Below wr.heap.size wr w' → Calls Tryz.prog 9 #[.int .i64 nd, .agg #[.int .i64 9, .int .i64 1, .int .i64 5, .int .i64 0, .int .i64 3, .int .i64 0, .int .i64 100, .int .i64 10, .int .i64 1000, .int .i64 0], .slice A1 k0 k1] w' fun e w'' => ∃ q2, e = .returned (.tuple #[.pointer (some ⟨q2, 0, none⟩), .int .i64 0]) ∧ Ow P wr.heap.size (fun g => g < wr.heap.size) wr w'' q2 s2) := fun w' h => by
        have row := rr_below hrow.out h
        refine (ow_fold P w' ((S1.out.below h).tb htb.out) nd n5.out.1 n5.out.2 (((rr_in row).take k0m.out).keep (fun _ _ => rfl) (fun g hg => rr_lt row hg)) (by have := hg.out; have := k0m.out; omega) (by have := hka.out; have := k0m.out; omega) hka.out.2.1 hka.out.2.2 ha2).mono ?_
        rintro e w'' ⟨q2, rfl, O⟩
        exact ⟨q2, rfl, O.base h⟩
      refine fp16 _ _ _ _ _ _ _ _ _ _ _ _ _ _ _ _ _ _ _ _ _ _ _ _ _ _ _ _ _ _ _ _ _ _ _ _ _ _ _ _ _ _ _ _ _ _ _ _ _ _ _ _ _ _ _ _ _ _ _ _ _ _ _ _ _ _ _ _ _ _ _ _ _ _ _ _ _ _ _ _ _ _ _ _ _ _ _ _ _ _ _ _ _ _ _ _ _ _ _ _ _ _ _ _ _ _ _ _ _ _ _ _ _ _ _ _ _ _ _ _ _ _ _ _ _ _ _ _ _ _ _ _ _ _ _ _ _ _ _ _ _ _ _ _ _ _ _ _ _ _ wr P w.heap.size nd A1 m k1 k0 s2 (by have := hka.out; have := k0m.out; omega) (by omega) CFh FD _ (fun _ _ d _ _ h => by cases d <;> exact h) (fun _ _ _ _ _ _ _ _ _ q2 w3 O h => ?_)
      clear h FD CFh hb2
      have st2 : Hid (At2 P wr q2 nd gl k0 (.int .i64 (k0 : Int)) w3) := ⟨k0, s2, rfl, Nat.le_refl _, by rw [← hm.out]; exact k0m.out, ha2, O⟩
      clear O ha2
      go_wp2_with fail
      obtain ⟨W1, eW1⟩ : ∃ x, x = wr := ⟨_, rfl⟩
      rw [← eW1] at S1 hrow st2
      clear eW1
      go_loopw [17] (fun i wz => At2 P W1 q2 nd gl k0 i wz) (fun i _ => m - (intOf i).toNat)
      case atStart => exact st2.out
      case round =>
      clear st2
      obtain ⟨k', s, rfl, hk0k, hkm, has, O⟩ := hrel
      rw [← hm.out] at hkm
      replace O := Lib.hid O
      have q0 : (0 : Int) ≤ (k' : Int) := by omega
      by_cases hlt : k' < m
      · have i1 : (k' : Int) < (m : Int) := by omega
        obtain ⟨a, rfl, -, ha⟩ := (rr_in (rr_below hrow.out O.out.be)).at_ (by omega)
        obtain ⟨x, e1, e2, e3⟩ := apl_at hap.out (k := k') (by rw [← hm.out]; exact hlt)
        obtain rfl : s = x := by rw [has] at e1; injection e1
        have ra := ha k' _ (List.getElem?_eq_getElem (by rw [← hm.out]; exact hlt))
        generalize gl[k'] = r at *
        have e3' := Lib.hid e3
        have hmk : Hid (k' + 1 ≤ gl.length) := by have := hm.out; show _ ≤ _; omega
        have hkk : Hid (k0 ≤ k' + 1) := by show _ ≤ _; omega
        have tb := P.tb_sub (S1.out.tb htb.out) O.out.be (Nat.lt_of_lt_of_le (P.tb_lt htb.out) S1.out.ow.be.size)
        replace tb := Lib.hid tb
        clear ha e1 e3 has
        go_wp2_with (refine wpList_rload_at rfl (.tmp 107) rfl _ rfl r ra ?_)
        refine (ow_apply O.out tb.out r).mono ?_
        rintro e w5 ⟨rfl, O5, -⟩
        generalize P.ap s r = y at *
        obtain ⟨ok, s'⟩ := y
        simp only at e2 e3' O5
        subst e2
        replace O5 := Lib.hid O5
        clear O ra tb
        go_wp2_with fail
        go_roundw
        case rel => exact ⟨k' + 1, s', by simp, hkk.out, hmk.out, e3'.out, O5.out⟩
        case measure => simp [intOf]; omega
      · obtain rfl : k' = m := by omega
        obtain rfl : s = s1 := by
          rw [hm.out, List.take_length, hap.out] at has
          injection has with has
          exact has.symm
        have i1 : ¬ (k' : Int) < (k' : Int) := by omega
        clear hlt hkm hk0k has
        have SZ : Hid (Sr P w w.heap.size q (s, gl) (.slice A1 k' k1) wr) := S1.out.below O.out.be
        have tbz := Lib.hid (SZ.out.tb htb.out)
        go_wp2_with fail
        refine (P.saga0 _ tbz.out 1).mono ?_
        rintro e w6 ⟨rfl, b6⟩
        have S6 := Lib.hid (SZ.out.below b6)
        have O6 := Lib.hid (O.out.below b6)
        clear b6 SZ O tbz S1 hrow
        go_upto_region 26 with (refine wpList_store_row rfl 57 (.tmp 19) (.tmp 114) rfl w6.heap.size #[.int .i64 0, .int .i64 0, .int .i64 0, .int .i64 0, .int .i64 0, .int .i64 0, .int .i64 0, .int .i64 0, .int .i64 0, .int .i64 0, .int .i64 0] rfl rfl 57 _ (heap_alloc_new _ _) Sg.sag_size rfl (by simp [Value.oneCell']) ?_)
        obtain ⟨w7, e7⟩ : ∃ z, z = (w6.alloc (.cells #[.int .i64 0, .int .i64 0, .int .i64 0, .int .i64 0, .int .i64 0, .int .i64 0, .int .i64 0, .int .i64 0, .int .i64 0, .int .i64 0, .int .i64 0] 57)).setRow w6.heap.size #[.int .i64 0, .int .i64 0, .int .i64 0, .int .i64 0, .int .i64 0, .int .i64 0, .int .i64 0, .int .i64 0, .int .i64 0, .int .i64 0, .int .i64 0] := ⟨_, rfl⟩
        rw [← e7]
        have b7 : Below w6.heap.size w6 w7 := by rw [e7]; exact ((Below.refl _ _).alloc (Nat.le_refl _) _).trans (setRow_below _ (Nat.le_refl _))
        have S7 := Lib.hid (S6.out.below b7)
        have O7 := Lib.hid (O6.out.below b7)
        clear b7 e7 S6 O6
        have TT : Hid (∀ w', Below w7.heap.size w7 w' → P.tb w') := fun w' h => (S7.out.below h).tb htb.out
        refine fp26 _ _ _ _ _ _ _ _ _ _ _ _ _ _ _ _ _ _ _ _ _ _ _ _ _ _ _ _ _ _ _ _ _ _ _ _ _ _ _ _ _ _ _ _ _ _ _ _ _ _ _ _ _ _ _ _ _ _ _ _ _ _ _ _ _ _ _ _ _ _ _ _ _ _ _ _ _ _ _ _ _ _ _ _ _ _ _ _ _ _ _ _ _ _ _ _ _ _ _ _ _ _ _ _ _ _ _ _ _ _ _ _ _ _ _ _ _ _ _ _ _ _ _ _ _ _ _ _ _ _ _ _ _ _ _ _ _ _ _ _ _ _ _ _ _ _ _ _ _ _ w7 q q2 (P.bys s) (strs_eq _) eq_ent0
          (fun w' h => (P.told w' (TT.out w' h)).mono (by rintro e w'' ⟨rfl, k⟩; exact ⟨rfl, h.trans (k.mono h.size)⟩))
          (fun w' h => (ow_bytes (O7.out.below h) (TT.out w' h)).mono (by intro e w'' k; obtain ⟨A', c', rfl, -, ow, k⟩ := copied_str k; exact ⟨A', c', rfl, ow, h.trans (k.mono h.size), k⟩))
          (fun w' h => (sr_bytes (S7.out.below h) htb.out).mono (by intro e w'' k; obtain ⟨A', c', rfl, -, ow, k⟩ := copied_str k; exact ⟨A', c', rfl, ow, h.trans (k.mono h.size), k⟩))
          (fun w' h => (P.apply0 w' (TT.out w' h) ⟨2, 0, 0, Re.o0, Sg.sz⟩).mono (by rintro e w'' ⟨rfl, k⟩; exact ⟨rfl, h.trans (k.mono h.size)⟩))
          (fun w' h => (P.entry0 w' (TT.out w' h) 1).mono (by rintro e w'' ⟨rfl, k⟩; exact ⟨rfl, h.trans (k.mono h.size)⟩))
          (fun w' h => (P.books0 w' (TT.out w' h)).mono (by rintro e w'' ⟨h1, k⟩; exact ⟨h1, h.trans (k.mono h.size)⟩))
          (fun w' h => (P.bytes0 w' (TT.out w' h)).mono (by rintro e w'' ⟨h1, k⟩; exact ⟨h1, h.trans (k.mono h.size)⟩))
          _ (fun _ _ d _ _ h => by cases d <;> exact h) (fun _ _ _ _ _ _ _ _ _ _ _ _ _ _ _ _ _ _ _ _ _ _ _ _ _ _ _ _ _ _ _ _ _ _ _ _ _ _ w8 h => ?_)
        have be := Lib.hid ((S7.out.below h).ow.be)
        clear h S7 O7 TT
        go_wp2_with fail
        go_ret
        exact ⟨rfl, be.out⟩
end Go.Proofs.YtpkdigegkemogaaGreatDoor.foldParts
