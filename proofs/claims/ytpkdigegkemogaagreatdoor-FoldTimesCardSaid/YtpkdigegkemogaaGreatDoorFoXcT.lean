/- Parts of the claim: FoD, FoE -/
import Derived.Test.YtpkdigegkemogaaGreatDoorTkT
import Derived.Test.YtpkdigegkemogaaGreatDoorFoXbT
import Derived.Test.YtpkdigegkemogaaGreatDoorReBT
import Derived.Test.YtpkdigegkemogaaGreatDoorFnXaT
namespace Go.Proofs.YtpkdigegkemogaaGreatDoor
set_option maxRecDepth 100000
open Go.RowKit
open Go.Proofs.YtpkdigegkemogaaGreatDoor.Pk (one_at one_free one_set lt_some str)
namespace Fo
open Ho (Dh isNew ans asked hbts)
open St (Dz Kq swF swL)
open Tb (Dm cnt)
open Re (Rec rcc rcv r0 o0 rmay BoxR rmayrec_any wpList_rload)
open Wt (Opn)
open Pl (regionAt setRow_below)

theorem sxsweep_any (w : World) (d : Nat) (n cap over : Int) (s : Ho.S) (S : Sx w d n cap over s) (O : Ho.Ok cap over s) (now : Int) :
    Calls Tryz.prog 25 #[.pointer (some ⟨d, 1, none⟩), .int .i64 now] w fun e w' => ∃ v, e = .returned v ∧ Sx w' d n cap over ⟨swF s.f now, s.g⟩ ∧ Kq (fun g => g = d) w w' := by
  refine (St.refsweepz_any w d cap over now s.f S.st O.f).mono ?_
  rintro e w' ⟨v, rfl, -, D, K⟩
  exact ⟨v, rfl, ⟨(K.tail 0 (.inl (by omega))).trans S.c0, D, ⟨D.lt, fun b k hb hk => (K.tail _ (.inr (by omega))).trans (S.tb.at_ b k hb hk), (K.tail _ (.inr (by omega))).trans S.tb.num, D.free⟩⟩, K.toKq⟩
theorem kq_cells (w : World) (d o : Nat) (vs : List Value) : Kq (fun g => g = d) w (w.setCells d o vs) := .of_cells w d o vs

noncomputable def ap_11 : Code := (Tryz.f8.body.bind (regionAt 11)).getD .skip
set_option maxHeartbeats 12800000 in
theorem ap11 (z1 z2 z4 z5 z6 z7 z8 z9 z10 z11 z12 z13 z14 z15 z16 z17 z18 z19 z20 z21 z22 z23 z24 z25 z26 z27 z28 z29 z30 z31 z32 z33 z34 z35 z36 z37 z38 z39 z40 z41 z42 z43 z44 z45 z46 z47 z48 z49 z50 z51 z52 z53 z54 z55 z56 z57 z58 z59 z60 z61 z62 z63 z64 z65 z66 z67 z68 z69 z70 z71 z72 z73 z74 z75 z76 z77 z78 z79 z80 z81 z82 z83 z84 z85 z86 z87 z88 z89 z90 z91 z92 z93 z94 z95 z96 z97 z98 z99 z100 z101 z102 z103 z104 z105 z106 z107 z108 z109 z110 z111 z112 z113 z114 z115 z116 z117 z118 z119 z120 z121 z122 z123 z124 z125 z126 z127 z128 z129 z130 z131 z132 : Value) (W : World) (d b : Nat) (n cap over : Int) (s : Ho.S) (r : Rec)
    (S0 : Sx W d n cap over s)
    (B0 : BoxR W b r)
    (FS : Hid (∀ w', Sx w' d n cap over s → Calls Tryz.prog 25 #[.pointer (some ⟨d, 1, none⟩), .int .i64 r.now] w' fun e w'' => ∃ v, e = .returned v ∧ Sx w'' d n cap over ⟨swF s.f r.now, s.g⟩ ∧ Kq (fun g => g = d) w' w''))
    (Q : Exit → Act → World → Prop)
    (hP : ∀ c a d v w, Q (.panic c) (Act.put a d v) w → Q (.panic c) a w)
    (hQ : ∀ (y60 y61 y62 y63 y64 y65 y66 : Value)  (W3 : World), Sx W3 d n cap over ⟨swF s.f r.now, s.g⟩ → Kq (fun g => g = d) W W3 → Below d W W3 → Q .normal ⟨#[.pointer (some ⟨d, 0, none⟩), z1, z2, .pointer (some ⟨b, 0, none⟩), z4, z5, z6, z7, z8, z9, z10, z11, z12, z13, z14, z15, z16, z17, z18, z19, z20, z21, z22, z23, z24, z25, z26, z27, z28, z29, z30, z31, z32, z33, z34, z35, z36, z37, z38, z39, z40, z41, z42, z43, z44, z45, z46, z47, z48, z49, z50, z51, z52, z53, z54, z55, z56, z57, z58, z59, y60, y61, y62, y63, y64, y65, y66, z67, z68, z69, z70, z71, z72, z73, z74, z75, z76, z77, z78, z79, z80, z81, z82, z83, z84, z85, z86, z87, z88, z89, z90, z91, z92, z93, z94, z95, z96, z97, z98, z99, z100, z101, z102, z103, z104, z105, z106, z107, z108, z109, z110, z111, z112, z113, z114, z115, z116, z117, z118, z119, z120, z121, z122, z123, z124, z125, z126, z127, z128, z129, z130, z131, z132], []⟩ W3) :
    Code.wp Tryz.prog ap_11 Q ⟨#[.pointer (some ⟨d, 0, none⟩), z1, z2, .pointer (some ⟨b, 0, none⟩), z4, z5, z6, z7, z8, z9, z10, z11, z12, z13, z14, z15, z16, z17, z18, z19, z20, z21, z22, z23, z24, z25, z26, z27, z28, z29, z30, z31, z32, z33, z34, z35, z36, z37, z38, z39, z40, z41, z42, z43, z44, z45, z46, z47, z48, z49, z50, z51, z52, z53, z54, z55, z56, z57, z58, z59, z60, z61, z62, z63, z64, z65, z66, z67, z68, z69, z70, z71, z72, z73, z74, z75, z76, z77, z78, z79, z80, z81, z82, z83, z84, z85, z86, z87, z88, z89, z90, z91, z92, z93, z94, z95, z96, z97, z98, z99, z100, z101, z102, z103, z104, z105, z106, z107, z108, z109, z110, z111, z112, z113, z114, z115, z116, z117, z118, z119, z120, z121, z122, z123, z124, z125, z126, z127, z128, z129, z130, z131, z132], []⟩ W := by
  conv => arg 2; whnf
  have b0 : Below d W W.drew := ⟨rfl, rfl, rfl, Nat.le_refl _, fun _ _ => rfl⟩
  refine wp_region_held_drew (S := fun w => Below d W w) (by kernel_rfl) b0 (fun hHeld => ?_)
  replace hQ := Lib.hid hQ
  clear b0
  obtain ⟨v0, hv⟩ : ∃ v, v = W.drew := ⟨_, rfl⟩
  have SX : Sx v0 d n cap over s := by rw [hv]; exact S0.keep rfl
  have BX : BoxR v0 b r := by rw [hv]; exact B0
  have KV : ∀ w2, Kq (fun g => g = d) v0 w2 → Kq (fun g => g = d) W w2 := by rw [hv]; exact fun w2 k => ⟨k.os, k.tape, k.output, k.size, k.block⟩
  rw [← hv] at hHeld ⊢
  clear hv
  refine' tkY 0 hP ?c hHeld ?_
  case c => intro w _; go_simp; try with_reducible rfl
  simp only [Act.put, sQa, sQb, sQc]
  refine' tkY 1 hP ?c hHeld ?_
  case c => intro w _; go_simp; try with_reducible rfl
  simp only [Act.put, sQa, sQb, sQc]
  refine' tkY 2 hP ?c hHeld ?_
  case c => intro w _; go_simp; try with_reducible rfl
  simp only [Act.put, sQa, sQb, sQc]
  refine' tkY 3 hP ?c hHeld ?_
  case c => intro w _; go_simp; try with_reducible rfl
  simp only [Act.put, sQa, sQb, sQc]
  refine' tkY 4 hP ?c hHeld ?_
  case c => intro w _; go_simp; try with_reducible rfl
  simp only [Act.put, sQa, sQb, sQc]
  refine wpAnyH_ready (rs := [5]) (by kernel_rfl) (by simp) ?_
  refine' tkC 5 (fun K hK => ?st6) ?mo6
  case st6 =>
    have c1 := BX.cells.c1
    go_simp
    refine hK.out _ _ hHeld (fun hHeld2 => ?_)
    clear hK K hHeld2
    try simp only [Act.put, sQa, sQb, sQc]
    refine wpAnyH_ready (rs := [6]) (by kernel_rfl) (by simp) ?_
    refine' tkC 6 (fun K hK => ?st7) ?mo7
    case st7 =>
      go_simp
      refine (FS.out _ SX).mono ?_
      rintro e v1 ⟨vv, rfl, SX2, K1⟩
      have h6 := hHeld.trans (K1.below (fun g hg => Nat.le_of_eq hg.symm) (Nat.le_of_lt SX.lt))
      clear hHeld
      go_simp
      refine hK.out _ _ h6 (fun hHeld => ?_)
      clear hK K h6
      try simp only [Act.put, sQa, sQb, sQc]
      refine wpAnyH_done (by kernel_rfl) ?_ _
      exact hQ.out _ _ _ _ _ _ _ _ SX2 (KV _ K1) hHeld
    case mo7 => exact AllReadyH.nil
  case mo6 => exact AllReadyH.nil

set_option maxHeartbeats 12800000 in
theorem dapply_any (w : World) (d : Nat) (n cap over : Int) (s : Ho.S) (h0 : 0 ≤ n) (h2 : n ≤ 2) (S : Sx w d n cap over s) (O : Ho.Ok cap over s) (r : Rec) :
    Calls Tryz.prog 8 #[.pointer (some ⟨d, 0, none⟩), rcv r] w fun e w' => e = .returned (.bool (apH cap over s r).1) ∧ Sx w' d n cap over (apH cap over s r).2 ∧ Kq (fun g => g = d) w w' := by
  obtain ⟨w0, e0⟩ : ∃ z, z = w.alloc (.cells (rcc r) 64) := ⟨_, rfl⟩
  have be0 : Hid (Below w.heap.size w w0) := by rw [e0]; exact (Below.refl _ w).alloc (Nat.le_refl _) _
  have hB : Hid (BoxR w0 w.heap.size r) := by rw [e0]; exact heap_alloc_new _ _
  have S0 : Hid (Sx w0 d n cap over s) := S.below be0.out
  have dl : Hid (d < w.heap.size) := S.lt
  have M := Lib.hid (rmayrec_any w0 r)
  have n3 : n < 3 := by omega
  have q3 : (n == 3) = false := by simp; omega
  have q4 : (n == 4) = false := by simp; omega
  replace e0 := Lib.hid e0
  replace O := Lib.hid O
  clear S h0 h2
  unfold rcv rcc
  go_enter Tryz.func8, Tryz.ntmps8
  go_upto_region 1 with fail
  have e0' := e0.out
  unfold rcc at e0'
  rw [← e0']
  clear e0' e0
  go_wp2_with (refine wpList_rload rfl (.tmp 3) rfl w.heap.size rfl r hB.out ?_)
  refine M.out.mono ?_
  rintro e w1 ⟨rfl, h⟩
  have be1 : Hid (Below w.heap.size w w1) := be0.out.trans (h.mono be0.out.size)
  have B1 : Hid (BoxR w1 w.heap.size r) := hB.out.below h
  have S1 : Hid (Sx w1 d n cap over s) := S0.out.below h
  clear M h be0 hB S0
  cases hm : rmay r with
  | false =>
    have F := Lib.hid (aph_no (cap := cap) (over := over) (s := s) hm)
    clear hm
    go_wp2
    go_ret
    rw [F.out]
    exact ⟨rfl, S1.out, Kq.of_below be1.out⟩
  | true =>
    have x0 := S1.out.c0
    have ld := S1.out.lt
    have kk := B1.out.cells.c0
    have lk := B1.out.lt
    by_cases k1 : r.kd = 1
    · have F := Lib.hid (aph_1 (cap := cap) (over := over) (s := s) hm k1)
      rw [k1] at kk
      clear hm k1
      have RG := Lib.hid (sx_range S1.out)
      go_upto_region 6 with (first | (refine wpList_load_mid rfl 46 (.tmp 27) rfl d 1 rfl (hcs cap over s) _ RG.out Tryz.underlying46 rfl (hcs_info2 cap over s) ?_) | (refine wpList_allocH rfl rfl ?_) | (refine wpList_store_row rfl 46 (.tmp 5) (.tmp 28) rfl w1.heap.size (hcs cap over s).toArray rfl rfl 46 zhost (heap_alloc_new _ _) (hcs_info cap over s) (zhost_size cap over s) (hcs_one cap over s) ?_))
      obtain ⟨u, eu⟩ : ∃ z, z = (w1.alloc (.cells zhost 46)).setRow w1.heap.size (hcs cap over s).toArray := ⟨_, rfl⟩
      rw [← eu]
      have b1 : Below w1.heap.size w1 u := by rw [eu]; exact ((Below.refl _ _).alloc (Nat.le_refl _) _).trans (setRow_below _ (Nat.le_refl _))
      have DH : Hid (Dh u w1.heap.size cap over s) := by rw [eu]; exact dh_box (setRow_heap _ _ _ _ _ _ (heap_alloc_new _ _))
      have Bu : Hid (BoxR u w.heap.size r) := B1.out.below b1
      have Su : Hid (Sx u d n cap over s) := S1.out.below b1
      have beu : Hid (Below w.heap.size w u) := be1.out.trans (b1.mono be1.out.size)
      obtain ⟨g, eg⟩ : ∃ g, g = w1.heap.size := ⟨_, rfl⟩
      have hg : Hid (w.heap.size < g) := by rw [eg]; exact lk
      rw [← eg] at DH ⊢
      clear eu eg b1 RG B1 S1 be1 x0 ld kk lk
      obtain ⟨c0, c1, c2, c3, c4, c5, c6, c7, c8, c9, c10, c11, c12, c13, c14, c15, c16, c17, c18⟩ := Bu.out.cells
      have lk := Bu.out.lt
      have AK := Lib.hid (Ho.refask_any u g cap over s DH.out O.out r.op r.now)
      go_wp2_with fail
      refine AK.out.mono ?_
      rintro e w4 ⟨rfl, D4, K4⟩
      have B4 : Hid (BoxR w4 w.heap.size r) := (K4.block _ Bu.out.lt (by have := hg.out; omega)).trans Bu.out
      have S4 : Hid (Sx w4 d n cap over s) := Su.out.keep (K4.block _ Su.out.lt (by have := hg.out; have := dl.out; omega))
      have be4 : Hid (Below w.heap.size w w4) := beu.out.trans (K4.below (fun x hx => by rw [hx]; exact Nat.le_of_lt hg.out) beu.out.size)
      replace D4 := Lib.hid D4
      clear AK K4 Bu Su beu DH lk c0 c1 c2 c3 c4 c5 c6 c7 c8 c9 c10 c11 c12 c13 c14 c15 c16 c17 c18
      generalize asked cap over s r.op r.now = s' at *
      generalize isNew s r.op r.now = nw at *
      generalize ans cap over s r.op r.now = an at *
      cases nw with
      | false =>
        rw [if_neg (fun h => by cases h.1)] at F
        go_wp2
        go_ret
        rw [F.out]
        exact ⟨rfl, S4.out, Kq.of_below be4.out⟩
      | true =>
        have c2 := B4.out.cells.c2
        have lk := B4.out.lt
        by_cases ha : an = r.an
        · have gb : (an != r.an) = false := by simp [ha]
          rw [if_pos ⟨rfl, ha⟩] at F
          have R4 := Lib.hid (dh_range D4.out)
          have TH : Hid (w4.there d 1 (hcs cap over s').toArray.size) := by have := sx_there S4.out; rw [← hcs_len cap over s'] at this; show World.there _ _ _ _; simpa using this
          clear ha
          go_wp2_with (first | (refine wpList_load_mid rfl 46 (.tmp 5) rfl g 0 rfl (hcs cap over s') _ R4.out Tryz.underlying46 rfl (hcs_info2 cap over s') ?_) | (refine wpList_store_mid rfl 46 (.tmp 48) (.tmp 46) rfl d 1 (hcs cap over s').toArray rfl rfl TH.out (hcs_info cap over s') (hcs_one cap over s') ?_))
          go_ret
          rw [F.out]
          exact ⟨rfl, sx_put S4.out s', (Kq.of_below be4.out).trans ((kq_cells w4 d 1 _).mono fun _ e => .inl e)⟩
        · have gb : (an != r.an) = true := by simp [ha]
          rw [if_neg (fun h => ha h.2)] at F
          clear ha
          go_wp2
          go_ret
          rw [F.out]
          exact ⟨rfl, S4.out, Kq.of_below be4.out⟩
    by_cases k2 : r.kd = 2
    · have F := Lib.hid (aph_2 (cap := cap) (over := over) (s := s) hm k2)
      rw [k2] at kk
      clear hm k1 k2
      have FS : Hid (∀ w', Sx w' d n cap over s → Calls Tryz.prog 25 #[.pointer (some ⟨d, 1, none⟩), .int .i64 r.now] w' fun e w'' => ∃ v, e = .returned v ∧ Sx w'' d n cap over ⟨swF s.f r.now, s.g⟩ ∧ Kq (fun g => g = d) w' w'') := fun w' S' => sxsweep_any w' d n cap over s S' O.out r.now
      go_upto_region 11 with fail
      refine ap11 _ _ _ _ _ _ _ _ _ _ _ _ _ _ _ _ _ _ _ _ _ _ _ _ _ _ _ _ _ _ _ _ _ _ _ _ _ _ _ _ _ _ _ _ _ _ _ _ _ _ _ _ _ _ _ _ _ _ _ _ _ _ _ _ _ _ _ _ _ _ _ _ _ _ _ _ _ _ _ _ _ _ _ _ _ _ _ _ _ _ _ _ _ _ _ _ _ _ _ _ _ _ _ _ _ _ _ _ _ _ _ _ _ _ _ _ _ _ _ _ _ _ _ _ _ _ _ _ _ _ _ w1 d w.heap.size n cap over s r S1.out B1.out FS _ (fun _ _ d _ _ h => by cases d <;> exact h) (fun _ _ _ _ _ _ _ w3 S3 K3 h => ?_)
      have KK : Hid (Kq (fun g => g = d) w w3) := (Kq.of_below be1.out).trans (K3.mono fun _ e => .inl e)
      replace S3 := Lib.hid S3
      clear h K3 FS
      go_wp2_with fail
      go_ret
      rw [F.out]
      exact ⟨rfl, S3.out, KK.out⟩
    have F := Lib.hid (aph_3 (cap := cap) (over := over) (s := s) hm k1 k2)
    have b1 : (r.kd == 1) = false := by simp [k1]
    have b2 : (r.kd == 2) = false := by simp [k2]
    clear hm k1 k2
    go_wp2_with fail
    go_ret
    rw [F.out]
    exact ⟨rfl, S1.out, Kq.of_below be1.out⟩
end Fo
end Go.Proofs.YtpkdigegkemogaaGreatDoor
namespace Go.Proofs.YtpkdigegkemogaaGreatDoor
set_option maxRecDepth 100000
open Go.RowKit Go.Sort
open Go.Proofs.YtpkdigegkemogaaGreatDoor.Pk (one_at one_free one_set lt_some grown_set grown_trans grown_refl refint str str_add str_cat str_size encI_len)
namespace Fo
open Ho (hbts)
open St (Bs cat int_of size_add2)
open Tb (Dm cnt ne0 walk row keys)
open Nd (kb tbs tbs_len tbs_all reftbytes_any)

set_option maxHeartbeats 1600000 in
theorem rhbytes_any (w : World) (d : Nat) (n cap over : Int) (s : Ho.S) (D : Sx w d n cap over s) (O : Ho.Ok cap over s) : Calls Tryz.prog 28 #[.pointer (some ⟨d, 1, none⟩)] w fun e w' => e = .returned (.string (str (hbts cap over s))) ∧ Below w.heap.size w w' := by
  have C1 : ∀ dr os, Calls Tryz.prog 51 #[.pointer (some ⟨d, 1, none⟩)] (grow (redrawn w dr) os) fun e w'' => e = .returned (.string (str (St.bts cap over s.f 200))) ∧ ∃ q : Regrown, w'' = grow (redrawn w q.d) q.os := fun dr os => Calls.regrown_of (St.refbytesz_any _ d cap over s.f (D.below (below_regrown w dr os)).st O.f)
  have C2 : ∀ dr os, Calls Tryz.prog 52 #[.pointer (some ⟨d, 1008, none⟩)] (grow (redrawn w dr) os) fun e w'' => e = .returned (.string (str (tbs s.g 200 0))) ∧ ∃ q : Regrown, w'' = grow (redrawn w q.d) q.os := fun dr os => Calls.regrown_of (reftbytes_any _ d 1008 s.g (D.below (below_regrown w dr os)).tb O.g)
  have l1 := St.bts_len O.f (n := 200) (Nat.le_refl _)
  have l2 := tbs_len O.g (i := 200) (j := 0) (Nat.le_refl _) (by omega)
  have e : hbts cap over s = St.bts cap over s.f 200 ++ tbs s.g 200 0 := by rw [tbs_all, ← List.append_assoc]; rfl
  generalize St.bts cap over s.f 200 = b1 at *
  generalize tbs s.g 200 0 = b2 at *
  generalize hbts cap over s = b3 at *
  have a1 := str_add b1 b2 (by omega)
  have q1 := size_add2 (a := b1) (b := b2) (by omega)
  have t1 := str_cat b1 b2
  rw [← e] at a1 t1
  clear e l1 l2 D O
  go_enter Tryz.func28, Tryz.ntmps28
  go_upto_region 1 with fail
  refine wp_region_quiet_below (by kernel_rfl) (by kernel_rfl) ?_
  repeat (go_big_quiet_step (first | with_reducible exact C1 _ _ | with_reducible exact C2 _ _))
  refine wpQuiet_nil ?_
  intro w2 hw'
  obtain ⟨⟨dq, osq⟩, hw''⟩ := hw'
  have be2 : Hid (RowKit.Below w.heap.size w w2) := by rw [hw'']; exact below_regrown w dq osq
  clear hw'' C1 C2
  go_wp2
  go_ret
  exact ⟨rfl, be2.out⟩
set_option maxHeartbeats 1600000 in
theorem stbytes_any (w : World) (d : Nat) (n cap over : Int) (s : Ho.S) (h2 : n ≤ 2) (S : Sx w d n cap over s) (O : Ho.Ok cap over s) : Calls Tryz.prog 12 #[.pointer (some ⟨d, 0, none⟩)] w fun e w' => e = .returned (.string (str (hbts cap over s))) ∧ Below w.heap.size w w' := by
  have HB := Lib.hid (rhbytes_any w d n cap over s S O)
  have x0 := S.c0
  have ld := S.lt
  have n3 : n < 3 := by omega
  clear S O h2
  go_enter Tryz.func12, Tryz.ntmps12
  go_wp2_with fail
  refine HB.out.mono ?_
  rintro e w1 ⟨rfl, h⟩
  replace h := Lib.hid h
  clear HB
  go_wp2_with fail
  go_ret
  exact ⟨rfl, h.out⟩
end Fo
end Go.Proofs.YtpkdigegkemogaaGreatDoor
