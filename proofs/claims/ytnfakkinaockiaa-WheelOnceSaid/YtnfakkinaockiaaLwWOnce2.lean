/- WheelOnce, the turns. -/
import Derived.Test.YtnfakkinaockiaaLwWOnce3
namespace Go.Proofs.Ytnfakkinaockiaa.wheelOnce
open Go.ChangeShapes Go.WideShapes Go.ChangeAt Go.WideMaps Go.WideElems Go.RowKit
open Go.Proofs.Ytnfakkinaockiaa.Pk (one_at one_free one_set lt_some grown_set)
open Go.Proofs.Ytnfakkinaockiaa.Wh

set_option maxHeartbeats 12800000 in
set_option maxRecDepth 100000 in
theorem part2 (z2 z3 z4 z6 z7 z8 z9 z10 z11 z12 z13 z14 z15 z16 z17 z18 z19 z20 z21 z22 z23 z24 z25 z26 z27 z28 z29 z30 z31 z32 z33 z34 z35 z36 z37 z38 z39 z40 z41 z42 z43 z44 z45 z46 z47 z48 z49 z50 z51 z52 z53 z54 z55 z56 z57 z58 z59 z60 z61 z62 z63 z64 z65 z66 z67 z68 z69 z70 z71 z72 z73 z74 z75 z76 z77 z78 z79 z80 z81 z82 z83 z84 z85 z86 z87 z88 z89 z90 z91 z92 z93 z94 z95 z96 z97 z98 z99 z100 z101 z102 z103 z104 z105 z106 z107 z108 z109 z110 z111 z112 z113 z114 z115 z116 z117 z118 z119 z120 z121 z122 z123 z124 z125 z126 z127 z128 z129 z130 z131 z132 z133 z134 z135 z136 z137 z138 z139 z140 z141 z142 z143 z144 : Value) (w wr : World) (A1 : Option Addr) (k c q : Nat) (stp : Int) (xs : List Int) (S : List Tm) (R1 : Hid (Rr w (fun g => g < w.heap.size) A1 k xs)) (L : Lw w wr q 0 S (fun g => g < w.heap.size)) (D : Due k (tv xs) (-1) S) (i3 : (k : Int) ≤ 40) :
    Code.wp Try.prog rest11 (bodyPost Try.prog Try.f5 fun e w' => e = .returned (.bool true) ∧ Below w.heap.size w w') ⟨#[.slice A1 k c, .int .i64 stp, z2, z3, z4, .pointer (some ⟨q, 0, none⟩), z6, z7, z8, z9, z10, z11, z12, z13, z14, z15, z16, z17, z18, z19, z20, z21, z22, z23, z24, z25, z26, z27, z28, z29, z30, z31, z32, z33, z34, z35, z36, z37, z38, z39, z40, z41, z42, z43, z44, z45, z46, z47, z48, z49, z50, z51, z52, z53, z54, z55, z56, z57, z58, z59, z60, z61, z62, z63, z64, z65, z66, z67, z68, z69, z70, z71, z72, z73, z74, z75, z76, z77, z78, z79, z80, z81, z82, z83, z84, z85, z86, z87, z88, z89, z90, z91, z92, z93, z94, z95, z96, z97, z98, z99, z100, z101, z102, z103, z104, z105, z106, z107, z108, z109, z110, z111, z112, z113, z114, z115, z116, z117, z118, z119, z120, z121, z122, z123, z124, z125, z126, z127, z128, z129, z130, z131, z132, z133, z134, z135, z136, z137, z138, z139, z140, z141, z142, z143, z144], []⟩ wr := by
  conv => arg 2; whnf
  obtain ⟨i0, hi, hz0, hz1, hz2⟩ := info_parts bool_info
  replace hi := Lib.hid hi
  replace hz0 := Lib.hid hz0
  replace hz1 := Lib.hid hz1
  replace hz2 := Lib.hid hz2
  have us : wrap64 ((IntKind.u64.wrap stp).tmod 100) = (usm stp 100 : Int) := usm_slot stp (n := 100) (by omega) (by omega)
  have hst := usm_lt stp (n := 100) (by omega)
  have hbe := Lib.hid L.be.size
  replace L := Lib.hid L
  replace D := Lib.hid D
  go_upto_region 12 with (at_make; go_loud (refine wpList_make_full _ rfl _ _ 46 rfl w.heap.size 4 i0 (.bool false) 1 Try.underlying46 hi.out hz0.out hz1.out .i64 .i64 _ _ k rfl rfl rfl rfl ?c1 ?c2 ?c3 ?_))
  case c1 => rw [hz2.out]; omega
  case c2 => unfold maxLen; omega
  case c3 => exact hbe.out
  intro w2 hown2 hg2
  have hob : Hid (wr.heap.size < w2.heap.size) := by
    have := (lt_some (rb_block hown2 rfl).2.choose_spec)
    exact this
  obtain ⟨ob, hobe⟩ : ∃ z, z = wr.heap.size := ⟨_, rfl⟩
  rw [← hobe] at hown2 hob ⊢
  have b2 : Below wr.heap.size wr w2 := ⟨hg2.os, hg2.tape, hg2.output, hg2.size, fun g hg => hg2.block g hg (by simp)⟩
  obtain ⟨kk, hkk⟩ : ∃ z : Nat, z = 1 + usm stp 100 := ⟨_, rfl⟩
  have st2 : Hid (OnAt w q ob k kk xs (.int .i64 (-1)) (.int .i64 0) w2) := by
    refine ⟨0, -1, 0, S, rfl, rfl, by omega, by omega, by omega, due_weak D.out (by omega), fun t ht => ?_, ⟨(L.out.more b2).old.less fun g hg => ?_, ?_⟩⟩
    · obtain ⟨i, _, rfl, _⟩ := D.out.only t ht
      simp only
      omega
    · rcases hg with hg | hg
      · exact .inl (.inr ⟨by omega, by have := hob.out; omega⟩)
      · exact .inr hg
    · rw [bof_all D.out (by omega)]
      have := hown2
      rw [toList_madeCells_one] at this
      simpa [bls] using this
  have hk1 : Hid (1 ≤ kk ∧ kk ≤ 100) := ⟨by omega, by omega⟩
  have hw : (1 : Int) + (usm stp 100 : Int) = (kk : Int) := by omega
  clear hown2 hg2 b2 hkk hobe D L hbe
  go_upto_region 14 with fail
  clear hw us hst
  go_wp2_with fail
  go_loopw [10, 11] (fun vl vn wr => OnAt w q ob k kk xs vl vn wr) (fun _ vn _ => 1300 - (intOf vn).toNat)
  case atStart => exact st2.out
  case round =>
    clear st2 hob
    obtain ⟨nw, lst, wn, S2, rfl, rfl, hn0, hn1, hwn, D, hls, T⟩ := hrel
    obtain ⟨wo, hwo⟩ : ∃ x, x = wr := ⟨_, rfl⟩
    subst hwo
    obtain ⟨hk1, hk2⟩ := hk1.out
    by_cases hle : nw ≤ 1100
    · have d1 : decide (nw ≤ 1100) = true := decide_eq_true hle
      have TU := Lib.hid (lw_turn T.lw nw hwn (tick_iff.2 (by omega)))
      have g1 : Hid (0 ≤ nw ∧ nw ≤ 1100 ∧ 1 ≤ kk ∧ kk ≤ 100) := ⟨hn0, hle, hk1, hk2⟩
      replace D := Lib.hid D
      replace hls := Lib.hid hls
      replace T := Lib.hid T
      clear hn0 hn1 hwn hle
      go_wp2_with fail
      refine TU.out.mono ?_
      rintro e w3 ⟨A3, m3, c3, rfl, hm3, R3, L3, hk3, hs3⟩
      obtain ⟨O, hO⟩ : ∃ z, z = offs nw S2 := ⟨_, rfl⟩
      obtain ⟨S3, hS3⟩ : ∃ z, z = left nw S2 := ⟨_, rfl⟩
      have hsplit : Hid (O ++ S3 = S2) := by show _ = _; rw [hO, hS3]; exact offs_left nw S2
      have sr2 := T.out.lw.srt
      have nd2 := T.out.lw.nd
      have hOm : Hid (∀ o ∈ O, ∃ i, i < k ∧ o = ((i : Int), (tv xs i : Int)) ∧ nw - (kk : Int) < (tv xs i : Int) ∧ (tv xs i : Int) ≤ nw) := fun o ho => by
        rw [hO] at ho
        obtain ⟨h1, h2⟩ := (offs_mem sr2).1 ho
        obtain ⟨i, hi, rfl, h3⟩ := D.out.only o h1
        exact ⟨i, hi, rfl, h3, h2⟩
      have D3 : Hid (Due k (tv xs) nw S3) := by rw [hS3]; exact due_left D.out sr2 (by have := g1.out; omega)
      have nds : Hid (Nd (O ++ S3)) := by show Nd _; rw [hsplit.out]; exact nd2
      have srs : Hid (Srt (O ++ S3)) := by show Srt _; rw [hsplit.out]; exact sr2
      rw [← hO] at hm3 R3
      rw [← hS3] at L3
      have st3 : Hid (InAt w wo q ob k nw O S3 (.slice A3 m3 c3) (.int .i64 lst) (.int .i64 0) w3) := by
        refine ⟨0, lst, rfl, rfl, Nat.zero_le _, by rw [List.drop_zero, hsplit.out]; exact hls.out, ⟨L3.less fun g hg => .inl hg, ?_⟩, by rw [← hm3]; exact R3⟩
        rw [List.drop_zero, hsplit.out]
        exact rb_same T.out.row fun g hg => hk3 g (.inl (by have : ob = g := by simpa [Value.ownBlock] using hg
                                                            exact this.symm))
      have hlb : Hid ((Value.slice A3 m3 c3).ownBlock ≠ some ob) := fun e => by
        have h1 := (ri_block R3 e).1
        have h2 := T.out.lt
        omega
      have hsz3 : Hid (w.heap.size ≤ wo.heap.size) := T.out.lw.be.size
      have hmO : Hid (m3 = O.length) := hm3
      have hm3b : Hid (m3 ≤ 100000) := by
        have h1 := congrArg List.length hsplit.out
        rw [List.length_append] at h1
        have := T.out.lw.few
        show _ ≤ _
        omega
      clear TU D hls T L3 hk3 hs3 R3 hO hS3 sr2 nd2 hsplit hm3
      go_wp2_with fail
      go_loopw [10, 13] (fun vl vi wr => InAt w wo q ob k nw O S3 (.slice A3 m3 c3) vl vi wr) (fun _ vi _ => m3 - (intOf vi).toNat)
      case atStart => exact st3.out
      case round =>
        clear st3
        obtain ⟨j, lst2, rfl, rfl, hj, hls2, T2, R2⟩ := hrel
        by_cases hlt : j < m3
        · have i1 : (j : Int) < (m3 : Int) := by omega
          have i2 : (0 : Int) ≤ (j : Int) := by omega
          have hjO : j < O.length := by rw [← hmO.out]; exact hlt
          obtain ⟨o, ho⟩ : ∃ o, o = O[j] := ⟨_, rfl⟩
          have hdr : O.drop j = o :: O.drop (j + 1) := by rw [ho]; exact List.drop_eq_getElem_cons hjO
          have hoj : O[j]? = some o := by rw [ho]; exact List.getElem?_eq_getElem hjO
          obtain ⟨i, hik, heo, hgt, hle2⟩ := hOm.out o (List.mem_of_getElem? hoj)
          rw [hdr, List.cons_append] at T2 hls2
          obtain ⟨r, hr⟩ : ∃ z, z = O.drop (j + 1) ++ S3 := ⟨_, rfl⟩
          rw [← hr] at T2 hls2
          have hsuf : O ++ S3 = O.take j ++ (o :: r) := by
            rw [hr, ← List.cons_append, ← hdr, ← List.append_assoc, List.take_append_drop]
          have ndo : Nd (o :: r) := nd_suffix (a := O.take j) (by rw [← hsuf]; exact nds.out)
          have sro : Srt (o :: r) := srt_suffix (a := O.take j) (by rw [← hsuf]; exact srs.out)
          have ho1 : o.1 = (i : Int) := by rw [heo]
          have ho2 : o.2 = (tv xs i : Int) := by rw [heo]
          -- what is read
          rw [← hmO.out] at R2
          have RR := Rr.of_row R2
          obtain ⟨lb, hlb2, -, -⟩ := RR.at_ (by omega)
          subst hlb2
          have cl := RR.cell (k := j) (z := (i : Int)) (by rw [List.getElem?_map, hoj]; simp [ho1])
          obtain ⟨co, fo⟩ := T2.cell ho1 hik
          obtain ⟨a1, rfl, -, -⟩ := R1.out.at_ (by omega)
          obtain ⟨x, hx⟩ : ∃ x, xs[i]? = some x := ⟨_, List.getElem?_eq_getElem (by rw [R1.out.len]; omega)⟩
          have ca := (R1.out.below T2.lw.be).cell hx
          have ux : wrap64 ((IntKind.u64.wrap x).tmod 1001) = (tv xs i : Int) := by rw [tv_at hx]; exact usm_slot x (n := 1001) (by omega) (by omega)
          obtain ⟨t, ht⟩ : ∃ t, t = tv xs i := ⟨_, rfl⟩
          rw [← ht] at ux hgt hle2 ho2
          have g2 := g1.out
          have e0 : decide ((i : Int) < 0) = false := decide_eq_false (by omega)
          have e1 : decide (k ≤ i) = false := decide_eq_false (by omega)
          have e2 : decide (nw < (t : Int)) = false := decide_eq_false (by omega)
          have e3 : decide ((t : Int) ≤ nw - (kk : Int)) = false := decide_eq_false (by omega)
          have e4 : decide ((t : Int) < lst2) = false := decide_eq_false (by have := hls2 o (by simp); omega)
          have i4 : (i : Int) < (k : Int) := by omega
          have i5 : (0 : Int) ≤ (i : Int) := by omega
          have i6 : (0 : Int) ≤ nw ∧ nw ≤ 1100 ∧ (1 : Int) ≤ (kk : Int) ∧ (kk : Int) ≤ 100 := by omega
          obtain ⟨i61, i62, i63, i64⟩ := i6
          have i7 : (m3 : Int) ≤ 100000 := by have := hm3b.out; omega
          obtain ⟨T3, g3⟩ := T2.mark ndo ho1 hik
          have nx : Hid (InAt w wo q ob k nw O S3 (.slice (some lb) m3 c3) (.int .i64 t) (.int .i64 ((j : Int) + 1)) (wr.setCell ⟨ob, i, none⟩ (.bool true))) := by
            refine ⟨j + 1, t, by simp, rfl, hjO, fun u hu => ?_, by rw [← hr]; exact T3, ?_⟩
            · rw [← hr] at hu
              have := (List.pairwise_cons.1 sro).1 u hu
              unfold tlt at this
              omega
            · rw [← hmO.out]
              exact ri_same R2 fun g hg => g3.block g (lt_some (ri_block R2 hg).2.choose_spec) (fun e => hlb.out (by rw [← e]; exact hg))
          clear T2 T3 g3 R2 RR hls2 hdr hoj hsuf ndo sro heo ho1 ho2 hgt hle2 hr ho hx ht g2
          go_wp2_with fail
          rw [ux]
          go_wp2_with fail
          exact ⟨nx.out, by simp [intOf]; omega⟩
        · have d2 : decide (j < m3) = false := decide_eq_false hlt
          obtain rfl : j = O.length := by have := hmO.out; omega
          rw [List.drop_length, List.nil_append] at T2 hls2
          have g2 := g1.out
          have nx : Hid (OnAt w q ob k kk xs (.int .i64 lst2) (.int .i64 (nw + (kk : Int))) wr) := ⟨nw + (kk : Int), lst2, nw, S3, rfl, rfl, by omega, by omega, by omega, by rw [show nw + (kk : Int) - (kk : Int) = nw by omega]; exact D3.out, hls2, T2⟩
          have i62 : nw ≤ 1100 := g2.2.1
          have i61 : 0 ≤ nw := g2.1
          have i63 : (1 : Int) ≤ (kk : Int) := by omega
          have i64 : (kk : Int) ≤ 100 := by omega
          clear T2 hls2 R2 hj hlt g2
          go_wp2_with fail
          exact ⟨nx.out, by simp [intOf]; omega⟩
    · have d1 : decide (nw ≤ 1100) = false := decide_eq_false hle
      have hS2 : S2 = [] := due_empty D (tv_le xs) (by omega)
      subst hS2
      replace T := Lib.hid T
      clear D hls hwn hle hn0 hn1 hk1 hk2
      rename_i K1 h1
      replace h1 := Lib.hid h1
      go_wp2
      exact h1.out _ _ (part3 _ _ _ _ _ _ _ _ _ _ _ _ _ _ _ _ _ _ _ _ _ _ _ _ _ _ _ _ _ _ _ _ _ _ _ _ _ _ _ _ _ _ _ _ _ _ _ _ _ _ _ _ _ _ _ _ _ _ _ _ _ _ _ _ _ _ _ _ _ _ _ _ _ _ _ _ _ _ _ _ _ _ _ _ _ _ _ _ _ _ _ _ _ _ _ _ _ _ _ _ _ _ _ _ _ _ _ _ _ _ _ _ _ _ _ _ _ _ _ _ _ _ _ _ _ _ _ _ _ _ _ _ _ _ _ _ _ _ _ _ _ _ w wo A1 k c ob q wn T i3)

end Go.Proofs.Ytnfakkinaockiaa.wheelOnce
