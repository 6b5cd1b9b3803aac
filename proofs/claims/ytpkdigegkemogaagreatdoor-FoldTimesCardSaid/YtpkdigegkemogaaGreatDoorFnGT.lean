/- Part of the claim: FnG -/
import Derived.Test.YtpkdigegkemogaaGreatDoorTkT
import Derived.Test.YtpkdigegkemogaaGreatDoorFnXeT
import Derived.Test.YtpkdigegkemogaaGreatDoorFoXaT
namespace Go.Proofs.YtpkdigegkemogaaGreatDoor
set_option maxRecDepth 100000
open Go.RowKit
open Go.Proofs.YtpkdigegkemogaaGreatDoor.Pk (one_at one_free one_set lt_some u8s)
namespace Fo
open Re (Rec rcc rcv r0 BoxR rmay wpList_rload wpList_rstore rload_yields)
open St (Kq grq mayS RowI ivs)
open Pu (mayF)
open Ho (Hst)
open Sg (Tab Sag sgv sgc sz BoxS eq_sag)
open Pl (setRow_below regionAt)

theorem apl_next {s0 s : Nd} {l : List Rec} {k : Nat} (hs : apl ap s0 (l.take k) = some s) (hk : k < l.length) : apl ap s0 (l.take (k + 1)) = if (ap s l[k]).1 = true then some (ap s l[k]).2 else none := by
  rw [List.take_succ_eq_append_getElem hk, apl_app, hs]
  rfl
set_option maxHeartbeats 6400000 in
theorem foldno_any (w : World) (t : Tab w) (n : Int) (n0 : 0 ≤ n) (n4 : n ≤ 4) (a b c d e f g h i j : Int) (m0 : mayS a b = true) (m1 : mayS c d = true) (m2 : mayS e f = true) (hI : ∀ z ∈ [g, h, i, j], Cs.I z) (hF : mayF g h i j = true)
    (A : Option Addr) (m cp : Nat) (l : List Rec) (hr : Rin w (fun g => g < w.heap.size) A m l) (hm : m ≤ 1000) (ha : apl ap (ini n a b c d e f g h i j) l = none) :
    Calls Tryz.prog 9 #[.int .i64 n, .agg (cfg a b c d e f g h i j), .slice A m cp] w fun en w' => en = .returned (.tuple #[.pointer none, .int .i64 2]) ∧ Below w.heap.size w w' := by
  obtain ⟨w0, e0⟩ : ∃ z, z = w.alloc (.cells (cfg a b c d e f g h i j) 29) := ⟨_, rfl⟩
  have be0 : Hid (Below w.heap.size w w0) := by rw [e0]; exact (Below.refl _ w).alloc (Nat.le_refl _) _
  have B0 : w0.heap[w.heap.size]? = some (.cells (cfg a b c d e f g h i j) 29 (0, 0)) := by rw [e0]; exact heap_alloc_new _ _
  have NW := Lib.hid (new_any w0 n n0 n4 a b c d e f g h i j m0 m1 m2 hI hF)
  have tw := Lib.hid t
  have hl := Lib.hid hr.len
  replace hr := Lib.hid hr
  replace hm := Lib.hid hm
  replace ha := Lib.hid ha
  generalize ini n a b c d e f g h i j = s0 at *
  have c0 := one_at (i := 0) B0
  have c1 := one_at (i := 1) B0
  have c2 := one_at (i := 2) B0
  have c3 := one_at (i := 3) B0
  have c4 := one_at (i := 4) B0
  have c5 := one_at (i := 5) B0
  have c6 := one_at (i := 6) B0
  have c7 := one_at (i := 7) B0
  have c8 := one_at (i := 8) B0
  have c9 := one_at (i := 9) B0
  have lk := lt_some B0
  replace e0 := Lib.hid e0
  clear m0 m1 m2 hI hF B0 t n0 n4
  go_enter Tryz.func9, Tryz.ntmps9
  go_upto_region 1 with fail
  have e0' := e0.out
  unfold cfg at e0'
  rw [← e0']
  clear e0' e0
  go_wp2_with fail
  refine NW.out.mono ?_
  rintro en w1 ⟨q, fp, rfl, R1, hf, hb⟩
  have be1 : Hid (Below w.heap.size w w1) := be0.out.trans (hb.mono be0.out.size)
  have st : Hid (FdAt w q s0 l (.int .i64 0) w1) := ⟨0, s0, fp, rfl, Nat.zero_le _, rfl, R1, fun g hg => Nat.le_trans be0.out.size (hf g hg), be1.out⟩
  clear NW c0 c1 c2 c3 c4 c5 c6 c7 c8 c9 lk hb R1 hf be0
  go_wp2_with fail
  go_loopw [23] (fun i wr => FdAt w q s0 l i wr) (fun i _ => m - (intOf i).toNat)
  case atStart => exact st.out
  case round =>
    clear st be1
    obtain ⟨w2, e2⟩ : ∃ x, x = wr := ⟨_, rfl⟩
    subst e2
    obtain ⟨k, s, fp, rfl, hk, hs, R2, hf, hb⟩ := hrel
    replace hk := Lib.hid hk
    replace hf := Lib.hid hf
    replace R2 := Lib.hid R2
    replace hb := Lib.hid hb
    by_cases hlt : k < m
    · obtain ⟨ad, rfl, hT, hat⟩ := (hr.out.keep (fun g hg => hb.out.block g hg) (fun _ h => h)).at_ (by omega)
      have hkl : k < l.length := by have := hl.out; omega
      have ST : Hid (apl ap s0 (l.take (k + 1)) = if (ap s l[k]).1 = true then some (ap s l[k]).2 else none) := apl_next hs hkl
      have ra := Lib.hid (hat k _ (List.getElem?_eq_getElem hkl))
      generalize l[k] = r at *
      have hk1 : Hid (k + 1 ≤ l.length) := hkl
      clear hs hat hT hkl
      go_upto_region 7 with (first | (refine wpList_rload_at rfl (.tmp 25) rfl _ rfl r ra.out ?_) | (refine wpList_rstore rfl (.tmp 11) (.tmp 26) rfl w2.heap.size rfl r rfl r0 (heap_alloc_new _ _) ?_))
      obtain ⟨w3, e3⟩ : ∃ z, z = (w2.alloc (.cells #[.int .i64 0, .int .i64 0, .int .i64 0, .int .i64 0, .int .i64 0, .int .i64 0, .int .i64 0, .int .i64 0, .int .i64 0, .int .i64 0, .int .i64 0, .int .i64 0, .int .i64 0, .int .i64 0, .int .i64 0, .int .i64 0, .int .i64 0, .int .i64 0, .int .i64 0] 64)).setRow w2.heap.size (rcc r) := ⟨_, rfl⟩
      rw [← e3]
      have b3 : Hid (Below w2.heap.size w2 w3) := by rw [e3]; exact ((Below.refl _ _).alloc (Nat.le_refl _) _).trans (setRow_below _ (Nat.le_refl _))
      have B3 : Hid (BoxR w3 w2.heap.size r) := by rw [e3]; exact setRow_heap _ _ _ _ _ _ (heap_alloc_new _ _)
      have T3 := tw.out.below (hb.out.trans (b3.out.mono hb.out.size))
      have AP := Lib.hid (apply_any w3 T3 q s fp (R2.out.below b3.out) r)
      generalize ap s r = y at *
      obtain ⟨ok, s'⟩ := y
      simp only at AP ST
      clear e3 T3 ra
      go_wp2_with (refine wpList_rload rfl (.tmp 11) rfl w2.heap.size rfl r B3.out ?_)
      refine AP.out.mono ?_
      rintro en w4 ⟨rfl, h4⟩
      have hm' : m ≤ 1000 := hm.out
      cases ok with
      | true =>
        have st4 := Lib.hid (fold_step hk1.out (by rw [ST.out, if_pos rfl]) R2.out hf.out hb.out b3.out h4)
        clear h4 AP B3 b3 R2 hf hb
        go_wp2_with fail
        go_roundw
        case rel => exact st4.out
        case measure => simp [intOf]; omega
      | false =>
        have b1 := hb.out.trans (b3.out.mono hb.out.size)
        have b4 : Hid (Below w.heap.size w w4) := b1.trans (h4.2.below hf.out b1.size)
        clear h4 AP B3 b3 R2 hf hb b1
        go_wp2_with fail
        go_ret2
        exact ⟨rfl, b4.out⟩
    · have h1 : l.take k = l := List.take_of_length_le (by have := hl.out; omega)
      rw [h1, ha.out] at hs
      cases hs

noncomputable def to_6 : Code := (Tryz.f10.body.bind (regionAt 6)).getD .skip
set_option maxHeartbeats 12800000 in
theorem to6 (z0 z1 z3 z5 z6 z7 z8 z9 z10 z11 z12 z13 z14 z15 z16 z17 z18 z19 z20 z21 z22 z23 z24 z25 z26 z27 z28 z29 z30 z31 z32 z33 z34 z35 z36 z37 z38 z39 z40 z41 z42 z43 z44 z45 z46 z47 z48 z49 z50 z51 z52 z53 z54 z55 z56 z57 z58 z59 z60 z61 z62 z63 z64 z65 z66 z67 z68 z69 z70 z71 z72 z73 z74 z75 z76 z77 z78 z79 z80 z81 z82 z83 z84 z85 z86 z87 z88 z89 z90 z91 z92 z93 z94 z95 z96 z97 z98 z99 z100 z101 z102 z103 z104 z105 z106 z107 z108 z109 z110 z111 z112 z113 z114 z115 z116 z117 z118 z119 z120 z121 z122 z123 z124 z125 z126 z127 z128 z129 z130 z131 z132 z133 z134 z135 z136 z137 z138 z139 z140 z141 z142 z143 z144 z145 z146 z147 z148 z149 : Value) (W : World) (q b : Nat) (r : Rec) (a1 a2 : Bool) (D1 Done : World → Prop) (B0 : BoxR W b r)
    (F1 : Hid (Calls Tryz.prog 14 #[ptr q, rcv r] W.drew fun e w' => e = .returned (.bool a1) ∧ D1 w' ∧ BoxR w' b r))
    (F2 : Hid (∀ w', D1 w' → Calls Tryz.prog 14 #[ptr q, rcv r] w' fun e w'' => e = .returned (.bool a2) ∧ Done w'' ∧ BoxR w'' b r))
    (Q : Exit → Act → World → Prop)
    (hP : ∀ c a d v w, Q (.panic c) (Act.put a d v) w → Q (.panic c) a w)
    (hQ : ∀ (y39 y40 y41 y42 y43 y44 : Value) (W3 : World), Done W3 → Q .normal ⟨#[z0, z1, ptr q, z3, ptr b, .bool a1, .bool a2, z7, z8, z9, z10, z11, z12, z13, z14, z15, z16, z17, z18, z19, z20, z21, z22, z23, z24, z25, z26, z27, z28, z29, z30, z31, z32, z33, z34, z35, z36, z37, z38, y39, y40, y41, y42, y43, y44, z45, z46, z47, z48, z49, z50, z51, z52, z53, z54, z55, z56, z57, z58, z59, z60, z61, z62, z63, z64, z65, z66, z67, z68, z69, z70, z71, z72, z73, z74, z75, z76, z77, z78, z79, z80, z81, z82, z83, z84, z85, z86, z87, z88, z89, z90, z91, z92, z93, z94, z95, z96, z97, z98, z99, z100, z101, z102, z103, z104, z105, z106, z107, z108, z109, z110, z111, z112, z113, z114, z115, z116, z117, z118, z119, z120, z121, z122, z123, z124, z125, z126, z127, z128, z129, z130, z131, z132, z133, z134, z135, z136, z137, z138, z139, z140, z141, z142, z143, z144, z145, z146, z147, z148, z149], []⟩ W3) :
    Code.wp Tryz.prog to_6 Q ⟨#[z0, z1, ptr q, z3, ptr b, z5, z6, z7, z8, z9, z10, z11, z12, z13, z14, z15, z16, z17, z18, z19, z20, z21, z22, z23, z24, z25, z26, z27, z28, z29, z30, z31, z32, z33, z34, z35, z36, z37, z38, z39, z40, z41, z42, z43, z44, z45, z46, z47, z48, z49, z50, z51, z52, z53, z54, z55, z56, z57, z58, z59, z60, z61, z62, z63, z64, z65, z66, z67, z68, z69, z70, z71, z72, z73, z74, z75, z76, z77, z78, z79, z80, z81, z82, z83, z84, z85, z86, z87, z88, z89, z90, z91, z92, z93, z94, z95, z96, z97, z98, z99, z100, z101, z102, z103, z104, z105, z106, z107, z108, z109, z110, z111, z112, z113, z114, z115, z116, z117, z118, z119, z120, z121, z122, z123, z124, z125, z126, z127, z128, z129, z130, z131, z132, z133, z134, z135, z136, z137, z138, z139, z140, z141, z142, z143, z144, z145, z146, z147, z148, z149], []⟩ W := by
  conv => arg 2; whnf
  have b0 : BoxR W.drew b r := B0
  refine wp_region_held_drew (S := fun w => BoxR w b r) (by kernel_rfl) b0 (fun hHeld => ?_)
  replace hQ := Lib.hid hQ
  clear b0
  obtain ⟨v0, hv⟩ : ∃ v, v = W.drew := ⟨_, rfl⟩
  rw [← hv] at F1 hHeld ⊢
  clear hv
  refine' tkY 0 hP ?c hHeld ?_
  case c => intro w _; go_simp; try with_reducible rfl
  simp only [Act.put, sQa, sQb, sQc]
  refine' tkY 1 (v := rcv r) hP ?c hHeld ?_
  case c => exact fun w hSw => rload_yields (.tmp 4) rfl b rfl r hSw
  simp only [Act.put, sQa, sQb, sQc]
  refine' tkY 3 hP ?c hHeld ?_
  case c => intro w _; go_simp; try with_reducible rfl
  simp only [Act.put, sQa, sQb, sQc]
  refine' tkY 4 (v := rcv r) hP ?c hHeld ?_
  case c => exact fun w hSw => rload_yields (.tmp 4) rfl b rfl r hSw
  simp only [Act.put, sQa, sQb, sQc]
  refine wpAnyH_ready (rs := [2]) (by kernel_rfl) (by simp) ?_
  refine' tkC 2 (fun K hK => ?st5) ?mo5
  case st5 =>
    go_simp
    refine F1.out.mono ?_
    rintro e v1 ⟨rfl, d1, h6⟩
    clear hHeld
    go_simp
    refine hK.out _ _ h6 (fun hHeld => ?_)
    clear hK K h6
    try simp only [Act.put, sQa, sQb, sQc]
    refine wpAnyH_ready (rs := [5]) (by kernel_rfl) (by simp) ?_
    refine' tkC 5 (fun K hK => ?st6) ?mo6
    case st6 =>
      go_simp
      refine (F2.out _ d1).mono ?_
      rintro e v2 ⟨rfl, dn, h6⟩
      clear hHeld
      go_simp
      refine hK.out _ _ h6 (fun hHeld => ?_)
      clear hK K h6
      try simp only [Act.put, sQa, sQb, sQc]
      refine' tkY 6 hP ?c hHeld ?_
      case c => intro w _; go_simp; try with_reducible rfl
      simp only [Act.put, sQa, sQb, sQc]
      refine' tkY 7 hP ?c hHeld ?_
      case c => intro w _; go_simp; try with_reducible rfl
      simp only [Act.put, sQa, sQb, sQc]
      refine wpAnyH_done (by kernel_rfl) ?_ _
      exact hQ.out _ _ _ _ _ _ _ dn
    case mo6 => exact AllReadyH.nil
  case mo5 => exact AllReadyH.nil

theorem field_e (s a b : Int) (w : World) : (Instr.field 37 (.agg #[.int .i64 s, .int .i64 a, .int .i64 b, .int .i64 0, .int .i64 0]) 0).run Tryz.prog w = .ok (.int .i64 s) w := by kernel_rfl
section
variable {a : Act} {o : Oper} {w : World}
theorem sload_yields (x : Operand) (ho : o.op = .load 57 x) (p : Addr) (hx : a.eval x = .pointer (some p)) (s : Sag) (h : ∀ (j : Nat) (v : Value), (sgc s).toList[j]? = some v → w.cell? (p.add j) = some v) :
    (execOp a.eval o).run Tryz.prog w = .ok (.value (sgv s)) w := by
  unfold execOp
  simp only [ho, hx, Sem.run_bind, Sem.run_pure, Result.andThen_ok, Fs.run_sload_at w p s h]
theorem seql_yields (x y : Operand) (ho : o.op = .binOp .eql 57 x y 57) (s t : Sag) (hx : a.eval x = sgv s) (hy : a.eval y = sgv t) (b : Bool) (hb : b = decide (s = t)) :
    (execOp a.eval o).run Tryz.prog w = .ok (.value (.bool b)) w := by
  have EQ := eq_sag w s t
  rw [← hb] at EQ
  have EG := run_eqGuard_agg (P := Tryz.prog) (w := w) .eql 57 x y (sgc s) (sgc t) Tryz.eqGuardType57
  unfold execOp
  simp only [ho, hx, hy, Sem.run_bind, Sem.run_pure, Result.andThen_ok, EG, run_eql_struct, EQ]
end
noncomputable def to_19 : Code := (Tryz.f10.body.bind (regionAt 19)).getD .skip
set_option maxHeartbeats 12800000 in
theorem to19 (z0 z1 z3 z4 z9 z12 z13 z20 z21 z22 z23 z24 z25 z26 z27 z28 z29 z30 z31 z32 z33 z34 z35 z36 z37 z38 z39 z40 z41 z42 z43 z44 z45 z46 z47 z48 z49 z50 z51 z52 z53 z54 z55 z56 z57 z58 z59 z60 z61 z62 z63 z64 z65 z66 z67 z68 z69 z70 z71 z72 z73 z74 z75 z76 z77 z78 z79 z80 z81 z82 z83 z84 z85 z86 z87 z88 z89 z90 z91 z92 z93 z94 z95 z96 z97 z98 z99 z100 z101 z102 z103 z104 z105 z106 z107 z108 z109 z110 z111 z112 z113 z114 z115 z116 z117 z118 z119 z120 z121 z122 z123 z124 z125 z126 z127 z128 z129 z130 z131 z132 z133 z134 z135 z136 z137 z138 z139 z140 z141 z142 z143 z144 z145 z146 z147 z148 z149 : Value) (W : World) (q1 q2 q3 yb zb : Nat) (y : Sag) (a b : Int) (bs : List UInt8)
    (Z0 : BoxS W zb y)
    (Y0 : BoxS W yb y)
    (F1 : Hid (∀ w', Below W.heap.size W w' → Calls Tryz.prog 16 #[ptr q1, .int .i64 2] w' fun e w'' => e = .returned (.agg #[.int .i64 1, .int .i64 a, .int .i64 b, .int .i64 0, .int .i64 0]) ∧ Below W.heap.size W w''))
    (F2 : Hid (∀ w', Below W.heap.size W w' → Calls Tryz.prog 11 #[ptr q2] w' fun e w'' => ∃ A c, e = .returned (.slice A bs.length c) ∧ w''.ownsRow W.heap.size 5 1 (.slice A bs.length c) bs.length (u8s bs) ∧ Below w'.heap.size w' w'' ∧ Below W.heap.size W w''))
    (F3 : Hid (∀ w', Below W.heap.size W w' → Calls Tryz.prog 11 #[ptr q1] w' fun e w'' => ∃ A c, e = .returned (.slice A bs.length c) ∧ w''.ownsRow W.heap.size 5 1 (.slice A bs.length c) bs.length (u8s bs) ∧ Below w'.heap.size w' w'' ∧ Below W.heap.size W w''))
    (F4 : Hid (∀ w', Below W.heap.size W w' → Calls Tryz.prog 17 #[ptr q3] w' fun e w'' => ∃ A c, e = .returned (.slice A 1 c) ∧ Below W.heap.size W w''))
    (Q : Exit → Act → World → Prop)
    (hP : ∀ c a d v w, Q (.panic c) (Act.put a d v) w → Q (.panic c) a w)
    (hQ : ∀ (y94 y95 y96 y97 y98 y99 y100 y101 y102 y103 y104 y105 y106 y107 y108 y109 y110 y111 y112 y113 y114 y115 y116 y117 y118 y119 y120 y121 y122 y123 y124 y125 y126 y127 y128 y129 y130 y131 y132 y133 y134 y135 y136 y137 y138 y139 y140 y141 y142 y143 y144 y145 y146 y147 y148 y149 : Value)  (W3 : World), Below W.heap.size W W3 → Q .normal ⟨#[.bool true, z1, ptr q1, z3, z4, .bool true, .bool false, ptr q2, .int .i64 0, z9, .int .i64 2, ptr q3, z12, z13, .bool true, ptr yb, .bool true, .bool false, ptr zb, .bool true, z20, z21, z22, z23, z24, z25, z26, z27, z28, z29, z30, z31, z32, z33, z34, z35, z36, z37, z38, z39, z40, z41, z42, z43, z44, z45, z46, z47, z48, z49, z50, z51, z52, z53, z54, z55, z56, z57, z58, z59, z60, z61, z62, z63, z64, z65, z66, z67, z68, z69, z70, z71, z72, z73, z74, z75, z76, z77, z78, z79, z80, z81, z82, z83, z84, z85, z86, z87, z88, z89, z90, z91, z92, z93, y94, y95, y96, y97, y98, y99, y100, y101, y102, y103, y104, y105, y106, y107, y108, y109, y110, y111, y112, y113, y114, y115, y116, y117, y118, y119, y120, y121, y122, y123, y124, y125, y126, y127, y128, y129, y130, y131, y132, y133, y134, y135, y136, y137, y138, y139, y140, y141, y142, y143, y144, y145, y146, y147, y148, y149], []⟩ W3) :
    Code.wp Tryz.prog to_19 Q ⟨#[z0, z1, ptr q1, z3, z4, .bool true, .bool false, ptr q2, .int .i64 0, z9, .int .i64 2, ptr q3, z12, z13, .bool true, ptr yb, .bool true, .bool false, ptr zb, .bool true, z20, z21, z22, z23, z24, z25, z26, z27, z28, z29, z30, z31, z32, z33, z34, z35, z36, z37, z38, z39, z40, z41, z42, z43, z44, z45, z46, z47, z48, z49, z50, z51, z52, z53, z54, z55, z56, z57, z58, z59, z60, z61, z62, z63, z64, z65, z66, z67, z68, z69, z70, z71, z72, z73, z74, z75, z76, z77, z78, z79, z80, z81, z82, z83, z84, z85, z86, z87, z88, z89, z90, z91, z92, z93, z94, z95, z96, z97, z98, z99, z100, z101, z102, z103, z104, z105, z106, z107, z108, z109, z110, z111, z112, z113, z114, z115, z116, z117, z118, z119, z120, z121, z122, z123, z124, z125, z126, z127, z128, z129, z130, z131, z132, z133, z134, z135, z136, z137, z138, z139, z140, z141, z142, z143, z144, z145, z146, z147, z148, z149], []⟩ W := by
  conv => arg 2; whnf
  have b0 : Below W.heap.size W W.drew := ⟨rfl, rfl, rfl, Nat.le_refl _, fun _ _ => rfl⟩
  refine wp_region_held_drew (S := fun w => Below W.heap.size W w) (by kernel_rfl) b0 (fun hHeld => ?_)
  replace hQ := Lib.hid hQ
  clear b0
  obtain ⟨v0, hv⟩ : ∃ v, v = W.drew := ⟨_, rfl⟩
  rw [← hv] at hHeld ⊢
  clear hv
  refine' tkY 0 hP ?c hHeld ?_
  case c => intro w _; go_simp; try with_reducible rfl
  simp only [Act.put, sQa, sQb, sQc]
  refine' tkY 1 hP ?c hHeld ?_
  case c => intro w _; go_simp; try with_reducible rfl
  simp only [Act.put, sQa, sQb, sQc]
  refine' tkY 2 hP ?c hHeld ?_
  case c => intro w _; go_simp; try with_reducible rfl
  simp only [Act.put, sQa, sQb, sQc]
  refine' tkY 3 hP ?c hHeld ?_
  case c => intro w _; go_simp; try with_reducible rfl
  simp only [Act.put, sQa, sQb, sQc]
  refine' tkY 4 hP ?c hHeld ?_
  case c => intro w _; go_simp; try with_reducible rfl
  simp only [Act.put, sQa, sQb, sQc]
  refine' tkY 5 hP ?c hHeld ?_
  case c => intro w _; go_simp; try with_reducible rfl
  simp only [Act.put, sQa, sQb, sQc]
  refine' tkY 6 hP ?c hHeld ?_
  case c => intro w _; go_simp; try with_reducible rfl
  simp only [Act.put, sQa, sQb, sQc]
  refine' tkY 7 hP ?c hHeld ?_
  case c => intro w _; go_simp; try with_reducible rfl
  simp only [Act.put, sQa, sQb, sQc]
  refine' tkY 8 hP ?c hHeld ?_
  case c => intro w _; go_simp; try with_reducible rfl
  simp only [Act.put, sQa, sQb, sQc]
  refine' tkY 9 hP ?c hHeld ?_
  case c => intro w _; go_simp; try with_reducible rfl
  simp only [Act.put, sQa, sQb, sQc]
  refine' tkY 10 hP ?c hHeld ?_
  case c => intro w _; go_simp; try with_reducible rfl
  simp only [Act.put, sQa, sQb, sQc]
  refine' tkY 11 hP ?c hHeld ?_
  case c => intro w _; go_simp; try with_reducible rfl
  simp only [Act.put, sQa, sQb, sQc]
  refine' tkY 12 hP ?c hHeld ?_
  case c => intro w _; go_simp; try with_reducible rfl
  simp only [Act.put, sQa, sQb, sQc]
  refine' tkY 13 hP ?c hHeld ?_
  case c => intro w _; go_simp; try with_reducible rfl
  simp only [Act.put, sQa, sQb, sQc]
  refine' tkY 14 hP ?c hHeld ?_
  case c => intro w _; go_simp; try with_reducible rfl
  simp only [Act.put, sQa, sQb, sQc]
  refine wpAnyH_ready (rs := [15]) (by kernel_rfl) (by simp) ?_
  refine' tkC 15 (fun K hK => ?st16) ?mo16
  case st16 =>
    go_simp
    refine (F1.out _ hHeld).mono ?_
    rintro e v1 ⟨rfl, h6⟩
    clear hHeld
    go_simp
    refine hK.out _ _ h6 (fun hHeld => ?_)
    clear hK K h6
    try simp only [Act.put, sQa, sQb, sQc]
    refine' tkY 16 hP ?c hHeld ?_
    case c => intro w hSw; have fr := field_e 1 a b w; go_simp; try with_reducible rfl
    simp only [Act.put, sQa, sQb, sQc]
    refine' tkY 17 hP ?c hHeld ?_
    case c => intro w _; go_simp; try with_reducible rfl
    simp only [Act.put, sQa, sQb, sQc]
    refine' tkY 18 hP ?c hHeld ?_
    case c => intro w _; go_simp; try with_reducible rfl
    simp only [Act.put, sQa, sQb, sQc]
    refine' tkY 19 hP ?c hHeld ?_
    case c => intro w _; go_simp; try with_reducible rfl
    simp only [Act.put, sQa, sQb, sQc]
    refine' tkY 20 hP ?c hHeld ?_
    case c => intro w _; go_simp; try with_reducible rfl
    simp only [Act.put, sQa, sQb, sQc]
    refine' tkY 23 hP ?c hHeld ?_
    case c => intro w _; go_simp; try with_reducible rfl
    simp only [Act.put, sQa, sQb, sQc]
    refine wpAnyH_ready (rs := [21]) (by kernel_rfl) (by simp) ?_
    refine' tkC 21 (fun K hK => ?st23) ?mo23
    case st23 =>
      go_simp
      refine (F2.out _ hHeld).mono ?_
      rintro e v2 ⟨A1, k1, rfl, r1, hb1, h6⟩
      clear hHeld
      go_simp
      refine hK.out _ _ h6 (fun hHeld => ?_)
      clear hK K h6
      try simp only [Act.put, sQa, sQb, sQc]
      refine wpAnyH_ready (rs := [22, 24]) (by kernel_rfl) (by simp) ?_
      refine' tkC 22 (fun K hK => ?st24) ?mo24
      case st24 =>
        have cv := own_str r1
        go_simp
        refine hK.out _ _ hHeld (fun hHeld2 => ?_)
        clear hK K hHeld2 cv
        try simp only [Act.put, sQa, sQb, sQc]
        refine wpAnyH_ready (rs := [24]) (by kernel_rfl) (by simp) ?_
        refine' tkC 24 (fun K hK => ?st25) ?mo25
        case st25 =>
          go_simp
          refine (F3.out _ hHeld).mono ?_
          rintro e v3 ⟨A2, k2, rfl, r2, hb2, h6⟩
          try (replace r1 := Fs.row_keep r1 fun g hg => hb2.block g (lt_some (Fs.own_lt r1 hg).2.choose_spec))
          clear hHeld
          go_simp
          refine hK.out _ _ h6 (fun hHeld => ?_)
          clear hK K h6
          try simp only [Act.put, sQa, sQb, sQc]
          refine wpAnyH_ready (rs := [25]) (by kernel_rfl) (by simp) ?_
          refine' tkC 25 (fun K hK => ?st26) ?mo26
          case st26 =>
            have cv := own_str r2
            go_simp
            refine hK.out _ _ hHeld (fun hHeld2 => ?_)
            clear hK K hHeld2 cv
            try simp only [Act.put, sQa, sQb, sQc]
            refine' tkY 26 hP ?c hHeld ?_
            case c => intro w hSw; have se := strs_eq bs; go_simp; try with_reducible rfl
            simp only [Act.put, sQa, sQb, sQc]
            refine' tkY 27 hP ?c hHeld ?_
            case c => intro w _; go_simp; try with_reducible rfl
            simp only [Act.put, sQa, sQb, sQc]
            refine' tkY 28 hP ?c hHeld ?_
            case c => intro w _; go_simp; try with_reducible rfl
            simp only [Act.put, sQa, sQb, sQc]
            refine' tkY 29 hP ?c hHeld ?_
            case c => intro w _; go_simp; try with_reducible rfl
            simp only [Act.put, sQa, sQb, sQc]
            refine' tkY 30 hP ?c hHeld ?_
            case c => intro w _; go_simp; try with_reducible rfl
            simp only [Act.put, sQa, sQb, sQc]
            refine' tkY 31 hP ?c hHeld ?_
            case c => intro w _; go_simp; try with_reducible rfl
            simp only [Act.put, sQa, sQb, sQc]
            refine' tkY 32 hP ?c hHeld ?_
            case c => intro w _; go_simp; try with_reducible rfl
            simp only [Act.put, sQa, sQb, sQc]
            refine' tkY 33 hP ?c hHeld ?_
            case c => intro w _; go_simp; try with_reducible rfl
            simp only [Act.put, sQa, sQb, sQc]
            refine' tkY 34 hP ?c hHeld ?_
            case c => intro w _; go_simp; try with_reducible rfl
            simp only [Act.put, sQa, sQb, sQc]
            refine' tkY 35 hP ?c hHeld ?_
            case c => intro w _; go_simp; try with_reducible rfl
            simp only [Act.put, sQa, sQb, sQc]
            refine' tkY 36 hP ?c hHeld ?_
            case c => intro w _; go_simp; try with_reducible rfl
            simp only [Act.put, sQa, sQb, sQc]
            refine' tkY 37 hP ?c hHeld ?_
            case c => intro w _; go_simp; try with_reducible rfl
            simp only [Act.put, sQa, sQb, sQc]
            refine' tkY 38 hP ?c hHeld ?_
            case c => intro w _; go_simp; try with_reducible rfl
            simp only [Act.put, sQa, sQb, sQc]
            refine' tkY 39 hP ?c hHeld ?_
            case c => intro w _; go_simp; try with_reducible rfl
            simp only [Act.put, sQa, sQb, sQc]
            refine' tkY 40 hP ?c hHeld ?_
            case c => intro w _; go_simp; try with_reducible rfl
            simp only [Act.put, sQa, sQb, sQc]
            refine' tkY 41 hP ?c hHeld ?_
            case c => intro w _; go_simp; try with_reducible rfl
            simp only [Act.put, sQa, sQb, sQc]
            refine' tkY 42 hP ?c hHeld ?_
            case c => intro w _; go_simp; try with_reducible rfl
            simp only [Act.put, sQa, sQb, sQc]
            refine' tkY 43 hP ?c hHeld ?_
            case c => intro w _; go_simp; try with_reducible rfl
            simp only [Act.put, sQa, sQb, sQc]
            refine' tkY 44 hP ?c hHeld ?_
            case c => intro w _; go_simp; try with_reducible rfl
            simp only [Act.put, sQa, sQb, sQc]
            refine' tkY 45 hP ?c hHeld ?_
            case c => intro w _; go_simp; try with_reducible rfl
            simp only [Act.put, sQa, sQb, sQc]
            refine' tkY 46 (v := sgv y) hP ?c hHeld ?_
            case c => exact fun w hSw => sload_yields (.tmp 18) rfl ⟨zb, 0, none⟩ rfl y (Fs.boxs_at ((hSw.block _ (lt_some Z0)).trans Z0))
            simp only [Act.put, sQa, sQb, sQc]
            refine' tkY 47 (v := sgv y) hP ?c hHeld ?_
            case c => exact fun w hSw => sload_yields (.tmp 15) rfl ⟨yb, 0, none⟩ rfl y (Fs.boxs_at ((hSw.block _ (lt_some Y0)).trans Y0))
            simp only [Act.put, sQa, sQb, sQc]
            refine' tkY 48 (v := .bool true) hP ?c hHeld ?_
            case c => exact fun w hSw => seql_yields (.tmp 140) (.tmp 141) rfl y y rfl rfl true (decide_eq_true rfl).symm
            simp only [Act.put, sQa, sQb, sQc]
            refine' tkY 49 hP ?c hHeld ?_
            case c => intro w _; go_simp; try with_reducible rfl
            simp only [Act.put, sQa, sQb, sQc]
            refine' tkY 50 hP ?c hHeld ?_
            case c => intro w _; go_simp; try with_reducible rfl
            simp only [Act.put, sQa, sQb, sQc]
            refine' tkY 51 hP ?c hHeld ?_
            case c => intro w _; go_simp; try with_reducible rfl
            simp only [Act.put, sQa, sQb, sQc]
            refine wpAnyH_ready (rs := [52]) (by kernel_rfl) (by simp) ?_
            refine' tkC 52 (fun K hK => ?st53) ?mo53
            case st53 =>
              go_simp
              refine (F4.out _ hHeld).mono ?_
              rintro e v4 ⟨A4, k4, rfl, h6⟩
              clear hHeld
              go_simp
              refine hK.out _ _ h6 (fun hHeld => ?_)
              clear hK K h6
              try simp only [Act.put, sQa, sQb, sQc]
              refine' tkY 53 hP ?c hHeld ?_
              case c => intro w _; go_simp; try with_reducible rfl
              simp only [Act.put, sQa, sQb, sQc]
              refine' tkY 54 hP ?c hHeld ?_
              case c => intro w _; go_simp; try with_reducible rfl
              simp only [Act.put, sQa, sQb, sQc]
              refine' tkY 55 hP ?c hHeld ?_
              case c => intro w _; go_simp; try with_reducible rfl
              simp only [Act.put, sQa, sQb, sQc]
              refine' tkY 56 hP ?c hHeld ?_
              case c => intro w _; go_simp; try with_reducible rfl
              simp only [Act.put, sQa, sQb]
              refine wpAnyH_done (by kernel_rfl) ?_ _
              exact hQ.out _ _ _ _ _ _ _ _ _ _ _ _ _ _ _ _ _ _ _ _ _ _ _ _ _ _ _ _ _ _ _ _ _ _ _ _ _ _ _ _ _ _ _ _ _ _ _ _ _ _ _ _ _ _ _ _ _  hHeld
            case mo53 => exact AllReadyH.nil
          case mo26 => exact AllReadyH.nil
        case mo25 => exact AllReadyH.nil
      case mo24 =>
        refine' tkC 24 (fun K hK => ?st58) ?mo58
        case st58 =>
          go_simp
          refine (F3.out _ hHeld).mono ?_
          rintro e v3 ⟨A2, k2, rfl, r2, hb2, h6⟩
          try (replace r1 := Fs.row_keep r1 fun g hg => hb2.block g (lt_some (Fs.own_lt r1 hg).2.choose_spec))
          clear hHeld
          go_simp
          refine hK.out _ _ h6 (fun hHeld => ?_)
          clear hK K h6
          try simp only [Act.put, sQa, sQb, sQc]
          refine wpAnyH_ready (rs := [22, 25]) (by kernel_rfl) (by simp) ?_
          refine' tkC 22 (fun K hK => ?st59) ?mo59
          case st59 =>
            have cv := own_str r1
            go_simp
            refine hK.out _ _ hHeld (fun hHeld2 => ?_)
            clear hK K hHeld2 cv
            try simp only [Act.put, sQa, sQb, sQc]
            refine wpAnyH_ready (rs := [25]) (by kernel_rfl) (by simp) ?_
            refine' tkC 25 (fun K hK => ?st60) ?mo60
            case st60 =>
              have cv := own_str r2
              go_simp
              refine hK.out _ _ hHeld (fun hHeld2 => ?_)
              clear hK K hHeld2 cv
              try simp only [Act.put, sQa, sQb, sQc]
              refine' tkY 26 hP ?c hHeld ?_
              case c => intro w hSw; have se := strs_eq bs; go_simp; try with_reducible rfl
              simp only [Act.put, sQa, sQb, sQc]
              refine' tkY 27 hP ?c hHeld ?_
              case c => intro w _; go_simp; try with_reducible rfl
              simp only [Act.put, sQa, sQb, sQc]
              refine' tkY 28 hP ?c hHeld ?_
              case c => intro w _; go_simp; try with_reducible rfl
              simp only [Act.put, sQa, sQb, sQc]
              refine' tkY 29 hP ?c hHeld ?_
              case c => intro w _; go_simp; try with_reducible rfl
              simp only [Act.put, sQa, sQb, sQc]
              refine' tkY 30 hP ?c hHeld ?_
              case c => intro w _; go_simp; try with_reducible rfl
              simp only [Act.put, sQa, sQb, sQc]
              refine' tkY 31 hP ?c hHeld ?_
              case c => intro w _; go_simp; try with_reducible rfl
              simp only [Act.put, sQa, sQb, sQc]
              refine' tkY 32 hP ?c hHeld ?_
              case c => intro w _; go_simp; try with_reducible rfl
              simp only [Act.put, sQa, sQb, sQc]
              refine' tkY 33 hP ?c hHeld ?_
              case c => intro w _; go_simp; try with_reducible rfl
              simp only [Act.put, sQa, sQb, sQc]
              refine' tkY 34 hP ?c hHeld ?_
              case c => intro w _; go_simp; try with_reducible rfl
              simp only [Act.put, sQa, sQb, sQc]
              refine' tkY 35 hP ?c hHeld ?_
              case c => intro w _; go_simp; try with_reducible rfl
              simp only [Act.put, sQa, sQb, sQc]
              refine' tkY 36 hP ?c hHeld ?_
              case c => intro w _; go_simp; try with_reducible rfl
              simp only [Act.put, sQa, sQb, sQc]
              refine' tkY 37 hP ?c hHeld ?_
              case c => intro w _; go_simp; try with_reducible rfl
              simp only [Act.put, sQa, sQb, sQc]
              refine' tkY 38 hP ?c hHeld ?_
              case c => intro w _; go_simp; try with_reducible rfl
              simp only [Act.put, sQa, sQb, sQc]
              refine' tkY 39 hP ?c hHeld ?_
              case c => intro w _; go_simp; try with_reducible rfl
              simp only [Act.put, sQa, sQb, sQc]
              refine' tkY 40 hP ?c hHeld ?_
              case c => intro w _; go_simp; try with_reducible rfl
              simp only [Act.put, sQa, sQb, sQc]
              refine' tkY 41 hP ?c hHeld ?_
              case c => intro w _; go_simp; try with_reducible rfl
              simp only [Act.put, sQa, sQb, sQc]
              refine' tkY 42 hP ?c hHeld ?_
              case c => intro w _; go_simp; try with_reducible rfl
              simp only [Act.put, sQa, sQb, sQc]
              refine' tkY 43 hP ?c hHeld ?_
              case c => intro w _; go_simp; try with_reducible rfl
              simp only [Act.put, sQa, sQb, sQc]
              refine' tkY 44 hP ?c hHeld ?_
              case c => intro w _; go_simp; try with_reducible rfl
              simp only [Act.put, sQa, sQb, sQc]
              refine' tkY 45 hP ?c hHeld ?_
              case c => intro w _; go_simp; try with_reducible rfl
              simp only [Act.put, sQa, sQb, sQc]
              refine' tkY 46 (v := sgv y) hP ?c hHeld ?_
              case c => exact fun w hSw => sload_yields (.tmp 18) rfl ⟨zb, 0, none⟩ rfl y (Fs.boxs_at ((hSw.block _ (lt_some Z0)).trans Z0))
              simp only [Act.put, sQa, sQb, sQc]
              refine' tkY 47 (v := sgv y) hP ?c hHeld ?_
              case c => exact fun w hSw => sload_yields (.tmp 15) rfl ⟨yb, 0, none⟩ rfl y (Fs.boxs_at ((hSw.block _ (lt_some Y0)).trans Y0))
              simp only [Act.put, sQa, sQb, sQc]
              refine' tkY 48 (v := .bool true) hP ?c hHeld ?_
              case c => exact fun w hSw => seql_yields (.tmp 140) (.tmp 141) rfl y y rfl rfl true (decide_eq_true rfl).symm
              simp only [Act.put, sQa, sQb, sQc]
              refine' tkY 49 hP ?c hHeld ?_
              case c => intro w _; go_simp; try with_reducible rfl
              simp only [Act.put, sQa, sQb, sQc]
              refine' tkY 50 hP ?c hHeld ?_
              case c => intro w _; go_simp; try with_reducible rfl
              simp only [Act.put, sQa, sQb, sQc]
              refine' tkY 51 hP ?c hHeld ?_
              case c => intro w _; go_simp; try with_reducible rfl
              simp only [Act.put, sQa, sQb, sQc]
              refine wpAnyH_ready (rs := [52]) (by kernel_rfl) (by simp) ?_
              refine' tkC 52 (fun K hK => ?st87) ?mo87
              case st87 =>
                go_simp
                refine (F4.out _ hHeld).mono ?_
                rintro e v4 ⟨A4, k4, rfl, h6⟩
                clear hHeld
                go_simp
                refine hK.out _ _ h6 (fun hHeld => ?_)
                clear hK K h6
                try simp only [Act.put, sQa, sQb, sQc]
                refine' tkY 53 hP ?c hHeld ?_
                case c => intro w _; go_simp; try with_reducible rfl
                simp only [Act.put, sQa, sQb, sQc]
                refine' tkY 54 hP ?c hHeld ?_
                case c => intro w _; go_simp; try with_reducible rfl
                simp only [Act.put, sQa, sQb, sQc]
                refine' tkY 55 hP ?c hHeld ?_
                case c => intro w _; go_simp; try with_reducible rfl
                simp only [Act.put, sQa, sQb, sQc]
                refine' tkY 56 hP ?c hHeld ?_
                case c => intro w _; go_simp; try with_reducible rfl
                simp only [Act.put, sQa, sQb]
                refine wpAnyH_done (by kernel_rfl) ?_ _
                exact hQ.out _ _ _ _ _ _ _ _ _ _ _ _ _ _ _ _ _ _ _ _ _ _ _ _ _ _ _ _ _ _ _ _ _ _ _ _ _ _ _ _ _ _ _ _ _ _ _ _ _ _ _ _ _ _ _ _ _  hHeld
              case mo87 => exact AllReadyH.nil
            case mo60 => exact AllReadyH.nil
          case mo59 =>
            refine' tkC 25 (fun K hK => ?st92) ?mo92
            case st92 =>
              have cv := own_str r2
              go_simp
              refine hK.out _ _ hHeld (fun hHeld2 => ?_)
              clear hK K hHeld2 cv
              try simp only [Act.put, sQa, sQb, sQc]
              refine wpAnyH_ready (rs := [22]) (by kernel_rfl) (by simp) ?_
              refine' tkC 22 (fun K hK => ?st93) ?mo93
              case st93 =>
                have cv := own_str r1
                go_simp
                refine hK.out _ _ hHeld (fun hHeld2 => ?_)
                clear hK K hHeld2 cv
                try simp only [Act.put, sQa, sQb, sQc]
                refine' tkY 26 hP ?c hHeld ?_
                case c => intro w hSw; have se := strs_eq bs; go_simp; try with_reducible rfl
                simp only [Act.put, sQa, sQb, sQc]
                refine' tkY 27 hP ?c hHeld ?_
                case c => intro w _; go_simp; try with_reducible rfl
                simp only [Act.put, sQa, sQb, sQc]
                refine' tkY 28 hP ?c hHeld ?_
                case c => intro w _; go_simp; try with_reducible rfl
                simp only [Act.put, sQa, sQb, sQc]
                refine' tkY 29 hP ?c hHeld ?_
                case c => intro w _; go_simp; try with_reducible rfl
                simp only [Act.put, sQa, sQb, sQc]
                refine' tkY 30 hP ?c hHeld ?_
                case c => intro w _; go_simp; try with_reducible rfl
                simp only [Act.put, sQa, sQb, sQc]
                refine' tkY 31 hP ?c hHeld ?_
                case c => intro w _; go_simp; try with_reducible rfl
                simp only [Act.put, sQa, sQb, sQc]
                refine' tkY 32 hP ?c hHeld ?_
                case c => intro w _; go_simp; try with_reducible rfl
                simp only [Act.put, sQa, sQb, sQc]
                refine' tkY 33 hP ?c hHeld ?_
                case c => intro w _; go_simp; try with_reducible rfl
                simp only [Act.put, sQa, sQb, sQc]
                refine' tkY 34 hP ?c hHeld ?_
                case c => intro w _; go_simp; try with_reducible rfl
                simp only [Act.put, sQa, sQb, sQc]
                refine' tkY 35 hP ?c hHeld ?_
                case c => intro w _; go_simp; try with_reducible rfl
                simp only [Act.put, sQa, sQb, sQc]
                refine' tkY 36 hP ?c hHeld ?_
                case c => intro w _; go_simp; try with_reducible rfl
                simp only [Act.put, sQa, sQb, sQc]
                refine' tkY 37 hP ?c hHeld ?_
                case c => intro w _; go_simp; try with_reducible rfl
                simp only [Act.put, sQa, sQb, sQc]
                refine' tkY 38 hP ?c hHeld ?_
                case c => intro w _; go_simp; try with_reducible rfl
                simp only [Act.put, sQa, sQb, sQc]
                refine' tkY 39 hP ?c hHeld ?_
                case c => intro w _; go_simp; try with_reducible rfl
                simp only [Act.put, sQa, sQb, sQc]
                refine' tkY 40 hP ?c hHeld ?_
                case c => intro w _; go_simp; try with_reducible rfl
                simp only [Act.put, sQa, sQb, sQc]
                refine' tkY 41 hP ?c hHeld ?_
                case c => intro w _; go_simp; try with_reducible rfl
                simp only [Act.put, sQa, sQb, sQc]
                refine' tkY 42 hP ?c hHeld ?_
                case c => intro w _; go_simp; try with_reducible rfl
                simp only [Act.put, sQa, sQb, sQc]
                refine' tkY 43 hP ?c hHeld ?_
                case c => intro w _; go_simp; try with_reducible rfl
                simp only [Act.put, sQa, sQb, sQc]
                refine' tkY 44 hP ?c hHeld ?_
                case c => intro w _; go_simp; try with_reducible rfl
                simp only [Act.put, sQa, sQb, sQc]
                refine' tkY 45 hP ?c hHeld ?_
                case c => intro w _; go_simp; try with_reducible rfl
                simp only [Act.put, sQa, sQb, sQc]
                refine' tkY 46 (v := sgv y) hP ?c hHeld ?_
                case c => exact fun w hSw => sload_yields (.tmp 18) rfl ⟨zb, 0, none⟩ rfl y (Fs.boxs_at ((hSw.block _ (lt_some Z0)).trans Z0))
                simp only [Act.put, sQa, sQb, sQc]
                refine' tkY 47 (v := sgv y) hP ?c hHeld ?_
                case c => exact fun w hSw => sload_yields (.tmp 15) rfl ⟨yb, 0, none⟩ rfl y (Fs.boxs_at ((hSw.block _ (lt_some Y0)).trans Y0))
                simp only [Act.put, sQa, sQb, sQc]
                refine' tkY 48 (v := .bool true) hP ?c hHeld ?_
                case c => exact fun w hSw => seql_yields (.tmp 140) (.tmp 141) rfl y y rfl rfl true (decide_eq_true rfl).symm
                simp only [Act.put, sQa, sQb, sQc]
                refine' tkY 49 hP ?c hHeld ?_
                case c => intro w _; go_simp; try with_reducible rfl
                simp only [Act.put, sQa, sQb, sQc]
                refine' tkY 50 hP ?c hHeld ?_
                case c => intro w _; go_simp; try with_reducible rfl
                simp only [Act.put, sQa, sQb, sQc]
                refine' tkY 51 hP ?c hHeld ?_
                case c => intro w _; go_simp; try with_reducible rfl
                simp only [Act.put, sQa, sQb, sQc]
                refine wpAnyH_ready (rs := [52]) (by kernel_rfl) (by simp) ?_
                refine' tkC 52 (fun K hK => ?st120) ?mo120
                case st120 =>
                  go_simp
                  refine (F4.out _ hHeld).mono ?_
                  rintro e v4 ⟨A4, k4, rfl, h6⟩
                  clear hHeld
                  go_simp
                  refine hK.out _ _ h6 (fun hHeld => ?_)
                  clear hK K h6
                  try simp only [Act.put, sQa, sQb, sQc]
                  refine' tkY 53 hP ?c hHeld ?_
                  case c => intro w _; go_simp; try with_reducible rfl
                  simp only [Act.put, sQa, sQb, sQc]
                  refine' tkY 54 hP ?c hHeld ?_
                  case c => intro w _; go_simp; try with_reducible rfl
                  simp only [Act.put, sQa, sQb, sQc]
                  refine' tkY 55 hP ?c hHeld ?_
                  case c => intro w _; go_simp; try with_reducible rfl
                  simp only [Act.put, sQa, sQb, sQc]
                  refine' tkY 56 hP ?c hHeld ?_
                  case c => intro w _; go_simp; try with_reducible rfl
                  simp only [Act.put, sQa, sQb]
                  refine wpAnyH_done (by kernel_rfl) ?_ _
                  exact hQ.out _ _ _ _ _ _ _ _ _ _ _ _ _ _ _ _ _ _ _ _ _ _ _ _ _ _ _ _ _ _ _ _ _ _ _ _ _ _ _ _ _ _ _ _ _ _ _ _ _ _ _ _ _ _ _ _ _  hHeld
                case mo120 => exact AllReadyH.nil
              case mo93 => exact AllReadyH.nil
            case mo92 => exact AllReadyH.nil
        case mo58 => exact AllReadyH.nil
    case mo23 => exact AllReadyH.nil
  case mo16 => exact AllReadyH.nil

end Fo
end Go.Proofs.YtpkdigegkemogaaGreatDoor
