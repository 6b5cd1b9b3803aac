/- Parts of the claim: FoT, FoU -/
import Derived.Test.YtpkdigegkemogaaGreatDoorTkT
import Derived.Test.YtpkdigegkemogaaGreatDoorFoXcT
import Derived.Test.YtpkdigegkemogaaGreatDoorFoXaT
namespace Go.Proofs.YtpkdigegkemogaaGreatDoor
set_option maxRecDepth 100000
open Go.RowKit
open Go.Proofs.YtpkdigegkemogaaGreatDoor.Pk (one_at one_free one_set lt_some grown_set grown_trans u8s Copied Rb)
namespace Fo
open Re (Rec rcc rcv r0 o0 rmay)
open Sg (sz)
open Wt (Opn mayOp inR)
open Ho (isNew ans asked hbts mayH)
open St (Kq grq swF)

def opI (i : Nat) (u : Int) : Opn := ⟨1 + ((i % 3 : Nat) : Int), 1 + ((i / 3 : Nat) : Int), u, 0, 0⟩
def unI (i : Nat) (z : Int) : Int := if i % 3 = 0 then 1 + (usm z 9 : Int) else 0
theorem opi_may {i : Nat} {z : Int} (hi : i < 20) : mayOp (opI i (unI i z)) = true := by
  have h9 := usm_lt z (n := 9) (by omega)
  have hm : i % 3 < 3 := Nat.mod_lt _ (by omega)
  unfold mayOp opI unI inR
  simp only
  generalize usm z 9 = u at *
  generalize hk : i % 3 = k at *
  have hb : i / 3 ≤ 6 := by omega
  generalize i / 3 = b at *
  rw [decide_eq_true (by omega)]
  match k, hm with
  | 0, _ => simp; omega
  | 1, _ => simp
  | 2, _ => simp
def Fresh (s : Ho.S) (k : Nat) : Prop := ∀ j : Nat, k ≤ j → s.g (1 + ((j / 3 : Nat) : Int)) (1 + ((j % 3 : Nat) : Int)) = 0
theorem fresh_z : Fresh Ho.sz 0 := fun _ _ => rfl
theorem tick_in {t : Int} (h0 : 0 ≤ t) (h1 : t ≤ 1000) : St.tick t = true := by
  unfold St.tick
  first | (simp; omega) | (rw [decide_eq_true (by omega)])
def recI (_k : Nat) (t : Int) (o : Opn) (a : Int) (b : Bool) : Rec := if b = true then ⟨2, t, 0, o0, sz⟩ else ⟨1, t, a, o, sz⟩
section
variable {s : Ho.S} {k : Nat} {t z : Int} {cap over : Int} {b : Bool}
theorem fresh_new (F : Fresh s k) (hk : k < 20) (h0 : 0 ≤ t) (h1 : t ≤ 1000) : isNew s (opI k (unI k z)) t = true := by
  refine Ho.new_yes (Ho.mayh_iff.2 ⟨opi_may hk, tick_in h0 h1, ?_⟩) (F k (Nat.le_refl _))
  unfold opI
  have : k % 3 < 3 := Nat.mod_lt _ (by omega)
  simp only
  omega
theorem fresh_next (F : Fresh s k) (o : Opn) (ho : o.book = 1 + ((k / 3 : Nat) : Int) ∧ o.kind = 1 + ((k % 3 : Nat) : Int)) : Fresh (asked cap over s o t) (k + 1) := fun j hj => by
  have h := F j (by omega)
  unfold asked
  split
  · show Tb.putF s.g o _ _ _ = 0
    unfold Tb.putF
    split
    · rw [Tb.upd_other (fun e => by
        have e1 := e.1
        have e2 := e.2
        rw [ho.1] at e1
        rw [ho.2] at e2
        omega)]
      exact h
    · exact h
  · exact h
theorem step_rec (F : Fresh s k) (hk : k < 20) (h0 : 0 ≤ t) (h1 : t ≤ 1000) (O : Ho.Ok cap over s) :
    (apH cap over s (recI k t (opI k (unI k z)) (ans cap over s (opI k (unI k z)) t) b)).1 = true ∧ Fresh (apH cap over s (recI k t (opI k (unI k z)) (ans cap over s (opI k (unI k z)) t) b)).2 (k + 1) ∧ Ho.Ok cap over (apH cap over s (recI k t (opI k (unI k z)) (ans cap over s (opI k (unI k z)) t) b)).2 := by
  have hn := fresh_new (z := z) F hk h0 h1
  have hT : inR t 0 1099511627776 = true := by unfold inR; rw [decide_eq_true (by omega)]
  cases b with
  | true =>
    have e : recI k t (opI k (unI k z)) (ans cap over s (opI k (unI k z)) t) true = ⟨2, t, 0, o0, sz⟩ := rfl
    rw [e]
    have hm : rmay ⟨2, t, 0, o0, sz⟩ = true := by unfold rmay; simp [hT]
    rw [aph_2 hm rfl]
    exact ⟨rfl, fun j hj => F j (by omega), O.swept t⟩
  | false =>
    have e : recI k t (opI k (unI k z)) (ans cap over s (opI k (unI k z)) t) false = ⟨1, t, ans cap over s (opI k (unI k z)) t, opI k (unI k z), sz⟩ := rfl
    rw [e]
    have ha : ans cap over s (opI k (unI k z)) t = 1 ∨ ans cap over s (opI k (unI k z)) t = 2 := by
      have hm : mayH (opI k (unI k z)) t = true := by
        unfold isNew at hn
        rw [Bool.and_eq_true] at hn
        exact hn.1
      rw [Ho.ans_yes hm (F k (Nat.le_refl _))]
      exact Ho.dstp_ans _ _ _ _ _
    have hm : rmay ⟨1, t, ans cap over s (opI k (unI k z)) t, opI k (unI k z), sz⟩ = true := by
      unfold rmay
      simp only [hT, if_true, opi_may hk, Bool.true_and, decide_true, Bool.and_true]
      rcases ha with h | h <;> rw [h] <;> rfl
    rw [aph_1 hm rfl, if_pos ⟨hn, rfl⟩]
    exact ⟨rfl, fresh_next F _ ⟨rfl, rfl⟩, O.asked _ _⟩
end
structure Zin (w : World) (A : Option Addr) (n : Nat) (zs : List Int) : Prop where
  len : zs.length = n
  at_ : 0 < n → ∃ ad, A = some ad ∧ ad.block < w.heap.size ∧ ∀ j z, zs[j]? = some z → w.cell? (ad.add j) = some (.int .i64 z)

structure PrgT where
  tb : World → Prop
  tb_lt : ∀ {w}, tb w → 0 < w.heap.size
  tb_sub : ∀ {w w' : World} {B : Nat}, tb w → Below B w w' → 0 < B → tb w'
  Bh : World → Nat → Ho.S → Prop
  below : ∀ {w w' : World} {q s}, Bh w q s → Below w.heap.size w w' → Bh w' q s
  fold : ∀ w, tb w → ∀ n : Int, 0 ≤ n → n ≤ 2 → ∀ (A : Option Addr) (m c : Nat) (l : List Rec) (s : Ho.S), Rin w (fun g => g < w.heap.size) A m l → m ≤ 1000 → m ≤ c → c ≤ 9223372036854775807 → (A = none → c = 0) → apl (apH 40 0) Ho.sz l = some s →
    Calls Tryz.prog 9 #[.int .i64 n, .agg cf40, .slice A m c] w fun e w' => ∃ q, e = .returned (.tuple #[.pointer (some ⟨q, 0, none⟩), .int .i64 0]) ∧ Bh w' q s ∧ Below w.heap.size w w'
  bytes : ∀ {w q s}, tb w → Bh w q s → Calls Tryz.prog 11 #[.pointer (some ⟨q, 0, none⟩)] w (Copied w (hbts 40 0 s).length (hbts 40 0 s))
  told : ∀ w, tb w → Calls Tryz.prog 10 #[] w fun e w' => e = .returned (.bool true) ∧ Below w.heap.size w w'

structure Tr (w : World) (d : Nat) (n : Int) (kc : Nat) (x : Ho.S × List Rec) (v : Value) (W : World) : Prop where
  be : Below w.heap.size w W
  sx : Sx W d n 40 0 x.1
  ok : Ho.Ok 40 0 x.1
  row : RowR W w.heap.size v x.2.length x.2
  far : v.ownBlock ≠ some d
  cf : W.heap[kc]? = some (.cells cf40 29 (0, 0))
  kl : w.heap.size ≤ kc
  dl : w.heap.size ≤ d
  kd : kc ≠ d
section
variable {w W W' : World} {d kc : Nat} {n : Int} {x : Ho.S × List Rec} {v : Value}
theorem Tr.below (T : Tr w d n kc x v W) (hb : Below W.heap.size W W') : Tr w d n kc x v W' :=
  ⟨T.be.trans (hb.mono T.be.size), T.sx.below hb, T.ok, rr_below T.row hb, T.far, (hb.block _ (lt_some T.cf)).trans T.cf, T.kl, T.dl, T.kd⟩
theorem Tr.put (T : Tr w d n kc x v W) {s' : Ho.S} (S : Sx W' d n 40 0 s') (O : Ho.Ok 40 0 s') (K : Kq (fun g => g = d) W W') : Tr w d n kc (s', x.2) v W' :=
  ⟨T.be.trans (K.below (fun g hg => by rw [hg]; exact T.dl) T.be.size), S, O, rr_same T.row fun g hg => K.block g (rr_lt T.row hg) fun e => T.far (by rw [← e]; exact hg), T.far, (K.block _ (lt_some T.cf) T.kd).trans T.cf, T.kl, T.dl, T.kd⟩
theorem Tr.app (T : Tr w d n kc x v W) (r : Rec) (few : x.2.length ≤ 1000) : ∃ A' c' w', (Builtin.append_ #[32, 32] 32 #[v, .slice (some ⟨W.heap.size, 0, none⟩) 1 1]).run Tryz.prog (W.alloc (.cells (rcc r) 64)) = .ok (.slice A' (x.2.length + 1) c') w' ∧ Tr w d n kc (x.1, x.2 ++ [r]) (.slice A' (x.2.length + 1) c') w' := by
  have hb : Below W.heap.size W (W.alloc (.cells (rcc r) 64)) := (Below.refl _ _).alloc (Nat.le_refl _) _
  have X1 := T.below hb
  obtain ⟨A', c', w', h1, h2, h3, h5⟩ := rr_app1 _ w.heap.size v x.2.length x.2 X1.row r W.heap.size (heap_alloc_new _ _) (by omega) X1.be.size
  refine ⟨A', c', w', h1, X1.be.trans ⟨h3.os, h3.tape, h3.output, h3.size, fun i hi => h3.block i (Nat.lt_of_lt_of_le hi X1.be.size) fun e => by have := (rr_block X1.row e.symm).1; omega⟩, X1.sx.keep (h3.block _ X1.sx.lt fun e => T.far e.symm), T.ok, by rw [List.length_append]; exact h2, ?_, ?_, T.kl, T.dl, T.kd⟩
  · rcases h5 with h5 | h5
    · rw [h5]; exact T.far
    · rw [h5]
      intro e
      injection e with e
      have := X1.sx.lt
      omega
  · refine (h3.block _ (lt_some X1.cf) fun e => ?_).trans X1.cf
    obtain ⟨_, cur, h⟩ := rr_block X1.row e.symm
    rw [X1.cf] at h
    injection h with h
    injection h with _ h
    exact absurd h (by decide)
end
end Fo
end Go.Proofs.YtpkdigegkemogaaGreatDoor
namespace Go.Proofs.YtpkdigegkemogaaGreatDoor
set_option maxRecDepth 100000
open Go.RowKit
open Go.Proofs.YtpkdigegkemogaaGreatDoor.Pk (one_at one_free one_set lt_some u8s)
namespace Fo
open Pl (regionAt)

theorem row_kept {w w' : World} {base n k : Nat} {t : TypeId} {v : Value} {xs : List Value} (h : w.ownsRow base t k v n xs) (hb : Below w.heap.size w w') : w'.ownsRow base t k v n xs := by
  refine ⟨h.1, ?_⟩
  rcases h.2 with h0 | ⟨g, cap, cur, hv, hB, hh, h2⟩
  · exact .inl h0
  · exact .inr ⟨g, cap, cur, hv, hB, (hb.block g (lt_some hh)).trans hh, h2⟩
noncomputable def ft_29 : Code := (Tryz.f3.body.bind (regionAt 29)).getD .skip
set_option maxHeartbeats 12800000 in
theorem ft29 (z0 z1 z2 z3 z4 z5 z6 z8 z9 z10 z11 z12 z13 z14 z15 z17 z19 z20 z21 z22 z23 z24 z25 z26 z27 z28 z29 z30 z31 z32 z33 z34 z35 z36 z37 z38 z39 z40 z41 z42 z43 z44 z45 z46 z47 z48 z49 z50 z51 z52 z53 z54 z55 z56 z57 z58 z59 z60 z61 z62 z63 z64 z65 z66 z67 z68 z69 z70 z71 z72 z73 z74 z75 z76 z77 z78 z79 z80 z81 z82 z83 z84 z85 z86 z87 z88 z89 z90 z91 z92 z93 z94 z95 z96 z97 z98 z99 z100 z101 z102 z103 z104 z105 z106 z107 z108 z109 z110 z111 z112 z113 z114 z115 z116 z117 z118 z119 z120 z121 z122 z123 z124 z125 z126 z127 z128 z129 z130 z131 z132 z133 z134 z135 z136 z137 z138 z139 z140 z141 z142 z143 z144 z145 z146 z147 z148 z149 : Value) (W : World) (d q1 q2 : Nat) (bs : List UInt8)
    (FT : Hid (∀ w', Below W.heap.size W w' → Calls Tryz.prog 10 #[] w' fun e w'' => e = .returned (.bool true) ∧ Below W.heap.size W w''))
    (F1 : Hid (∀ w', Below W.heap.size W w' → Calls Tryz.prog 11 #[.pointer (some ⟨q1, 0, none⟩)] w' fun e w'' => ∃ A c, e = .returned (.slice A bs.length c) ∧ w''.ownsRow W.heap.size 5 1 (.slice A bs.length c) bs.length (u8s bs) ∧ Below W.heap.size W w''))
    (F2 : Hid (∀ w', Below W.heap.size W w' → Calls Tryz.prog 11 #[.pointer (some ⟨q2, 0, none⟩)] w' fun e w'' => ∃ A c, e = .returned (.slice A bs.length c) ∧ w''.ownsRow W.heap.size 5 1 (.slice A bs.length c) bs.length (u8s bs) ∧ Below W.heap.size W w''))
    (FD : Hid (∀ w', Below W.heap.size W w' → Calls Tryz.prog 12 #[.pointer (some ⟨d, 0, none⟩)] w' fun e w'' => e = .returned (.string (Pk.str bs)) ∧ Below w'.heap.size w' w'' ∧ Below W.heap.size W w''))
    (Q : Exit → Act → World → Prop)
    (hP : ∀ c a d v w, Q (.panic c) (Act.put a d v) w → Q (.panic c) a w)
    (hQ : ∀ (y133 y134 y135 y136 y137 y138 y139 y140 y141 y142 y143 y144 y145 y146 y147 y148 y149 : Value)  (W3 : World), Below W.heap.size W W3 → Q .normal ⟨#[z0, z1, z2, z3, .bool true, z5, z6, .pointer (some ⟨d, 0, none⟩), z8, z9, z10, z11, z12, z13, z14, z15, .pointer (some ⟨q1, 0, none⟩), z17, .pointer (some ⟨q2, 0, none⟩), z19, z20, z21, z22, z23, z24, z25, z26, z27, z28, z29, z30, z31, z32, z33, z34, z35, z36, z37, z38, z39, z40, z41, z42, z43, z44, z45, z46, z47, z48, z49, z50, z51, z52, z53, z54, z55, z56, z57, z58, z59, z60, z61, z62, z63, z64, z65, z66, z67, z68, z69, z70, z71, z72, z73, z74, z75, z76, z77, z78, z79, z80, z81, z82, z83, z84, z85, z86, z87, z88, z89, z90, z91, z92, z93, z94, z95, z96, z97, z98, z99, z100, z101, z102, z103, z104, z105, z106, z107, z108, z109, z110, z111, z112, z113, z114, z115, z116, z117, z118, z119, z120, z121, z122, z123, z124, z125, z126, z127, z128, z129, z130, z131, z132, y133, y134, y135, y136, y137, y138, y139, y140, y141, y142, y143, y144, y145, y146, y147, y148, y149], []⟩ W3) :
    Code.wp Tryz.prog ft_29 Q ⟨#[z0, z1, z2, z3, z4, z5, z6, .pointer (some ⟨d, 0, none⟩), z8, z9, z10, z11, z12, z13, z14, z15, .pointer (some ⟨q1, 0, none⟩), z17, .pointer (some ⟨q2, 0, none⟩), z19, z20, z21, z22, z23, z24, z25, z26, z27, z28, z29, z30, z31, z32, z33, z34, z35, z36, z37, z38, z39, z40, z41, z42, z43, z44, z45, z46, z47, z48, z49, z50, z51, z52, z53, z54, z55, z56, z57, z58, z59, z60, z61, z62, z63, z64, z65, z66, z67, z68, z69, z70, z71, z72, z73, z74, z75, z76, z77, z78, z79, z80, z81, z82, z83, z84, z85, z86, z87, z88, z89, z90, z91, z92, z93, z94, z95, z96, z97, z98, z99, z100, z101, z102, z103, z104, z105, z106, z107, z108, z109, z110, z111, z112, z113, z114, z115, z116, z117, z118, z119, z120, z121, z122, z123, z124, z125, z126, z127, z128, z129, z130, z131, z132, z133, z134, z135, z136, z137, z138, z139, z140, z141, z142, z143, z144, z145, z146, z147, z148, z149], []⟩ W := by
  conv => arg 2; whnf
  have b0 : Below W.heap.size W W.drew := ⟨rfl, rfl, rfl, Nat.le_refl _, fun _ _ => rfl⟩
  refine wp_region_held_drew (S := fun w => Below W.heap.size W w) (by kernel_rfl) b0 (fun hHeld => ?_)
  replace hQ := Lib.hid hQ
  clear b0
  obtain ⟨v0, hv⟩ : ∃ v, v = W.drew := ⟨_, rfl⟩
  rw [← hv] at hHeld ⊢
  clear hv
  refine wpAnyH_ready (rs := [0]) (by kernel_rfl) (by simp) ?_
  refine' tkC 0 (fun K hK => ?st1) ?mo1
  case st1 =>
    go_simp
    refine (FT.out _ hHeld).mono ?_
    rintro e v1 ⟨rfl, h6⟩
    clear hHeld
    go_simp
    refine hK.out _ _ h6 (fun hHeld => ?_)
    clear hK K h6
    try simp only [Act.put, sQa, sQb, sQc]
    refine' tkY 1 hP ?c hHeld ?_
    case c => intro w _; go_simp; try with_reducible rfl
    simp only [Act.put, sQa, sQb, sQc]
    refine' tkY 2 hP ?c hHeld ?_
    case c => intro w _; go_simp; try with_reducible rfl
    simp only [Act.put, sQa, sQb, sQc]
    refine' tkY 5 hP ?c hHeld ?_
    case c => intro w _; go_simp; try with_reducible rfl
    simp only [Act.put, sQa, sQb, sQc]
    refine wpAnyH_ready (rs := [3]) (by kernel_rfl) (by simp) ?_
    refine' tkC 3 (fun K hK => ?st5) ?mo5
    case st5 =>
      go_simp
      refine (F1.out _ hHeld).mono ?_
      rintro e v2 ⟨A1, k1, rfl, r1, h6⟩
      clear hHeld
      go_simp
      refine hK.out _ _ h6 (fun hHeld => ?_)
      clear hK K h6
      try simp only [Act.put, sQa, sQb, sQc]
      refine wpAnyH_ready (rs := [4, 6]) (by kernel_rfl) (by simp) ?_
      refine' tkC 4 (fun K hK => ?st6) ?mo6
      case st6 =>
        have cv := own_str r1
        go_simp
        refine hK.out _ _ hHeld (fun hHeld2 => ?_)
        clear hK K hHeld2 cv
        try simp only [Act.put, sQa, sQb, sQc]
        refine wpAnyH_ready (rs := [6]) (by kernel_rfl) (by simp) ?_
        refine' tkC 6 (fun K hK => ?st7) ?mo7
        case st7 =>
          go_simp
          refine (FD.out _ hHeld).mono ?_
          rintro e v3 ⟨rfl, hb2, h6⟩
          try (replace r1 := row_kept r1 hb2)
          clear hb2
          clear hHeld
          go_simp
          refine hK.out _ _ h6 (fun hHeld => ?_)
          clear hK K h6
          try simp only [Act.put, sQa, sQb, sQc]
          refine' tkY 7 hP ?c hHeld ?_
          case c => intro w hSw; have se := strs_eq bs; go_simp; try with_reducible rfl
          simp only [Act.put, sQa, sQb, sQc]
          refine' tkY 8 hP ?c hHeld ?_
          case c => intro w _; go_simp; try with_reducible rfl
          simp only [Act.put, sQa, sQb, sQc]
          refine' tkY 9 hP ?c hHeld ?_
          case c => intro w _; go_simp; try with_reducible rfl
          simp only [Act.put, sQa, sQb, sQc]
          refine' tkY 10 hP ?c hHeld ?_
          case c => intro w _; go_simp; try with_reducible rfl
          simp only [Act.put, sQa, sQb, sQc]
          refine' tkY 13 hP ?c hHeld ?_
          case c => intro w _; go_simp; try with_reducible rfl
          simp only [Act.put, sQa, sQb, sQc]
          refine wpAnyH_ready (rs := [11]) (by kernel_rfl) (by simp) ?_
          refine' tkC 11 (fun K hK => ?st13) ?mo13
          case st13 =>
            go_simp
            refine (F2.out _ hHeld).mono ?_
            rintro e v4 ⟨A2, k2, rfl, r2, h6⟩
            clear hHeld
            go_simp
            refine hK.out _ _ h6 (fun hHeld => ?_)
            clear hK K h6
            try simp only [Act.put, sQa, sQb, sQc]
            refine wpAnyH_ready (rs := [12, 14]) (by kernel_rfl) (by simp) ?_
            refine' tkC 12 (fun K hK => ?st14) ?mo14
            case st14 =>
              have cv := own_str r2
              go_simp
              refine hK.out _ _ hHeld (fun hHeld2 => ?_)
              clear hK K hHeld2 cv
              try simp only [Act.put, sQa, sQb, sQc]
              refine wpAnyH_ready (rs := [14]) (by kernel_rfl) (by simp) ?_
              refine' tkC 14 (fun K hK => ?st15) ?mo15
              case st15 =>
                go_simp
                refine (FD.out _ hHeld).mono ?_
                rintro e v5 ⟨rfl, hb2, h6⟩
                try (replace r2 := row_kept r2 hb2)
                clear hb2
                clear hHeld
                go_simp
                refine hK.out _ _ h6 (fun hHeld => ?_)
                clear hK K h6
                try simp only [Act.put, sQa, sQb, sQc]
                refine' tkY 15 hP ?c hHeld ?_
                case c => intro w hSw; have se := strs_eq bs; go_simp; try with_reducible rfl
                simp only [Act.put, sQa, sQb, sQc]
                refine' tkY 16 hP ?c hHeld ?_
                case c => intro w _; go_simp; try with_reducible rfl
                simp only [Act.put, sQa, sQb, sQc]
                refine' tkY 17 hP ?c hHeld ?_
                case c => intro w _; go_simp; try with_reducible rfl
                simp only [Act.put, sQa, sQb, sQc]
                refine wpAnyH_done (by kernel_rfl) ?_ _
                exact hQ.out _ _ _ _ _ _ _ _ _ _ _ _ _ _ _ _ _ _  hHeld
              case mo15 => exact AllReadyH.nil
            case mo14 =>
              refine' tkC 14 (fun K hK => ?st19) ?mo19
              case st19 =>
                go_simp
                refine (FD.out _ hHeld).mono ?_
                rintro e v5 ⟨rfl, hb2, h6⟩
                try (replace r2 := row_kept r2 hb2)
                clear hb2
                clear hHeld
                go_simp
                refine hK.out _ _ h6 (fun hHeld => ?_)
                clear hK K h6
                try simp only [Act.put, sQa, sQb, sQc]
                refine wpAnyH_ready (rs := [12]) (by kernel_rfl) (by simp) ?_
                refine' tkC 12 (fun K hK => ?st20) ?mo20
                case st20 =>
                  have cv := own_str r2
                  go_simp
                  refine hK.out _ _ hHeld (fun hHeld2 => ?_)
                  clear hK K hHeld2 cv
                  try simp only [Act.put, sQa, sQb, sQc]
                  refine' tkY 15 hP ?c hHeld ?_
                  case c => intro w hSw; have se := strs_eq bs; go_simp; try with_reducible rfl
                  simp only [Act.put, sQa, sQb, sQc]
                  refine' tkY 16 hP ?c hHeld ?_
                  case c => intro w _; go_simp; try with_reducible rfl
                  simp only [Act.put, sQa, sQb, sQc]
                  refine' tkY 17 hP ?c hHeld ?_
                  case c => intro w _; go_simp; try with_reducible rfl
                  simp only [Act.put, sQa, sQb, sQc]
                  refine wpAnyH_done (by kernel_rfl) ?_ _
                  exact hQ.out _ _ _ _ _ _ _ _ _ _ _ _ _ _ _ _ _ _  hHeld
                case mo20 => exact AllReadyH.nil
              case mo19 => exact AllReadyH.nil
          case mo13 => exact AllReadyH.nil
        case mo7 => exact AllReadyH.nil
      case mo6 =>
        refine' tkC 6 (fun K hK => ?st24) ?mo24
        case st24 =>
          go_simp
          refine (FD.out _ hHeld).mono ?_
          rintro e v3 ⟨rfl, hb2, h6⟩
          try (replace r1 := row_kept r1 hb2)
          clear hb2
          clear hHeld
          go_simp
          refine hK.out _ _ h6 (fun hHeld => ?_)
          clear hK K h6
          try simp only [Act.put, sQa, sQb, sQc]
          refine wpAnyH_ready (rs := [4]) (by kernel_rfl) (by simp) ?_
          refine' tkC 4 (fun K hK => ?st25) ?mo25
          case st25 =>
            have cv := own_str r1
            go_simp
            refine hK.out _ _ hHeld (fun hHeld2 => ?_)
            clear hK K hHeld2 cv
            try simp only [Act.put, sQa, sQb, sQc]
            refine' tkY 7 hP ?c hHeld ?_
            case c => intro w hSw; have se := strs_eq bs; go_simp; try with_reducible rfl
            simp only [Act.put, sQa, sQb, sQc]
            refine' tkY 8 hP ?c hHeld ?_
            case c => intro w _; go_simp; try with_reducible rfl
            simp only [Act.put, sQa, sQb, sQc]
            refine' tkY 9 hP ?c hHeld ?_
            case c => intro w _; go_simp; try with_reducible rfl
            simp only [Act.put, sQa, sQb, sQc]
            refine' tkY 10 hP ?c hHeld ?_
            case c => intro w _; go_simp; try with_reducible rfl
            simp only [Act.put, sQa, sQb, sQc]
            refine' tkY 13 hP ?c hHeld ?_
            case c => intro w _; go_simp; try with_reducible rfl
            simp only [Act.put, sQa, sQb, sQc]
            refine wpAnyH_ready (rs := [11]) (by kernel_rfl) (by simp) ?_
            refine' tkC 11 (fun K hK => ?st31) ?mo31
            case st31 =>
              go_simp
              refine (F2.out _ hHeld).mono ?_
              rintro e v4 ⟨A2, k2, rfl, r2, h6⟩
              clear hHeld
              go_simp
              refine hK.out _ _ h6 (fun hHeld => ?_)
              clear hK K h6
              try simp only [Act.put, sQa, sQb, sQc]
              refine wpAnyH_ready (rs := [12, 14]) (by kernel_rfl) (by simp) ?_
              refine' tkC 12 (fun K hK => ?st32) ?mo32
              case st32 =>
                have cv := own_str r2
                go_simp
                refine hK.out _ _ hHeld (fun hHeld2 => ?_)
                clear hK K hHeld2 cv
                try simp only [Act.put, sQa, sQb, sQc]
                refine wpAnyH_ready (rs := [14]) (by kernel_rfl) (by simp) ?_
                refine' tkC 14 (fun K hK => ?st33) ?mo33
                case st33 =>
                  go_simp
                  refine (FD.out _ hHeld).mono ?_
                  rintro e v5 ⟨rfl, hb2, h6⟩
                  try (replace r2 := row_kept r2 hb2)
                  clear hb2
                  clear hHeld
                  go_simp
                  refine hK.out _ _ h6 (fun hHeld => ?_)
                  clear hK K h6
                  try simp only [Act.put, sQa, sQb, sQc]
                  refine' tkY 15 hP ?c hHeld ?_
                  case c => intro w hSw; have se := strs_eq bs; go_simp; try with_reducible rfl
                  simp only [Act.put, sQa, sQb, sQc]
                  refine' tkY 16 hP ?c hHeld ?_
                  case c => intro w _; go_simp; try with_reducible rfl
                  simp only [Act.put, sQa, sQb, sQc]
                  refine' tkY 17 hP ?c hHeld ?_
                  case c => intro w _; go_simp; try with_reducible rfl
                  simp only [Act.put, sQa, sQb, sQc]
                  refine wpAnyH_done (by kernel_rfl) ?_ _
                  exact hQ.out _ _ _ _ _ _ _ _ _ _ _ _ _ _ _ _ _ _  hHeld
                case mo33 => exact AllReadyH.nil
              case mo32 =>
                refine' tkC 14 (fun K hK => ?st37) ?mo37
                case st37 =>
                  go_simp
                  refine (FD.out _ hHeld).mono ?_
                  rintro e v5 ⟨rfl, hb2, h6⟩
                  try (replace r2 := row_kept r2 hb2)
                  clear hb2
                  clear hHeld
                  go_simp
                  refine hK.out _ _ h6 (fun hHeld => ?_)
                  clear hK K h6
                  try simp only [Act.put, sQa, sQb, sQc]
                  refine wpAnyH_ready (rs := [12]) (by kernel_rfl) (by simp) ?_
                  refine' tkC 12 (fun K hK => ?st38) ?mo38
                  case st38 =>
                    have cv := own_str r2
                    go_simp
                    refine hK.out _ _ hHeld (fun hHeld2 => ?_)
                    clear hK K hHeld2 cv
                    try simp only [Act.put, sQa, sQb, sQc]
                    refine' tkY 15 hP ?c hHeld ?_
                    case c => intro w hSw; have se := strs_eq bs; go_simp; try with_reducible rfl
                    simp only [Act.put, sQa, sQb, sQc]
                    refine' tkY 16 hP ?c hHeld ?_
                    case c => intro w _; go_simp; try with_reducible rfl
                    simp only [Act.put, sQa, sQb, sQc]
                    refine' tkY 17 hP ?c hHeld ?_
                    case c => intro w _; go_simp; try with_reducible rfl
                    simp only [Act.put, sQa, sQb, sQc]
                    refine wpAnyH_done (by kernel_rfl) ?_ _
                    exact hQ.out _ _ _ _ _ _ _ _ _ _ _ _ _ _ _ _ _ _  hHeld
                  case mo38 => exact AllReadyH.nil
                case mo37 => exact AllReadyH.nil
            case mo31 => exact AllReadyH.nil
          case mo25 => exact AllReadyH.nil
        case mo24 => exact AllReadyH.nil
    case mo5 => exact AllReadyH.nil
  case mo1 => exact AllReadyH.nil
end Fo
end Go.Proofs.YtpkdigegkemogaaGreatDoor
