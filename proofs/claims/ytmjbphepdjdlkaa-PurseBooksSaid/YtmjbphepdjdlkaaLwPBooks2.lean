/- For PurseBooks: the moves counted. -/
import Derived.Test.YtmjbphepdjdlkaaLwPBooks3
import Derived.JoinedRecord
import Derived.HandedShaped
namespace Go.Proofs.Ytmjbphepdjdlkaa.purseBooks
set_option maxRecDepth 100000
open Go.ChangeShapes Go.WideShapes Go.ChangeAt Go.WideMaps Go.WideElems Go.RowKit
open Go.Sort (grow)
open Go.Proofs.Ytmjbphepdjdlkaa.Pk (Rb adr_block one_at one_free one_set lt_some grown_set grown_trans below_grown grown_refl u8s own_form)
open Go.Proofs.Ytmjbphepdjdlkaa.Pu
open Go.Proofs.Ytmjbphepdjdlkaa.Wt (Opn mayOp)

noncomputable def rest8 : Code := (Try.f5.body.bind (restAt 8)).getD .skip
def BkAt (B : Nat) (X : Nat → Prop) (w2 : World) (q : Nat) (p : Pu.S) (cb ab wb : Nat) (v i : Value) (wr : World) : Prop := ∃ k : Nat, i = .int .i64 k ∧ k ≤ p.l.length ∧ By3 B X w2 wr q p cb ab wb v (acc (p.l.take k))
theorem upd_upd {α : Type} (f : Int → α) (b : Int) (x y : α) : upd (upd f b x) b y = upd f b y := by
  funext k
  unfold upd
  split <;> simp_all
theorem acc_next {l : List Ln} {k : Nat} {x : Ln} (h : l[k]? = some x) : acc (l.take (k + 1)) = nxt (acc (l.take k)) x := by
  obtain ⟨hl, rfl⟩ := List.getElem?_eq_some_iff.1 h
  rw [List.take_succ_eq_append_getElem hl, acc_snoc]
set_option maxHeartbeats 6400000 in
theorem part2 (z0 z1 z2 z4 z5 z6 z7 z8 z9 z10 z11 z12 z13 z14 z15 z16 z17 z18 z19 z20 z21 z22 z23 z24 z25 z26 z27 z28 z29 z30 z31 z32 z33 z34 z35 z36 z37 z38 z39 z40 z41 z42 z43 z44 z45 z46 z47 z48 z49 z50 z51 z52 z53 z54 z55 z56 z57 z58 z59 z60 z61 z62 z63 z64 z65 z66 z67 z68 z69 z70 z71 z72 z73 z74 z75 z76 z77 z78 z79 z80 z81 z82 z83 z84 z85 z86 z87 z88 z89 z90 z91 z92 z93 z94 z95 z96 z97 z98 z99 z100 z101 z102 z103 z104 z105 z106 z107 z108 z109 z110 z111 z112 z113 z114 z115 z116 z117 z118 z119 z120 z121 z122 z123 z124 z125 z126 z127 z128 z129 z130 z131 z132 z133 z134 z135 z136 z137 z138 z139 z140 z141 z142 z143 z144 z145 z146 z147 z148 z149 z150 z151 z152 z153 z154 z155 z156 z157 z158 z159 z160 z161 z162 z163 z164 z165 z166 z167 z168 z169 z170 z171 z172 z173 z174 z175 z176 z177 z178 z179 z180 z181 z182 z183 z184 z185 z186 z187 z188 z189 z190 z191 z192 z193 z194 z195 z196 z197 z198 z199 z200 z201 z202 z203 z204 z205 z206 z207 z208 z209 z210 z211 z212 z213 z214 z215 z216 z217 z218 z219 z220 z221 : Value) (w w2 wr : World) (q : Nat) (p : Pu.S) (O : Ow w2.heap.size (fun g => g < w2.heap.size) w2 wr q p) (K : Bk p) (B0 : Below w.heap.size w w2) :
    Code.wp Try.prog rest8 (bodyPost Try.prog Try.f5 fun e w' => e = .returned (.bool true) ∧ Below w.heap.size w w') ⟨#[z0, z1, z2, .pointer (some ⟨q, 0, none⟩), z4, z5, z6, z7, z8, z9, z10, z11, z12, z13, z14, z15, z16, z17, z18, z19, z20, z21, z22, z23, z24, z25, z26, z27, z28, z29, z30, z31, z32, z33, z34, z35, z36, z37, z38, z39, z40, z41, z42, z43, z44, z45, z46, z47, z48, z49, z50, z51, z52, z53, z54, z55, z56, z57, z58, z59, z60, z61, z62, z63, z64, z65, z66, z67, z68, z69, z70, z71, z72, z73, z74, z75, z76, z77, z78, z79, z80, z81, z82, z83, z84, z85, z86, z87, z88, z89, z90, z91, z92, z93, z94, z95, z96, z97, z98, z99, z100, z101, z102, z103, z104, z105, z106, z107, z108, z109, z110, z111, z112, z113, z114, z115, z116, z117, z118, z119, z120, z121, z122, z123, z124, z125, z126, z127, z128, z129, z130, z131, z132, z133, z134, z135, z136, z137, z138, z139, z140, z141, z142, z143, z144, z145, z146, z147, z148, z149, z150, z151, z152, z153, z154, z155, z156, z157, z158, z159, z160, z161, z162, z163, z164, z165, z166, z167, z168, z169, z170, z171, z172, z173, z174, z175, z176, z177, z178, z179, z180, z181, z182, z183, z184, z185, z186, z187, z188, z189, z190, z191, z192, z193, z194, z195, z196, z197, z198, z199, z200, z201, z202, z203, z204, z205, z206, z207, z208, z209, z210, z211, z212, z213, z214, z215, z216, z217, z218, z219, z220, z221], []⟩ wr := by
  have LI := Lib.hid (ow_lines O)
  have few := O.ok.few
  replace K := Lib.hid K
  replace B0 := Lib.hid B0
  conv => arg 2; whnf
  go_wp2_with fail
  refine LI.out.mono ?_
  rintro e w4 ⟨v, rfl, R, hb4⟩
  obtain ⟨A, cc, rfl, hnc, hc63, -⟩ := rt_form R
  have O4 := O.below hb4
  obtain ⟨W5, hW5⟩ : ∃ x, x = w4.alloc (.cells (Array.replicate 201 (.int .i64 0)) 46) := ⟨_, rfl⟩
  obtain ⟨W6, hW6⟩ : ∃ x, x = W5.alloc (.cells (Array.replicate 201 (.int .i64 0)) 47) := ⟨_, rfl⟩
  obtain ⟨W7, hW7⟩ : ∃ x, x = W6.alloc (.cells (Array.replicate 201 (.int .i64 0)) 46) := ⟨_, rfl⟩
  have g5 : W5.heap[w4.heap.size]? = some (.cells (Array.replicate 201 (.int .i64 0)) 46 (0, 0)) := by rw [hW5]; exact heap_alloc_new _ _
  have g6 : W6.heap[W5.heap.size]? = some (.cells (Array.replicate 201 (.int .i64 0)) 47 (0, 0)) := by rw [hW6]; exact heap_alloc_new _ _
  have g7 : W7.heap[W6.heap.size]? = some (.cells (Array.replicate 201 (.int .i64 0)) 46 (0, 0)) := by rw [hW7]; exact heap_alloc_new _ _
  have b5 : Below w4.heap.size w4 W5 := by rw [hW5]; exact (Below.refl _ _).alloc (Nat.le_refl _) _
  have b6 : Below W5.heap.size W5 W6 := by rw [hW6]; exact (Below.refl _ _).alloc (Nat.le_refl _) _
  have b7 : Below W6.heap.size W6 W7 := by rw [hW7]; exact (Below.refl _ _).alloc (Nat.le_refl _) _
  have l5 := lt_some g5
  have l6 := lt_some g6
  have l7 := lt_some g7
  have b47 : Below w4.heap.size w4 W7 := (b5.trans (b6.mono b5.size)).trans (b7.mono (Nat.le_trans b5.size b6.size))
  obtain ⟨X, hX⟩ : ∃ X : Nat → Prop, X = fun g => g < w2.heap.size ∨ (w4.heap.size ≤ g ∧ g < W7.heap.size) := ⟨_, rfl⟩
  have Y : By3 w2.heap.size X w2 W7 q p w4.heap.size W5.heap.size W6.heap.size (.slice A p.l.length cc) cn0 :=
    ⟨((sm_zero 201 g5).below b6).below b7, (sm_zero 201 g6).below b7, sm_zero 201 g7, rt_mono (rt_below R b47) (Nat.zero_le _), fun g hg => rt_lt R hg, by rw [hX]; exact O4.add b47, O4.bs, l5, l6, by rw [hX]; exact .inr ⟨Nat.le_refl _, by omega⟩, by rw [hX]; exact .inr ⟨by omega, by omega⟩, by rw [hX]; exact .inr ⟨by omega, l7⟩⟩
  obtain ⟨cb, hcb⟩ : ∃ x, x = w4.heap.size := ⟨_, rfl⟩
  obtain ⟨ab, hab⟩ : ∃ x, x = W5.heap.size := ⟨_, rfl⟩
  obtain ⟨wb, hwb⟩ : ∃ x, x = W6.heap.size := ⟨_, rfl⟩
  rw [← hcb, ← hab, ← hwb] at Y
  obtain ⟨n, hn⟩ : ∃ x, x = p.l.length := ⟨_, rfl⟩
  have st : Hid (BkAt w2.heap.size X w2 q p cb ab wb (.slice A p.l.length cc) (.int .i64 0) W7) := ⟨0, rfl, by omega, Y⟩
  rw [← hn] at st few hnc ⊢
  replace hn := Lib.hid hn
  replace hcb := Lib.hid hcb
  replace hab := Lib.hid hab
  replace hwb := Lib.hid hwb
  replace hW5 := Lib.hid hW5
  replace hW6 := Lib.hid hW6
  replace hW7 := Lib.hid hW7
  clear LI R hb4 O4 g5 g6 g7 b5 b6 b7 l5 l6 l7 b47 hX Y O
  go_upto_region 10 with (refine wpList_arr rfl rfl ?_)
  rw [← hW5.out, ← hcb.out]
  go_upto_region 11 with (refine wpList_arr64 rfl rfl ?_)
  rw [← hW6.out, ← hab.out]
  go_upto_region 12 with (refine wpList_arr rfl rfl ?_)
  rw [← hW7.out, ← hwb.out]
  clear hW5 hW6 hW7
  go_wp2_with fail
  go_loopw [10] (fun i wr => BkAt w2.heap.size X w2 q p cb ab wb (.slice A n cc) i wr) (fun i _ => n - (intOf i).toNat)
  case atStart => exact st.out
  case round =>
    clear st
    obtain ⟨k, rfl, hk, Y⟩ := hrel
    by_cases hkn : k < n
    · obtain ⟨x, hx⟩ : ∃ x, p.l[k]? = some x := ⟨_, List.getElem?_eq_getElem (by have := hn.out; omega)⟩
      obtain ⟨⟨bk1, bk2⟩, CH⟩ := K.out.good k x hx
      have RW := Y.row
      rw [← hn.out] at RW
      obtain ⟨g, rfl, r0, r1, r2, r3⟩ := rt_cell RW hx
      have hgc : g < cb := Y.lo g rfl
      have hca := Y.ca
      have haw := Y.aw
      obtain ⟨b, hb⟩ := Int.eq_ofNat_of_zero_le (a := x.bk) (by omega)
      have b200 : b ≤ 200 := by omega
      have an := Lib.hid (acc_next hx)
      obtain ⟨s, hs⟩ : ∃ s, s = acc (p.l.take k) := ⟨_, rfl⟩
      rw [← hs] at Y CH an
      obtain ⟨fr, hfr⟩ : ∃ z, z = x.fr := ⟨_, rfl⟩
      obtain ⟨tg, htg⟩ : ∃ z, z = x.tg := ⟨_, rfl⟩
      obtain ⟨am, ham⟩ : ∃ z, z = x.am := ⟨_, rfl⟩
      rw [hb] at r0 CH
      rw [← hfr] at r1 CH
      rw [← htg] at r2 CH
      rw [← ham] at r3 CH
      have NXT : Hid (nxt s x = if s.c (b : Int) = 0 then ⟨upd s.c (b : Int) 1, upd s.a (b : Int) am, upd s.w (b : Int) fr⟩ else if tg = s.w (b : Int) then ⟨upd s.c (b : Int) 9, s.a, s.w⟩ else ⟨upd s.c (b : Int) (s.c (b : Int) + 1), s.a, s.w⟩) := by
        unfold Hid nxt
        rw [hb, hfr, htg, ham]
      obtain ⟨cv, hcv⟩ : ∃ z, z = s.c (b : Int) := ⟨_, rfl⟩
      obtain ⟨av, hav⟩ : ∃ z, z = s.a (b : Int) := ⟨_, rfl⟩
      obtain ⟨wv, hwv⟩ : ∃ z, z = s.w (b : Int) := ⟨_, rfl⟩
      have s1 := Y.sc.at_ b (by omega)
      have s2 := Y.sa.at_ b (by omega)
      have s3 := Y.sw.at_ b (by omega)
      have q1 := Y.sc.free b
      have q2 := Y.sa.free b
      have q3 := Y.sw.free b
      rw [← hcv] at s1
      rw [← hav] at s2
      rw [← hwv] at s3
      rw [← hcv, ← hav, ← hwv] at CH
      rw [← hcv, ← hwv] at NXT
      rw [hb] at bk1 bk2
      have i1 : (k : Int) < (n : Int) := by omega
      have i0 : (0 : Int) ≤ (k : Int) := by omega
      have j1 : (b : Int) < 201 := by omega
      have j0 : (0 : Int) ≤ (b : Int) := by omega
      replace hb := Lib.hid hb
      replace hfr := Lib.hid hfr
      replace htg := Lib.hid htg
      replace ham := Lib.hid ham
      replace hs := Lib.hid hs
      replace hcv := Lib.hid hcv
      replace hav := Lib.hid hav
      replace hwv := Lib.hid hwv
      replace hx := Lib.hid hx
      have EX : Hid (∀ W, By3 w2.heap.size X w2 W q p cb ab wb (.slice (some ⟨g, 0, none⟩) p.l.length cc) (nxt s x) → BkAt w2.heap.size X w2 q p cb ab wb (.slice (some ⟨g, 0, none⟩) n cc) (.int .i64 ((k + 1 : Nat) : Int)) W) := fun W hY => by
        refine ⟨k + 1, rfl, by have := hn.out; omega, ?_⟩
        rw [an.out, hn.out]
        exact hY
      rw [hn.out] at Y
      replace Y := Lib.hid Y
      have hgn : g ≠ cb ∧ g ≠ ab ∧ g ≠ wb := by omega
      obtain ⟨ng1, ng2, ng3⟩ := hgn
      have hcn : cb ≠ ab ∧ cb ≠ wb ∧ ab ≠ wb := by omega
      obtain ⟨nc1, nc2, nc3⟩ := hcn
      clear RW an hca haw hgc hnc hc63
      rcases CH with ⟨h1, ⟨h2, h2'⟩, h3⟩ | ⟨h1, h2, ⟨h3, h3'⟩, h4, h5⟩ | ⟨h1, h2, ⟨h3, h3'⟩, h4, h5⟩
      · have t0 : (cv == 0) = true := by simp [h1]
        have t1 : decide (4 ≤ fr) = false := decide_eq_false (by omega)
        have t2 : (tg != 4) = false := by simp [h3]
        have t3 : (tg == 4) = true := by simp [h3]
        have cb0 : 0 ≤ cv := by omega
        have cb1 : cv ≤ 2 := by omega
        have F : Hid (nxt s x = ⟨upd s.c (b : Int) (cv + 1), upd s.a (b : Int) am, upd s.w (b : Int) fr⟩) := by unfold Hid; rw [NXT.out, if_pos h1, h1]; rfl
        have tw : Hid ((tg == fr) = false) := by unfold Hid; rw [beq_eq_false_iff_ne]; omega
        have Y8 := ((Y.out.seta (k := b) (by omega) am).setw (k := b) (by omega) fr).drew
        obtain ⟨W8, hW8⟩ : ∃ z, z = ((wr.setCell ⟨ab, b, none⟩ (.int .i64 am)).setCell ⟨wb, b, none⟩ (.int .i64 fr)).drew := ⟨_, rfl⟩
        rw [← hW8] at Y8
        replace Y8 := Lib.hid Y8
        replace hW8 := Lib.hid hW8
        clear h1 h2 h2' h3
        go_upto_region 21 with fail
        go_region
        rw [← hW8.out]
        clear hW8 r0 r1 r2 r3 s1 s2 s3 q1 q2 q3 t0 t1 t2 t3
        have s1 : W8.cell? ⟨cb, b, none⟩ = some (.int .i64 cv) := by have := Y8.out.sc.at_ b (by omega); rw [hcv.out]; exact this
        have q1 := Y8.out.sc.free b
        have Y9 := Y8.out.setc (k := b) (by omega) (cv + 1)
        obtain ⟨W9, hW9⟩ : ∃ z, z = W8.setCell ⟨cb, b, none⟩ (.int .i64 (cv + 1)) := ⟨_, rfl⟩
        rw [← hW9] at Y9
        replace hW9 := Lib.hid hW9
        obtain ⟨g', e, r0', r1', r2', r3'⟩ := rt_cell Y9.row hx.out
        injection e with e
        injection e with e _ _
        subst e
        rw [hb.out] at r0'
        rw [← hfr.out] at r1'
        rw [← htg.out] at r2'
        rw [← ham.out] at r3'
        have s3 : W9.cell? ⟨wb, b, none⟩ = some (.int .i64 fr) := by have := Y9.sw.at_ b (by omega); dsimp only at this; rw [upd_same] at this; exact this
        have d2 := tw.out
        have nx : Hid (∀ m, BkAt w2.heap.size X w2 q p cb ab wb (.slice (some ⟨g, 0, none⟩) n cc) (.int .i64 ((k + 1 : Nat) : Int)) (W9.drewN m)) := fun m => EX.out _ (by rw [F.out]; exact Y9.below ⟨rfl, rfl, rfl, Nat.le_refl _, fun _ _ => rfl⟩)
        replace Y9 := Lib.hid Y9
        clear Y8
        go_upto_region 30 with fail
        rw [← hW9.out]
        clear s1 q1 hW9
        go_quiet (fail)
        have nx2 := Lib.hid (nx.out nq)
        clear nx
        go_wp2
        exact ⟨nx2.out, by simp [intOf]; omega⟩
      · have t0 : (cv == 0) = false := by simp [h1]
        have t1 : (am != av) = false := by simp [h2]
        have t1' : (am == av) = true := by simp [h2]
        have t2 : (tg == 5) = true := by simp [h5]
        have t3 : (fr != 4) = false := by simp [h4]
        have t3' : (fr == 4) = true := by simp [h4]
        have t4 : (cv != 1) = false := by simp [h1]
        have t4' : (cv == 1) = true := by simp [h1]
        have tw : Hid ((tg == wv) = false) := by unfold Hid; rw [beq_eq_false_iff_ne]; omega
        have cb0 : 0 ≤ cv := by omega
        have cb1 : cv ≤ 2 := by omega
        have F : Hid (nxt s x = ⟨upd s.c (b : Int) (cv + 1), s.a, s.w⟩) := by unfold Hid; rw [NXT.out, if_neg (by omega), if_neg (by omega)]
        clear h1 h2 h3 h3' h4 h5
        go_upto_region 22 with fail
        go_quiet (fail)
        generalize hW8 : World.drewN _ _ = W8
        have Y8 : Hid (By3 w2.heap.size X w2 W8 q p cb ab wb (.slice (some ⟨g, 0, none⟩) p.l.length cc) s) := by rw [← hW8]; exact Y.out.below ⟨rfl, rfl, rfl, Nat.le_refl _, fun _ _ => rfl⟩
        clear hW8 r0 r1 r2 r3 s1 s2 s3 q1 q2 q3
        obtain ⟨g', e, u0, u1, u2, u3⟩ := rt_cell Y8.out.row hx.out
        injection e with e
        injection e with e _ _
        subst e
        rw [hb.out] at u0
        rw [← hfr.out] at u1
        rw [← htg.out] at u2
        rw [← ham.out] at u3
        have v1 : W8.cell? ⟨cb, b, none⟩ = some (.int .i64 cv) := by have := Y8.out.sc.at_ b (by omega); rw [hcv.out]; exact this
        have v3 : W8.cell? ⟨wb, b, none⟩ = some (.int .i64 wv) := by have := Y8.out.sw.at_ b (by omega); rw [hwv.out]; exact this
        have s1 : W8.cell? ⟨cb, b, none⟩ = some (.int .i64 cv) := by have := Y8.out.sc.at_ b (by omega); rw [hcv.out]; exact this
        have q1 := Y8.out.sc.free b
        have Y9 := Y8.out.setc (k := b) (by omega) (cv + 1)
        obtain ⟨W9, hW9⟩ : ∃ z, z = W8.setCell ⟨cb, b, none⟩ (.int .i64 (cv + 1)) := ⟨_, rfl⟩
        rw [← hW9] at Y9
        replace hW9 := Lib.hid hW9
        obtain ⟨g', e, r0', r1', r2', r3'⟩ := rt_cell Y9.row hx.out
        injection e with e
        injection e with e _ _
        subst e
        rw [hb.out] at r0'
        rw [← hfr.out] at r1'
        rw [← htg.out] at r2'
        rw [← ham.out] at r3'
        have s3 : W9.cell? ⟨wb, b, none⟩ = some (.int .i64 wv) := by have := Y9.sw.at_ b (by omega); rw [hwv.out]; exact this
        have d2 := tw.out
        have nx : Hid (∀ m, BkAt w2.heap.size X w2 q p cb ab wb (.slice (some ⟨g, 0, none⟩) n cc) (.int .i64 ((k + 1 : Nat) : Int)) (W9.drewN m)) := fun m => EX.out _ (by rw [F.out]; exact Y9.below ⟨rfl, rfl, rfl, Nat.le_refl _, fun _ _ => rfl⟩)
        replace Y9 := Lib.hid Y9
        clear Y8
        go_upto_region 30 with fail
        rw [← hW9.out]
        clear s1 q1 hW9 u0 u1 u2 u3 v1 v3
        go_quiet (fail)
        have nx2 := Lib.hid (nx.out nq)
        clear nx
        go_wp2
        exact ⟨nx2.out, by simp [intOf]; omega⟩
      · have t0 : (cv == 0) = false := by rw [beq_eq_false_iff_ne]; omega
        have t1 : (am != av) = false := by simp [h2]
        have t1' : (am == av) = true := by simp [h2]
        have t2 : (tg == 5) = false := by rw [beq_eq_false_iff_ne]; omega
        have t3 : (tg != wv) = false := by simp [h5]
        have t3' : (tg == wv) = true := by simp [h5]
        have t4 : decide (2 < cv) = false := decide_eq_false (by omega)
        have t5 : (fr != 3 + cv) = false := by simp [h4]
        have t5' : (fr == 3 + cv) = true := by simp [h4]
        have cb0 : 0 ≤ cv := by omega
        have cb1 : cv ≤ 2 := by omega
        have t6 : IntKind.i64.wrap (3 + cv) = 3 + cv := by rw [IntKind.wrap_i64]; omega
        have F : Hid (nxt s x = ⟨upd s.c (b : Int) 9, s.a, s.w⟩) := by unfold Hid; rw [NXT.out, if_neg (by omega), if_pos h5]
        clear h1 h2 h3 h3' h4 h5
        go_upto_region 22 with fail
        go_quiet (fail)
        generalize hV8 : World.drewN _ _ = V8
        have Z8 : Hid (By3 w2.heap.size X w2 V8 q p cb ab wb (.slice (some ⟨g, 0, none⟩) p.l.length cc) s) := by rw [← hV8]; exact Y.out.below ⟨rfl, rfl, rfl, Nat.le_refl _, fun _ _ => rfl⟩
        clear hV8 r0 r1 r2 r3 s1 s2 s3 q1 q2 q3
        obtain ⟨g', e, u0, u1, u2, u3⟩ := rt_cell Z8.out.row hx.out
        injection e with e
        injection e with e _ _
        subst e
        rw [hb.out] at u0
        rw [← hfr.out] at u1
        rw [← htg.out] at u2
        rw [← ham.out] at u3
        have v1 : V8.cell? ⟨cb, b, none⟩ = some (.int .i64 cv) := by have := Z8.out.sc.at_ b (by omega); rw [hcv.out]; exact this
        have v3 : V8.cell? ⟨wb, b, none⟩ = some (.int .i64 wv) := by have := Z8.out.sw.at_ b (by omega); rw [hwv.out]; exact this
        go_upto_region 27 with fail
        go_quiet (fail)
        clear u0 u1 u2 u3 v1 v3 t6
        generalize hW8 : World.drewN _ _ = W8
        have Y8 : Hid (By3 w2.heap.size X w2 W8 q p cb ab wb (.slice (some ⟨g, 0, none⟩) p.l.length cc) s) := by rw [← hW8]; exact Z8.out.below ⟨rfl, rfl, rfl, Nat.le_refl _, fun _ _ => rfl⟩
        clear hW8 Z8
        have s1 : W8.cell? ⟨cb, b, none⟩ = some (.int .i64 cv) := by have := Y8.out.sc.at_ b (by omega); rw [hcv.out]; exact this
        have q1 := Y8.out.sc.free b
        have Y9 := Y8.out.setc (k := b) (by omega) (cv + 1)
        obtain ⟨W9, hW9⟩ : ∃ z, z = W8.setCell ⟨cb, b, none⟩ (.int .i64 (cv + 1)) := ⟨_, rfl⟩
        rw [← hW9] at Y9
        replace hW9 := Lib.hid hW9
        obtain ⟨g', e, r0', r1', r2', r3'⟩ := rt_cell Y9.row hx.out
        injection e with e
        injection e with e _ _
        subst e
        rw [hb.out] at r0'
        rw [← hfr.out] at r1'
        rw [← htg.out] at r2'
        rw [← ham.out] at r3'
        have s3 : W9.cell? ⟨wb, b, none⟩ = some (.int .i64 wv) := by have := Y9.sw.at_ b (by omega); rw [hwv.out]; exact this
        replace Y9 := Lib.hid Y9
        clear Y8
        go_upto_region 30 with fail
        rw [← hW9.out]
        clear s1 q1 hW9
        go_quiet (fail)
        generalize hW10 : World.drewN _ _ = W10
        have Y10 : By3 w2.heap.size X w2 W10 q p cb ab wb (.slice (some ⟨g, 0, none⟩) p.l.length cc) ⟨upd s.c (b : Int) (cv + 1), s.a, s.w⟩ := by rw [← hW10]; exact Y9.out.below ⟨rfl, rfl, rfl, Nat.le_refl _, fun _ _ => rfl⟩
        have s1 := Y10.sc.at_ b (by omega)
        have q1 := Y10.sc.free b
        have Y11 := Y10.setc (k := b) (by omega) 9
        simp only [upd_upd] at Y11
        rw [← F.out] at Y11
        have nx2 := Lib.hid (EX.out _ Y11)
        clear hW10 r0' r1' r2' r3' s3 Y10 Y11 Y9
        go_wp2
        exact ⟨nx2.out, by simp [intOf]; omega⟩
    · obtain rfl : k = n := by have := hn.out; omega
      rw [List.take_of_length_le (by have := hn.out; omega)] at Y
      rename_i K1 h1
      replace h1 := Lib.hid h1
      replace Y := Lib.hid Y
      go_wp2
      exact h1.out _ _ (part3 _ _ _ _ _ _ _ _ _ _ _ _ _ _ _ _ _ _ _ _ _ _ _ _ _ _ _ _ _ _ _ _ _ _ _ _ _ _ _ _ _ _ _ _ _ _ _ _ _ _ _ _ _ _ _ _ _ _ _ _ _ _ _ _ _ _ _ _ _ _ _ _ _ _ _ _ _ _ _ _ _ _ _ _ _ _ _ _ _ _ _ _ _ _ _ _ _ _ _ _ _ _ _ _ _ _ _ _ _ _ _ _ _ _ _ _ _ _ _ _ _ _ _ _ _ _ _ _ _ _ _ _ _ _ _ _ _ _ _ _ _ _ _ _ _ _ _ _ _ _ _ _ _ _ _ _ _ _ _ _ _ _ _ _ _ _ _ _ _ _ _ _ _ _ _ _ _ _ _ _ _ _ _ _ _ _ _ _ _ _ _ _ _ _ _ _ _ _ _ _ _ _ _ _ _ _ _ _ _ _ _ _ _ _ _ _ _ _ w w2 wr q cb ab wb p _ X Y.out K.out B0.out)


end Go.Proofs.Ytmjbphepdjdlkaa.purseBooks
