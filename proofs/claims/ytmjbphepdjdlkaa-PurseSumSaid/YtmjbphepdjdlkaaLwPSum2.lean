/- For PurseSum: what comes behind the operations: the moves added up. -/
import Derived.Test.YtmjbphepdjdlkaaPuQ
import Derived.JoinedRecord
import Derived.HandedShaped
namespace Go.Proofs.Ytmjbphepdjdlkaa.purseSum
set_option maxRecDepth 100000
open Go.ChangeShapes Go.WideShapes Go.ChangeAt Go.WideMaps Go.WideElems Go.RowKit
open Go.Sort (grow)
open Go.Proofs.Ytmjbphepdjdlkaa.Pk (Rb adr_block one_at one_free one_set lt_some grown_set grown_trans below_grown grown_refl u8s own_form)
open Go.Proofs.Ytmjbphepdjdlkaa.Pu
open Go.Proofs.Ytmjbphepdjdlkaa.Wt (Opn mayOp)


def headIs (k : Nat) : Code → Bool
  | .region id _ _ => id == k
  | .seq a _ => headIs k a
  | _ => false
def restAt (k : Nat) : Code → Option Code
  | .seq a b => if headIs k b then some b else match restAt k b with
    | some c => some c
    | none => restAt k a
  | .block _ c => restAt k c
  | .scope c => restAt k c
  | _ => none
noncomputable def rest22 : Code := (Try.f4.body.bind (restAt 22)).getD .skip
def CpAt (B : Nat) (X : Nat → Prop) (w2 : World) (q sb : Nat) (f0 : Ac) (p : S) (i : Value) (wr : World) : Prop := ∃ (c : Nat) (s : Ac), i = .int .i64 c ∧ c ≤ 4 ∧ Sm wr 6 sb s ∧ (∀ k : Nat, k < c → s (k : Int) = f0 (k : Int)) ∧ (∀ k : Nat, c ≤ k → k < 6 → s (k : Int) = 0) ∧ Ow B X w2 wr q p
def LnAt (B base : Nat) (X : Nat → Prop) (w2 : World) (q sb : Nat) (f0 : Ac) (p : S) (v : Value) (i : Value) (wr : World) : Prop := ∃ k : Nat, i = .int .i64 k ∧ k ≤ p.l.length ∧ Sm wr 6 sb (fld f0 (p.l.take k)) ∧ RowT LineT wr base v p.l.length p.l ∧ Ow B X w2 wr q p ∧ base ≤ wr.heap.size
def EnAt (B : Nat) (X : Nat → Prop) (w2 : World) (q sb : Nat) (p : S) (i : Value) (wr : World) : Prop := ∃ k : Nat, i = .int .i64 k ∧ k ≤ 4 ∧ Sm wr 6 sb p.a ∧ Ow B X w2 wr q p
theorem own_is {g n c x : Nat} (h : (Value.slice (some ⟨g, 0, none⟩) n c).ownBlock = some x) : g = x := by simpa [Value.ownBlock] using h
theorem quiet_b {P : Program} {f : FuncId} {args : Array Value} {w : World} {v : Value} (h : Calls P f args w fun e w' => e = .returned v ∧ w = w') : Calls P f args w fun e w' => e = .returned v ∧ Below w.heap.size w w' := h.mono fun _ _ ⟨h1, h2⟩ => ⟨h1, by rw [← h2]; exact Below.refl _ _⟩
set_option maxHeartbeats 6400000 in
theorem part (z0 z1 z3 z4 z6 z7 z8 z9 z10 z11 z12 z13 z14 z15 z16 z17 z18 z19 z20 z21 z22 z23 z24 z25 z26 z27 z28 z29 z30 z31 z32 z33 z34 z35 z36 z37 z38 z39 z40 z41 z42 z43 z44 z45 z46 z47 z48 z49 z50 z51 z52 z53 z54 z55 z56 z57 z58 z59 z60 z61 z62 z63 z64 z65 z66 z67 z68 z69 z70 z71 z72 z73 z74 z75 z76 z77 z78 z79 z80 z81 z82 z83 z84 z85 z86 z87 z88 z89 z90 z91 z92 z93 z94 z95 z96 z97 z98 z99 z100 z101 z102 z103 z104 z105 z106 z107 z108 z109 z110 z111 z112 z113 z114 z115 z116 z117 z118 z119 z120 z121 z122 z123 z124 z125 z126 z127 z128 z129 z130 z131 z132 z133 z134 z135 z136 z137 z138 z139 z140 z141 z142 z143 z144 z145 z146 z147 z148 z149 z150 z151 z152 z153 z154 z155 z156 z157 z158 z159 z160 z161 z162 z163 z164 z165 z166 z167 z168 z169 z170 z171 z172 z173 z174 z175 z176 z177 z178 z179 z180 z181 z182 z183 z184 z185 z186 z187 z188 z189 z190 z191 z192 z193 z194 z195 z196 z197 z198 z199 z200 z201 z202 z203 z204 z205 z206 z207 z208 z209 z210 z211 z212 z213 z214 z215 z216 z217 z218 : Value) (w w2 wr : World) (fb q : Nat) (a b c d : Int) (p : S) (O : Ow w2.heap.size (fun g => g < w2.heap.size) w2 wr q p) (H : His (new a b c d).a p) (fbx : fb < w2.heap.size) (FB : ∀ k : Nat, k ≤ 3 → w2.cell? ⟨fb, k, none⟩ = some (.int .i64 ((new a b c d).a (k : Int)))) (B0 : Below w.heap.size w w2) :
    Code.wp Try.prog rest22 (bodyPost Try.prog Try.f4 fun e w' => e = .returned (.bool true) ∧ Below w.heap.size w w') ⟨#[z0, z1, .pointer (some ⟨fb, 0, none⟩), z3, z4, .pointer (some ⟨q, 0, none⟩), z6, z7, z8, z9, z10, z11, z12, z13, z14, z15, z16, z17, z18, z19, z20, z21, z22, z23, z24, z25, z26, z27, z28, z29, z30, z31, z32, z33, z34, z35, z36, z37, z38, z39, z40, z41, z42, z43, z44, z45, z46, z47, z48, z49, z50, z51, z52, z53, z54, z55, z56, z57, z58, z59, z60, z61, z62, z63, z64, z65, z66, z67, z68, z69, z70, z71, z72, z73, z74, z75, z76, z77, z78, z79, z80, z81, z82, z83, z84, z85, z86, z87, z88, z89, z90, z91, z92, z93, z94, z95, z96, z97, z98, z99, z100, z101, z102, z103, z104, z105, z106, z107, z108, z109, z110, z111, z112, z113, z114, z115, z116, z117, z118, z119, z120, z121, z122, z123, z124, z125, z126, z127, z128, z129, z130, z131, z132, z133, z134, z135, z136, z137, z138, z139, z140, z141, z142, z143, z144, z145, z146, z147, z148, z149, z150, z151, z152, z153, z154, z155, z156, z157, z158, z159, z160, z161, z162, z163, z164, z165, z166, z167, z168, z169, z170, z171, z172, z173, z174, z175, z176, z177, z178, z179, z180, z181, z182, z183, z184, z185, z186, z187, z188, z189, z190, z191, z192, z193, z194, z195, z196, z197, z198, z199, z200, z201, z202, z203, z204, z205, z206, z207, z208, z209, z210, z211, z212, z213, z214, z215, z216, z217, z218], []⟩ wr := by
  obtain ⟨sb, hsb⟩ : ∃ x, x = wr.heap.size := ⟨_, rfl⟩
  obtain ⟨W1, hW1⟩ : ∃ x, x = wr.alloc (.cells #[.int .i64 0, .int .i64 0, .int .i64 0, .int .i64 0, .int .i64 0, .int .i64 0] 40) := ⟨_, rfl⟩
  have B1 : Below wr.heap.size wr W1 := by rw [hW1]; exact (Below.refl _ _).alloc (Nat.le_refl _) _
  have G1 : W1.heap[wr.heap.size]? = some (.cells #[.int .i64 0, .int .i64 0, .int .i64 0, .int .i64 0, .int .i64 0, .int .i64 0] 40 (0, 0)) := by rw [hW1]; exact heap_alloc_new _ _
  have hbs : Hid (w2.heap.size ≤ sb) := by rw [hsb]; exact O.bs
  obtain ⟨X, hX⟩ : ∃ X : Nat → Prop, X = fun g => g < w2.heap.size ∨ (wr.heap.size ≤ g ∧ g < W1.heap.size) := ⟨_, rfl⟩
  have O1 : Ow w2.heap.size X w2 W1 q p := by rw [hX]; exact O.add B1
  have XS : Hid (X sb) := by rw [hX]; exact .inr ⟨by omega, by rw [hsb]; exact lt_some G1⟩
  have S1 : Sm W1 6 sb (fun _ => 0) := sm_zero 6 (by rw [hsb]; exact G1)
  obtain ⟨f0, hf0⟩ : ∃ f, f = (new a b c d).a := ⟨_, rfl⟩
  have f04 : f0 4 = 0 ∧ f0 5 = 0 := by rw [hf0]; exact ⟨rfl, rfl⟩
  rw [← hf0] at H FB
  have st : Hid (CpAt w2.heap.size X w2 q sb f0 p (.int .i64 0) W1) := ⟨0, _, rfl, by omega, S1, fun k hk => by omega, fun k _ _ => rfl, O1⟩
  replace FB := Lib.hid FB
  replace H := Lib.hid H
  replace B0 := Lib.hid B0
  replace f04 := Lib.hid f04
  replace hW1 := Lib.hid hW1
  replace hsb := Lib.hid hsb
  clear hf0 hX B1 G1 O O1 S1
  conv => arg 2; whnf
  go_upto_region 23 with fail
  rw [← hW1.out, ← hsb.out]
  clear hW1
  go_wp2_with fail
  go_loopw [12] (fun i wr => CpAt w2.heap.size X w2 q sb f0 p i wr) (fun i _ => 4 - (intOf i).toNat)
  case atStart => exact st.out
  case round =>
    clear st
    obtain ⟨k, s, rfl, hk, S, s1, s2, O⟩ := hrel
    by_cases h4 : k < 4
    · have c1 := (World.cell?_of_block (a := ⟨fb, k, none⟩) (O.be.block _ fbx)).trans (FB.out k (by omega))
      have c2 := S.at_ k (by omega)
      have c3 := S.free k
      have i1 : (k : Int) < 4 := by omega
      have i0 : (0 : Int) ≤ (k : Int) := by omega
      have nx : Hid (CpAt w2.heap.size X w2 q sb f0 p (.int .i64 ((k + 1 : Nat) : Int)) (wr.setCell ⟨sb, k, none⟩ (.int .i64 (f0 (k : Int))))) := ⟨k + 1, _, rfl, by omega, S.set (by omega) _, fun j hj => by
        by_cases e : j = k
        · rw [e, upd_same]
        · rw [upd_other (by omega)]; exact s1 j (by omega), fun j hj h6 => by rw [upd_other (by omega)]; exact s2 j (by omega) h6, O.side (by rw [set1]; exact Kq.of_cells _ _ _ _) XS.out hbs.out⟩
      clear S s1 s2 O
      go_wp2
      exact ⟨nx.out, by simp [intOf]; omega⟩
    · obtain rfl : k = 4 := by omega
      have SF : Sm wr 6 sb f0 := S.ext fun j hj => by
        by_cases e : j < 4
        · exact s1 j e
        · rw [s2 j (by omega) hj]
          rcases (by omega : j = 4 ∨ j = 5) with rfl | rfl
          · exact f04.out.1.symm
          · exact f04.out.2.symm
      have LI := ow_lines O
      have few := O.ok.few
      have sbl := S.lt
      clear S s1 s2
      go_wp2_with fail
      refine LI.mono ?_
      rintro e w4 ⟨v, rfl, R, hb4⟩
      obtain ⟨base, hbase⟩ : ∃ x, x = wr.heap.size := ⟨_, rfl⟩
      rw [← hbase] at R sbl
      obtain ⟨A, cc, rfl, hnc, hc63, -⟩ := rt_form R
      have st : Hid (LnAt w2.heap.size base X w2 q sb f0 p (.slice A p.l.length cc) (.int .i64 0) w4) := ⟨0, rfl, by omega, SF.below hb4, R, O.below hb4, by rw [hbase]; exact hb4.size⟩
      obtain ⟨n, hn⟩ : ∃ x, x = p.l.length := ⟨_, rfl⟩
      rw [← hn] at st few hnc ⊢
      replace hn := Lib.hid hn
      clear LI R SF O hb4 hbase
      go_wp2_with fail
      go_loopw [14] (fun i wr => LnAt w2.heap.size base X w2 q sb f0 p (.slice A n cc) i wr) (fun i _ => n - (intOf i).toNat)
      case atStart => exact st.out
      case round =>
        clear st
        obtain ⟨k, rfl, hk, S, R, O, hbs4⟩ := hrel
        rw [← hn.out] at hk R
        by_cases hkn : k < n
        · obtain ⟨x, hx⟩ : ∃ x, p.l[k]? = some x := ⟨_, List.getElem?_eq_getElem (by have := hn.out; omega)⟩
          obtain ⟨⟨a0, a5⟩, ⟨g0, g5⟩, hne, m0, m1⟩ := H.out.shp x (List.mem_of_getElem? hx)
          obtain ⟨g, rfl, r0, r1, r2, r3⟩ := rt_cell R hx
          obtain ⟨fr, hfr⟩ := Int.eq_ofNat_of_zero_le a0
          obtain ⟨tg, htg⟩ := Int.eq_ofNat_of_zero_le g0
          obtain ⟨am, ham⟩ : ∃ m, m = x.am := ⟨_, rfl⟩
          rw [hfr] at r1 hne a0 a5
          rw [htg] at r2 hne g0 g5
          rw [← ham] at r3 m0 m1
          obtain ⟨s, hs⟩ : ∃ s, s = fld f0 (p.l.take k) := ⟨_, rfl⟩
          have sb1 := H.out.pre k fr (by omega) (by omega)
          have sb2 := H.out.pre k tg (by omega) (by omega)
          rw [← hs] at sb1 sb2 S
          have hsn : Hid (fld f0 (p.l.take (k + 1)) = upd (upd s (fr : Int) (s (fr : Int) - am)) (tg : Int) (s (tg : Int) + am)) := by
            obtain ⟨hl, he⟩ := List.getElem?_eq_some_iff.1 hx
            show _ = _
            rw [List.take_succ_eq_append_getElem hl, fld_snoc, he, ← hs, hfr, htg, ← ham]
            rfl
          obtain ⟨u1, hu1⟩ : ∃ z, z = s (fr : Int) := ⟨_, rfl⟩
          obtain ⟨u2, hu2⟩ : ∃ z, z = s (tg : Int) := ⟨_, rfl⟩
          have c1 := S.at_ fr (by omega)
          have c2 := S.at_ tg (by omega)
          rw [← hu1] at sb1 c1 hsn
          rw [← hu2] at sb2 c2 hsn
          have q1 := S.free fr
          have q2 := S.free tg
          obtain ⟨y1, hy1⟩ : ∃ z, z = u1 - am := ⟨_, rfl⟩
          obtain ⟨y2, hy2⟩ : ∃ z, z = u2 + am := ⟨_, rfl⟩
          have v1 : IntKind.i64.wrap (u1 - am) = y1 := by rw [IntKind.wrap_i64]; omega
          have v2 : IntKind.i64.wrap (u2 + am) = y2 := by rw [IntKind.wrap_i64]; omega
          rw [← hy1, ← hy2] at hsn
          have hgb : Hid (base ≤ g) := (rt_block R rfl).1
          have hgs : g ≠ sb := by have := hgb.out; omega
          have d1 : decide ((fr : Int) < 0) = false := decide_eq_false (by omega)
          have d2 : decide (5 < (fr : Int)) = false := decide_eq_false (by omega)
          have d3 : decide ((tg : Int) < 0) = false := decide_eq_false (by omega)
          have d4 : decide (5 < (tg : Int)) = false := decide_eq_false (by omega)
          have d5 : ((fr : Int) == (tg : Int)) = false := by simpa using hne
          have d6 : decide (am < 0) = false := decide_eq_false (by omega)
          have i1 : (k : Int) < (n : Int) := by omega
          have i0 : (0 : Int) ≤ (k : Int) := by omega
          have f6 : (fr : Int) < 6 := by omega
          have t6 : (tg : Int) < 6 := by omega
          replace hfr := Lib.hid hfr
          replace htg := Lib.hid htg
          replace ham := Lib.hid ham
          replace hs := Lib.hid hs
          replace hu1 := Lib.hid hu1
          replace hu2 := Lib.hid hu2
          replace hy1 := Lib.hid hy1
          replace hy2 := Lib.hid hy2
          replace hx := Lib.hid hx
          go_upto_region 31 with fail
          go_quiet (fail)
          generalize hW5 : World.drewN _ _ = W5
          have B5 : Below wr.heap.size wr W5 := by rw [← hW5]; exact ⟨rfl, rfl, rfl, Nat.le_refl _, fun _ _ => rfl⟩
          have R5 := rt_below R B5
          have O5 := O.below B5
          have S5 := S.below B5
          obtain ⟨g', e, r0', r1', r2', r3'⟩ := rt_cell R5 hx.out
          injection e with e
          injection e with e _ _
          subst e
          rw [hfr.out] at r1'
          rw [htg.out] at r2'
          rw [← ham.out] at r3'
          have c1' := S5.at_ fr (by omega)
          rw [← hu1.out] at c1'
          have q1' := S5.free fr
          obtain ⟨W6, hW6⟩ : ∃ x, x = (W5.setCell ⟨sb, fr, none⟩ (.int .i64 y1)).drew := ⟨_, rfl⟩
          have K6 : Kq (fun g => g = sb) W5 W6 := by rw [hW6, set1]; exact (Kq.of_cells _ _ _ _).drew
          have S6 : Sm W6 6 sb (upd s (fr : Int) y1) := by rw [hW6]; exact (S5.set (by omega) _).keep rfl
          have R6 := rt_same (w' := W6) R5 fun x hx => K6.block x (rt_lt R5 hx) (fun e => hgs ((own_is hx).trans e))
          have O6 := O5.side K6 XS.out hbs.out
          obtain ⟨g', e, t0', t1', t2', t3'⟩ := rt_cell R6 hx.out
          injection e with e
          injection e with e _ _
          subst e
          rw [hfr.out] at t1'
          rw [htg.out] at t2'
          rw [← ham.out] at t3'
          have c2' := S6.at_ tg (by omega)
          rw [upd_other (by omega), ← hu2.out] at c2'
          have q2' := S6.free tg
          have K7 : Kq (fun g => g = sb) W6 ((W6.setCell ⟨sb, tg, none⟩ (.int .i64 y2)).drew) := by rw [set1]; exact (Kq.of_cells _ _ _ _).drew
          have nx : Hid (LnAt w2.heap.size base X w2 q sb f0 p (.slice (some ⟨g, 0, none⟩) n cc) (.int .i64 ((k + 1 : Nat) : Int)) ((W6.setCell ⟨sb, tg, none⟩ (.int .i64 y2)).drew)) := by
            refine ⟨k + 1, rfl, by have := hn.out; omega, ?_, ?_, O6.side K7 XS.out hbs.out, Nat.le_trans hbs4 (Nat.le_trans B5.size (Nat.le_trans K6.size K7.size))⟩
            · rw [hsn.out]
              exact (S6.set (by omega) _).keep rfl
            · rw [← hn.out]
              exact rt_same R6 fun x hx => K7.block x (rt_lt R6 hx) (fun e => hgs ((own_is hx).trans e))
          replace hW6 := Lib.hid hW6
          clear hW5 r0 r1 r2 r3 c1 c2 q1 q2 S R O S5 R5 O5 S6 R6 O6 K6 K7 B5 hsn hu1 hu2 hy1 hy2 sb1 sb2 hs hx ham hfr htg
          go_upto_region 33 with fail
          go_still_tail 19, (by kernel_rfl)
          change wpList _ _ _ _ _ W5.drew
          go_upto_region 34 with fail
          rw [← hW6.out]
          clear r0' r1' r2' r3' c1' q1' hW6
          go_still_tail 19, (by kernel_rfl)
          change wpList _ _ _ _ _ W6.drew
          go_wp2
          exact ⟨nx.out, by simp [intOf]; omega⟩
        · obtain rfl : k = n := by omega
          have SE : Sm wr 6 sb p.a := by
            rw [List.take_of_length_le (by have := hn.out; omega), ← H.out.eq] at S
            exact S
          have st : Hid (EnAt w2.heap.size X w2 q sb p (.int .i64 0) wr) := ⟨0, rfl, by omega, SE, O⟩
          clear S R O SE
          go_wp2_with fail
          go_loopw [15] (fun i wr => EnAt w2.heap.size X w2 q sb p i wr) (fun i _ => 4 - (intOf i).toNat)
          case atStart => exact st.out
          case round =>
            clear st
            obtain ⟨k, rfl, hk, S, O⟩ := hrel
            by_cases h4 : k < 4
            · have Q1 := fun d os => Calls.regrown_of (quiet_b (ow_bal (O.below (below_regrown wr d os)) (k : Int)))
              rw [show bal p (k : Int) = p.a (k : Int) from if_pos (by omega)] at Q1
              have c1 := cell_regrown (S.at_ k (by omega))
              generalize p.a (k : Int) = y at Q1 c1
              have i1 : (k : Int) < 4 := by omega
              have i0 : (0 : Int) ≤ (k : Int) := by omega
              replace S := Lib.hid S
              replace O := Lib.hid O
              go_upto_region 38 with fail
              refine wp_region_quiet_below (by kernel_rfl) (by kernel_rfl) ?_
              repeat (go_big_quiet_step (with_reducible exact Q1 _ _))
              refine wpQuiet_nil ?_
              intro w7 hw'
              obtain ⟨⟨dq, osq⟩, hw7⟩ := hw'
              have be7 : Below wr.heap.size wr w7 := by rw [hw7]; exact below_regrown wr dq osq
              have nx : Hid (EnAt w2.heap.size X w2 q sb p (.int .i64 ((k + 1 : Nat) : Int)) w7) := ⟨k + 1, rfl, by omega, S.out.below be7, O.out.below be7⟩
              clear hw7 Q1 c1 S O be7
              go_wp2
              exact ⟨nx.out, by simp [intOf]; omega⟩
            · obtain rfl : k = 4 := by omega
              have Q1 := fun d os => Calls.regrown_of (quiet_b (ow_res (O.below (below_regrown wr d os))))
              have Q2 := fun d os => Calls.regrown_of (quiet_b (ow_tak (O.below (below_regrown wr d os))))
              have Q3 := fun d os => Calls.regrown_of (told_any (grow (redrawn wr d) os))
              have c4 : ∀ d os, (grow (redrawn wr d) os).cell? ⟨sb, 4, none⟩ = some (.int .i64 (p.a 4)) := cell_regrown (S.at_ 4 (by omega))
              have c5 : ∀ d os, (grow (redrawn wr d) os).cell? ⟨sb, 5, none⟩ = some (.int .i64 (p.a 5)) := cell_regrown (S.at_ 5 (by omega))
              generalize p.a 4 = y4 at Q1 c4
              generalize p.a 5 = y5 at Q2 c5
              have BE := Lib.hid (B0.out.trans (O.be.mono B0.out.size))
              have BS := Lib.hid (Nat.le_trans B0.out.size O.bs)
              clear S O
              go_upto_region 40 with fail
              refine wp_region_quiet_below (by kernel_rfl) (by kernel_rfl) ?_
              repeat (go_big_quiet_step (first | with_reducible exact Q1 _ _ | with_reducible exact Q2 _ _ | with_reducible exact Q3 _ _))
              refine wpQuiet_nil ?_
              intro w7 hw'
              obtain ⟨⟨dq, osq⟩, hw7⟩ := hw'
              have be7 : Hid (Below w.heap.size w w7) := by rw [hw7]; exact BE.out.trans ((below_regrown wr dq osq).mono BS.out)
              clear hw7 Q1 Q2 Q3 c4 c5
              go_wp2
              go_ret
              exact ⟨rfl, be7.out⟩


end Go.Proofs.Ytmjbphepdjdlkaa.purseSum
