/- For PurseBooks: the bookings held against the moves that were counted. -/
import Derived.Test.YtmjbphepdjdlkaaPuR
import Derived.JoinedRecord
import Derived.HandedShaped
namespace Go.Proofs.Ytmjbphepdjdlkaa.purseBooks
set_option maxRecDepth 100000
open Go.ChangeShapes Go.WideShapes Go.ChangeAt Go.WideMaps Go.WideElems Go.RowKit
open Go.Sort (grow)
open Go.Proofs.Ytmjbphepdjdlkaa.Pk (Rb adr_block one_at one_free one_set lt_some grown_set grown_trans below_grown grown_refl u8s own_form)
open Go.Proofs.Ytmjbphepdjdlkaa.Pu
open Go.Proofs.Ytmjbphepdjdlkaa.Wt (Opn mayOp)


def headIs (k : Nat) : Code → Bool
  | .region id _ _ => id == k
  | .seq a _ => headIs k a
  | _ => false
def restAt (k : Nat) : Code → Option Code
  | .seq a b => if headIs k b then some b else match restAt k b with
    | some c => some c
    | none => restAt k a
  | .block _ c => restAt k c
  | .scope c => restAt k c
  | _ => none
noncomputable def rest32 : Code := (Try.f5.body.bind (restAt 32)).getD .skip
def EnAt (B : Nat) (X : Nat → Prop) (w2 : World) (q : Nat) (p : Pu.S) (cb ab wb : Nat) (v i : Value) (wr : World) : Prop := ∃ k : Nat, i = .int .i64 k ∧ 1 ≤ k ∧ k ≤ 201 ∧ By3 B X w2 wr q p cb ab wb v (acc p.l)
set_option maxHeartbeats 6400000 in
theorem part3 (z0 z1 z2 z4 z5 z6 z10 z11 z12 z13 z14 z15 z16 z17 z18 z19 z20 z21 z22 z23 z24 z25 z26 z27 z28 z29 z30 z31 z32 z33 z34 z35 z36 z37 z38 z39 z40 z41 z42 z43 z44 z45 z46 z47 z48 z49 z50 z51 z52 z53 z54 z55 z56 z57 z58 z59 z60 z61 z62 z63 z64 z65 z66 z67 z68 z69 z70 z71 z72 z73 z74 z75 z76 z77 z78 z79 z80 z81 z82 z83 z84 z85 z86 z87 z88 z89 z90 z91 z92 z93 z94 z95 z96 z97 z98 z99 z100 z101 z102 z103 z104 z105 z106 z107 z108 z109 z110 z111 z112 z113 z114 z115 z116 z117 z118 z119 z120 z121 z122 z123 z124 z125 z126 z127 z128 z129 z130 z131 z132 z133 z134 z135 z136 z137 z138 z139 z140 z141 z142 z143 z144 z145 z146 z147 z148 z149 z150 z151 z152 z153 z154 z155 z156 z157 z158 z159 z160 z161 z162 z163 z164 z165 z166 z167 z168 z169 z170 z171 z172 z173 z174 z175 z176 z177 z178 z179 z180 z181 z182 z183 z184 z185 z186 z187 z188 z189 z190 z191 z192 z193 z194 z195 z196 z197 z198 z199 z200 z201 z202 z203 z204 z205 z206 z207 z208 z209 z210 z211 z212 z213 z214 z215 z216 z217 z218 z219 z220 z221 : Value) (w w2 wr : World) (q cb ab wb : Nat) (p : Pu.S) (v : Value) (X : Nat → Prop) (Y : By3 w2.heap.size X w2 wr q p cb ab wb v (acc p.l)) (K : Bk p) (B0 : Below w.heap.size w w2) :
    Code.wp Try.prog rest32 (bodyPost Try.prog Try.f5 fun e w' => e = .returned (.bool true) ∧ Below w.heap.size w w') ⟨#[z0, z1, z2, .pointer (some ⟨q, 0, none⟩), z4, z5, z6, .pointer (some ⟨cb, 0, none⟩), .pointer (some ⟨ab, 0, none⟩), .pointer (some ⟨wb, 0, none⟩), z10, z11, z12, z13, z14, z15, z16, z17, z18, z19, z20, z21, z22, z23, z24, z25, z26, z27, z28, z29, z30, z31, z32, z33, z34, z35, z36, z37, z38, z39, z40, z41, z42, z43, z44, z45, z46, z47, z48, z49, z50, z51, z52, z53, z54, z55, z56, z57, z58, z59, z60, z61, z62, z63, z64, z65, z66, z67, z68, z69, z70, z71, z72, z73, z74, z75, z76, z77, z78, z79, z80, z81, z82, z83, z84, z85, z86, z87, z88, z89, z90, z91, z92, z93, z94, z95, z96, z97, z98, z99, z100, z101, z102, z103, z104, z105, z106, z107, z108, z109, z110, z111, z112, z113, z114, z115, z116, z117, z118, z119, z120, z121, z122, z123, z124, z125, z126, z127, z128, z129, z130, z131, z132, z133, z134, z135, z136, z137, z138, z139, z140, z141, z142, z143, z144, z145, z146, z147, z148, z149, z150, z151, z152, z153, z154, z155, z156, z157, z158, z159, z160, z161, z162, z163, z164, z165, z166, z167, z168, z169, z170, z171, z172, z173, z174, z175, z176, z177, z178, z179, z180, z181, z182, z183, z184, z185, z186, z187, z188, z189, z190, z191, z192, z193, z194, z195, z196, z197, z198, z199, z200, z201, z202, z203, z204, z205, z206, z207, z208, z209, z210, z211, z212, z213, z214, z215, z216, z217, z218, z219, z220, z221], []⟩ wr := by
  have st : Hid (EnAt w2.heap.size X w2 q p cb ab wb v (.int .i64 1) wr) := ⟨1, rfl, by omega, by omega, Y⟩
  replace K := Lib.hid K
  replace B0 := Lib.hid B0
  clear Y
  conv => arg 2; whnf
  go_wp2_with fail
  go_loopw [12] (fun i wr => EnAt w2.heap.size X w2 q p cb ab wb v i wr) (fun i _ => 201 - (intOf i).toNat)
  case atStart => exact st.out
  case round =>
    clear st
    obtain ⟨k, rfl, k1, k2, Y⟩ := hrel
    by_cases hk : k ≤ 200
    · have EN := ow_entry Y.ow (k : Int)
      have LK := K.out.link (k : Int) (by omega) (by omega)
      have hbd := (Y.ow.ok.shp (k : Int)).bds
      unfold cell at EN
      obtain ⟨st, hst⟩ : ∃ x, x = (p.f (k : Int)).st := ⟨_, rfl⟩
      obtain ⟨cu, hcu⟩ : ∃ x, x = (p.f (k : Int)).cu := ⟨_, rfl⟩
      obtain ⟨am, ham⟩ : ∃ x, x = (p.f (k : Int)).am := ⟨_, rfl⟩
      obtain ⟨cc, hcc⟩ : ∃ x, x = (acc p.l).c (k : Int) := ⟨_, rfl⟩
      obtain ⟨aa, haa⟩ : ∃ x, x = (acc p.l).a (k : Int) := ⟨_, rfl⟩
      obtain ⟨ww, hww⟩ : ∃ x, x = (acc p.l).w (k : Int) := ⟨_, rfl⟩
      unfold Link at LK
      rw [← hst, ← hcu, ← ham] at EN
      rw [← hst, ← hcu, ← ham, ← hcc, ← haa, ← hww] at LK
      have i1 : (k : Int) ≤ 200 := by omega
      have i2 : (0 : Int) ≤ (k : Int) := by omega
      have i3 : (k : Int) < 201 := by omega
      replace hst := Lib.hid hst
      replace hcu := Lib.hid hcu
      replace ham := Lib.hid ham
      replace Y := Lib.hid Y
      replace LK := Lib.hid LK
      clear hbd
      go_wp2_with fail
      refine EN.mono ?_
      rintro e w6 ⟨rfl, b6⟩
      obtain ⟨W7, hW7⟩ : ∃ x, x = w6.alloc (.cells #[.int .i64 st, .int .i64 0, .int .i64 0, .int .i64 cu, .int .i64 am] 49) := ⟨_, rfl⟩
      have b7 : Below wr.heap.size wr W7 := b6.trans (by rw [hW7]; exact (Below.refl _ _).alloc b6.size _)
      have G7 : W7.heap[w6.heap.size]? = some (.cells #[.int .i64 st, .int .i64 0, .int .i64 0, .int .i64 cu, .int .i64 am] 49 (0, 0)) := by rw [hW7]; exact heap_alloc_new _ _
      have e0 : W7.cell? ⟨w6.heap.size, 0, none⟩ = some (.int .i64 st) := one_at (i := 0) G7
      have e3 : W7.cell? ⟨w6.heap.size, 3, none⟩ = some (.int .i64 cu) := one_at (i := 3) G7
      have e4 : W7.cell? ⟨w6.heap.size, 4, none⟩ = some (.int .i64 am) := one_at (i := 4) G7
      have Y7 := Y.out.below b7
      have s1 := Y7.sc.at_ k (by omega)
      have s2 := Y7.sa.at_ k (by omega)
      have s3 := Y7.sw.at_ k (by omega)
      rw [← hcc] at s1
      rw [← haa] at s2
      rw [← hww] at s3
      replace hW7 := Lib.hid hW7
      have NX : Hid (∀ m, EnAt w2.heap.size X w2 q p cb ab wb v (.int .i64 ((k + 1 : Nat) : Int)) (W7.drewN m)) := fun m => ⟨k + 1, rfl, by omega, by omega, Y7.below ⟨rfl, rfl, rfl, Nat.le_refl _, fun _ _ => rfl⟩⟩
      clear EN b6 b7 G7 Y7 Y hcc haa hww
      go_upto_region 36 with fail
      rw [← hW7.out]
      clear hW7
      rcases LK.out with ⟨h1, h2⟩ | ⟨h1, h2⟩ | ⟨h1, h2, h3, h4⟩ | ⟨h1, h2, h3, h4⟩
      · subst h1 h2
        clear LK
        go_upto_region 41 with fail
        go_quiet (fail)
        have nx := Lib.hid (NX.out nq)
        clear NX
        go_wp2
        exact ⟨nx.out, by simp [intOf]; omega⟩
      · have n4 : (st == 4) = false := by simp [h1]
        have n5 : (st == 5) = false := by simp [h1]
        rcases h2 with h2 | h2
        · subst h2
          clear LK h1
          go_upto_region 41 with fail
          go_quiet (fail)
          have nx := Lib.hid (NX.out nq)
          clear NX
          go_wp2
          exact ⟨nx.out, by simp [intOf]; omega⟩
        · subst h2
          clear LK h1
          go_upto_region 41 with fail
          go_quiet (fail)
          have nx := Lib.hid (NX.out nq)
          clear NX
          go_wp2
          exact ⟨nx.out, by simp [intOf]; omega⟩
      · subst h1 h2 h3 h4
        clear LK
        go_upto_region 41 with fail
        go_quiet (fail)
        have nx := Lib.hid (NX.out nq)
        clear NX
        go_wp2
        exact ⟨nx.out, by simp [intOf]; omega⟩
      · subst h1 h2 h3 h4
        clear LK
        go_upto_region 41 with fail
        go_quiet (fail)
        have nx := Lib.hid (NX.out nq)
        clear NX
        go_wp2
        exact ⟨nx.out, by simp [intOf]; omega⟩
    · have i1 : ¬ (k : Int) ≤ 200 := by omega
      have TA := Lib.hid (told_any wr)
      have BE := Lib.hid (B0.out.trans (Y.ow.be.mono B0.out.size))
      have BS := Lib.hid (Nat.le_trans B0.out.size Y.ow.bs)
      clear Y
      go_wp2_with fail
      refine TA.out.mono ?_
      rintro e w8 ⟨rfl, b8⟩
      have E : Hid (Below w.heap.size w w8) := BE.out.trans (b8.mono BS.out)
      clear TA b8
      go_wp2
      go_ret
      exact ⟨rfl, E.out⟩


end Go.Proofs.Ytmjbphepdjdlkaa.purseBooks
