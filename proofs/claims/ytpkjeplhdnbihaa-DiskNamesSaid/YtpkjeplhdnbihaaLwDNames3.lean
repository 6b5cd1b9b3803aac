/- DiskNames, its last part. -/
import Derived.Test.YtpkjeplhdnbihaaDkQ
namespace Go.Proofs.Ytpkjeplhdnbihaa.diskNames
open Go.ChangeShapes Go.WideShapes Go.ChangeAt Go.WideElems Go.RowKit
open Go.Proofs.Ytpkjeplhdnbihaa.Pk Go.Proofs.Ytpkjeplhdnbihaa.Dk

def headIs (k : Nat) : Code → Bool
  | .region id _ _ => id == k
  | .seq a _ => headIs k a
  | _ => false
def restAt (k : Nat) : Code → Option Code
  | .seq a b => if headIs k b then some b else match restAt k b with
    | some c => some c
    | none => restAt k a
  | .block _ c => restAt k c
  | .scope c => restAt k c
  | _ => none
noncomputable def rest14 : Code := (Try.f7.body.bind (restAt 14)).getD .skip
noncomputable def rest21 : Code := (Try.f7.body.bind (restAt 21)).getD .skip
noncomputable def rest23 : Code := (Try.f7.body.bind (restAt 23)).getD .skip
noncomputable def rest28 : Code := (Try.f7.body.bind (restAt 28)).getD .skip
set_option maxHeartbeats 6400000 in
set_option maxRecDepth 100000 in
theorem part3 (z0 z1 z2 z3 z4 z5 z6 z8 z9 z13 z17 z21 z22 z23 z24 z25 z26 z27 z28 z29 z30 z31 z32 z33 z34 z35 z36 z37 z38 z39 z40 z41 z42 z43 z44 z45 z46 z47 z48 z49 z50 z51 z52 z53 z54 z55 z56 z57 z58 z59 z60 z61 z62 z63 z64 z65 z66 z67 z68 z69 z70 z71 z72 z73 z74 z75 z76 z77 z78 z79 z80 z81 z82 z83 z84 z85 z86 z87 z88 z89 z90 z91 z92 z93 z94 z95 z96 z97 z98 z99 z100 z101 z102 z103 z104 z105 z106 z107 z108 z109 z110 z111 z112 z113 z114 z115 z116 z117 z118 z119 z120 z121 z122 z123 z124 z125 z126 z127 z128 z129 z130 z131 z132 z133 z134 z135 z136 z137 z138 z139 z140 z141 z142 z143 z144 z145 z146 z147 z148 z149 z150 z151 z152 z153 z154 z155 z156 z157 z158 z159 z160 z161 z162 z163 z164 z165 z166 z167 z168 z169 z170 z171 z172 z173 z174 z175 z176 z177 z178 z179 z180 z181 z182 z183 z184 z185 z186 z187 z188 z189 z190 z191 z192 z193 z194 z195 z196 z197 z198 z199 z200 z201 z202 z203 z204 z205 z206 z207 z208 z209 z210 z211 z212 z213 z214 z215 z216 z217 z218 z219 z220 z221 : Value) (w wr : World) (p la lb n2 n3 u2 cp cz cb cm : Nat) (Ap Az Ab Am : Option Addr) (sx sy : ByteArray) (L L1 L2 L3 : Dk.St) (ax by_ : Bs) (X : Nat → Prop) (TA : Hid (∀ w : World, Calls Try.prog 10 #[] w fun e w' => e = .returned (.bool true) ∧ Below w.heap.size w w'))
    (hF : Hid (NF L L1 L2 L3 (nm sx) (nm sy) ax by_)) (Vr : Hid (Live w wr p 1000 L3 X)) (Pr : Rb wr (fun g => g < wr.heap.size) Ap (la + 4) (ax ++ tl)) (Zr : Rb wr (fun g => g < wr.heap.size) Az (la + 4) (ax ++ tl))
    (hszx : Hid (sx.size ≤ maxLen)) (hszy : Hid (sy.size ≤ maxLen)) (hla : Hid (la = ax.length)) (hlb : Hid (lb = by_.length)) (hn2 : Hid (n2 = L2.length)) (hn3 : Hid (n3 = L3.length)) (hu2 : Hid (u2 = used L2)) :
    Code.wp Try.prog rest28 (bodyPost Try.prog Try.f7 fun e w' => e = .returned (.bool true) ∧ Below w.heap.size w w') ⟨#[z0, z1, z2, z3, z4, z5, z6, .pointer (some ⟨p, 0, none⟩), z8, z9, .string sx, .string sy, .slice Ap (la + 4) cp, z13, .int .i64 (n2 : Nat), .int .i64 (u2 : Nat), .slice Ab lb cb, z17, .slice Az (la + 4) cz, .int .i64 0, .slice Am n3 cm, z21, z22, z23, z24, z25, z26, z27, z28, z29, z30, z31, z32, z33, z34, z35, z36, z37, z38, z39, z40, z41, z42, z43, z44, z45, z46, z47, z48, z49, z50, z51, z52, z53, z54, z55, z56, z57, z58, z59, z60, z61, z62, z63, z64, z65, z66, z67, z68, z69, z70, z71, z72, z73, z74, z75, z76, z77, z78, z79, z80, z81, z82, z83, z84, z85, z86, z87, z88, z89, z90, z91, z92, z93, z94, z95, z96, z97, z98, z99, z100, z101, z102, z103, z104, z105, z106, z107, z108, z109, z110, z111, z112, z113, z114, z115, z116, z117, z118, z119, z120, z121, z122, z123, z124, z125, z126, z127, z128, z129, z130, z131, z132, z133, z134, z135, z136, z137, z138, z139, z140, z141, z142, z143, z144, z145, z146, z147, z148, z149, z150, z151, z152, z153, z154, z155, z156, z157, z158, z159, z160, z161, z162, z163, z164, z165, z166, z167, z168, z169, z170, z171, z172, z173, z174, z175, z176, z177, z178, z179, z180, z181, z182, z183, z184, z185, z186, z187, z188, z189, z190, z191, z192, z193, z194, z195, z196, z197, z198, z199, z200, z201, z202, z203, z204, z205, z206, z207, z208, z209, z210, z211, z212, z213, z214, z215, z216, z217, z218, z219, z220, z221], []⟩ wr := by
  have t1 := str_run (c := cp) Pr
  have t2 := str_run (c := cz) Zr
  have C10 := l_synced Vr.out sy hszy.out
  rw [hF.out.e6] at C10
  simp only [Option.elim] at C10
  rw [← hla.out] at C10
  replace C10 := Lib.hid C10
  have w1' : wrap64 ((la : Int) + 4 - 4) = (la : Int) := by rw [IntWalk.wrap64_in _ (by have := hF.out.small.1; have := hla.out; omega)]; omega
  have w2' : wrap64 (la : Int) = (la : Int) := by rw [IntWalk.wrap64_in _ (by have := hF.out.small.1; have := hla.out; omega)]
  clear Pr Zr
  conv => arg 2; whnf
  generalize ax ++ tl = xs at *
  go_wp2_with fail
  refine C10.out.mono ?_
  rintro e wb ⟨rfl, bb⟩
  have Vb : Hid (Live w wb p 1000 L3 _) := Vr.out.below bb
  clear C10 Vr t1 t2 bb
  by_cases hxy : nm sx = nm sy
  · obtain ⟨f1, f2⟩ := hF.out.eq hxy
    have qx : (sx.toList == sy.toList) = true := by rw [nm_toList, nm_toList, hxy]; simp
    obtain rfl : n3 = n2 := by rw [hn3.out, hn2.out, f1]
    clear hxy
    go_wp2_with fail
    refine (TA.out _).mono ?_
    rintro e wc ⟨rfl, bc⟩
    have Vc : Hid (Live w wc p 1000 L3 _) := Vb.out.below bc
    have C11 := l_used Vc.out
    rw [f2, ← hu2.out] at C11
    replace C11 := Lib.hid C11
    clear f1 f2 bc Vb TA
    go_wp2_with fail
    refine C11.out.mono ?_
    rintro e wd ⟨rfl, rfl⟩
    have be : Hid (Below w.heap.size w wc) := Vc.out.be
    clear C11 Vc
    go_wp2
    go_ret
    exact ⟨rfl, be.out⟩
  · obtain ⟨f1, f2, f3, f4, f5⟩ := hF.out.ne hxy
    have qx : (sx.toList == sy.toList) = false := by rw [nm_toList, nm_toList]; simpa using hxy
    obtain ⟨u3, hu3⟩ : ∃ z, z = used L3 := ⟨_, rfl⟩
    have g1 : wrap64 ((n2 : Int) - 1) = (n3 : Int) := by rw [IntWalk.wrap64_in _ (by have := hF.out.n2; have := hn2.out; omega)]; have := hn3.out; have := hn2.out; omega
    have g2 : wrap64 ((u2 : Int) - (lb : Int)) = (u3 : Int) := by
      obtain ⟨m1, m2, m3, m4, m5⟩ := hF.out.small
      have := hu2.out
      have := hlb.out
      rw [IntWalk.wrap64_in _ (by omega)]
      omega
    replace f4 := Lib.hid f4
    replace f5 := Lib.hid f5
    replace hu3 := Lib.hid hu3
    have C11 := l_read Vb.out sx hszx.out
    rw [f1] at C11
    replace C11 := Lib.hid C11
    clear f1 f2 f3 hxy
    go_wp2_with fail
    refine C11.out.mono ?_
    intro e wc h6
    obtain ⟨rfl, bc⟩ : e = .returned (.tuple #[.slice none 0 0, .int .i64 5]) ∧ Below wb.heap.size wb wc := by
      rcases h6 with ⟨_, h1, h2⟩ | ⟨bs, k, v, h, _⟩
      · exact ⟨h1, h2⟩
      · cases h
    have Vc : Hid (Live w wc p 1000 L3 _) := Vb.out.below bc
    clear C11 Vb h6 bc
    go_wp2_with fail
    refine (TA.out _).mono ?_
    rintro e wd ⟨rfl, bd⟩
    have Vd : Hid (Live w wd p 1000 L3 _) := Vc.out.below bd
    have C12 := l_used Vd.out
    rw [← hu3.out] at C12
    replace C12 := Lib.hid C12
    clear Vc bd TA
    go_wp2_with fail
    refine C12.out.mono ?_
    rintro e we ⟨rfl, rfl⟩
    have C13 := l_rename Vd.out sx sy hszx.out hF.out.n3
    rw [f4.out] at C13
    replace C13 := Lib.hid C13
    clear C12 Vd
    go_wp2_with fail
    refine C13.out.mono ?_
    rintro e wf ⟨rfl, Vf⟩
    have C14 := l_rename Vf.1 sy ⟨#[]⟩ hszy.out hF.out.n3
    rw [show nm ⟨#[]⟩ = [] from rfl, f5.out] at C14
    replace C14 := Lib.hid C14
    clear C13 Vf
    go_wp2_with fail
    refine C14.out.mono ?_
    rintro e wg ⟨rfl, Vg⟩
    have be : Hid (Below w.heap.size w wg) := Vg.1.be
    clear C14 Vg
    go_wp2
    go_ret
    exact ⟨rfl, be.out⟩

end Go.Proofs.Ytpkjeplhdnbihaa.diskNames
