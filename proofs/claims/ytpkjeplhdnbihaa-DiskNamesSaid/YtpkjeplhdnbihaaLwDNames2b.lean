/- DiskNames, ahead of its second loop. -/
import Derived.Test.YtpkjeplhdnbihaaLwDNames2c
namespace Go.Proofs.Ytpkjeplhdnbihaa.diskNames
open Go.ChangeShapes Go.WideShapes Go.ChangeAt Go.WideElems Go.RowKit
open Go.Proofs.Ytpkjeplhdnbihaa.Pk Go.Proofs.Ytpkjeplhdnbihaa.Dk

set_option maxHeartbeats 6400000 in
set_option maxRecDepth 100000 in
theorem part2b (z0 z1 z2 z3 z4 z5 z6 z8 z9 z13 z17 z18 z19 z20 z21 z22 z23 z24 z25 z26 z27 z28 z29 z30 z31 z32 z33 z34 z35 z36 z37 z38 z39 z40 z41 z42 z43 z44 z45 z46 z47 z48 z49 z50 z51 z52 z53 z54 z55 z56 z57 z58 z59 z60 z61 z62 z63 z64 z65 z66 z67 z68 z69 z70 z71 z72 z73 z74 z75 z76 z77 z78 z79 z80 z81 z82 z83 z84 z85 z86 z87 z88 z89 z90 z91 z92 z93 z94 z95 z96 z97 z98 z99 z100 z101 z102 z103 z104 z105 z106 z107 z108 z109 z110 z111 z112 z113 z114 z115 z116 z117 z118 z119 z120 z121 z122 z123 z124 z125 z126 z127 z128 z129 z130 z131 z132 z133 z134 z135 z136 z137 z138 z139 z140 z141 z142 z143 z144 z145 z146 z147 z148 z149 z150 z151 z152 z153 z154 z155 z156 z157 z158 z159 z160 z161 z162 z163 z164 z165 z166 z167 z168 z169 z170 z171 z172 z173 z174 z175 z176 z177 z178 z179 z180 z181 z182 z183 z184 z185 z186 z187 z188 z189 z190 z191 z192 z193 z194 z195 z196 z197 z198 z199 z200 z201 z202 z203 z204 z205 z206 z207 z208 z209 z210 z211 z212 z213 z214 z215 z216 z217 z218 z219 z220 z221 : Value) (w w8 : World) (p la lb n2 u2 cp cb : Nat) (Ap Ab : Option Addr) (sx sy : ByteArray) (L L1 L2 L3 : Dk.St) (ax by_ : Bs) (X : Nat → Prop) (TA : Hid (∀ w : World, Calls Try.prog 10 #[] w fun e w' => e = .returned (.bool true) ∧ Below w.heap.size w w'))
    (hF : Hid (NF L L1 L2 L3 (nm sx) (nm sy) ax by_)) (V8 : Hid (Live w w8 p 1000 L3 X)) (P8 : Hid (Rb w8 (fun g => g < w8.heap.size) Ap (la + 4) (ax ++ tl)))
    (hszx : Hid (sx.size ≤ maxLen)) (hszy : Hid (sy.size ≤ maxLen)) (hla : Hid (la = ax.length)) (hlb : Hid (lb = by_.length)) (hn2 : Hid (n2 = L2.length)) (hu2 : Hid (u2 = used L2)) :
    Code.wp Try.prog rest21 (bodyPost Try.prog Try.f7 fun e w' => e = .returned (.bool true) ∧ Below w.heap.size w w') ⟨#[z0, z1, z2, z3, z4, z5, z6, .pointer (some ⟨p, 0, none⟩), z8, z9, .string sx, .string sy, .slice Ap (la + 4) cp, z13, .int .i64 (n2 : Nat), .int .i64 (u2 : Nat), .slice Ab lb cb, z17, z18, z19, z20, z21, z22, z23, z24, z25, z26, z27, z28, z29, z30, z31, z32, z33, z34, z35, z36, z37, z38, z39, z40, z41, z42, z43, z44, z45, z46, z47, z48, z49, z50, z51, z52, z53, z54, z55, z56, z57, z58, z59, z60, z61, z62, z63, z64, z65, z66, z67, z68, z69, z70, z71, z72, z73, z74, z75, z76, z77, z78, z79, z80, z81, z82, z83, z84, z85, z86, z87, z88, z89, z90, z91, z92, z93, z94, z95, z96, z97, z98, z99, z100, z101, z102, z103, z104, z105, z106, z107, z108, z109, z110, z111, z112, z113, z114, z115, z116, z117, z118, z119, z120, z121, z122, z123, z124, z125, z126, z127, z128, z129, z130, z131, z132, z133, z134, z135, z136, z137, z138, z139, z140, z141, z142, z143, z144, z145, z146, z147, z148, z149, z150, z151, z152, z153, z154, z155, z156, z157, z158, z159, z160, z161, z162, z163, z164, z165, z166, z167, z168, z169, z170, z171, z172, z173, z174, z175, z176, z177, z178, z179, z180, z181, z182, z183, z184, z185, z186, z187, z188, z189, z190, z191, z192, z193, z194, z195, z196, z197, z198, z199, z200, z201, z202, z203, z204, z205, z206, z207, z208, z209, z210, z211, z212, z213, z214, z215, z216, z217, z218, z219, z220, z221], []⟩ w8 := by
  conv => arg 2; whnf
  have C8 := l_read V8.out sy hszy.out
  rw [hF.out.e6] at C8
  replace C8 := Lib.hid C8
  skip
  go_wp2_with fail
  refine C8.out.mono ?_
  rintro e w9 (⟨h, _⟩ | ⟨bs, kk, v, h, rfl, ho, b9⟩)
  · cases h
  obtain ⟨rfl, rfl⟩ : ax ++ tl = bs ∧ ax.length = kk := by
    injection h with h
    injection h with h1 h2
    exact ⟨h1, h2⟩
  have el : (ax ++ tl).length = la + 4 := by rw [List.length_append, hla.out]; rfl
  rw [el] at ho
  obtain ⟨Az, cz, rfl⟩ := own_form ho
  have V9 : Hid (Live w w9 p 1000 L3 _) := V8.out.below b9
  have P9 : Hid (Rb w9 (fun g => g < w9.heap.size) Ap (la + 4) (ax ++ tl)) := rb_below P8.out b9
  have Z9 : Hid (Rb w9 (fun g => g < w9.heap.size) Az (la + 4) (ax ++ tl)) := rb_own ho
  have C9 := Lib.hid (l_names V9.out hF.out.n3)
  clear C8 V8 P8 h ho b9
  go_wp2_with fail
  refine C9.out.mono ?_
  rintro e wa ⟨v, rfl, ho, ba⟩
  rename_i K2 h2 K1 h1
  replace h2 := Lib.hid h2
  rw [List.length_map] at ho
  obtain ⟨Am, cm, rfl⟩ := own_form ho
  obtain ⟨n3, hn3⟩ : ∃ z, z = L3.length := ⟨_, rfl⟩
  rw [← hn3] at ho ⊢
  have Va : Hid (Live w wa p 1000 L3 _) := V9.out.below ba
  have Pa : Hid (Rb wa (fun g => g < wa.heap.size) Ap (la + 4) (ax ++ tl)) := rb_below P9.out ba
  have Za : Hid (Rb wa (fun g => g < wa.heap.size) Az (la + 4) (ax ++ tl)) := rb_below Z9.out ba
  replace ho := Lib.hid ho
  replace hn3 := Lib.hid hn3
  replace el := Lib.hid el
  clear C9 V9 P9 Z9 ba
  go_wp2
  exact h2.out _ _ (part2c _ _ _ _ _ _ _ _ _ _ _ _ _ _ _ _ _ _ _ _ _ _ _ _ _ _ _ _ _ _ _ _ _ _ _ _ _ _ _ _ _ _ _ _ _ _ _ _ _ _ _ _ _ _ _ _ _ _ _ _ _ _ _ _ _ _ _ _ _ _ _ _ _ _ _ _ _ _ _ _ _ _ _ _ _ _ _ _ _ _ _ _ _ _ _ _ _ _ _ _ _ _ _ _ _ _ _ _ _ _ _ _ _ _ _ _ _ _ _ _ _ _ _ _ _ _ _ _ _ _ _ _ _ _ _ _ _ _ _ _ _ _ _ _ _ _ _ _ _ _ _ _ _ _ _ _ _ _ _ _ _ _ _ _ _ _ _ _ _ _ _ _ _ _ _ _ _ _ _ _ _ _ _ _ _ _ _ _ _ _ _ _ _ _ _ _ _ _ _ _ _ _ _ _ _ _ _ _ _ _ _ _ w wa p la lb n2 n3 u2 cp cz cb cm Ap Az Ab Am sx sy L L1 L2 L3 ax by_ _ _ TA hF Va Pa Za ho hszx hszy hla hlb hn2 hn3 hu2)

end Go.Proofs.Ytpkjeplhdnbihaa.diskNames
