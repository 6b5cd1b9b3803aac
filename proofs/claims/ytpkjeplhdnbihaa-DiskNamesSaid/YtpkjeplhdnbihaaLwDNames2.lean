/- DiskNames, its middle part. -/
import Derived.Test.YtpkjeplhdnbihaaLwDNames2b
namespace Go.Proofs.Ytpkjeplhdnbihaa.diskNames
open Go.ChangeShapes Go.WideShapes Go.ChangeAt Go.WideElems Go.RowKit
open Go.Proofs.Ytpkjeplhdnbihaa.Pk Go.Proofs.Ytpkjeplhdnbihaa.Dk

set_option maxHeartbeats 6400000 in
set_option maxRecDepth 100000 in
theorem part2 (z0 z1 z2 z3 z4 z5 z6 z8 z9 z12 z13 z14 z15 z16 z17 z18 z19 z20 z21 z22 z23 z24 z25 z26 z27 z28 z29 z30 z31 z32 z33 z34 z35 z36 z37 z38 z39 z40 z41 z42 z43 z44 z45 z46 z47 z48 z49 z50 z51 z52 z53 z54 z55 z56 z57 z58 z59 z60 z61 z62 z63 z64 z65 z66 z67 z68 z69 z70 z71 z72 z73 z74 z75 z76 z77 z78 z79 z80 z81 z82 z83 z84 z85 z86 z87 z88 z89 z90 z91 z92 z93 z94 z95 z96 z97 z98 z99 z100 z101 z102 z103 z104 z105 z106 z107 z108 z109 z110 z111 z112 z113 z114 z115 z116 z117 z118 z119 z120 z121 z122 z123 z124 z125 z126 z127 z128 z129 z130 z131 z132 z133 z134 z135 z136 z137 z138 z139 z140 z141 z142 z143 z144 z145 z146 z147 z148 z149 z150 z151 z152 z153 z154 z155 z156 z157 z158 z159 z160 z161 z162 z163 z164 z165 z166 z167 z168 z169 z170 z171 z172 z173 z174 z175 z176 z177 z178 z179 z180 z181 z182 z183 z184 z185 z186 z187 z188 z189 z190 z191 z192 z193 z194 z195 z196 z197 z198 z199 z200 z201 z202 z203 z204 z205 z206 z207 z208 z209 z210 z211 z212 z213 z214 z215 z216 z217 z218 z219 z220 z221 : Value) (w W0 : World) (p : Nat) (sx sy : ByteArray) (L L1 L2 L3 : Dk.St) (ax by_ : Bs) (TA : Hid (∀ w : World, Calls Try.prog 10 #[] w fun e w' => e = .returned (.bool true) ∧ Below w.heap.size w w'))
    (hF : Hid (NF L L1 L2 L3 (nm sx) (nm sy) ax by_)) (V0 : Hid (Live w W0 p 1000 L (fun _ => False))) (hLl : L.length ≤ 1000000)
    (hszx : Hid (sx.size ≤ maxLen)) (hszy : Hid (sy.size ≤ maxLen)) :
    Code.wp Try.prog rest14 (bodyPost Try.prog Try.f7 fun e w' => e = .returned (.bool true) ∧ Below w.heap.size w w') ⟨#[z0, z1, z2, z3, z4, z5, z6, .pointer (some ⟨p, 0, none⟩), z8, z9, .string sx, .string sy, z12, z13, z14, z15, z16, z17, z18, z19, z20, z21, z22, z23, z24, z25, z26, z27, z28, z29, z30, z31, z32, z33, z34, z35, z36, z37, z38, z39, z40, z41, z42, z43, z44, z45, z46, z47, z48, z49, z50, z51, z52, z53, z54, z55, z56, z57, z58, z59, z60, z61, z62, z63, z64, z65, z66, z67, z68, z69, z70, z71, z72, z73, z74, z75, z76, z77, z78, z79, z80, z81, z82, z83, z84, z85, z86, z87, z88, z89, z90, z91, z92, z93, z94, z95, z96, z97, z98, z99, z100, z101, z102, z103, z104, z105, z106, z107, z108, z109, z110, z111, z112, z113, z114, z115, z116, z117, z118, z119, z120, z121, z122, z123, z124, z125, z126, z127, z128, z129, z130, z131, z132, z133, z134, z135, z136, z137, z138, z139, z140, z141, z142, z143, z144, z145, z146, z147, z148, z149, z150, z151, z152, z153, z154, z155, z156, z157, z158, z159, z160, z161, z162, z163, z164, z165, z166, z167, z168, z169, z170, z171, z172, z173, z174, z175, z176, z177, z178, z179, z180, z181, z182, z183, z184, z185, z186, z187, z188, z189, z190, z191, z192, z193, z194, z195, z196, z197, z198, z199, z200, z201, z202, z203, z204, z205, z206, z207, z208, z209, z210, z211, z212, z213, z214, z215, z216, z217, z218, z219, z220, z221], []⟩ W0 := by
  conv => arg 2; whnf
  have C1 := l_sync V0.out sx hszx.out hLl
  rw [hF.out.e1] at C1
  replace C1 := Lib.hid C1
  clear V0 hLl
  go_wp2_with fail
  refine C1.out.mono ?_
  rintro e w2 ⟨rfl, V2⟩
  have V2a := V2.1.below (below_alloc w2 (.cells (u8s tl).toArray 5 (4, 5)))
  have C2 := l_append V2a sx _ 4 4 _ (rb_lit w2 tl (4, 5)) (fun g hg => by subst hg; simp) (by omega) hF.out.n1
  rw [hF.out.e2] at C2
  replace C2 := Lib.hid C2
  clear C1 V2 V2a
  have kc := fun (w : World) (C : Array Value) (n c : Nat) => Lib.run_convert_bytes_const (P := Try.prog) w 31 5 C n c Try.underlying31 Try.underlying5
  go_wp2_with fail
  clear kc
  refine C2.out.mono ?_
  rintro e w3 ⟨rfl, V3⟩
  have C3 := l_read V3.1 sx hszx.out
  rw [hF.out.e3] at C3
  replace C3 := Lib.hid C3
  replace V3 := Lib.hid V3.1
  clear C2
  go_wp2_with fail
  refine C3.out.mono ?_
  rintro e w4 (⟨h, _⟩ | ⟨bs, kk, v, h, rfl, ho, b4⟩)
  · cases h
  obtain ⟨rfl, rfl⟩ : ax ++ tl = bs ∧ ax.length = kk := by
    injection h with h
    injection h with h1 h2
    exact ⟨h1, h2⟩
  have el : (ax ++ tl).length = ax.length + 4 := by rw [List.length_append]; rfl
  rw [el] at ho
  obtain ⟨Ap, cp, rfl⟩ := own_form ho
  have V4 : Hid (Live w w4 p 1000 L2 (fun g => False ∨ (w3.heap.size ≤ g ∧ g < w4.heap.size))) := V3.out.more b4
  have P4 : Hid (Rb w4 (fun g => False ∨ (w3.heap.size ≤ g ∧ g < w4.heap.size)) Ap (ax.length + 4) (ax ++ tl)) := (Rb.of_own ho).keep (fun _ _ => rfl) (fun g hg => .inr ⟨hg.1, hg.2.lt⟩)
  have C4 := Lib.hid (l_names V4.out hF.out.n2)
  clear C3 V3 h ho b4 el
  obtain ⟨la, hla⟩ : ∃ z, z = ax.length := ⟨_, rfl⟩
  rw [← hla] at P4 ⊢
  replace hla := Lib.hid hla
  go_wp2_with fail
  refine C4.out.mono ?_
  rintro e w5 ⟨v, rfl, ho, b5⟩
  rw [List.length_map] at ho
  obtain ⟨A5, c5, rfl⟩ := own_form ho
  have V5 : Hid (Live w w5 p 1000 L2 _) := V4.out.below b5
  have P5 : Hid (Rb w5 (fun g => False ∨ (w3.heap.size ≤ g ∧ g < w4.heap.size)) Ap (la + 4) (ax ++ tl)) := P4.out.keep (fun g hg => b5.block g (V4.out.xs g hg)) (fun _ h => h)
  have C5 := Lib.hid (l_used V5.out)
  obtain ⟨n2, hn2⟩ : ∃ z, z = L2.length := ⟨_, rfl⟩
  obtain ⟨u2, hu2⟩ : ∃ z, z = used L2 := ⟨_, rfl⟩
  rw [← hu2] at C5
  rw [← hn2]
  replace hn2 := Lib.hid hn2
  replace hu2 := Lib.hid hu2
  clear C4 V4 P4 ho b5
  go_wp2_with fail
  refine C5.out.mono ?_
  rintro e w6 ⟨rfl, rfl⟩
  obtain ⟨kb, hkb⟩ := hF.out.e4
  have C6 := l_read V5.out sy hszy.out
  rw [hkb] at C6
  replace C6 := Lib.hid C6
  clear C5 hkb
  go_wp2_with fail
  refine C6.out.mono ?_
  rintro e w7 (⟨h, _⟩ | ⟨bs, kk, v, h, rfl, ho, b7⟩)
  · cases h
  obtain rfl : by_ = bs := by
    injection h with h
    injection h with h1 h2
  obtain ⟨lb, hlb⟩ : ∃ z, z = by_.length := ⟨_, rfl⟩
  rw [← hlb] at ho
  replace hlb := Lib.hid hlb
  obtain ⟨Ab, cb, rfl⟩ := own_form ho
  have V7 : Hid (Live w w7 p 1000 L2 _) := V5.out.below b7
  have P7 : Hid (Rb w7 (fun g => False ∨ (w3.heap.size ≤ g ∧ g < w4.heap.size)) Ap (la + 4) (ax ++ tl)) := P5.out.keep (fun g hg => b7.block g (V5.out.xs g hg)) (fun _ h => h)
  have C7 := l_rename V7.out sx sy hszx.out hF.out.n2
  rw [hF.out.e5] at C7
  replace C7 := Lib.hid C7
  clear C6 V5 P5 ho b7 h
  go_wp2_with fail
  refine C7.out.mono ?_
  rintro e w8 ⟨rfl, V8⟩
  rename_i K3 h3 K2 h2 K1 h1
  replace h3 := Lib.hid h3
  have P8 : Hid (Rb w8 (fun g => g < w8.heap.size) Ap (la + 4) (ax ++ tl)) := P7.out.keep (fun g hg => V8.2.1 g hg) (fun g hg => V8.1.xs g hg)
  replace V8 := Lib.hid V8.1
  clear C7 V7 P7
  go_wp2
  exact h3.out _ _ (part2b _ _ _ _ _ _ _ _ _ _ _ _ _ _ _ _ _ _ _ _ _ _ _ _ _ _ _ _ _ _ _ _ _ _ _ _ _ _ _ _ _ _ _ _ _ _ _ _ _ _ _ _ _ _ _ _ _ _ _ _ _ _ _ _ _ _ _ _ _ _ _ _ _ _ _ _ _ _ _ _ _ _ _ _ _ _ _ _ _ _ _ _ _ _ _ _ _ _ _ _ _ _ _ _ _ _ _ _ _ _ _ _ _ _ _ _ _ _ _ _ _ _ _ _ _ _ _ _ _ _ _ _ _ _ _ _ _ _ _ _ _ _ _ _ _ _ _ _ _ _ _ _ _ _ _ _ _ _ _ _ _ _ _ _ _ _ _ _ _ _ _ _ _ _ _ _ _ _ _ _ _ _ _ _ _ _ _ _ _ _ _ _ _ _ _ _ _ _ _ _ _ _ _ _ _ _ _ _ _ _ _ _ _ _ _ w w8 p la lb n2 u2 cp cb Ap Ab sx sy L L1 L2 L3 ax by_ _ TA hF V8 P8 hszx hszy hla hlb hn2 hu2)

end Go.Proofs.Ytpkjeplhdnbihaa.diskNames
