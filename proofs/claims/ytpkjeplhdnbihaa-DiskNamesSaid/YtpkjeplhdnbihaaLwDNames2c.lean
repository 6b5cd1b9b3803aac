/- DiskNames, its second loop. -/
import Derived.Test.YtpkjeplhdnbihaaLwDNames3
namespace Go.Proofs.Ytpkjeplhdnbihaa.diskNames
open Go.ChangeShapes Go.WideShapes Go.ChangeAt Go.WideElems Go.RowKit
open Go.Proofs.Ytpkjeplhdnbihaa.Pk Go.Proofs.Ytpkjeplhdnbihaa.Dk

def MAt (wa : World) (n : Nat) (i : Value) (wr : World) : Prop := ∃ k : Nat, i = .int .i64 (k : Nat) ∧ 1 ≤ k ∧ k ≤ n + 1 ∧ Below wa.heap.size wa wr
set_option maxHeartbeats 6400000 in
set_option maxRecDepth 100000 in
theorem part2c (z0 z1 z2 z3 z4 z5 z6 z8 z9 z13 z17 z21 z22 z23 z24 z25 z26 z27 z28 z29 z30 z31 z32 z33 z34 z35 z36 z37 z38 z39 z40 z41 z42 z43 z44 z45 z46 z47 z48 z49 z50 z51 z52 z53 z54 z55 z56 z57 z58 z59 z60 z61 z62 z63 z64 z65 z66 z67 z68 z69 z70 z71 z72 z73 z74 z75 z76 z77 z78 z79 z80 z81 z82 z83 z84 z85 z86 z87 z88 z89 z90 z91 z92 z93 z94 z95 z96 z97 z98 z99 z100 z101 z102 z103 z104 z105 z106 z107 z108 z109 z110 z111 z112 z113 z114 z115 z116 z117 z118 z119 z120 z121 z122 z123 z124 z125 z126 z127 z128 z129 z130 z131 z132 z133 z134 z135 z136 z137 z138 z139 z140 z141 z142 z143 z144 z145 z146 z147 z148 z149 z150 z151 z152 z153 z154 z155 z156 z157 z158 z159 z160 z161 z162 z163 z164 z165 z166 z167 z168 z169 z170 z171 z172 z173 z174 z175 z176 z177 z178 z179 z180 z181 z182 z183 z184 z185 z186 z187 z188 z189 z190 z191 z192 z193 z194 z195 z196 z197 z198 z199 z200 z201 z202 z203 z204 z205 z206 z207 z208 z209 z210 z211 z212 z213 z214 z215 z216 z217 z218 z219 z220 z221 : Value) (w wa : World) (p la lb n2 n3 u2 cp cz cb cm : Nat) (Ap Az Ab Am : Option Addr) (sx sy : ByteArray) (L L1 L2 L3 : Dk.St) (ax by_ : Bs) (X : Nat → Prop) (base : Nat) (TA : Hid (∀ w : World, Calls Try.prog 10 #[] w fun e w' => e = .returned (.bool true) ∧ Below w.heap.size w w'))
    (hF : Hid (NF L L1 L2 L3 (nm sx) (nm sy) ax by_)) (Va : Hid (Live w wa p 1000 L3 X)) (Pa : Hid (Rb wa (fun g => g < wa.heap.size) Ap (la + 4) (ax ++ tl))) (Za : Hid (Rb wa (fun g => g < wa.heap.size) Az (la + 4) (ax ++ tl)))
    (ho : Hid (wa.ownsRow base 9 1 (.slice Am n3 cm) n3 ((L3.map (·.1)).map Go.Proofs.encStr)))
    (hszx : Hid (sx.size ≤ maxLen)) (hszy : Hid (sy.size ≤ maxLen)) (hla : Hid (la = ax.length)) (hlb : Hid (lb = by_.length)) (hn2 : Hid (n2 = L2.length)) (hn3 : Hid (n3 = L3.length)) (hu2 : Hid (u2 = used L2)) :
    Code.wp Try.prog rest23 (bodyPost Try.prog Try.f7 fun e w' => e = .returned (.bool true) ∧ Below w.heap.size w w') ⟨#[z0, z1, z2, z3, z4, z5, z6, .pointer (some ⟨p, 0, none⟩), z8, z9, .string sx, .string sy, .slice Ap (la + 4) cp, z13, .int .i64 (n2 : Nat), .int .i64 (u2 : Nat), .slice Ab lb cb, z17, .slice Az (la + 4) cz, .int .i64 0, .slice Am n3 cm, z21, z22, z23, z24, z25, z26, z27, z28, z29, z30, z31, z32, z33, z34, z35, z36, z37, z38, z39, z40, z41, z42, z43, z44, z45, z46, z47, z48, z49, z50, z51, z52, z53, z54, z55, z56, z57, z58, z59, z60, z61, z62, z63, z64, z65, z66, z67, z68, z69, z70, z71, z72, z73, z74, z75, z76, z77, z78, z79, z80, z81, z82, z83, z84, z85, z86, z87, z88, z89, z90, z91, z92, z93, z94, z95, z96, z97, z98, z99, z100, z101, z102, z103, z104, z105, z106, z107, z108, z109, z110, z111, z112, z113, z114, z115, z116, z117, z118, z119, z120, z121, z122, z123, z124, z125, z126, z127, z128, z129, z130, z131, z132, z133, z134, z135, z136, z137, z138, z139, z140, z141, z142, z143, z144, z145, z146, z147, z148, z149, z150, z151, z152, z153, z154, z155, z156, z157, z158, z159, z160, z161, z162, z163, z164, z165, z166, z167, z168, z169, z170, z171, z172, z173, z174, z175, z176, z177, z178, z179, z180, z181, z182, z183, z184, z185, z186, z187, z188, z189, z190, z191, z192, z193, z194, z195, z196, z197, z198, z199, z200, z201, z202, z203, z204, z205, z206, z207, z208, z209, z210, z211, z212, z213, z214, z215, z216, z217, z218, z219, z220, z221], []⟩ wa := by
  conv => arg 2; whnf
  have st2 : Hid (MAt wa n3 (.int .i64 1) wa) := ⟨1, rfl, Nat.le_refl _, by omega, Below.refl _ _⟩
  go_wp2_with fail
  go_loopw [21] (fun i wr => MAt wa n3 i wr) (fun i _ => n3 + 1 - (intOf i).toNat)
  case atStart => exact st2.out
  case round =>
    obtain ⟨k2, rfl, hk1, hk2, hbr⟩ := hrel
    replace hbr := Lib.hid hbr
    by_cases hlt : k2 < n3
    · obtain ⟨km, hkm⟩ : ∃ z, z = k2 - 1 := ⟨_, rfl⟩
      obtain ⟨g, rfl, hgl, hcl⟩ : ∃ g, Am = some ⟨g, 0, none⟩ ∧ g < wa.heap.size ∧ ∀ (j : Nat) (q : Bs × Bs × Nat), L3[j]? = some q → wa.cell? ⟨g, j, none⟩ = some (.string (str q.1)) := by
        have ho' := ho.out
        rcases ho'.2 with ⟨_, hz⟩ | ⟨g, cap, cur, hv, hb1, hh, _⟩
        · omega
        · injection hv with hA _ _
          subst hA
          refine ⟨g, rfl, lt_some hh, fun j q hq => ?_⟩
          have := ho'.cells (g := g) rfl j (.string (str q.1)) (by rw [List.map_map, List.getElem?_map, hq]; rfl)
          simpa [Addr.add_lit] using this
      obtain ⟨qa, hqa⟩ : ∃ r, L3[km]? = some r := ⟨_, List.getElem?_eq_getElem (by have := hn3.out; omega)⟩
      obtain ⟨qb, hqb⟩ : ∃ r, L3[k2]? = some r := ⟨_, List.getElem?_eq_getElem (by have := hn3.out; omega)⟩
      have ca : wr.cell? ⟨g, km, none⟩ = some (.string (str qa.1)) := (World.cell?_of_block (hbr.out.block _ hgl)).trans (hcl km qa hqa)
      have cb : wr.cell? ⟨g, k2, none⟩ = some (.string (str qb.1)) := (World.cell?_of_block (hbr.out.block _ hgl)).trans (hcl k2 qb hqb)
      have hls : Op.bytesLess qa.1 qb.1 = true := by
        rw [less_bb]
        obtain ⟨ia, ea⟩ := List.getElem?_eq_some_iff.1 hqa
        obtain ⟨ib, eb⟩ := List.getElem?_eq_some_iff.1 hqb
        have := List.pairwise_iff_getElem.1 hF.out.e7 km k2 ia ib (by omega)
        rw [ea, eb] at this
        exact this
      have ta : (str qa.1).toList = qa.1 := str_toList _
      have tb : (str qb.1).toList = qb.1 := str_toList _
      have eK : IntKind.i64.wrap ((k2 : Int) - 1) = (km : Int) := by rw [IntKind.wrap_i64]; have := hF.out.n3; have := hn3.out; omega
      have j0 : wrap64 ((k2 : Int) + 1) = (k2 : Int) + 1 := by rw [IntWalk.wrap64_in _ (by have := hF.out.n3; have := hn3.out; omega)]
      have j5 : (n3 : Int) ≤ 1000000 := by have := hF.out.n3; have := hn3.out; omega
      have j1 : (km : Int) < (n3 : Int) := by omega
      have j2 : (k2 : Int) < (n3 : Int) := by omega
      have j3 : (0 : Int) ≤ (km : Int) := by omega
      have j4 : (0 : Int) ≤ (k2 : Int) := by omega
      have nx : Hid (∀ w', Below wr.heap.size wr w' → MAt wa n3 (.int .i64 ((k2 : Int) + 1)) w') := fun w' hb => ⟨k2 + 1, by simp, by omega, by omega, hbr.out.trans (hb.mono hbr.out.size)⟩
      generalize qa.1 = na at *
      generalize qb.1 = nb at *
      clear hqa hqb hcl hgl hkm
      go_wp2
      go_quiet (fail)
      go_wp2
      exact ⟨nx.out _ ⟨rfl, rfl, rfl, Nat.le_refl _, fun _ _ => rfl⟩, by simp [intOf]; omega⟩
    · have Vr : Hid (Live w wr p 1000 L3 _) := Va.out.below hbr.out
      have Pr : Rb wr (fun g => g < wr.heap.size) Ap (la + 4) (ax ++ tl) := rb_below Pa.out hbr.out
      have Zr : Rb wr (fun g => g < wr.heap.size) Az (la + 4) (ax ++ tl) := rb_below Za.out hbr.out
      have q9 : decide (k2 < n3) = false := decide_eq_false hlt
      replace Pr := Lib.hid Pr
      replace Zr := Lib.hid Zr
      clear Va Pa Za hbr st2 ho hlt hk1 hk2
      rename_i K1 h1
      replace h1 := Lib.hid h1
      go_wp2
      exact h1.out _ _ (part3 _ _ _ _ _ _ _ _ _ _ _ _ _ _ _ _ _ _ _ _ _ _ _ _ _ _ _ _ _ _ _ _ _ _ _ _ _ _ _ _ _ _ _ _ _ _ _ _ _ _ _ _ _ _ _ _ _ _ _ _ _ _ _ _ _ _ _ _ _ _ _ _ _ _ _ _ _ _ _ _ _ _ _ _ _ _ _ _ _ _ _ _ _ _ _ _ _ _ _ _ _ _ _ _ _ _ _ _ _ _ _ _ _ _ _ _ _ _ _ _ _ _ _ _ _ _ _ _ _ _ _ _ _ _ _ _ _ _ _ _ _ _ _ _ _ _ _ _ _ _ _ _ _ _ _ _ _ _ _ _ _ _ _ _ _ _ _ _ _ _ _ _ _ _ _ _ _ _ _ _ _ _ _ _ _ _ _ _ _ _ _ _ _ _ _ _ _ _ _ _ _ _ _ _ _ _ _ _ _ _ _ _ w wr p la lb n2 n3 u2 cp cz cb cm Ap Az Ab Am sx sy L L1 L2 L3 ax by_ _ TA hF Vr Pr.out Zr.out hszx hszy hla hlb hn2 hn3 hu2)

end Go.Proofs.Ytpkjeplhdnbihaa.diskNames
