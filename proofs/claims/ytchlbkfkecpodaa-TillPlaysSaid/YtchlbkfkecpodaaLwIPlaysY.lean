/- Proved: what a purse answers is what the document says (TillPlays), for any funds, any operations. -/
import Derived.Test.YtchlbkfkecpodaaPuT
import Derived.Test.YtchlbkfkecpodaaTiY
import Derived.Test.YtchlbkfkecpodaaDiY
import Derived.Test.YtchlbkfkecpodaaPoY
import Derived.JoinedRecord
import Derived.HandedShaped
namespace Go.Proofs.Ytchlbkfkecpodaa
set_option maxRecDepth 100000
open Go.RowKit
open Go.Sort (grow)
namespace Ti
open Pu (tillQ tillQ_normal wp_region_till)
/-- The region of that number. -/
def tregionAt (k : Nat) : Code → Option Code
  | .region id ops d => if id == k then some (.region id ops d) else none
  | .seq a b => (tregionAt k a).orElse fun _ => tregionAt k b
  | .cond _ a b => (tregionAt k a).orElse fun _ => tregionAt k b
  | .block _ c => tregionAt k c
  | .loop c => tregionAt k c
  | .scope c => tregionAt k c
  | _ => none
noncomputable def tp_15 : Code := (Try.f9.body.bind (tregionAt 15)).getD .skip
set_option maxHeartbeats 12800000 in
theorem tp15 (z0 z1 z2 z3 z4 z6 z8 z9 z10 z11 z12 z14 z15 z16 z17 z18 z19 z20 z21 z22 z23 z24 z25 z26 z27 z28 z29 z30 z31 z32 z33 z34 z35 z36 z37 z38 z39 z40 z41 z42 z43 z44 z45 z46 z47 z48 z49 z50 z51 z52 z53 z54 z55 z56 z57 z58 z59 z60 z61 z62 z63 z64 z65 z66 z67 z68 z69 z70 z71 z72 z73 z74 z75 z76 z77 z78 z79 z80 z81 z82 z83 z84 z85 z86 z87 z88 z89 z90 z91 z92 z93 z94 z95 z96 z97 z98 z99 z100 z101 z102 z103 z104 z105 z106 z107 z108 z109 z110 z111 z112 z113 z114 z115 z116 z117 z118 z119 z120 z121 z122 z123 z124 z125 z126 z127 z128 z129 z130 z131 z132 z133 z134 : Value) (W : World) (q d q2 m cl : Nat) (Al : Option Addr) (bs bp : ByteArray)
    (F5 : Hid (∀ w', Below W.heap.size W w' → Calls Try.prog 53 #[.pointer (some ⟨q, 0, none⟩)] w' fun e w'' => ∃ A n c, e = .returned (.slice A n c) ∧ (∀ w3, Below w''.heap.size w'' w3 → (convert 34 9 (.slice A n c)).run Try.prog w3 = .ok (.string bs) w3) ∧ Below W.heap.size W w''))
    (F6 : Hid (∀ w', Below W.heap.size W w' → Calls Try.prog 54 #[.pointer (some ⟨d, 0, none⟩)] w' fun e w'' => e = .returned (.string bs) ∧ Below W.heap.size W w'' ∧ Below w'.heap.size w' w''))
    (F7 : Hid (∀ w', Below W.heap.size W w' → Calls Try.prog 39 #[.pointer (some ⟨q2, 0, none⟩)] w' fun e w'' => ∃ A n c, e = .returned (.slice A n c) ∧ (∀ w3, Below w''.heap.size w'' w3 → (convert 34 9 (.slice A n c)).run Try.prog w3 = .ok (.string bp) w3) ∧ Below W.heap.size W w''))
    (F8 : Hid (∀ w', Below W.heap.size W w' → Calls Try.prog 55 #[.pointer (some ⟨d, 0, none⟩)] w' fun e w'' => e = .returned (.string bp) ∧ Below W.heap.size W w'' ∧ Below w'.heap.size w' w''))
    (F9 : Hid (∀ w', Below W.heap.size W w' → Calls Try.prog 38 #[.pointer (some ⟨q2, 0, none⟩)] w' fun e w'' => (∃ A c, e = .returned (.slice A m c)) ∧ Below W.heap.size W w''))
    (FC : Hid (∀ w', Below W.heap.size W w' → w'.cell? ⟨d, 1011, none⟩ = some (.slice Al m cl)))
    (Q : Exit → Act → World → Prop)
    (hP : ∀ c a d v w, Q (.panic c) (Act.put a d v) w → Q (.panic c) a w)
    (hQ : ∀ (y91 y92 y93 y94 y95 y96 y97 y98 y99 y100 y101 y102 y103 y104 y105 y106 y107 y108 y109 y110 y111 y112 y113 y114 y115 y116 y117 y118 y119 y120 y121 : Value) (W3 : World), Below W.heap.size W W3 → Q .normal ⟨#[z0, z1, z2, z3, z4, .pointer (some ⟨q, 0, none⟩), z6, .pointer (some ⟨d, 0, none⟩), z8, z9, z10, z11, z12, .pointer (some ⟨q2, 0, none⟩), z14, z15, z16, z17, z18, z19, z20, z21, z22, z23, z24, z25, z26, z27, z28, z29, z30, z31, z32, z33, z34, z35, z36, z37, z38, z39, z40, z41, z42, z43, z44, z45, z46, z47, z48, z49, z50, z51, z52, z53, z54, z55, z56, z57, z58, z59, z60, z61, z62, z63, z64, z65, z66, z67, z68, z69, z70, z71, z72, z73, z74, z75, z76, z77, z78, z79, z80, z81, z82, z83, z84, z85, z86, z87, z88, z89, z90, y91, y92, y93, y94, y95, y96, y97, y98, y99, y100, y101, y102, y103, y104, y105, y106, y107, y108, y109, y110, y111, y112, y113, y114, y115, y116, y117, y118, y119, y120, y121, .bool false, z123, z124, z125, z126, z127, z128, z129, z130, z131, z132, z133, z134], []⟩ W3) :
    Code.wp Try.prog tp_15 Q ⟨#[z0, z1, z2, z3, z4, .pointer (some ⟨q, 0, none⟩), z6, .pointer (some ⟨d, 0, none⟩), z8, z9, z10, z11, z12, .pointer (some ⟨q2, 0, none⟩), z14, z15, z16, z17, z18, z19, z20, z21, z22, z23, z24, z25, z26, z27, z28, z29, z30, z31, z32, z33, z34, z35, z36, z37, z38, z39, z40, z41, z42, z43, z44, z45, z46, z47, z48, z49, z50, z51, z52, z53, z54, z55, z56, z57, z58, z59, z60, z61, z62, z63, z64, z65, z66, z67, z68, z69, z70, z71, z72, z73, z74, z75, z76, z77, z78, z79, z80, z81, z82, z83, z84, z85, z86, z87, z88, z89, z90, z91, z92, z93, z94, z95, z96, z97, z98, z99, z100, z101, z102, z103, z104, z105, z106, z107, z108, z109, z110, z111, z112, z113, z114, z115, z116, z117, z118, z119, z120, z121, z122, z123, z124, z125, z126, z127, z128, z129, z130, z131, z132, z133, z134], []⟩ W := by
  conv => arg 2; whnf
  refine wp_region_till (S := fun _ => True) 31 (by kernel_rfl) (by kernel_rfl) ?_
  have b0 : Below W.heap.size W W.drew := ⟨rfl, rfl, rfl, Nat.le_refl _, fun _ _ => rfl⟩
  have hHeld := True.intro
  replace hQ := Lib.hid hQ
  have G5 := Lib.hid (F5.out _ b0)
  clear F5 b0
  refine' wpAnyH_take (i := 0) (oi := ?o1) (v := ?v1) ?hi1 (by kernel_rfl) (by kernel_rfl) (by kernel_rfl) (fun c a w h => hP c a _ _ w h) (Or.inl ⟨?hw1, ?hy1⟩) hHeld ?rest1
  case hi1 => simp only [List.getElem?_toArray, List.getElem?_cons_zero]; rfl
  case hw1 => rfl
  case hy1 =>
    intro w _
    go_simp
    try with_reducible rfl
  simp only [Act.put, List.setIfInBounds_toArray, List.set_cons_zero, List.set_cons_succ]
  refine' wpAnyH_take (i := 1) (oi := ?o2) (v := ?v2) ?hi2 (by kernel_rfl) (by kernel_rfl) (by kernel_rfl) (fun c a w h => hP c a _ _ w h) (Or.inl ⟨?hw2, ?hy2⟩) hHeld ?rest2
  case hi2 => simp only [List.getElem?_toArray, List.getElem?_cons_succ, List.getElem?_cons_zero]; rfl
  case hw2 => rfl
  case hy2 =>
    intro w _
    go_simp
    try with_reducible rfl
  simp only [Act.put, List.setIfInBounds_toArray, List.set_cons_zero, List.set_cons_succ]
  refine' wpAnyH_take (i := 2) (oi := ?o3) (v := ?v3) ?hi3 (by kernel_rfl) (by kernel_rfl) (by kernel_rfl) (fun c a w h => hP c a _ _ w h) (Or.inl ⟨?hw3, ?hy3⟩) hHeld ?rest3
  case hi3 => simp only [List.getElem?_toArray, List.getElem?_cons_succ, List.getElem?_cons_zero]; rfl
  case hw3 => rfl
  case hy3 =>
    intro w _
    go_simp
    try with_reducible rfl
  simp only [Act.put, List.setIfInBounds_toArray, List.set_cons_zero, List.set_cons_succ]
  refine' wpAnyH_take (i := 3) (oi := ?o4) (v := ?v4) ?hi4 (by kernel_rfl) (by kernel_rfl) (by kernel_rfl) (fun c a w h => hP c a _ _ w h) (Or.inl ⟨?hw4, ?hy4⟩) hHeld ?rest4
  case hi4 => simp only [List.getElem?_toArray, List.getElem?_cons_succ, List.getElem?_cons_zero]; rfl
  case hw4 => rfl
  case hy4 =>
    intro w _
    go_simp
    try with_reducible rfl
  simp only [Act.put, List.setIfInBounds_toArray, List.set_cons_zero, List.set_cons_succ]
  refine' wpAnyH_take (i := 6) (oi := ?o5) (v := ?v5) ?hi5 (by kernel_rfl) (by kernel_rfl) (by kernel_rfl) (fun c a w h => hP c a _ _ w h) (Or.inl ⟨?hw5, ?hy5⟩) hHeld ?rest5
  case hi5 => simp only [List.getElem?_toArray, List.getElem?_cons_succ, List.getElem?_cons_zero]; rfl
  case hw5 => rfl
  case hy5 =>
    intro w _
    go_simp
    try with_reducible rfl
  simp only [Act.put, List.setIfInBounds_toArray, List.set_cons_zero, List.set_cons_succ]
  refine wpAnyH_ready (rs := [4]) (by kernel_rfl) (by simp) ?_
  refine' AllReadyH.cons (i := 4) (o := ?o6) ?hi6 (fun K hK => ?st6) ?mo6
  case hi6 => simp only [List.getElem?_toArray, List.getElem?_cons_succ, List.getElem?_cons_zero]; rfl
  case st6 =>
    go_simp
    refine G5.out.mono ?_
    rintro e w6 ⟨A1, n1, c1, rfl, hcv, h6⟩
    have z6 := hcv _ (Below.refl _ _)
    replace hcv := Lib.hid hcv
    go_simp
    refine hK.out _ _ trivial (fun hHeld => ?_)
    clear hK K
    try simp only [Act.put, List.setIfInBounds_toArray, List.set_cons_zero, List.set_cons_succ]
    refine wpAnyH_ready (rs := [5, 7]) (by kernel_rfl) (by simp) ?_
    refine' AllReadyH.cons (i := 5) (o := ?o7) ?hi7 (fun K hK => ?st7) ?mo7
    case hi7 => simp only [List.getElem?_toArray, List.getElem?_cons_succ, List.getElem?_cons_zero]; rfl
    case st7 =>
      go_simp
      refine hK.out _ _ trivial (fun hHeld => ?_)
      clear hK K
      try simp only [Act.put, List.setIfInBounds_toArray, List.set_cons_zero, List.set_cons_succ]
      clear z6
      refine wpAnyH_ready (rs := [7]) (by kernel_rfl) (by simp) ?_
      refine' AllReadyH.cons (i := 7) (o := ?o8) ?hi8 (fun K hK => ?st8) ?mo8
      case hi8 => simp only [List.getElem?_toArray, List.getElem?_cons_succ, List.getElem?_cons_zero]; rfl
      case st8 =>
        go_simp
        refine (F6.out _ h6).mono ?_
        rintro e w7 ⟨rfl, h6, h7⟩
        clear hcv h7
        go_simp
        refine hK.out _ _ trivial (fun hHeld => ?_)
        clear hK K
        try simp only [Act.put, List.setIfInBounds_toArray, List.set_cons_zero, List.set_cons_succ]
        refine' wpAnyH_take (i := 8) (oi := ?o9) (v := ?v9) ?hi9 (by kernel_rfl) (by kernel_rfl) (by kernel_rfl) (fun c a w h => hP c a _ _ w h) (Or.inl ⟨?hw9, ?hy9⟩) hHeld ?rest9
        case hi9 => simp only [List.getElem?_toArray, List.getElem?_cons_succ, List.getElem?_cons_zero]; rfl
        case hw9 => rfl
        case hy9 =>
          intro w _
          go_simp
          try with_reducible rfl
        simp only [Act.put, List.setIfInBounds_toArray, List.set_cons_zero, List.set_cons_succ]
        refine' wpAnyH_take (i := 9) (oi := ?o10) (v := ?v10) ?hi10 (by kernel_rfl) (by kernel_rfl) (by kernel_rfl) (fun c a w h => hP c a _ _ w h) (Or.inl ⟨?hw10, ?hy10⟩) hHeld ?rest10
        case hi10 => simp only [List.getElem?_toArray, List.getElem?_cons_succ, List.getElem?_cons_zero]; rfl
        case hw10 => rfl
        case hy10 =>
          intro w _
          go_simp
          try with_reducible rfl
        simp only [Act.put, List.setIfInBounds_toArray, List.set_cons_zero, List.set_cons_succ]
        refine' wpAnyH_take (i := 10) (oi := ?o11) (v := ?v11) ?hi11 (by kernel_rfl) (by kernel_rfl) (by kernel_rfl) (fun c a w h => hP c a _ _ w h) (Or.inl ⟨?hw11, ?hy11⟩) hHeld ?rest11
        case hi11 => simp only [List.getElem?_toArray, List.getElem?_cons_succ, List.getElem?_cons_zero]; rfl
        case hw11 => rfl
        case hy11 =>
          intro w _
          go_simp
          try with_reducible rfl
        simp only [Act.put, List.setIfInBounds_toArray, List.set_cons_zero, List.set_cons_succ]
        refine' wpAnyH_take (i := 11) (oi := ?o12) (v := ?v12) ?hi12 (by kernel_rfl) (by kernel_rfl) (by kernel_rfl) (fun c a w h => hP c a _ _ w h) (Or.inl ⟨?hw12, ?hy12⟩) hHeld ?rest12
        case hi12 => simp only [List.getElem?_toArray, List.getElem?_cons_succ, List.getElem?_cons_zero]; rfl
        case hw12 => rfl
        case hy12 =>
          intro w _
          go_simp
          try with_reducible rfl
        simp only [Act.put, List.setIfInBounds_toArray, List.set_cons_zero, List.set_cons_succ]
        refine' wpAnyH_take (i := 14) (oi := ?o13) (v := ?v13) ?hi13 (by kernel_rfl) (by kernel_rfl) (by kernel_rfl) (fun c a w h => hP c a _ _ w h) (Or.inl ⟨?hw13, ?hy13⟩) hHeld ?rest13
        case hi13 => simp only [List.getElem?_toArray, List.getElem?_cons_succ, List.getElem?_cons_zero]; rfl
        case hw13 => rfl
        case hy13 =>
          intro w _
          go_simp
          try with_reducible rfl
        simp only [Act.put, List.setIfInBounds_toArray, List.set_cons_zero, List.set_cons_succ]
        refine' wpAnyH_take (i := 15) (oi := ?o14) (v := ?v14) ?hi14 (by kernel_rfl) (by kernel_rfl) (by kernel_rfl) (fun c a w h => hP c a _ _ w h) (Or.inl ⟨?hw14, ?hy14⟩) hHeld ?rest14
        case hi14 => simp only [List.getElem?_toArray, List.getElem?_cons_succ, List.getElem?_cons_zero]; rfl
        case hw14 => rfl
        case hy14 =>
          intro w _
          go_simp
          try with_reducible rfl
        simp only [Act.put, List.setIfInBounds_toArray, List.set_cons_zero, List.set_cons_succ]
        refine' wpAnyH_take (i := 16) (oi := ?o15) (v := ?v15) ?hi15 (by kernel_rfl) (by kernel_rfl) (by kernel_rfl) (fun c a w h => hP c a _ _ w h) (Or.inl ⟨?hw15, ?hy15⟩) hHeld ?rest15
        case hi15 => simp only [List.getElem?_toArray, List.getElem?_cons_succ, List.getElem?_cons_zero]; rfl
        case hw15 => rfl
        case hy15 =>
          intro w _
          go_simp
          try with_reducible rfl
        simp only [Act.put, List.setIfInBounds_toArray, List.set_cons_zero, List.set_cons_succ]
        refine wpAnyH_ready (rs := [12]) (by kernel_rfl) (by simp) ?_
        refine' AllReadyH.cons (i := 12) (o := ?o16) ?hi16 (fun K hK => ?st16) ?mo16
        case hi16 => simp only [List.getElem?_toArray, List.getElem?_cons_succ, List.getElem?_cons_zero]; rfl
        case st16 =>
          go_simp
          refine (F7.out _ h6).mono ?_
          rintro e w6 ⟨A2, n2, c2, rfl, hcv, h6⟩
          have z6 := hcv _ (Below.refl _ _)
          replace hcv := Lib.hid hcv
          go_simp
          refine hK.out _ _ trivial (fun hHeld => ?_)
          clear hK K
          try simp only [Act.put, List.setIfInBounds_toArray, List.set_cons_zero, List.set_cons_succ]
          refine wpAnyH_ready (rs := [13, 17]) (by kernel_rfl) (by simp) ?_
          refine' AllReadyH.cons (i := 13) (o := ?o17) ?hi17 (fun K hK => ?st17) ?mo17
          case hi17 => simp only [List.getElem?_toArray, List.getElem?_cons_succ, List.getElem?_cons_zero]; rfl
          case st17 =>
            go_simp
            refine hK.out _ _ trivial (fun hHeld => ?_)
            clear hK K
            try simp only [Act.put, List.setIfInBounds_toArray, List.set_cons_zero, List.set_cons_succ]
            clear z6
            refine wpAnyH_ready (rs := [17]) (by kernel_rfl) (by simp) ?_
            refine' AllReadyH.cons (i := 17) (o := ?o18) ?hi18 (fun K hK => ?st18) ?mo18
            case hi18 => simp only [List.getElem?_toArray, List.getElem?_cons_succ, List.getElem?_cons_zero]; rfl
            case st18 =>
              go_simp
              refine (F8.out _ h6).mono ?_
              rintro e w7 ⟨rfl, h6, h7⟩
              clear hcv h7
              go_simp
              refine hK.out _ _ trivial (fun hHeld => ?_)
              clear hK K
              try simp only [Act.put, List.setIfInBounds_toArray, List.set_cons_zero, List.set_cons_succ]
              refine' wpAnyH_take (i := 18) (oi := ?o19) (v := ?v19) ?hi19 (by kernel_rfl) (by kernel_rfl) (by kernel_rfl) (fun c a w h => hP c a _ _ w h) (Or.inl ⟨?hw19, ?hy19⟩) hHeld ?rest19
              case hi19 => simp only [List.getElem?_toArray, List.getElem?_cons_succ, List.getElem?_cons_zero]; rfl
              case hw19 => rfl
              case hy19 =>
                intro w _
                go_simp
                try with_reducible rfl
              simp only [Act.put, List.setIfInBounds_toArray, List.set_cons_zero, List.set_cons_succ]
              refine' wpAnyH_take (i := 19) (oi := ?o20) (v := ?v20) ?hi20 (by kernel_rfl) (by kernel_rfl) (by kernel_rfl) (fun c a w h => hP c a _ _ w h) (Or.inl ⟨?hw20, ?hy20⟩) hHeld ?rest20
              case hi20 => simp only [List.getElem?_toArray, List.getElem?_cons_succ, List.getElem?_cons_zero]; rfl
              case hw20 => rfl
              case hy20 =>
                intro w _
                go_simp
                try with_reducible rfl
              simp only [Act.put, List.setIfInBounds_toArray, List.set_cons_zero, List.set_cons_succ]
              refine' wpAnyH_take (i := 20) (oi := ?o21) (v := ?v21) ?hi21 (by kernel_rfl) (by kernel_rfl) (by kernel_rfl) (fun c a w h => hP c a _ _ w h) (Or.inl ⟨?hw21, ?hy21⟩) hHeld ?rest21
              case hi21 => simp only [List.getElem?_toArray, List.getElem?_cons_succ, List.getElem?_cons_zero]; rfl
              case hw21 => rfl
              case hy21 =>
                intro w _
                go_simp
                try with_reducible rfl
              simp only [Act.put, List.setIfInBounds_toArray, List.set_cons_zero, List.set_cons_succ]
              refine' wpAnyH_take (i := 21) (oi := ?o22) (v := ?v22) ?hi22 (by kernel_rfl) (by kernel_rfl) (by kernel_rfl) (fun c a w h => hP c a _ _ w h) (Or.inl ⟨?hw22, ?hy22⟩) hHeld ?rest22
              case hi22 => simp only [List.getElem?_toArray, List.getElem?_cons_succ, List.getElem?_cons_zero]; rfl
              case hw22 => rfl
              case hy22 =>
                intro w _
                go_simp
                try with_reducible rfl
              simp only [Act.put, List.setIfInBounds_toArray, List.set_cons_zero, List.set_cons_succ]
              refine' wpAnyH_take (i := 24) (oi := ?o23) (v := ?v23) ?hi23 (by kernel_rfl) (by kernel_rfl) (by kernel_rfl) (fun c a w h => hP c a _ _ w h) (Or.inl ⟨?hw23, ?hy23⟩) hHeld ?rest23
              case hi23 => simp only [List.getElem?_toArray, List.getElem?_cons_succ, List.getElem?_cons_zero]; rfl
              case hw23 => rfl
              case hy23 =>
                intro w _
                go_simp
                try with_reducible rfl
              simp only [Act.put, List.setIfInBounds_toArray, List.set_cons_zero, List.set_cons_succ]
              refine' wpAnyH_take (i := 25) (oi := ?o24) (v := ?v24) ?hi24 (by kernel_rfl) (by kernel_rfl) (by kernel_rfl) (fun c a w h => hP c a _ _ w h) (Or.inl ⟨?hw24, ?hy24⟩) hHeld ?rest24
              case hi24 => simp only [List.getElem?_toArray, List.getElem?_cons_succ, List.getElem?_cons_zero]; rfl
              case hw24 => rfl
              case hy24 =>
                intro w _
                go_simp
                try with_reducible rfl
              simp only [Act.put, List.setIfInBounds_toArray, List.set_cons_zero, List.set_cons_succ]
              refine' wpAnyH_take (i := 26) (oi := ?o25) (v := ?v25) ?hi25 (by kernel_rfl) (by kernel_rfl) (by kernel_rfl) (fun c a w h => hP c a _ _ w h) (Or.inl ⟨?hw25, ?hy25⟩) hHeld ?rest25
              case hi25 => simp only [List.getElem?_toArray, List.getElem?_cons_succ, List.getElem?_cons_zero]; rfl
              case hw25 => rfl
              case hy25 =>
                intro w _
                go_simp
                try with_reducible rfl
              simp only [Act.put, List.setIfInBounds_toArray, List.set_cons_zero, List.set_cons_succ]
              refine' wpAnyH_take (i := 27) (oi := ?o26) (v := ?v26) ?hi26 (by kernel_rfl) (by kernel_rfl) (by kernel_rfl) (fun c a w h => hP c a _ _ w h) (Or.inl ⟨?hw26, ?hy26⟩) hHeld ?rest26
              case hi26 => simp only [List.getElem?_toArray, List.getElem?_cons_succ, List.getElem?_cons_zero]; rfl
              case hw26 => rfl
              case hy26 =>
                intro w _
                go_simp
                try with_reducible rfl
              simp only [Act.put, List.setIfInBounds_toArray, List.set_cons_zero, List.set_cons_succ]
              have zc := FC.out _ h6
              refine wpAnyH_ready (rs := [22, 28]) (by kernel_rfl) (by simp) ?_
              refine' AllReadyH.cons (i := 22) (o := ?o27) ?hi27 (fun K hK => ?st27) ?mo27
              case hi27 => simp only [List.getElem?_toArray, List.getElem?_cons_succ, List.getElem?_cons_zero]; rfl
              case st27 =>
                go_simp
                refine (F9.out _ h6).mono ?_
                rintro e w8 ⟨⟨A8, c8, rfl⟩, h6⟩
                replace zc := FC.out _ h6
                go_simp
                refine hK.out _ _ trivial (fun hHeld => ?_)
                clear hK K
                try simp only [Act.put, List.setIfInBounds_toArray, List.set_cons_zero, List.set_cons_succ]
                refine' wpAnyH_take (i := 23) (oi := ?o28) (v := ?v28) ?hi28 (by kernel_rfl) (by kernel_rfl) (by kernel_rfl) (fun c a w h => hP c a _ _ w h) (Or.inl ⟨?hw28, ?hy28⟩) hHeld ?rest28
                case hi28 => simp only [List.getElem?_toArray, List.getElem?_cons_succ, List.getElem?_cons_zero]; rfl
                case hw28 => rfl
                case hy28 =>
                  intro w _
                  go_simp
                  try with_reducible rfl
                simp only [Act.put, List.setIfInBounds_toArray, List.set_cons_zero, List.set_cons_succ]
                refine wpAnyH_ready (rs := [28]) (by kernel_rfl) (by simp) ?_
                refine' AllReadyH.cons (i := 28) (o := ?o29) ?hi29 (fun K hK => ?st29) ?mo29
                case hi29 => simp only [List.getElem?_toArray, List.getElem?_cons_succ, List.getElem?_cons_zero]; rfl
                case st29 =>
                  go_simp
                  refine hK.out _ _ trivial (fun hHeld => ?_)
                  clear hK K
                  try simp only [Act.put, List.setIfInBounds_toArray, List.set_cons_zero, List.set_cons_succ]
                  refine' wpAnyH_take (i := 29) (oi := ?o30) (v := ?v30) ?hi30 (by kernel_rfl) (by kernel_rfl) (by kernel_rfl) (fun c a w h => hP c a _ _ w h) (Or.inl ⟨?hw30, ?hy30⟩) hHeld ?rest30
                  case hi30 => simp only [List.getElem?_toArray, List.getElem?_cons_succ, List.getElem?_cons_zero]; rfl
                  case hw30 => rfl
                  case hy30 =>
                    intro w _
                    go_simp
                    try with_reducible rfl
                  simp only [Act.put, List.setIfInBounds_toArray, List.set_cons_zero, List.set_cons_succ]
                  refine' wpAnyH_take (i := 30) (oi := ?o31) (v := ?v31) ?hi31 (by kernel_rfl) (by kernel_rfl) (by kernel_rfl) (fun c a w h => hP c a _ _ w h) (Or.inl ⟨?hw31, ?hy31⟩) hHeld ?rest31
                  case hi31 => simp only [List.getElem?_toArray, List.getElem?_cons_succ, List.getElem?_cons_zero]; rfl
                  case hw31 => rfl
                  case hy31 =>
                    intro w _
                    go_simp
                    try with_reducible rfl
                  simp only [Act.put, List.setIfInBounds_toArray, List.set_cons_zero, List.set_cons_succ]
                  refine wpAnyH_done (by kernel_rfl) ?_ _
                  refine tillQ_normal ?_
                  refine' wpOp_step (i := 31) (o := ?o32) ?hi32 (fun K hK => ?_)
                  case hi32 => simp only [List.getElem?_toArray, List.getElem?_cons_succ, List.getElem?_cons_zero]; rfl
                  go_simp
                  refine hK _ _ ?_
                  exact hQ.out _ _ _ _ _ _ _ _ _ _ _ _ _ _ _ _ _ _ _ _ _ _ _ _ _ _ _ _ _ _ _ _ h6
                case mo29 => exact AllReadyH.nil
              case mo27 =>
                refine' AllReadyH.cons (i := 28) (o := ?o33) ?hi33 (fun K hK => ?st33) ?mo33
                case hi33 => simp only [List.getElem?_toArray, List.getElem?_cons_succ, List.getElem?_cons_zero]; rfl
                case st33 =>
                  go_simp
                  refine hK.out _ _ trivial (fun hHeld => ?_)
                  clear hK K
                  try simp only [Act.put, List.setIfInBounds_toArray, List.set_cons_zero, List.set_cons_succ]
                  refine' wpAnyH_take (i := 29) (oi := ?o34) (v := ?v34) ?hi34 (by kernel_rfl) (by kernel_rfl) (by kernel_rfl) (fun c a w h => hP c a _ _ w h) (Or.inl ⟨?hw34, ?hy34⟩) hHeld ?rest34
                  case hi34 => simp only [List.getElem?_toArray, List.getElem?_cons_succ, List.getElem?_cons_zero]; rfl
                  case hw34 => rfl
                  case hy34 =>
                    intro w _
                    go_simp
                    try with_reducible rfl
                  simp only [Act.put, List.setIfInBounds_toArray, List.set_cons_zero, List.set_cons_succ]
                  refine wpAnyH_ready (rs := [22]) (by kernel_rfl) (by simp) ?_
                  refine' AllReadyH.cons (i := 22) (o := ?o35) ?hi35 (fun K hK => ?st35) ?mo35
                  case hi35 => simp only [List.getElem?_toArray, List.getElem?_cons_succ, List.getElem?_cons_zero]; rfl
                  case st35 =>
                    go_simp
                    refine (F9.out _ h6).mono ?_
                    rintro e w8 ⟨⟨A8, c8, rfl⟩, h6⟩
                    go_simp
                    refine hK.out _ _ trivial (fun hHeld => ?_)
                    clear hK K
                    try simp only [Act.put, List.setIfInBounds_toArray, List.set_cons_zero, List.set_cons_succ]
                    refine' wpAnyH_take (i := 23) (oi := ?o36) (v := ?v36) ?hi36 (by kernel_rfl) (by kernel_rfl) (by kernel_rfl) (fun c a w h => hP c a _ _ w h) (Or.inl ⟨?hw36, ?hy36⟩) hHeld ?rest36
                    case hi36 => simp only [List.getElem?_toArray, List.getElem?_cons_succ, List.getElem?_cons_zero]; rfl
                    case hw36 => rfl
                    case hy36 =>
                      intro w _
                      go_simp
                      try with_reducible rfl
                    simp only [Act.put, List.setIfInBounds_toArray, List.set_cons_zero, List.set_cons_succ]
                    refine' wpAnyH_take (i := 30) (oi := ?o37) (v := ?v37) ?hi37 (by kernel_rfl) (by kernel_rfl) (by kernel_rfl) (fun c a w h => hP c a _ _ w h) (Or.inl ⟨?hw37, ?hy37⟩) hHeld ?rest37
                    case hi37 => simp only [List.getElem?_toArray, List.getElem?_cons_succ, List.getElem?_cons_zero]; rfl
                    case hw37 => rfl
                    case hy37 =>
                      intro w _
                      go_simp
                      try with_reducible rfl
                    simp only [Act.put, List.setIfInBounds_toArray, List.set_cons_zero, List.set_cons_succ]
                    refine wpAnyH_done (by kernel_rfl) ?_ _
                    refine tillQ_normal ?_
                    refine' wpOp_step (i := 31) (o := ?o38) ?hi38 (fun K hK => ?_)
                    case hi38 => simp only [List.getElem?_toArray, List.getElem?_cons_succ, List.getElem?_cons_zero]; rfl
                    go_simp
                    refine hK _ _ ?_
                    exact hQ.out _ _ _ _ _ _ _ _ _ _ _ _ _ _ _ _ _ _ _ _ _ _ _ _ _ _ _ _ _ _ _ _ h6
                  case mo35 => exact AllReadyH.nil
                case mo33 => exact AllReadyH.nil
            case mo18 => exact AllReadyH.nil
          case mo17 =>
            refine' AllReadyH.cons (i := 17) (o := ?o39) ?hi39 (fun K hK => ?st39) ?mo39
            case hi39 => simp only [List.getElem?_toArray, List.getElem?_cons_succ, List.getElem?_cons_zero]; rfl
            case st39 =>
              go_simp
              refine (F8.out _ h6).mono ?_
              rintro e w7 ⟨rfl, h6, h7⟩
              have z7 := hcv.out _ h7
              clear z6 hcv h7
              go_simp
              refine hK.out _ _ trivial (fun hHeld => ?_)
              clear hK K
              try simp only [Act.put, List.setIfInBounds_toArray, List.set_cons_zero, List.set_cons_succ]
              refine wpAnyH_ready (rs := [13]) (by kernel_rfl) (by simp) ?_
              refine' AllReadyH.cons (i := 13) (o := ?o40) ?hi40 (fun K hK => ?st40) ?mo40
              case hi40 => simp only [List.getElem?_toArray, List.getElem?_cons_succ, List.getElem?_cons_zero]; rfl
              case st40 =>
                go_simp
                refine hK.out _ _ trivial (fun hHeld => ?_)
                clear hK K
                try simp only [Act.put, List.setIfInBounds_toArray, List.set_cons_zero, List.set_cons_succ]
                clear z7
                refine' wpAnyH_take (i := 18) (oi := ?o41) (v := ?v41) ?hi41 (by kernel_rfl) (by kernel_rfl) (by kernel_rfl) (fun c a w h => hP c a _ _ w h) (Or.inl ⟨?hw41, ?hy41⟩) hHeld ?rest41
                case hi41 => simp only [List.getElem?_toArray, List.getElem?_cons_succ, List.getElem?_cons_zero]; rfl
                case hw41 => rfl
                case hy41 =>
                  intro w _
                  go_simp
                  try with_reducible rfl
                simp only [Act.put, List.setIfInBounds_toArray, List.set_cons_zero, List.set_cons_succ]
                refine' wpAnyH_take (i := 19) (oi := ?o42) (v := ?v42) ?hi42 (by kernel_rfl) (by kernel_rfl) (by kernel_rfl) (fun c a w h => hP c a _ _ w h) (Or.inl ⟨?hw42, ?hy42⟩) hHeld ?rest42
                case hi42 => simp only [List.getElem?_toArray, List.getElem?_cons_succ, List.getElem?_cons_zero]; rfl
                case hw42 => rfl
                case hy42 =>
                  intro w _
                  go_simp
                  try with_reducible rfl
                simp only [Act.put, List.setIfInBounds_toArray, List.set_cons_zero, List.set_cons_succ]
                refine' wpAnyH_take (i := 20) (oi := ?o43) (v := ?v43) ?hi43 (by kernel_rfl) (by kernel_rfl) (by kernel_rfl) (fun c a w h => hP c a _ _ w h) (Or.inl ⟨?hw43, ?hy43⟩) hHeld ?rest43
                case hi43 => simp only [List.getElem?_toArray, List.getElem?_cons_succ, List.getElem?_cons_zero]; rfl
                case hw43 => rfl
                case hy43 =>
                  intro w _
                  go_simp
                  try with_reducible rfl
                simp only [Act.put, List.setIfInBounds_toArray, List.set_cons_zero, List.set_cons_succ]
                refine' wpAnyH_take (i := 21) (oi := ?o44) (v := ?v44) ?hi44 (by kernel_rfl) (by kernel_rfl) (by kernel_rfl) (fun c a w h => hP c a _ _ w h) (Or.inl ⟨?hw44, ?hy44⟩) hHeld ?rest44
                case hi44 => simp only [List.getElem?_toArray, List.getElem?_cons_succ, List.getElem?_cons_zero]; rfl
                case hw44 => rfl
                case hy44 =>
                  intro w _
                  go_simp
                  try with_reducible rfl
                simp only [Act.put, List.setIfInBounds_toArray, List.set_cons_zero, List.set_cons_succ]
                refine' wpAnyH_take (i := 24) (oi := ?o45) (v := ?v45) ?hi45 (by kernel_rfl) (by kernel_rfl) (by kernel_rfl) (fun c a w h => hP c a _ _ w h) (Or.inl ⟨?hw45, ?hy45⟩) hHeld ?rest45
                case hi45 => simp only [List.getElem?_toArray, List.getElem?_cons_succ, List.getElem?_cons_zero]; rfl
                case hw45 => rfl
                case hy45 =>
                  intro w _
                  go_simp
                  try with_reducible rfl
                simp only [Act.put, List.setIfInBounds_toArray, List.set_cons_zero, List.set_cons_succ]
                refine' wpAnyH_take (i := 25) (oi := ?o46) (v := ?v46) ?hi46 (by kernel_rfl) (by kernel_rfl) (by kernel_rfl) (fun c a w h => hP c a _ _ w h) (Or.inl ⟨?hw46, ?hy46⟩) hHeld ?rest46
                case hi46 => simp only [List.getElem?_toArray, List.getElem?_cons_succ, List.getElem?_cons_zero]; rfl
                case hw46 => rfl
                case hy46 =>
                  intro w _
                  go_simp
                  try with_reducible rfl
                simp only [Act.put, List.setIfInBounds_toArray, List.set_cons_zero, List.set_cons_succ]
                refine' wpAnyH_take (i := 26) (oi := ?o47) (v := ?v47) ?hi47 (by kernel_rfl) (by kernel_rfl) (by kernel_rfl) (fun c a w h => hP c a _ _ w h) (Or.inl ⟨?hw47, ?hy47⟩) hHeld ?rest47
                case hi47 => simp only [List.getElem?_toArray, List.getElem?_cons_succ, List.getElem?_cons_zero]; rfl
                case hw47 => rfl
                case hy47 =>
                  intro w _
                  go_simp
                  try with_reducible rfl
                simp only [Act.put, List.setIfInBounds_toArray, List.set_cons_zero, List.set_cons_succ]
                refine' wpAnyH_take (i := 27) (oi := ?o48) (v := ?v48) ?hi48 (by kernel_rfl) (by kernel_rfl) (by kernel_rfl) (fun c a w h => hP c a _ _ w h) (Or.inl ⟨?hw48, ?hy48⟩) hHeld ?rest48
                case hi48 => simp only [List.getElem?_toArray, List.getElem?_cons_succ, List.getElem?_cons_zero]; rfl
                case hw48 => rfl
                case hy48 =>
                  intro w _
                  go_simp
                  try with_reducible rfl
                simp only [Act.put, List.setIfInBounds_toArray, List.set_cons_zero, List.set_cons_succ]
                have zc := FC.out _ h6
                refine wpAnyH_ready (rs := [22, 28]) (by kernel_rfl) (by simp) ?_
                refine' AllReadyH.cons (i := 22) (o := ?o49) ?hi49 (fun K hK => ?st49) ?mo49
                case hi49 => simp only [List.getElem?_toArray, List.getElem?_cons_succ, List.getElem?_cons_zero]; rfl
                case st49 =>
                  go_simp
                  refine (F9.out _ h6).mono ?_
                  rintro e w8 ⟨⟨A8, c8, rfl⟩, h6⟩
                  replace zc := FC.out _ h6
                  go_simp
                  refine hK.out _ _ trivial (fun hHeld => ?_)
                  clear hK K
                  try simp only [Act.put, List.setIfInBounds_toArray, List.set_cons_zero, List.set_cons_succ]
                  refine' wpAnyH_take (i := 23) (oi := ?o50) (v := ?v50) ?hi50 (by kernel_rfl) (by kernel_rfl) (by kernel_rfl) (fun c a w h => hP c a _ _ w h) (Or.inl ⟨?hw50, ?hy50⟩) hHeld ?rest50
                  case hi50 => simp only [List.getElem?_toArray, List.getElem?_cons_succ, List.getElem?_cons_zero]; rfl
                  case hw50 => rfl
                  case hy50 =>
                    intro w _
                    go_simp
                    try with_reducible rfl
                  simp only [Act.put, List.setIfInBounds_toArray, List.set_cons_zero, List.set_cons_succ]
                  refine wpAnyH_ready (rs := [28]) (by kernel_rfl) (by simp) ?_
                  refine' AllReadyH.cons (i := 28) (o := ?o51) ?hi51 (fun K hK => ?st51) ?mo51
                  case hi51 => simp only [List.getElem?_toArray, List.getElem?_cons_succ, List.getElem?_cons_zero]; rfl
                  case st51 =>
                    go_simp
                    refine hK.out _ _ trivial (fun hHeld => ?_)
                    clear hK K
                    try simp only [Act.put, List.setIfInBounds_toArray, List.set_cons_zero, List.set_cons_succ]
                    refine' wpAnyH_take (i := 29) (oi := ?o52) (v := ?v52) ?hi52 (by kernel_rfl) (by kernel_rfl) (by kernel_rfl) (fun c a w h => hP c a _ _ w h) (Or.inl ⟨?hw52, ?hy52⟩) hHeld ?rest52
                    case hi52 => simp only [List.getElem?_toArray, List.getElem?_cons_succ, List.getElem?_cons_zero]; rfl
                    case hw52 => rfl
                    case hy52 =>
                      intro w _
                      go_simp
                      try with_reducible rfl
                    simp only [Act.put, List.setIfInBounds_toArray, List.set_cons_zero, List.set_cons_succ]
                    refine' wpAnyH_take (i := 30) (oi := ?o53) (v := ?v53) ?hi53 (by kernel_rfl) (by kernel_rfl) (by kernel_rfl) (fun c a w h => hP c a _ _ w h) (Or.inl ⟨?hw53, ?hy53⟩) hHeld ?rest53
                    case hi53 => simp only [List.getElem?_toArray, List.getElem?_cons_succ, List.getElem?_cons_zero]; rfl
                    case hw53 => rfl
                    case hy53 =>
                      intro w _
                      go_simp
                      try with_reducible rfl
                    simp only [Act.put, List.setIfInBounds_toArray, List.set_cons_zero, List.set_cons_succ]
                    refine wpAnyH_done (by kernel_rfl) ?_ _
                    refine tillQ_normal ?_
                    refine' wpOp_step (i := 31) (o := ?o54) ?hi54 (fun K hK => ?_)
                    case hi54 => simp only [List.getElem?_toArray, List.getElem?_cons_succ, List.getElem?_cons_zero]; rfl
                    go_simp
                    refine hK _ _ ?_
                    exact hQ.out _ _ _ _ _ _ _ _ _ _ _ _ _ _ _ _ _ _ _ _ _ _ _ _ _ _ _ _ _ _ _ _ h6
                  case mo51 => exact AllReadyH.nil
                case mo49 =>
                  refine' AllReadyH.cons (i := 28) (o := ?o55) ?hi55 (fun K hK => ?st55) ?mo55
                  case hi55 => simp only [List.getElem?_toArray, List.getElem?_cons_succ, List.getElem?_cons_zero]; rfl
                  case st55 =>
                    go_simp
                    refine hK.out _ _ trivial (fun hHeld => ?_)
                    clear hK K
                    try simp only [Act.put, List.setIfInBounds_toArray, List.set_cons_zero, List.set_cons_succ]
                    refine' wpAnyH_take (i := 29) (oi := ?o56) (v := ?v56) ?hi56 (by kernel_rfl) (by kernel_rfl) (by kernel_rfl) (fun c a w h => hP c a _ _ w h) (Or.inl ⟨?hw56, ?hy56⟩) hHeld ?rest56
                    case hi56 => simp only [List.getElem?_toArray, List.getElem?_cons_succ, List.getElem?_cons_zero]; rfl
                    case hw56 => rfl
                    case hy56 =>
                      intro w _
                      go_simp
                      try with_reducible rfl
                    simp only [Act.put, List.setIfInBounds_toArray, List.set_cons_zero, List.set_cons_succ]
                    refine wpAnyH_ready (rs := [22]) (by kernel_rfl) (by simp) ?_
                    refine' AllReadyH.cons (i := 22) (o := ?o57) ?hi57 (fun K hK => ?st57) ?mo57
                    case hi57 => simp only [List.getElem?_toArray, List.getElem?_cons_succ, List.getElem?_cons_zero]; rfl
                    case st57 =>
                      go_simp
                      refine (F9.out _ h6).mono ?_
                      rintro e w8 ⟨⟨A8, c8, rfl⟩, h6⟩
                      go_simp
                      refine hK.out _ _ trivial (fun hHeld => ?_)
                      clear hK K
                      try simp only [Act.put, List.setIfInBounds_toArray, List.set_cons_zero, List.set_cons_succ]
                      refine' wpAnyH_take (i := 23) (oi := ?o58) (v := ?v58) ?hi58 (by kernel_rfl) (by kernel_rfl) (by kernel_rfl) (fun c a w h => hP c a _ _ w h) (Or.inl ⟨?hw58, ?hy58⟩) hHeld ?rest58
                      case hi58 => simp only [List.getElem?_toArray, List.getElem?_cons_succ, List.getElem?_cons_zero]; rfl
                      case hw58 => rfl
                      case hy58 =>
                        intro w _
                        go_simp
                        try with_reducible rfl
                      simp only [Act.put, List.setIfInBounds_toArray, List.set_cons_zero, List.set_cons_succ]
                      refine' wpAnyH_take (i := 30) (oi := ?o59) (v := ?v59) ?hi59 (by kernel_rfl) (by kernel_rfl) (by kernel_rfl) (fun c a w h => hP c a _ _ w h) (Or.inl ⟨?hw59, ?hy59⟩) hHeld ?rest59
                      case hi59 => simp only [List.getElem?_toArray, List.getElem?_cons_succ, List.getElem?_cons_zero]; rfl
                      case hw59 => rfl
                      case hy59 =>
                        intro w _
                        go_simp
                        try with_reducible rfl
                      simp only [Act.put, List.setIfInBounds_toArray, List.set_cons_zero, List.set_cons_succ]
                      refine wpAnyH_done (by kernel_rfl) ?_ _
                      refine tillQ_normal ?_
                      refine' wpOp_step (i := 31) (o := ?o60) ?hi60 (fun K hK => ?_)
                      case hi60 => simp only [List.getElem?_toArray, List.getElem?_cons_succ, List.getElem?_cons_zero]; rfl
                      go_simp
                      refine hK _ _ ?_
                      exact hQ.out _ _ _ _ _ _ _ _ _ _ _ _ _ _ _ _ _ _ _ _ _ _ _ _ _ _ _ _ _ _ _ _ h6
                    case mo57 => exact AllReadyH.nil
                  case mo55 => exact AllReadyH.nil
              case mo40 => exact AllReadyH.nil
            case mo39 => exact AllReadyH.nil
        case mo16 => exact AllReadyH.nil
      case mo8 => exact AllReadyH.nil
    case mo7 =>
      refine' AllReadyH.cons (i := 7) (o := ?o61) ?hi61 (fun K hK => ?st61) ?mo61
      case hi61 => simp only [List.getElem?_toArray, List.getElem?_cons_succ, List.getElem?_cons_zero]; rfl
      case st61 =>
        go_simp
        refine (F6.out _ h6).mono ?_
        rintro e w7 ⟨rfl, h6, h7⟩
        have z7 := hcv.out _ h7
        clear z6 hcv h7
        go_simp
        refine hK.out _ _ trivial (fun hHeld => ?_)
        clear hK K
        try simp only [Act.put, List.setIfInBounds_toArray, List.set_cons_zero, List.set_cons_succ]
        refine wpAnyH_ready (rs := [5]) (by kernel_rfl) (by simp) ?_
        refine' AllReadyH.cons (i := 5) (o := ?o62) ?hi62 (fun K hK => ?st62) ?mo62
        case hi62 => simp only [List.getElem?_toArray, List.getElem?_cons_succ, List.getElem?_cons_zero]; rfl
        case st62 =>
          go_simp
          refine hK.out _ _ trivial (fun hHeld => ?_)
          clear hK K
          try simp only [Act.put, List.setIfInBounds_toArray, List.set_cons_zero, List.set_cons_succ]
          clear z7
          refine' wpAnyH_take (i := 8) (oi := ?o63) (v := ?v63) ?hi63 (by kernel_rfl) (by kernel_rfl) (by kernel_rfl) (fun c a w h => hP c a _ _ w h) (Or.inl ⟨?hw63, ?hy63⟩) hHeld ?rest63
          case hi63 => simp only [List.getElem?_toArray, List.getElem?_cons_succ, List.getElem?_cons_zero]; rfl
          case hw63 => rfl
          case hy63 =>
            intro w _
            go_simp
            try with_reducible rfl
          simp only [Act.put, List.setIfInBounds_toArray, List.set_cons_zero, List.set_cons_succ]
          refine' wpAnyH_take (i := 9) (oi := ?o64) (v := ?v64) ?hi64 (by kernel_rfl) (by kernel_rfl) (by kernel_rfl) (fun c a w h => hP c a _ _ w h) (Or.inl ⟨?hw64, ?hy64⟩) hHeld ?rest64
          case hi64 => simp only [List.getElem?_toArray, List.getElem?_cons_succ, List.getElem?_cons_zero]; rfl
          case hw64 => rfl
          case hy64 =>
            intro w _
            go_simp
            try with_reducible rfl
          simp only [Act.put, List.setIfInBounds_toArray, List.set_cons_zero, List.set_cons_succ]
          refine' wpAnyH_take (i := 10) (oi := ?o65) (v := ?v65) ?hi65 (by kernel_rfl) (by kernel_rfl) (by kernel_rfl) (fun c a w h => hP c a _ _ w h) (Or.inl ⟨?hw65, ?hy65⟩) hHeld ?rest65
          case hi65 => simp only [List.getElem?_toArray, List.getElem?_cons_succ, List.getElem?_cons_zero]; rfl
          case hw65 => rfl
          case hy65 =>
            intro w _
            go_simp
            try with_reducible rfl
          simp only [Act.put, List.setIfInBounds_toArray, List.set_cons_zero, List.set_cons_succ]
          refine' wpAnyH_take (i := 11) (oi := ?o66) (v := ?v66) ?hi66 (by kernel_rfl) (by kernel_rfl) (by kernel_rfl) (fun c a w h => hP c a _ _ w h) (Or.inl ⟨?hw66, ?hy66⟩) hHeld ?rest66
          case hi66 => simp only [List.getElem?_toArray, List.getElem?_cons_succ, List.getElem?_cons_zero]; rfl
          case hw66 => rfl
          case hy66 =>
            intro w _
            go_simp
            try with_reducible rfl
          simp only [Act.put, List.setIfInBounds_toArray, List.set_cons_zero, List.set_cons_succ]
          refine' wpAnyH_take (i := 14) (oi := ?o67) (v := ?v67) ?hi67 (by kernel_rfl) (by kernel_rfl) (by kernel_rfl) (fun c a w h => hP c a _ _ w h) (Or.inl ⟨?hw67, ?hy67⟩) hHeld ?rest67
          case hi67 => simp only [List.getElem?_toArray, List.getElem?_cons_succ, List.getElem?_cons_zero]; rfl
          case hw67 => rfl
          case hy67 =>
            intro w _
            go_simp
            try with_reducible rfl
          simp only [Act.put, List.setIfInBounds_toArray, List.set_cons_zero, List.set_cons_succ]
          refine' wpAnyH_take (i := 15) (oi := ?o68) (v := ?v68) ?hi68 (by kernel_rfl) (by kernel_rfl) (by kernel_rfl) (fun c a w h => hP c a _ _ w h) (Or.inl ⟨?hw68, ?hy68⟩) hHeld ?rest68
          case hi68 => simp only [List.getElem?_toArray, List.getElem?_cons_succ, List.getElem?_cons_zero]; rfl
          case hw68 => rfl
          case hy68 =>
            intro w _
            go_simp
            try with_reducible rfl
          simp only [Act.put, List.setIfInBounds_toArray, List.set_cons_zero, List.set_cons_succ]
          refine' wpAnyH_take (i := 16) (oi := ?o69) (v := ?v69) ?hi69 (by kernel_rfl) (by kernel_rfl) (by kernel_rfl) (fun c a w h => hP c a _ _ w h) (Or.inl ⟨?hw69, ?hy69⟩) hHeld ?rest69
          case hi69 => simp only [List.getElem?_toArray, List.getElem?_cons_succ, List.getElem?_cons_zero]; rfl
          case hw69 => rfl
          case hy69 =>
            intro w _
            go_simp
            try with_reducible rfl
          simp only [Act.put, List.setIfInBounds_toArray, List.set_cons_zero, List.set_cons_succ]
          refine wpAnyH_ready (rs := [12]) (by kernel_rfl) (by simp) ?_
          refine' AllReadyH.cons (i := 12) (o := ?o70) ?hi70 (fun K hK => ?st70) ?mo70
          case hi70 => simp only [List.getElem?_toArray, List.getElem?_cons_succ, List.getElem?_cons_zero]; rfl
          case st70 =>
            go_simp
            refine (F7.out _ h6).mono ?_
            rintro e w6 ⟨A2, n2, c2, rfl, hcv, h6⟩
            have z6 := hcv _ (Below.refl _ _)
            replace hcv := Lib.hid hcv
            go_simp
            refine hK.out _ _ trivial (fun hHeld => ?_)
            clear hK K
            try simp only [Act.put, List.setIfInBounds_toArray, List.set_cons_zero, List.set_cons_succ]
            refine wpAnyH_ready (rs := [13, 17]) (by kernel_rfl) (by simp) ?_
            refine' AllReadyH.cons (i := 13) (o := ?o71) ?hi71 (fun K hK => ?st71) ?mo71
            case hi71 => simp only [List.getElem?_toArray, List.getElem?_cons_succ, List.getElem?_cons_zero]; rfl
            case st71 =>
              go_simp
              refine hK.out _ _ trivial (fun hHeld => ?_)
              clear hK K
              try simp only [Act.put, List.setIfInBounds_toArray, List.set_cons_zero, List.set_cons_succ]
              clear z6
              refine wpAnyH_ready (rs := [17]) (by kernel_rfl) (by simp) ?_
              refine' AllReadyH.cons (i := 17) (o := ?o72) ?hi72 (fun K hK => ?st72) ?mo72
              case hi72 => simp only [List.getElem?_toArray, List.getElem?_cons_succ, List.getElem?_cons_zero]; rfl
              case st72 =>
                go_simp
                refine (F8.out _ h6).mono ?_
                rintro e w7 ⟨rfl, h6, h7⟩
                clear hcv h7
                go_simp
                refine hK.out _ _ trivial (fun hHeld => ?_)
                clear hK K
                try simp only [Act.put, List.setIfInBounds_toArray, List.set_cons_zero, List.set_cons_succ]
                refine' wpAnyH_take (i := 18) (oi := ?o73) (v := ?v73) ?hi73 (by kernel_rfl) (by kernel_rfl) (by kernel_rfl) (fun c a w h => hP c a _ _ w h) (Or.inl ⟨?hw73, ?hy73⟩) hHeld ?rest73
                case hi73 => simp only [List.getElem?_toArray, List.getElem?_cons_succ, List.getElem?_cons_zero]; rfl
                case hw73 => rfl
                case hy73 =>
                  intro w _
                  go_simp
                  try with_reducible rfl
                simp only [Act.put, List.setIfInBounds_toArray, List.set_cons_zero, List.set_cons_succ]
                refine' wpAnyH_take (i := 19) (oi := ?o74) (v := ?v74) ?hi74 (by kernel_rfl) (by kernel_rfl) (by kernel_rfl) (fun c a w h => hP c a _ _ w h) (Or.inl ⟨?hw74, ?hy74⟩) hHeld ?rest74
                case hi74 => simp only [List.getElem?_toArray, List.getElem?_cons_succ, List.getElem?_cons_zero]; rfl
                case hw74 => rfl
                case hy74 =>
                  intro w _
                  go_simp
                  try with_reducible rfl
                simp only [Act.put, List.setIfInBounds_toArray, List.set_cons_zero, List.set_cons_succ]
                refine' wpAnyH_take (i := 20) (oi := ?o75) (v := ?v75) ?hi75 (by kernel_rfl) (by kernel_rfl) (by kernel_rfl) (fun c a w h => hP c a _ _ w h) (Or.inl ⟨?hw75, ?hy75⟩) hHeld ?rest75
                case hi75 => simp only [List.getElem?_toArray, List.getElem?_cons_succ, List.getElem?_cons_zero]; rfl
                case hw75 => rfl
                case hy75 =>
                  intro w _
                  go_simp
                  try with_reducible rfl
                simp only [Act.put, List.setIfInBounds_toArray, List.set_cons_zero, List.set_cons_succ]
                refine' wpAnyH_take (i := 21) (oi := ?o76) (v := ?v76) ?hi76 (by kernel_rfl) (by kernel_rfl) (by kernel_rfl) (fun c a w h => hP c a _ _ w h) (Or.inl ⟨?hw76, ?hy76⟩) hHeld ?rest76
                case hi76 => simp only [List.getElem?_toArray, List.getElem?_cons_succ, List.getElem?_cons_zero]; rfl
                case hw76 => rfl
                case hy76 =>
                  intro w _
                  go_simp
                  try with_reducible rfl
                simp only [Act.put, List.setIfInBounds_toArray, List.set_cons_zero, List.set_cons_succ]
                refine' wpAnyH_take (i := 24) (oi := ?o77) (v := ?v77) ?hi77 (by kernel_rfl) (by kernel_rfl) (by kernel_rfl) (fun c a w h => hP c a _ _ w h) (Or.inl ⟨?hw77, ?hy77⟩) hHeld ?rest77
                case hi77 => simp only [List.getElem?_toArray, List.getElem?_cons_succ, List.getElem?_cons_zero]; rfl
                case hw77 => rfl
                case hy77 =>
                  intro w _
                  go_simp
                  try with_reducible rfl
                simp only [Act.put, List.setIfInBounds_toArray, List.set_cons_zero, List.set_cons_succ]
                refine' wpAnyH_take (i := 25) (oi := ?o78) (v := ?v78) ?hi78 (by kernel_rfl) (by kernel_rfl) (by kernel_rfl) (fun c a w h => hP c a _ _ w h) (Or.inl ⟨?hw78, ?hy78⟩) hHeld ?rest78
                case hi78 => simp only [List.getElem?_toArray, List.getElem?_cons_succ, List.getElem?_cons_zero]; rfl
                case hw78 => rfl
                case hy78 =>
                  intro w _
                  go_simp
                  try with_reducible rfl
                simp only [Act.put, List.setIfInBounds_toArray, List.set_cons_zero, List.set_cons_succ]
                refine' wpAnyH_take (i := 26) (oi := ?o79) (v := ?v79) ?hi79 (by kernel_rfl) (by kernel_rfl) (by kernel_rfl) (fun c a w h => hP c a _ _ w h) (Or.inl ⟨?hw79, ?hy79⟩) hHeld ?rest79
                case hi79 => simp only [List.getElem?_toArray, List.getElem?_cons_succ, List.getElem?_cons_zero]; rfl
                case hw79 => rfl
                case hy79 =>
                  intro w _
                  go_simp
                  try with_reducible rfl
                simp only [Act.put, List.setIfInBounds_toArray, List.set_cons_zero, List.set_cons_succ]
                refine' wpAnyH_take (i := 27) (oi := ?o80) (v := ?v80) ?hi80 (by kernel_rfl) (by kernel_rfl) (by kernel_rfl) (fun c a w h => hP c a _ _ w h) (Or.inl ⟨?hw80, ?hy80⟩) hHeld ?rest80
                case hi80 => simp only [List.getElem?_toArray, List.getElem?_cons_succ, List.getElem?_cons_zero]; rfl
                case hw80 => rfl
                case hy80 =>
                  intro w _
                  go_simp
                  try with_reducible rfl
                simp only [Act.put, List.setIfInBounds_toArray, List.set_cons_zero, List.set_cons_succ]
                have zc := FC.out _ h6
                refine wpAnyH_ready (rs := [22, 28]) (by kernel_rfl) (by simp) ?_
                refine' AllReadyH.cons (i := 22) (o := ?o81) ?hi81 (fun K hK => ?st81) ?mo81
                case hi81 => simp only [List.getElem?_toArray, List.getElem?_cons_succ, List.getElem?_cons_zero]; rfl
                case st81 =>
                  go_simp
                  refine (F9.out _ h6).mono ?_
                  rintro e w8 ⟨⟨A8, c8, rfl⟩, h6⟩
                  replace zc := FC.out _ h6
                  go_simp
                  refine hK.out _ _ trivial (fun hHeld => ?_)
                  clear hK K
                  try simp only [Act.put, List.setIfInBounds_toArray, List.set_cons_zero, List.set_cons_succ]
                  refine' wpAnyH_take (i := 23) (oi := ?o82) (v := ?v82) ?hi82 (by kernel_rfl) (by kernel_rfl) (by kernel_rfl) (fun c a w h => hP c a _ _ w h) (Or.inl ⟨?hw82, ?hy82⟩) hHeld ?rest82
                  case hi82 => simp only [List.getElem?_toArray, List.getElem?_cons_succ, List.getElem?_cons_zero]; rfl
                  case hw82 => rfl
                  case hy82 =>
                    intro w _
                    go_simp
                    try with_reducible rfl
                  simp only [Act.put, List.setIfInBounds_toArray, List.set_cons_zero, List.set_cons_succ]
                  refine wpAnyH_ready (rs := [28]) (by kernel_rfl) (by simp) ?_
                  refine' AllReadyH.cons (i := 28) (o := ?o83) ?hi83 (fun K hK => ?st83) ?mo83
                  case hi83 => simp only [List.getElem?_toArray, List.getElem?_cons_succ, List.getElem?_cons_zero]; rfl
                  case st83 =>
                    go_simp
                    refine hK.out _ _ trivial (fun hHeld => ?_)
                    clear hK K
                    try simp only [Act.put, List.setIfInBounds_toArray, List.set_cons_zero, List.set_cons_succ]
                    refine' wpAnyH_take (i := 29) (oi := ?o84) (v := ?v84) ?hi84 (by kernel_rfl) (by kernel_rfl) (by kernel_rfl) (fun c a w h => hP c a _ _ w h) (Or.inl ⟨?hw84, ?hy84⟩) hHeld ?rest84
                    case hi84 => simp only [List.getElem?_toArray, List.getElem?_cons_succ, List.getElem?_cons_zero]; rfl
                    case hw84 => rfl
                    case hy84 =>
                      intro w _
                      go_simp
                      try with_reducible rfl
                    simp only [Act.put, List.setIfInBounds_toArray, List.set_cons_zero, List.set_cons_succ]
                    refine' wpAnyH_take (i := 30) (oi := ?o85) (v := ?v85) ?hi85 (by kernel_rfl) (by kernel_rfl) (by kernel_rfl) (fun c a w h => hP c a _ _ w h) (Or.inl ⟨?hw85, ?hy85⟩) hHeld ?rest85
                    case hi85 => simp only [List.getElem?_toArray, List.getElem?_cons_succ, List.getElem?_cons_zero]; rfl
                    case hw85 => rfl
                    case hy85 =>
                      intro w _
                      go_simp
                      try with_reducible rfl
                    simp only [Act.put, List.setIfInBounds_toArray, List.set_cons_zero, List.set_cons_succ]
                    refine wpAnyH_done (by kernel_rfl) ?_ _
                    refine tillQ_normal ?_
                    refine' wpOp_step (i := 31) (o := ?o86) ?hi86 (fun K hK => ?_)
                    case hi86 => simp only [List.getElem?_toArray, List.getElem?_cons_succ, List.getElem?_cons_zero]; rfl
                    go_simp
                    refine hK _ _ ?_
                    exact hQ.out _ _ _ _ _ _ _ _ _ _ _ _ _ _ _ _ _ _ _ _ _ _ _ _ _ _ _ _ _ _ _ _ h6
                  case mo83 => exact AllReadyH.nil
                case mo81 =>
                  refine' AllReadyH.cons (i := 28) (o := ?o87) ?hi87 (fun K hK => ?st87) ?mo87
                  case hi87 => simp only [List.getElem?_toArray, List.getElem?_cons_succ, List.getElem?_cons_zero]; rfl
                  case st87 =>
                    go_simp
                    refine hK.out _ _ trivial (fun hHeld => ?_)
                    clear hK K
                    try simp only [Act.put, List.setIfInBounds_toArray, List.set_cons_zero, List.set_cons_succ]
                    refine' wpAnyH_take (i := 29) (oi := ?o88) (v := ?v88) ?hi88 (by kernel_rfl) (by kernel_rfl) (by kernel_rfl) (fun c a w h => hP c a _ _ w h) (Or.inl ⟨?hw88, ?hy88⟩) hHeld ?rest88
                    case hi88 => simp only [List.getElem?_toArray, List.getElem?_cons_succ, List.getElem?_cons_zero]; rfl
                    case hw88 => rfl
                    case hy88 =>
                      intro w _
                      go_simp
                      try with_reducible rfl
                    simp only [Act.put, List.setIfInBounds_toArray, List.set_cons_zero, List.set_cons_succ]
                    refine wpAnyH_ready (rs := [22]) (by kernel_rfl) (by simp) ?_
                    refine' AllReadyH.cons (i := 22) (o := ?o89) ?hi89 (fun K hK => ?st89) ?mo89
                    case hi89 => simp only [List.getElem?_toArray, List.getElem?_cons_succ, List.getElem?_cons_zero]; rfl
                    case st89 =>
                      go_simp
                      refine (F9.out _ h6).mono ?_
                      rintro e w8 ⟨⟨A8, c8, rfl⟩, h6⟩
                      go_simp
                      refine hK.out _ _ trivial (fun hHeld => ?_)
                      clear hK K
                      try simp only [Act.put, List.setIfInBounds_toArray, List.set_cons_zero, List.set_cons_succ]
                      refine' wpAnyH_take (i := 23) (oi := ?o90) (v := ?v90) ?hi90 (by kernel_rfl) (by kernel_rfl) (by kernel_rfl) (fun c a w h => hP c a _ _ w h) (Or.inl ⟨?hw90, ?hy90⟩) hHeld ?rest90
                      case hi90 => simp only [List.getElem?_toArray, List.getElem?_cons_succ, List.getElem?_cons_zero]; rfl
                      case hw90 => rfl
                      case hy90 =>
                        intro w _
                        go_simp
                        try with_reducible rfl
                      simp only [Act.put, List.setIfInBounds_toArray, List.set_cons_zero, List.set_cons_succ]
                      refine' wpAnyH_take (i := 30) (oi := ?o91) (v := ?v91) ?hi91 (by kernel_rfl) (by kernel_rfl) (by kernel_rfl) (fun c a w h => hP c a _ _ w h) (Or.inl ⟨?hw91, ?hy91⟩) hHeld ?rest91
                      case hi91 => simp only [List.getElem?_toArray, List.getElem?_cons_succ, List.getElem?_cons_zero]; rfl
                      case hw91 => rfl
                      case hy91 =>
                        intro w _
                        go_simp
                        try with_reducible rfl
                      simp only [Act.put, List.setIfInBounds_toArray, List.set_cons_zero, List.set_cons_succ]
                      refine wpAnyH_done (by kernel_rfl) ?_ _
                      refine tillQ_normal ?_
                      refine' wpOp_step (i := 31) (o := ?o92) ?hi92 (fun K hK => ?_)
                      case hi92 => simp only [List.getElem?_toArray, List.getElem?_cons_succ, List.getElem?_cons_zero]; rfl
                      go_simp
                      refine hK _ _ ?_
                      exact hQ.out _ _ _ _ _ _ _ _ _ _ _ _ _ _ _ _ _ _ _ _ _ _ _ _ _ _ _ _ _ _ _ _ h6
                    case mo89 => exact AllReadyH.nil
                  case mo87 => exact AllReadyH.nil
              case mo72 => exact AllReadyH.nil
            case mo71 =>
              refine' AllReadyH.cons (i := 17) (o := ?o93) ?hi93 (fun K hK => ?st93) ?mo93
              case hi93 => simp only [List.getElem?_toArray, List.getElem?_cons_succ, List.getElem?_cons_zero]; rfl
              case st93 =>
                go_simp
                refine (F8.out _ h6).mono ?_
                rintro e w7 ⟨rfl, h6, h7⟩
                have z7 := hcv.out _ h7
                clear z6 hcv h7
                go_simp
                refine hK.out _ _ trivial (fun hHeld => ?_)
                clear hK K
                try simp only [Act.put, List.setIfInBounds_toArray, List.set_cons_zero, List.set_cons_succ]
                refine wpAnyH_ready (rs := [13]) (by kernel_rfl) (by simp) ?_
                refine' AllReadyH.cons (i := 13) (o := ?o94) ?hi94 (fun K hK => ?st94) ?mo94
                case hi94 => simp only [List.getElem?_toArray, List.getElem?_cons_succ, List.getElem?_cons_zero]; rfl
                case st94 =>
                  go_simp
                  refine hK.out _ _ trivial (fun hHeld => ?_)
                  clear hK K
                  try simp only [Act.put, List.setIfInBounds_toArray, List.set_cons_zero, List.set_cons_succ]
                  clear z7
                  refine' wpAnyH_take (i := 18) (oi := ?o95) (v := ?v95) ?hi95 (by kernel_rfl) (by kernel_rfl) (by kernel_rfl) (fun c a w h => hP c a _ _ w h) (Or.inl ⟨?hw95, ?hy95⟩) hHeld ?rest95
                  case hi95 => simp only [List.getElem?_toArray, List.getElem?_cons_succ, List.getElem?_cons_zero]; rfl
                  case hw95 => rfl
                  case hy95 =>
                    intro w _
                    go_simp
                    try with_reducible rfl
                  simp only [Act.put, List.setIfInBounds_toArray, List.set_cons_zero, List.set_cons_succ]
                  refine' wpAnyH_take (i := 19) (oi := ?o96) (v := ?v96) ?hi96 (by kernel_rfl) (by kernel_rfl) (by kernel_rfl) (fun c a w h => hP c a _ _ w h) (Or.inl ⟨?hw96, ?hy96⟩) hHeld ?rest96
                  case hi96 => simp only [List.getElem?_toArray, List.getElem?_cons_succ, List.getElem?_cons_zero]; rfl
                  case hw96 => rfl
                  case hy96 =>
                    intro w _
                    go_simp
                    try with_reducible rfl
                  simp only [Act.put, List.setIfInBounds_toArray, List.set_cons_zero, List.set_cons_succ]
                  refine' wpAnyH_take (i := 20) (oi := ?o97) (v := ?v97) ?hi97 (by kernel_rfl) (by kernel_rfl) (by kernel_rfl) (fun c a w h => hP c a _ _ w h) (Or.inl ⟨?hw97, ?hy97⟩) hHeld ?rest97
                  case hi97 => simp only [List.getElem?_toArray, List.getElem?_cons_succ, List.getElem?_cons_zero]; rfl
                  case hw97 => rfl
                  case hy97 =>
                    intro w _
                    go_simp
                    try with_reducible rfl
                  simp only [Act.put, List.setIfInBounds_toArray, List.set_cons_zero, List.set_cons_succ]
                  refine' wpAnyH_take (i := 21) (oi := ?o98) (v := ?v98) ?hi98 (by kernel_rfl) (by kernel_rfl) (by kernel_rfl) (fun c a w h => hP c a _ _ w h) (Or.inl ⟨?hw98, ?hy98⟩) hHeld ?rest98
                  case hi98 => simp only [List.getElem?_toArray, List.getElem?_cons_succ, List.getElem?_cons_zero]; rfl
                  case hw98 => rfl
                  case hy98 =>
                    intro w _
                    go_simp
                    try with_reducible rfl
                  simp only [Act.put, List.setIfInBounds_toArray, List.set_cons_zero, List.set_cons_succ]
                  refine' wpAnyH_take (i := 24) (oi := ?o99) (v := ?v99) ?hi99 (by kernel_rfl) (by kernel_rfl) (by kernel_rfl) (fun c a w h => hP c a _ _ w h) (Or.inl ⟨?hw99, ?hy99⟩) hHeld ?rest99
                  case hi99 => simp only [List.getElem?_toArray, List.getElem?_cons_succ, List.getElem?_cons_zero]; rfl
                  case hw99 => rfl
                  case hy99 =>
                    intro w _
                    go_simp
                    try with_reducible rfl
                  simp only [Act.put, List.setIfInBounds_toArray, List.set_cons_zero, List.set_cons_succ]
                  refine' wpAnyH_take (i := 25) (oi := ?o100) (v := ?v100) ?hi100 (by kernel_rfl) (by kernel_rfl) (by kernel_rfl) (fun c a w h => hP c a _ _ w h) (Or.inl ⟨?hw100, ?hy100⟩) hHeld ?rest100
                  case hi100 => simp only [List.getElem?_toArray, List.getElem?_cons_succ, List.getElem?_cons_zero]; rfl
                  case hw100 => rfl
                  case hy100 =>
                    intro w _
                    go_simp
                    try with_reducible rfl
                  simp only [Act.put, List.setIfInBounds_toArray, List.set_cons_zero, List.set_cons_succ]
                  refine' wpAnyH_take (i := 26) (oi := ?o101) (v := ?v101) ?hi101 (by kernel_rfl) (by kernel_rfl) (by kernel_rfl) (fun c a w h => hP c a _ _ w h) (Or.inl ⟨?hw101, ?hy101⟩) hHeld ?rest101
                  case hi101 => simp only [List.getElem?_toArray, List.getElem?_cons_succ, List.getElem?_cons_zero]; rfl
                  case hw101 => rfl
                  case hy101 =>
                    intro w _
                    go_simp
                    try with_reducible rfl
                  simp only [Act.put, List.setIfInBounds_toArray, List.set_cons_zero, List.set_cons_succ]
                  refine' wpAnyH_take (i := 27) (oi := ?o102) (v := ?v102) ?hi102 (by kernel_rfl) (by kernel_rfl) (by kernel_rfl) (fun c a w h => hP c a _ _ w h) (Or.inl ⟨?hw102, ?hy102⟩) hHeld ?rest102
                  case hi102 => simp only [List.getElem?_toArray, List.getElem?_cons_succ, List.getElem?_cons_zero]; rfl
                  case hw102 => rfl
                  case hy102 =>
                    intro w _
                    go_simp
                    try with_reducible rfl
                  simp only [Act.put, List.setIfInBounds_toArray, List.set_cons_zero, List.set_cons_succ]
                  have zc := FC.out _ h6
                  refine wpAnyH_ready (rs := [22, 28]) (by kernel_rfl) (by simp) ?_
                  refine' AllReadyH.cons (i := 22) (o := ?o103) ?hi103 (fun K hK => ?st103) ?mo103
                  case hi103 => simp only [List.getElem?_toArray, List.getElem?_cons_succ, List.getElem?_cons_zero]; rfl
                  case st103 =>
                    go_simp
                    refine (F9.out _ h6).mono ?_
                    rintro e w8 ⟨⟨A8, c8, rfl⟩, h6⟩
                    replace zc := FC.out _ h6
                    go_simp
                    refine hK.out _ _ trivial (fun hHeld => ?_)
                    clear hK K
                    try simp only [Act.put, List.setIfInBounds_toArray, List.set_cons_zero, List.set_cons_succ]
                    refine' wpAnyH_take (i := 23) (oi := ?o104) (v := ?v104) ?hi104 (by kernel_rfl) (by kernel_rfl) (by kernel_rfl) (fun c a w h => hP c a _ _ w h) (Or.inl ⟨?hw104, ?hy104⟩) hHeld ?rest104
                    case hi104 => simp only [List.getElem?_toArray, List.getElem?_cons_succ, List.getElem?_cons_zero]; rfl
                    case hw104 => rfl
                    case hy104 =>
                      intro w _
                      go_simp
                      try with_reducible rfl
                    simp only [Act.put, List.setIfInBounds_toArray, List.set_cons_zero, List.set_cons_succ]
                    refine wpAnyH_ready (rs := [28]) (by kernel_rfl) (by simp) ?_
                    refine' AllReadyH.cons (i := 28) (o := ?o105) ?hi105 (fun K hK => ?st105) ?mo105
                    case hi105 => simp only [List.getElem?_toArray, List.getElem?_cons_succ, List.getElem?_cons_zero]; rfl
                    case st105 =>
                      go_simp
                      refine hK.out _ _ trivial (fun hHeld => ?_)
                      clear hK K
                      try simp only [Act.put, List.setIfInBounds_toArray, List.set_cons_zero, List.set_cons_succ]
                      refine' wpAnyH_take (i := 29) (oi := ?o106) (v := ?v106) ?hi106 (by kernel_rfl) (by kernel_rfl) (by kernel_rfl) (fun c a w h => hP c a _ _ w h) (Or.inl ⟨?hw106, ?hy106⟩) hHeld ?rest106
                      case hi106 => simp only [List.getElem?_toArray, List.getElem?_cons_succ, List.getElem?_cons_zero]; rfl
                      case hw106 => rfl
                      case hy106 =>
                        intro w _
                        go_simp
                        try with_reducible rfl
                      simp only [Act.put, List.setIfInBounds_toArray, List.set_cons_zero, List.set_cons_succ]
                      refine' wpAnyH_take (i := 30) (oi := ?o107) (v := ?v107) ?hi107 (by kernel_rfl) (by kernel_rfl) (by kernel_rfl) (fun c a w h => hP c a _ _ w h) (Or.inl ⟨?hw107, ?hy107⟩) hHeld ?rest107
                      case hi107 => simp only [List.getElem?_toArray, List.getElem?_cons_succ, List.getElem?_cons_zero]; rfl
                      case hw107 => rfl
                      case hy107 =>
                        intro w _
                        go_simp
                        try with_reducible rfl
                      simp only [Act.put, List.setIfInBounds_toArray, List.set_cons_zero, List.set_cons_succ]
                      refine wpAnyH_done (by kernel_rfl) ?_ _
                      refine tillQ_normal ?_
                      refine' wpOp_step (i := 31) (o := ?o108) ?hi108 (fun K hK => ?_)
                      case hi108 => simp only [List.getElem?_toArray, List.getElem?_cons_succ, List.getElem?_cons_zero]; rfl
                      go_simp
                      refine hK _ _ ?_
                      exact hQ.out _ _ _ _ _ _ _ _ _ _ _ _ _ _ _ _ _ _ _ _ _ _ _ _ _ _ _ _ _ _ _ _ h6
                    case mo105 => exact AllReadyH.nil
                  case mo103 =>
                    refine' AllReadyH.cons (i := 28) (o := ?o109) ?hi109 (fun K hK => ?st109) ?mo109
                    case hi109 => simp only [List.getElem?_toArray, List.getElem?_cons_succ, List.getElem?_cons_zero]; rfl
                    case st109 =>
                      go_simp
                      refine hK.out _ _ trivial (fun hHeld => ?_)
                      clear hK K
                      try simp only [Act.put, List.setIfInBounds_toArray, List.set_cons_zero, List.set_cons_succ]
                      refine' wpAnyH_take (i := 29) (oi := ?o110) (v := ?v110) ?hi110 (by kernel_rfl) (by kernel_rfl) (by kernel_rfl) (fun c a w h => hP c a _ _ w h) (Or.inl ⟨?hw110, ?hy110⟩) hHeld ?rest110
                      case hi110 => simp only [List.getElem?_toArray, List.getElem?_cons_succ, List.getElem?_cons_zero]; rfl
                      case hw110 => rfl
                      case hy110 =>
                        intro w _
                        go_simp
                        try with_reducible rfl
                      simp only [Act.put, List.setIfInBounds_toArray, List.set_cons_zero, List.set_cons_succ]
                      refine wpAnyH_ready (rs := [22]) (by kernel_rfl) (by simp) ?_
                      refine' AllReadyH.cons (i := 22) (o := ?o111) ?hi111 (fun K hK => ?st111) ?mo111
                      case hi111 => simp only [List.getElem?_toArray, List.getElem?_cons_succ, List.getElem?_cons_zero]; rfl
                      case st111 =>
                        go_simp
                        refine (F9.out _ h6).mono ?_
                        rintro e w8 ⟨⟨A8, c8, rfl⟩, h6⟩
                        go_simp
                        refine hK.out _ _ trivial (fun hHeld => ?_)
                        clear hK K
                        try simp only [Act.put, List.setIfInBounds_toArray, List.set_cons_zero, List.set_cons_succ]
                        refine' wpAnyH_take (i := 23) (oi := ?o112) (v := ?v112) ?hi112 (by kernel_rfl) (by kernel_rfl) (by kernel_rfl) (fun c a w h => hP c a _ _ w h) (Or.inl ⟨?hw112, ?hy112⟩) hHeld ?rest112
                        case hi112 => simp only [List.getElem?_toArray, List.getElem?_cons_succ, List.getElem?_cons_zero]; rfl
                        case hw112 => rfl
                        case hy112 =>
                          intro w _
                          go_simp
                          try with_reducible rfl
                        simp only [Act.put, List.setIfInBounds_toArray, List.set_cons_zero, List.set_cons_succ]
                        refine' wpAnyH_take (i := 30) (oi := ?o113) (v := ?v113) ?hi113 (by kernel_rfl) (by kernel_rfl) (by kernel_rfl) (fun c a w h => hP c a _ _ w h) (Or.inl ⟨?hw113, ?hy113⟩) hHeld ?rest113
                        case hi113 => simp only [List.getElem?_toArray, List.getElem?_cons_succ, List.getElem?_cons_zero]; rfl
                        case hw113 => rfl
                        case hy113 =>
                          intro w _
                          go_simp
                          try with_reducible rfl
                        simp only [Act.put, List.setIfInBounds_toArray, List.set_cons_zero, List.set_cons_succ]
                        refine wpAnyH_done (by kernel_rfl) ?_ _
                        refine tillQ_normal ?_
                        refine' wpOp_step (i := 31) (o := ?o114) ?hi114 (fun K hK => ?_)
                        case hi114 => simp only [List.getElem?_toArray, List.getElem?_cons_succ, List.getElem?_cons_zero]; rfl
                        go_simp
                        refine hK _ _ ?_
                        exact hQ.out _ _ _ _ _ _ _ _ _ _ _ _ _ _ _ _ _ _ _ _ _ _ _ _ _ _ _ _ _ _ _ _ h6
                      case mo111 => exact AllReadyH.nil
                    case mo109 => exact AllReadyH.nil
                case mo94 => exact AllReadyH.nil
              case mo93 => exact AllReadyH.nil
          case mo70 => exact AllReadyH.nil
        case mo62 => exact AllReadyH.nil
      case mo61 => exact AllReadyH.nil
  case mo6 => exact AllReadyH.nil
end Ti
end Go.Proofs.Ytchlbkfkecpodaa

namespace Go.Proofs.Ytchlbkfkecpodaa.tillPlays
set_option maxRecDepth 100000
open Go.ChangeShapes Go.WideShapes Go.ChangeAt Go.WideMaps Go.WideElems Go.RowKit
open Go.Sort (grow)
open Go.Proofs.Ytchlbkfkecpodaa.Pk (Rb adr_block one_at one_free one_set lt_some grown_set grown_trans below_grown grown_refl u8s own_form)
open Go.Proofs.Ytchlbkfkecpodaa.Pu (Ops OpAt Osrc Four view_aops view_nums view_four Rr Src usm usm_lt usm_slot own laidOut bnd post_below E Ln eg ez cell eq_ent_run state_run grq Kx Kq dstp bal)
open Go.Proofs.Ytchlbkfkecpodaa.St (RowI ivs ByTo)
open Go.Proofs.Ytchlbkfkecpodaa.Ti
open Go.Proofs.Ytchlbkfkecpodaa.Wt (Opn mayOp)


def PlAt (B : World) (q d : Nat) (i : Value) (wr : World) : Prop := ∃ (j : Nat) (s : S), i = .int .i64 j ∧ j ≤ 60 ∧ P2 B q d s s wr
set_option maxHeartbeats 12800000 in
theorem walk (w : World) (a b c d : Int) (hI : ∀ z ∈ [a, b, c, d], Cs.I z) (A : Option Addr) (n cc : Nat) (l : List Opn) (R : Ops w w.heap.size A n l) (hn : n ≤ 9223372036854775807) :
    Calls Try.prog 9 #[.agg #[.int .i64 a, .int .i64 b, .int .i64 c, .int .i64 d], .slice A n cc] w fun e w' => e = .returned (.bool true) ∧ Below w.heap.size w w' := by
  obtain ⟨W0, hW0⟩ : ∃ W, W = w.alloc (.cells #[.int .i64 a, .int .i64 b, .int .i64 c, .int .i64 d] 54) := ⟨_, rfl⟩
  have B0 : Hid (Below w.heap.size w W0) := by rw [hW0]; exact (Below.refl _ _).alloc (Nat.le_refl _) _
  have h0 : Hid (W0.heap[w.heap.size]? = some (.cells #[.int .i64 a, .int .i64 b, .int .i64 c, .int .i64 d] 54 (0, 0))) := by rw [hW0]; exact heap_alloc_new _ _
  have HC : Hid (∀ w', Below W0.heap.size W0 w' → w'.cell? ⟨w.heap.size, 0, none⟩ = some (.int .i64 a) ∧ w'.cell? ⟨w.heap.size, 1, none⟩ = some (.int .i64 b) ∧ w'.cell? ⟨w.heap.size, 2, none⟩ = some (.int .i64 c) ∧ w'.cell? ⟨w.heap.size, 3, none⟩ = some (.int .i64 d)) := fun w' hb => by
    have h := (hb.block _ (lt_some h0.out)).trans h0.out
    exact ⟨one_at (i := 0) h, one_at (i := 1) h, one_at (i := 2) h, one_at (i := 3) h⟩
  obtain ⟨p0, p1, p2, p3⟩ := HC.out W0 (Below.refl _ _)
  have MF := Lib.hid (fun w => Pu.refMayFunds_any w a b c d)
  replace hW0 := Lib.hid hW0
  replace R := Lib.hid R
  have hI' := Lib.hid hI
  clear hI
  cases hm : Pu.mayF a b c d with
  | false =>
    have N := Lib.hid (tnew_no W0 a b c d hI'.out hm)
    rw [hm] at MF
    clear hm
    go_enter Try.func9, Try.ntmps9
    go_wp2_with fail
    rw [← hW0.out]
    go_wp2_with fail
    refine N.out.mono ?_
    rintro e w1 ⟨rfl, b1⟩
    obtain ⟨q0, q1, q2, q3⟩ := HC.out w1 b1
    have B1 : Hid (Below w.heap.size w w1) := B0.out.trans (b1.mono B0.out.size)
    clear N b1 HC p0 p1 p2 p3
    go_wp2_with fail
    refine (MF.out w1).mono ?_
    rintro e w2 ⟨rfl, b2⟩
    have B2 : Hid (Below w.heap.size w w2) := B1.out.trans (b2.mono B1.out.size)
    have TA := Lib.hid (told_any w2)
    clear MF b2 q0 q1 q2 q3
    go_wp2_with fail
    refine TA.out.mono ?_
    rintro e w3 ⟨rfl, b3⟩
    have B3 : Hid (Below w.heap.size w w3) := B2.out.trans (b3.mono B2.out.size)
    clear TA b3
    go_wp2
    go_ret
    exact ⟨rfl, B3.out⟩
  | true =>
    have N := ow_new W0 a b c d hI'.out hm
    have RN := Lib.hid (fun w => Pu.refnew_any w a b c d hm)
    rw [hm] at MF
    clear hm
    obtain ⟨s0, hs0⟩ : ∃ s : S, s = ⟨Pu.new a b c d, Tb.fz⟩ := ⟨_, rfl⟩
    have pz : Pu.new a b c d = s0.p := by rw [hs0]
    have gz : Tb.fz = s0.g := by rw [hs0]
    have zz : (⟨s0.p, Tb.fz⟩ : S) = s0 := by rw [hs0]
    rw [pz] at N RN
    rw [zz] at N
    replace N := Lib.hid N
    clear pz gz hs0
    go_enter Try.func9, Try.ntmps9
    go_wp2_with fail
    rw [← hW0.out]
    go_wp2_with fail
    refine N.out.mono ?_
    rintro e w1 ⟨q, rfl, O1⟩
    obtain ⟨q0, q1, q2, q3⟩ := HC.out w1 O1.be
    replace O1 := Lib.hid O1
    clear N p0 p1 p2 p3
    go_wp2_with fail
    refine (MF.out w1).mono ?_
    rintro e w2 ⟨rfl, b2⟩
    have O2 := Lib.hid (O1.out.below b2)
    clear q0 q1 q2 q3
    obtain ⟨q0, q1, q2, q3⟩ := HC.out w2 O2.out.be
    have X := Lib.hid (RN.out w2)
    clear MF b2 O1 RN
    go_wp2_with fail
    refine X.out.mono ?_
    rintro e w4 ⟨e0, rfl, he0, L4, b4⟩
    have O4 := O2.out.below b4
    obtain ⟨v4, D4, R4, hne, hv⟩ := L4.at_
    have hnn : v4.ownBlock = none := by
      cases e : v4.ownBlock with
      | none => rfl
      | some g =>
        have h2 : g = e0 := hv g e
        exact absurd (e.trans (by rw [h2])) hne
    rw [← zz] at O4
    have P0 := P2.start O4 R4 hnn
    rw [zz] at P0
    have hall := Lib.hid D4.all
    obtain ⟨du, hu, hd⟩ := dpur_under
    replace hu := Lib.hid hu
    replace hd := Lib.hid hd
    have hi : Hid ((Try.prog.info? 84).map (·.size) = some (Pu.pcs s0.p v4).length) := by rw [Pu.pcs_len]; exact dpur_size
    obtain ⟨w5, hw5⟩ : ∃ x, x = w4.alloc (.cells (Pu.pcs s0.p v4 ++ z1408).toArray 90) := ⟨_, rfl⟩
    rw [← hw5] at P0
    obtain ⟨dd, hdd⟩ : ∃ d, d = w4.heap.size := ⟨_, rfl⟩
    rw [← hdd] at P0
    have st : Hid (PlAt W0 q dd (.int .i64 0) w5) := ⟨0, s0, rfl, by omega, P0⟩
    replace hw5 := Lib.hid hw5
    replace hdd := Lib.hid hdd
    generalize s0.p = pp at hall hi hw5
    clear X O2 O4 L4 D4 R4 hne hv hnn P0 q0 q1 q2 q3 b4 he0 zz HC h0
    go_wp2_with (first
      | (refine wpList_load_mid rfl 84 (.tmp 39) rfl e0 0 rfl (Pu.pcs pp v4) du hall.out hu.out hd.out hi.out ?_)
      | (refine wpList_dtbuild rfl (.tmp 40) rfl pp v4 rfl ?_)
      | (refine wpList_dtbox rfl (.tmp 41) rfl _ rfl ?_; rw [← hw5.out, ← hdd.out]))
    clear hall hu hd hi hw5 hdd
    go_loopw [8] (fun i wr => PlAt W0 q dd i wr) (fun i _ => 60 - (intOf i).toNat)
    case atStart => exact st.out
    case round =>
      clear st
      obtain ⟨j, s, rfl, hj, P⟩ := hrel
      obtain ⟨bb, hbb⟩ : ∃ b : Bool, b = (decide (j < n) && decide (j < 60)) := ⟨_, rfl⟩
      go_upto_region 8 with fail
      go_cut [50] from 43 to 50 (fun s50 wx => s50 = .bool bb ∧ wx = wr)
      case first =>
        by_cases hjn : j < n
        · by_cases h60 : j < 60
          · have i1 : (j : Int) < 60 := by omega
            have F : Hid (bb = true) := by unfold Hid; rw [hbb, decide_eq_true hjn, decide_eq_true h60]; rfl
            clear hbb P
            go_wp2
            go_meet
            case rel => exact ⟨by rw [F.out], rfl⟩
          · have i1 : ¬ (j : Int) < 60 := by omega
            have F : Hid (bb = false) := by unfold Hid; rw [hbb, decide_eq_true hjn, decide_eq_false h60]; rfl
            clear hbb P
            go_wp2
            go_meet
            case rel => exact ⟨by rw [F.out], rfl⟩
        · have F : Hid (bb = false) := by unfold Hid; rw [hbb, decide_eq_false hjn]; rfl
          clear hbb P
          go_wp2
          go_meet
          case rel => exact ⟨by rw [F.out], rfl⟩
      case rest =>
      obtain ⟨rfl, rfl⟩ := hcut
      obtain ⟨wr, ewr⟩ : ∃ x, x = wc := ⟨_, rfl⟩
      subst ewr
      cases bb with
      | true =>
        have hb := hbb.symm
        rw [Bool.and_eq_true, decide_eq_true_iff, decide_eq_true_iff] at hb
        obtain ⟨hjn, h60⟩ := hb
        clear hbb
        obtain ⟨x, hs⟩ : ∃ s, l[j]? = some s := ⟨_, List.getElem?_eq_getElem (by have := R.out.len; omega)⟩
        obtain ⟨ad, rfl, hab, hat⟩ := R.out.at_ (by omega)
        have OC : Hid (∀ w' s1 s2, P2 W0 q dd s1 s2 w' → OpAt w' ad j x) := fun w' s1 s2 P => (hat j x hs).same ((B0.out.trans (P.be.mono B0.out.size)).block _ hab)
        obtain ⟨y0, y1, y2, y3, y4⟩ := OC.out _ _ _ P
        have i1 : (j : Int) < 60 := by omega
        have D := Lib.hid (p2_ask P x)
        have PX : Hid (∀ s1 w', P2 W0 q dd s1 s w' → Calls Try.prog 50 #[.pointer (some ⟨dd, 0, none⟩), .agg #[.int .i64 x.kind, .int .i64 x.book, .int .i64 x.units, .int .i64 x.cust, .int .i64 x.amount]] w' fun e w'' => e = .returned (.tuple #[.int .i64 (ans s x), .bool (isNew s x)]) ∧ P2 W0 q dd s1 (asked s x) w'') := fun s1 w' h => px_ask h x
        replace hs := Lib.hid hs
        replace hat := Lib.hid hat
        generalize asked s x = s' at *
        generalize ans s x = er at *
        generalize isNew s x = p at *
        clear P
        go_wp2_with fail
        refine D.out.mono ?_
        rintro e w6 ⟨rfl, M6⟩
        have X6 := Lib.hid (PX.out _ _ M6)
        clear D PX y0 y1 y2 y3 y4
        obtain ⟨y0, y1, y2, y3, y4⟩ := OC.out _ _ _ M6
        clear M6
        go_wp2_with fail
        refine X6.out.mono ?_
        rintro e w7 ⟨rfl, M7⟩
        have QA := fun dr os => Calls.regrown_of ((p2_answers (M7.below (below_regrown w7 dr os))).mono fun _ _ k => ⟨k.1, by rw [← k.2]; exact Below.refl _ _⟩)
        have zN := cell_regrown M7.num
        have E7 : Hid (∀ w8, Below w7.heap.size w7 w8 → PlAt W0 q dd (.int .i64 ((j + 1 : Nat) : Int)) w8) := fun w8 hb => ⟨j + 1, s', rfl, by omega, M7.below hb⟩
        generalize (((Tb.cnt s'.g : Nat)) : Int) = nn at *
        have q1 : (er != er) = false := by simp
        have q2 : (p != p) = false := by simp
        have q3 : (nn != nn) = false := by simp
        clear X6 M7 y0 y1 y2 y3 y4
        go_upto_region 12 with fail
        refine wp_region_quiet_below (by kernel_rfl) (by kernel_rfl) ?_
        repeat (go_big_quiet_step (first | with_reducible exact QA _ _))
        refine wpQuiet_nil ?_
        intro w8 hw'
        obtain ⟨⟨dq, osq⟩, hw8⟩ := hw'
        have F := Lib.hid (E7.out w8 (by rw [hw8]; exact below_regrown w7 dq osq))
        clear hw8 zN QA E7
        go_wp2
        exact ⟨F.out, by simp [intOf]; omega⟩
      | false =>
        have SK := Lib.hid (ow_purse P.ow)
        have BW : Hid (∀ w', Below wr.heap.size wr w' → Below w.heap.size w w') := fun w' hb => B0.out.trans ((P.below hb).be.mono B0.out.size)
        replace P := Lib.hid P
        clear hbb hj
        go_wp2_with fail
        refine SK.out.mono ?_
        rintro e w2 ⟨q2, rfl, hq2, S2, b2⟩
        have PB := P.out.below b2
        have OK := PB.ok2
        obtain ⟨fp2, L2, -⟩ := S2.ex
        obtain ⟨fpd, -, D2, -⟩ := PB.ex
        obtain ⟨fpr, -, Dr, -⟩ := P.out.ex
        have few := OK.p.few
        obtain ⟨vl, Dm, Rm, -, -⟩ := D2.pu.at_
        obtain ⟨Al, cl, rfl, -⟩ := Pu.rt_form Rm
        have F5 : Hid (∀ w', Below w2.heap.size w2 w' → Calls Try.prog 53 #[.pointer (some ⟨q, 0, none⟩)] w' fun e w'' => ∃ A n c, e = .returned (.slice A n c) ∧ (∀ w3, Below w''.heap.size w'' w3 → (convert 34 9 (.slice A n c)).run Try.prog w3 = .ok (.string (Pk.str (tlbts s))) w3) ∧ Below w2.heap.size w2 w'') := fun w' hb => (ow_bytes (PB.ow.below hb)).mono fun e w'' h => by
          obtain ⟨v, rfl, hr, h2⟩ := h
          obtain ⟨A, c, rfl⟩ := Pk.own_form hr
          exact ⟨A, _, c, rfl, fun w3 h3 => Pk.str_run (Pk.Rb.of_own (St.rb_below hr h3)), hb.trans (h2.mono hb.size)⟩
        have F6 : Hid (∀ w', Below w2.heap.size w2 w' → Calls Try.prog 54 #[.pointer (some ⟨dd, 0, none⟩)] w' fun e w'' => e = .returned (.string (Pk.str (tlbts s))) ∧ Below w2.heap.size w2 w'' ∧ Below w'.heap.size w' w'') := fun w' hb => (refbytes_any w' dd s fpd (D2.below hb) OK).mono fun _ _ ⟨h1, h2⟩ => ⟨h1, hb.trans (h2.mono hb.size), h2⟩
        have F7 : Hid (∀ w', Below w2.heap.size w2 w' → Calls Try.prog 39 #[.pointer (some ⟨q2, 0, none⟩)] w' fun e w'' => ∃ A n c, e = .returned (.slice A n c) ∧ (∀ w3, Below w''.heap.size w'' w3 → (convert 34 9 (.slice A n c)).run Try.prog w3 = .ok (.string (Pk.str (Pu.bts s.p 200))) w3) ∧ Below w2.heap.size w2 w'') := fun w' hb => (Pu.bytes_any w' q2 s.p fp2 (L2.below hb)).mono fun e w'' h => by
          obtain ⟨v, rfl, hr, h2⟩ := h
          obtain ⟨A, c, rfl⟩ := Pk.own_form hr
          exact ⟨A, _, c, rfl, fun w3 h3 => Pk.str_run (Pk.Rb.of_own (St.rb_below hr h3)), hb.trans (h2.mono hb.size)⟩
        have F8 : Hid (∀ w', Below w2.heap.size w2 w' → Calls Try.prog 55 #[.pointer (some ⟨dd, 0, none⟩)] w' fun e w'' => e = .returned (.string (Pk.str (Pu.bts s.p 200))) ∧ Below w2.heap.size w2 w'' ∧ Below w'.heap.size w' w'') := fun w' hb => (Pu.refbytes_any w' dd s.p fpd (D2.pu.below hb)).mono fun _ _ ⟨h1, h2⟩ => ⟨h1, hb.trans (h2.mono hb.size), h2⟩
        have F9 : Hid (∀ w', Below w2.heap.size w2 w' → Calls Try.prog 38 #[.pointer (some ⟨q2, 0, none⟩)] w' fun e w'' => (∃ A c, e = .returned (.slice A s.p.l.length c)) ∧ Below w2.heap.size w2 w'') := fun w' hb => (Pu.lines_any w' q2 s.p fp2 (L2.below hb)).mono fun e w'' h => by
          obtain ⟨v, rfl, hr, h2⟩ := h
          obtain ⟨A, c, rfl, -⟩ := Pu.rt_form hr
          exact ⟨⟨A, c, rfl⟩, hb.trans (h2.mono hb.size)⟩
        have FC : Hid (∀ w', Below w2.heap.size w2 w' → w'.cell? ⟨dd, 1011, none⟩ = some (.slice Al s.p.l.length cl)) := fun w' hb => (Dm.below hb).lin
        have DO : Hid (∀ w', Below w2.heap.size w2 w' → Calls Try.prog 30 #[.pointer (some ⟨q2, 0, none⟩), .agg #[.int .i64 6, .int .i64 1, .int .i64 0, .int .i64 0, .int .i64 0]] w' fun e w'' => (∃ a : Int, e = .returned (.int .i64 a)) ∧ Below wr.heap.size wr w'') := fun w' hb => (Pu.do_any w' q2 s.p fp2 (L2.below hb) ⟨6, 1, 0, 0, 0⟩).mono fun _ _ h => ⟨⟨_, h.1⟩, (b2.trans (hb.mono b2.size)).trans (h.2.2.toKq.below (fun g hg => by rw [hg]; exact hq2) (Nat.le_trans b2.size hb.size))⟩
        have G5 : Hid (∀ w', Below wr.heap.size wr w' → Calls Try.prog 53 #[.pointer (some ⟨q, 0, none⟩)] w' fun e w'' => ∃ A n c, e = .returned (.slice A n c) ∧ (∀ w3, Below w''.heap.size w'' w3 → (convert 34 9 (.slice A n c)).run Try.prog w3 = .ok (.string (Pk.str (tlbts s))) w3) ∧ Below wr.heap.size wr w'') := fun w' hb => (ow_bytes (P.out.ow.below hb)).mono fun e w'' h => by
          obtain ⟨v, rfl, hr, h2⟩ := h
          obtain ⟨A, c, rfl⟩ := Pk.own_form hr
          exact ⟨A, _, c, rfl, fun w3 h3 => Pk.str_run (Pk.Rb.of_own (St.rb_below hr h3)), hb.trans (h2.mono hb.size)⟩
        have G6 : Hid (∀ w', Below wr.heap.size wr w' → Calls Try.prog 54 #[.pointer (some ⟨dd, 0, none⟩)] w' fun e w'' => e = .returned (.string (Pk.str (tlbts s))) ∧ Below wr.heap.size wr w'' ∧ Below w'.heap.size w' w'') := fun w' hb => (refbytes_any w' dd s fpr (Dr.below hb) OK).mono fun _ _ ⟨h1, h2⟩ => ⟨h1, hb.trans (h2.mono hb.size), h2⟩
        have TA : Hid (∀ w', Below wr.heap.size wr w' → Calls Try.prog 48 #[] w' fun e w'' => e = .returned (.bool true) ∧ Below wr.heap.size wr w'') := fun w' hb => (told_any w').mono fun _ _ ⟨h1, h2⟩ => ⟨h1, hb.trans (h2.mono hb.size)⟩
        generalize Pk.str (tlbts s) = bs at *
        generalize Pk.str (Pu.bts s.p 200) = bp at *
        generalize s.p.l.length = m at *
        clear SK P S2 PB OK L2 D2 Dr Dm Rm few b2 hq2
        go_upto_region 15 with fail
        refine tp15 _ _ _ _ _ _ _ _ _ _ _ _ _ _ _ _ _ _ _ _ _ _ _ _ _ _ _ _ _ _ _ _ _ _ _ _ _ _ _ _ _ _ _ _ _ _ _ _ _ _ _ _ _ _ _ _ _ _ _ _ _ _ _ _ _ _ _ _ _ _ _ _ _ _ _ _ _ _ _ _ _ _ _ _ _ _ _ _ _ _ _ _ _ _ _ _ _ _ _ _ _ _ _ _ _ _ _ _ _ _ _ _ _ _ _ _ _ _ _ _ _ _ _ _ _ _ _ _ _ _ _ _ w2 q dd q2 m cl Al bs bp F5 F6 F7 F8 F9 FC _ (fun _ _ d _ _ h => by cases d <;> exact h) (fun y91 y92 y93 y94 y95 y96 y97 y98 y99 y100 y101 y102 y103 y104 y105 y106 y107 y108 y109 y110 y111 y112 y113 y114 y115 y116 y117 y118 y119 y120 y121 wc hb => ?_)
        have DW := Lib.hid (DO.out wc hb)
        clear F5 F6 F7 F8 F9 FC DO hb
        go_wp2_with fail
        refine DW.out.mono ?_
        rintro e w3 ⟨⟨a, rfl⟩, b3⟩
        have b3' : Below wr.heap.size wr w3.drew := b3.trans ⟨rfl, rfl, rfl, Nat.le_refl _, fun _ _ => rfl⟩
        clear DW
        go_upto_region 18 with fail
        go_cut [4] from 126 to 134 (fun s4 wx => s4 = .bool true ∧ Below wr.heap.size wr wx)
        case first =>
          go_region_with ((first | (go_at_call 48; refine (TA.out _ (by assumption)).mono ?_; rintro e w6 ⟨rfl, h6⟩; (try have z6 := hcv.out _ (by assumption))) | (go_at_call 53; refine (G5.out _ (by assumption)).mono ?_; rintro e w6 ⟨A, n, c, rfl, hcv, h6⟩; have z6 := hcv _ (Below.refl _ _); replace hcv := Lib.hid hcv) | (go_at_call 54; refine (G6.out _ (by assumption)).mono ?_; rintro e w6 ⟨rfl, h6, h7⟩; (try have z6 := hcv.out _ h7); clear h7)))
          all_goals
            go_wp2
            go_meet
            case rel => exact ⟨by simp, by assumption⟩
        case rest =>
        obtain ⟨rfl, hb⟩ := hcut
        have E := Lib.hid (BW.out _ hb)
        clear hb
        go_wp2
        go_ret
        exact ⟨rfl, E.out⟩
theorem walkd (x0 : Four) (hI : ∀ z ∈ [x0.a, x0.b, x0.c, x0.d], Cs.I z) (v1 : Value) (a1 : List Opn) {W : World} (w1 : Osrc W v1 a1) (W' : World) (hW : W' = W) :
    Calls Try.prog 9 #[x0.v, v1] W' fun e w' => e = .returned (.bool true) ∧ Below W'.heap.size W' w' := by
  subst hW
  obtain ⟨A, n, c, rfl, h1, h2, R⟩ := w1
  exact walk W' x0.a x0.b x0.c x0.d hI A n c a1 R (by omega)


/-! The row: every input. -/
set_option linter.unusedVariables false
set_option maxRecDepth 100000 in
theorem lifted (os : Os) (started : os.Started) (H : Type) (enc : TypeId × Value → H) :
    ReturnsInHanded {} Try.checked os 9 .any (Rows.tillPlaysSpec.pre6 enc Try.prog Try.f9 Rows.tillPlaysRow.domain false) (Rows.tillPlaysSpec.post enc Try.prog Try.f9 false true false false) := by
  refine returnsInHanded_of_change (C := Try.checked) own started (by kernel_rfl) Try.func9
    (ChangeSpec.witness6 (enc := enc) (C := Try.checked) false ⟨#[], #[.agg #[.int .i64 0, .int .i64 0, .int .i64 0, .int .i64 0], .slice none 0 0], []⟩ 8 (by kernel_rfl) (by kernel_rfl) (by kernel_rfl) (by kernel_rfl)) ?_
  intro W base args ds gs before hval0 hW _ _
  have hval : ∀ (j : Nat) t v, Try.f9.params[j]? = some t → args[j]? = some v → Value.okWide Try.prog W .any base t v := hval0
  have hW' := hW
  obtain ⟨p, q, hA0, hV, rfl, hfz, hnd⟩ := hW
  have hA : DataW.TrodAll enc Try.prog W 0 (fun _ => true) true Try.f9.params.toList args.toList ds p := hA0
  rw [Try.params9] at hA hval
  obtain ⟨v0, vs0, d0, ds0, p0, q0, hargs, rfl, rfl, h0, r0⟩ := trodAll_cons hA
  obtain ⟨v1, vs1, d1, ds1, p1, q1, rfl, rfl, rfl, h1, r1⟩ := trodAll_cons r0
  obtain ⟨rfl, rfl, rfl⟩ := trodAll_nil r1
  obtain rfl : args = #[v0, v1] := by cases args; simp_all
  obtain ⟨rfl, rfl⟩ := trodVars_none hV
  obtain ⟨x0, rfl, w0⟩ := view_four (hval 0 54 v0 rfl rfl) h0
  obtain ⟨a1, w1⟩ := view_aops (hval 1 55 v1 rfl rfl) h1
  clear hA0 hval0
  simp only [List.append_nil] at hW'
  refine (walkd x0 w0 v1 a1 w1 W rfl).mono fun e W' ⟨he, hb⟩ => ?_
  subst he
  exact ⟨_, rfl, post_below (pa := p0 ++ (p1 ++ [])) (pv := []) hW' (fun _ _ _ => (trodAll_cons_mk (shut_bool Try.underlying4 _) trodAll_mk0)) (fun sp hsp => (trodAll_cons_mk (Trod_stays laidOut (by kernel_rfl) (of_decide_eq_true (by kernel_rfl)) h0 (fun x hx => hb.same (hW'.lt x (by simp [hx]))) (fun x hx => hsp x (by simp [hx]))) (trodAll_cons_mk (Trod_stays laidOut (by kernel_rfl) (of_decide_eq_true (by kernel_rfl)) h1 (fun x hx => hb.same (hW'.lt x (by simp [hx]))) (fun x hx => hsp x (by simp [hx]))) trodAll_mk0))) (fun _ _ => rfl) (by simp)
    hb (ok_one (by kernel_rfl) rfl (okWide_bool_mk Try.underlying4 _))⟩

theorem proved : Rows.TillPlaysSaid :=
  OpenClaim.holds_of_wide 9 Try.f9 rfl rfl rfl rfl rfl rfl rfl ⟨rfl, rfl, rfl, rfl, rfl⟩ rfl rfl rfl rfl rfl (by kernel_rfl) Try.func9 (by kernel_rfl)
    (of_decide_eq_true (by kernel_rfl)) (by unfold Func.isWrapper; first | (rw [if_pos (by decide +kernel)]; kernel_rfl) | (rw [if_neg (by decide +kernel)]; exact ⟨rfl, rfl⟩))
    (fun os started H enc _ => lifted os started H enc)
#print axioms proved

end Go.Proofs.Ytchlbkfkecpodaa.tillPlays
