/- Proved: what an inventory answers is what the document says (HostPlays), for any inventory, any steps. -/
import Derived.StillTail
import Derived.Deep.RegionHeld3
import Derived.Test.YtchlbkfkecpodaaGreatDhX
import Derived.Test.YtchlbkfkecpodaaGreatHoT
import Derived.JoinedRecord
import Derived.HandedShaped
namespace Go.Proofs.YtchlbkfkecpodaaGreat
namespace Ho

section
variable {P : Program} {ops : Array Oper} {Q : Exit → Act → World → Prop}

/-- What is asked ahead of the last operation. -/
def tillQ (P : Program) (ops : Array Oper) (n : Nat) (Q : Exit → Act → World → Prop) : Exit → Act → World → Prop
  | .normal, a, w => wpOp P ops Q n (fun a w => Q .normal a w) a w
  | e, a, w => Q e a w
theorem tillQ_normal {n : Nat} {a : Act} {w : World} (h : wpOp P ops Q n (fun a w => Q .normal a w) a w) : tillQ P ops n Q .normal a w := h
/-- Each operation waits for elder ones alone. -/
def elderB (ops : Array Oper) : Bool := (List.range ops.size).all fun i => ((ops[i]?).map fun o => o.after.all fun e => decide (e.on < i)).getD true
def tillB (ops : Array Oper) (n : Nat) : Bool := decide (ops.size = n + 1) && elderB ops && Region.sinkB .any ops n && Region.chainB .any ops n

theorem wpOp_till {n i : Nat} {a : Act} {w : World} {K K' : Act → World → Prop} (hm : ∀ a w, K a w → K' a w) (h : wpOp P ops (tillQ P ops n Q) i K a w) : wpOp P ops Q i K' a w := by
  refine wpOp_mono hm ?_
  unfold wpOp at *
  split
  · simpa [*] using h
  · rename_i o ho
    simp only [ho] at h
    split
    · rename_i hw
      simp only [hw, if_true] at h
      rcases h with h | ⟨h1, h2⟩
      · refine .inl ?_
        unfold Oper.wp at *
        generalize (execOp a.eval o).run P w = r at *
        cases r with
        | ok x w' =>
          cases x <;> simp only [Oper.upon] at h ⊢
          case enter f args => exact Calls.mono h fun e w'' he => by cases e <;> exact he
          all_goals exact h
        | halt x w' => cases x <;> simp only [Oper.upon] at h ⊢ <;> exact h
      · exact .inr ⟨h1, h2⟩
    · rename_i hw
      simp only [hw] at h
      exact h

theorem ready_some {n : Nat} {listed : Array Bool} (he : elderB ops = true) (hsz : ops.size = n + 1) (inv : HeadInv .any ops n listed) : Region.ready .any ops listed ≠ [] := by
  intro h0
  have H : ∀ i, i < ops.size → listed.getD i true = true := by
    intro i
    induction i using Nat.strongRecOn with
    | _ i ih =>
      intro hi
      cases hl : listed.getD i true with
      | true => rfl
      | false =>
        have : i ∈ Region.ready .any ops listed := mem_ready.2 ⟨hl, ops[i], Array.getElem?_eq_getElem hi, fun e hm _ => by
          have h1 := List.all_eq_true.1 he i (List.mem_range.2 hi)
          rw [Array.getElem?_eq_getElem hi] at h1
          simp only [Option.map_some, Option.getD_some] at h1
          have h2 := Array.all_eq_true'.1 h1 e hm
          have h3 : e.on < i := by simpa using h2
          have h4 := ih e.on h3 (by omega)
          have hs : e.on < listed.size := by rw [inv.size]; omega
          simp [hs] at h4 ⊢
          exact h4⟩
        rw [h0] at this
        cases this
  have h1 := H n (by omega)
  rw [inv.tail n (Nat.le_refl _) (by omega)] at h1
  cases h1

theorem wpAny_till {n : Nat} (hsz : ops.size = n + 1) (he : elderB ops = true) (hs : Region.sinkB .any ops n = true) (hc : Region.chainB .any ops n = true) :
    ∀ (f : Nat) (listed : Array Bool) (a : Act) (w : World), HeadInv .any ops n listed → wpAny P .any ops (tillQ P ops n Q) f (listed.setIfInBounds n true) a w → wpAny P .any ops Q (f + 1) listed a w := by
  intro f
  induction f with
  | zero =>
    intro listed a w inv h
    refine ⟨fun h0 => absurd h0 (ready_some he hsz inv), fun i hi => ?_⟩
    by_cases hin : i = n
    · subst hin
      exact wpOp_mono (fun a w hq => ⟨h.1, hq⟩) h.2
    · have := ready_mono hi hin
      rw [h.1] at this
      cases this
  | succ f ih =>
    intro listed a w inv h
    refine ⟨fun h0 => absurd h0 (ready_some he hsz inv), fun i hi => ?_⟩
    by_cases hin : i = n
    · subst hin
      have hnil : Region.ready .any ops (listed.setIfInBounds i true) = [] := by
        apply List.eq_nil_iff_forall_not_mem.2
        intro j hj
        obtain ⟨hl, oj, hoj, _⟩ := mem_ready.1 hj
        have hjs : j < ops.size := (Array.getElem?_eq_some_iff.1 hoj).1
        have hji : i ≠ j := by
          rintro rfl
          have hs' : i < listed.size := by rw [inv.size]; omega
          simp [hs'] at hl
        rw [getD_set_ne true hji] at hl
        exact tail_waits hs hc (by omega) inv _ j rfl (by omega) hl i (Nat.le_refl _) hi
      exact wpOp_mono (fun a w hq => wpAny_done hnil hq _) (h.1 hnil)
    · have hlt : i < n := by
        obtain ⟨_, oi, hoi, _⟩ := mem_ready.1 hi
        have := (Array.getElem?_eq_some_iff.1 hoi).1
        omega
      refine wpOp_till (fun a' w' h' => ih _ a' w' (inv.set hi hlt) ?_) (h.2 i (ready_mono hi hin))
      rw [Array.setIfInBounds_comm _ _ hin]
      exact h'

/-- The region, its last operation behind all others: ahead of it S holds. -/
theorem wp_region_till {id : Nat} {S : World → Prop} {a : Act} {w : World} (n : Nat) (hm : P.follows .mixedOrders = true) (hB : tillB ops n = true)
    (h : wpAnyH P .any ops (tillQ P ops n Q) S n ((Array.replicate ops.size false).setIfInBounds n true) a w.drew) : (Code.region id ops true).wp P Q a w := by
  simp only [tillB, Bool.and_eq_true, decide_eq_true_eq] at hB
  obtain ⟨⟨⟨hsz, he⟩, hs⟩, hc⟩ := hB
  have inv : HeadInv .any ops n (Array.replicate ops.size false) :=
    ⟨by simp, fun j oj _ hl => (by rw [getD_replicate_false] at hl; cases hl), fun t _ ht => getD_in (by simpa using ht) (getD_replicate_false _ _)⟩
  refine wp_region_any hm ?_
  have H := wpAny_till (Q := Q) hsz he hs hc n _ a w.drew inv (wpAny_of_held _ _ _ _ h)
  rw [← hsz] at H
  exact H
end
end Ho
end Go.Proofs.YtchlbkfkecpodaaGreat

namespace Go.Proofs.YtchlbkfkecpodaaGreat
set_option maxRecDepth 100000
open Go.RowKit
open Go.Sort (grow)
namespace Ho
/-- The region of that number. -/
def hregionAt (k : Nat) : Code → Option Code
  | .region id ops d => if id == k then some (.region id ops d) else none
  | .seq a b => (hregionAt k a).orElse fun _ => hregionAt k b
  | .cond _ a b => (hregionAt k a).orElse fun _ => hregionAt k b
  | .block _ c => hregionAt k c
  | .loop c => hregionAt k c
  | .scope c => hregionAt k c
  | _ => none
noncomputable def hp_31 : Code := (Tryz.f3.body.bind (hregionAt 31)).getD .skip
set_option maxHeartbeats 6400000 in
theorem hp31 (z0 z1 z2 z3 z4 z6 z8 z9 z10 z11 z12 z13 z14 z15 z16 z17 z18 z20 z21 z22 z23 z24 z25 z26 z27 z28 z29 z30 z31 z32 z33 z34 z35 z36 z37 z38 z39 z40 z41 z42 z43 z44 z45 z46 z47 z48 z49 z50 z51 z52 z53 z54 z55 z56 z57 z58 z59 z60 z61 z62 z63 z64 z65 z66 z67 z68 z69 z70 z71 z72 z73 z74 z75 z76 z77 z78 z79 z80 z81 z82 z83 z84 z85 z86 z87 z88 z89 z90 z91 z92 z93 z94 z95 z96 z97 z98 z99 z100 z101 z102 z103 z104 z105 z106 z107 z108 z109 z110 z111 z112 z113 z114 z115 z116 z117 z118 z119 z120 z121 z122 z123 z124 z125 z126 z127 z128 z129 z130 z131 z132 z133 z134 z135 z136 z137 z138 z139 z140 z141 z142 z143 z144 z145 z146 z147 z148 z149 z150 z151 z152 z153 z154 z155 z156 z157 z158 z159 z160 z161 z162 z163 z164 z165 z166 z167 z168 z169 z170 z171 z172 z173 : Value) (W : World) (q d q2 : Nat) (bs : ByteArray)
    (F5 : Hid (∀ w', Below W.heap.size W w' → Calls Tryz.prog 13 #[.pointer (some ⟨q, 0, none⟩)] w' fun e w'' => ∃ A n c, e = .returned (.slice A n c) ∧ (∀ w3, Below w''.heap.size w'' w3 → (convert 54 9 (.slice A n c)).run Tryz.prog w3 = .ok (.string bs) w3) ∧ Below W.heap.size W w''))
    (F6 : Hid (∀ w', Below W.heap.size W w' → Calls Tryz.prog 14 #[.pointer (some ⟨d, 0, none⟩)] w' fun e w'' => e = .returned (.string bs) ∧ Below W.heap.size W w'' ∧ Below w'.heap.size w' w''))
    (F7 : Hid (∀ w', Below W.heap.size W w' → Calls Tryz.prog 15 #[.pointer (some ⟨q2, 0, none⟩), .pointer (some ⟨d, 0, none⟩)] w' fun e w'' => e = .returned (.bool true) ∧ Below W.heap.size W w''))
    (Q : Exit → Act → World → Prop)
    (hP : ∀ c a d v w, Q (.panic c) (Act.put a d v) w → Q (.panic c) a w)
    (hQ : ∀ (y143 y144 y145 y146 y147 y148 y149 y150 y151 y152 y153 y154 y155 y156 y157 y158 y159 : Value) (W3 : World), Below W.heap.size W W3 → Q .normal ⟨#[z0, z1, z2, z3, z4, .pointer (some ⟨q, 0, none⟩), z6, .pointer (some ⟨d, 0, none⟩), z8, z9, z10, z11, z12, z13, z14, z15, z16, z17, z18, .pointer (some ⟨q2, 0, none⟩), z20, z21, z22, z23, z24, z25, z26, z27, z28, z29, z30, z31, z32, z33, z34, z35, z36, z37, z38, z39, z40, z41, z42, z43, z44, z45, z46, z47, z48, z49, z50, z51, z52, z53, z54, z55, z56, z57, z58, z59, z60, z61, z62, z63, z64, z65, z66, z67, z68, z69, z70, z71, z72, z73, z74, z75, z76, z77, z78, z79, z80, z81, z82, z83, z84, z85, z86, z87, z88, z89, z90, z91, z92, z93, z94, z95, z96, z97, z98, z99, z100, z101, z102, z103, z104, z105, z106, z107, z108, z109, z110, z111, z112, z113, z114, z115, z116, z117, z118, z119, z120, z121, z122, z123, z124, z125, z126, z127, z128, z129, z130, z131, z132, z133, z134, z135, z136, z137, z138, z139, z140, z141, z142, y143, y144, y145, y146, y147, y148, y149, y150, y151, y152, y153, y154, y155, y156, y157, y158, y159, .bool false, z161, z162, z163, z164, z165, z166, z167, z168, z169, z170, z171, z172, z173], []⟩ W3) :
    Code.wp Tryz.prog hp_31 Q ⟨#[z0, z1, z2, z3, z4, .pointer (some ⟨q, 0, none⟩), z6, .pointer (some ⟨d, 0, none⟩), z8, z9, z10, z11, z12, z13, z14, z15, z16, z17, z18, .pointer (some ⟨q2, 0, none⟩), z20, z21, z22, z23, z24, z25, z26, z27, z28, z29, z30, z31, z32, z33, z34, z35, z36, z37, z38, z39, z40, z41, z42, z43, z44, z45, z46, z47, z48, z49, z50, z51, z52, z53, z54, z55, z56, z57, z58, z59, z60, z61, z62, z63, z64, z65, z66, z67, z68, z69, z70, z71, z72, z73, z74, z75, z76, z77, z78, z79, z80, z81, z82, z83, z84, z85, z86, z87, z88, z89, z90, z91, z92, z93, z94, z95, z96, z97, z98, z99, z100, z101, z102, z103, z104, z105, z106, z107, z108, z109, z110, z111, z112, z113, z114, z115, z116, z117, z118, z119, z120, z121, z122, z123, z124, z125, z126, z127, z128, z129, z130, z131, z132, z133, z134, z135, z136, z137, z138, z139, z140, z141, z142, z143, z144, z145, z146, z147, z148, z149, z150, z151, z152, z153, z154, z155, z156, z157, z158, z159, z160, z161, z162, z163, z164, z165, z166, z167, z168, z169, z170, z171, z172, z173], []⟩ W := by
  conv => arg 2; whnf
  refine wp_region_till (S := fun _ => True) 17 (by kernel_rfl) (by kernel_rfl) ?_
  have b0 : Below W.heap.size W W.drew := ⟨rfl, rfl, rfl, Nat.le_refl _, fun _ _ => rfl⟩
  have hHeld := True.intro
  replace hQ := Lib.hid hQ
  have G5 := Lib.hid (F5.out _ b0)
  clear F5 b0
  refine' wpAnyH_take (i := 0) (oi := ?o1) (v := ?v1) ?hi1 (by kernel_rfl) (by kernel_rfl) (by kernel_rfl) (fun c a w h => hP c a _ _ w h) (Or.inl ⟨?hw1, ?hy1⟩) hHeld ?rest1
  case hi1 => simp only [List.getElem?_toArray, List.getElem?_cons_zero]; rfl
  case hw1 => rfl
  case hy1 =>
    intro w _
    go_simp
    try with_reducible rfl
  simp only [Act.put, List.setIfInBounds_toArray, List.set_cons_zero, List.set_cons_succ]
  refine' wpAnyH_take (i := 1) (oi := ?o2) (v := ?v2) ?hi2 (by kernel_rfl) (by kernel_rfl) (by kernel_rfl) (fun c a w h => hP c a _ _ w h) (Or.inl ⟨?hw2, ?hy2⟩) hHeld ?rest2
  case hi2 => simp only [List.getElem?_toArray, List.getElem?_cons_succ, List.getElem?_cons_zero]; rfl
  case hw2 => rfl
  case hy2 =>
    intro w _
    go_simp
    try with_reducible rfl
  simp only [Act.put, List.setIfInBounds_toArray, List.set_cons_zero, List.set_cons_succ]
  refine' wpAnyH_take (i := 2) (oi := ?o3) (v := ?v3) ?hi3 (by kernel_rfl) (by kernel_rfl) (by kernel_rfl) (fun c a w h => hP c a _ _ w h) (Or.inl ⟨?hw3, ?hy3⟩) hHeld ?rest3
  case hi3 => simp only [List.getElem?_toArray, List.getElem?_cons_succ, List.getElem?_cons_zero]; rfl
  case hw3 => rfl
  case hy3 =>
    intro w _
    go_simp
    try with_reducible rfl
  simp only [Act.put, List.setIfInBounds_toArray, List.set_cons_zero, List.set_cons_succ]
  refine' wpAnyH_take (i := 3) (oi := ?o4) (v := ?v4) ?hi4 (by kernel_rfl) (by kernel_rfl) (by kernel_rfl) (fun c a w h => hP c a _ _ w h) (Or.inl ⟨?hw4, ?hy4⟩) hHeld ?rest4
  case hi4 => simp only [List.getElem?_toArray, List.getElem?_cons_succ, List.getElem?_cons_zero]; rfl
  case hw4 => rfl
  case hy4 =>
    intro w _
    go_simp
    try with_reducible rfl
  simp only [Act.put, List.setIfInBounds_toArray, List.set_cons_zero, List.set_cons_succ]
  refine' wpAnyH_take (i := 6) (oi := ?o5) (v := ?v5) ?hi5 (by kernel_rfl) (by kernel_rfl) (by kernel_rfl) (fun c a w h => hP c a _ _ w h) (Or.inl ⟨?hw5, ?hy5⟩) hHeld ?rest5
  case hi5 => simp only [List.getElem?_toArray, List.getElem?_cons_succ, List.getElem?_cons_zero]; rfl
  case hw5 => rfl
  case hy5 =>
    intro w _
    go_simp
    try with_reducible rfl
  simp only [Act.put, List.setIfInBounds_toArray, List.set_cons_zero, List.set_cons_succ]
  refine wpAnyH_ready (rs := [4]) (by kernel_rfl) (by simp) ?_
  refine' AllReadyH.cons (i := 4) (o := ?o6) ?hi6 (fun K hK => ?st6) ?mo6
  case hi6 => simp only [List.getElem?_toArray, List.getElem?_cons_succ, List.getElem?_cons_zero]; rfl
  case st6 =>
    go_simp
    refine G5.out.mono ?_
    rintro e w6 ⟨A6, n6, c6, rfl, hcv, h6⟩
    have z6 := hcv _ (Below.refl _ _)
    replace hcv := Lib.hid hcv
    go_simp
    refine hK.out _ _ trivial (fun hHeld => ?_)
    clear hK K
    try simp only [Act.put, List.setIfInBounds_toArray, List.set_cons_zero, List.set_cons_succ]
    refine wpAnyH_ready (rs := [5, 7]) (by kernel_rfl) (by simp) ?_
    refine' AllReadyH.cons (i := 5) (o := ?o7) ?hi7 (fun K hK => ?st7) ?mo7
    case hi7 => simp only [List.getElem?_toArray, List.getElem?_cons_succ, List.getElem?_cons_zero]; rfl
    case st7 =>
      go_simp
      refine hK.out _ _ trivial (fun hHeld => ?_)
      clear hK K
      try simp only [Act.put, List.setIfInBounds_toArray, List.set_cons_zero, List.set_cons_succ]
      clear z6
      refine wpAnyH_ready (rs := [7]) (by kernel_rfl) (by simp) ?_
      refine' AllReadyH.cons (i := 7) (o := ?o8) ?hi8 (fun K hK => ?st8) ?mo8
      case hi8 => simp only [List.getElem?_toArray, List.getElem?_cons_succ, List.getElem?_cons_zero]; rfl
      case st8 =>
        go_simp
        refine (F6.out _ h6).mono ?_
        rintro e w7 ⟨rfl, h6, h7⟩
        go_simp
        refine hK.out _ _ trivial (fun hHeld => ?_)
        clear hK K
        try simp only [Act.put, List.setIfInBounds_toArray, List.set_cons_zero, List.set_cons_succ]
        refine' wpAnyH_take (i := 8) (oi := ?o9) (v := ?v9) ?hi9 (by kernel_rfl) (by kernel_rfl) (by kernel_rfl) (fun c a w h => hP c a _ _ w h) (Or.inl ⟨?hw9, ?hy9⟩) hHeld ?rest9
        case hi9 => simp only [List.getElem?_toArray, List.getElem?_cons_succ, List.getElem?_cons_zero]; rfl
        case hw9 => rfl
        case hy9 =>
          intro w _
          go_simp
          try with_reducible rfl
        simp only [Act.put, List.setIfInBounds_toArray, List.set_cons_zero, List.set_cons_succ]
        refine' wpAnyH_take (i := 9) (oi := ?o10) (v := ?v10) ?hi10 (by kernel_rfl) (by kernel_rfl) (by kernel_rfl) (fun c a w h => hP c a _ _ w h) (Or.inl ⟨?hw10, ?hy10⟩) hHeld ?rest10
        case hi10 => simp only [List.getElem?_toArray, List.getElem?_cons_succ, List.getElem?_cons_zero]; rfl
        case hw10 => rfl
        case hy10 =>
          intro w _
          go_simp
          try with_reducible rfl
        simp only [Act.put, List.setIfInBounds_toArray, List.set_cons_zero, List.set_cons_succ]
        refine' wpAnyH_take (i := 10) (oi := ?o11) (v := ?v11) ?hi11 (by kernel_rfl) (by kernel_rfl) (by kernel_rfl) (fun c a w h => hP c a _ _ w h) (Or.inl ⟨?hw11, ?hy11⟩) hHeld ?rest11
        case hi11 => simp only [List.getElem?_toArray, List.getElem?_cons_succ, List.getElem?_cons_zero]; rfl
        case hw11 => rfl
        case hy11 =>
          intro w _
          go_simp
          try with_reducible rfl
        simp only [Act.put, List.setIfInBounds_toArray, List.set_cons_zero, List.set_cons_succ]
        refine' wpAnyH_take (i := 11) (oi := ?o12) (v := ?v12) ?hi12 (by kernel_rfl) (by kernel_rfl) (by kernel_rfl) (fun c a w h => hP c a _ _ w h) (Or.inl ⟨?hw12, ?hy12⟩) hHeld ?rest12
        case hi12 => simp only [List.getElem?_toArray, List.getElem?_cons_succ, List.getElem?_cons_zero]; rfl
        case hw12 => rfl
        case hy12 =>
          intro w _
          go_simp
          try with_reducible rfl
        simp only [Act.put, List.setIfInBounds_toArray, List.set_cons_zero, List.set_cons_succ]
        refine' wpAnyH_take (i := 12) (oi := ?o13) (v := ?v13) ?hi13 (by kernel_rfl) (by kernel_rfl) (by kernel_rfl) (fun c a w h => hP c a _ _ w h) (Or.inl ⟨?hw13, ?hy13⟩) hHeld ?rest13
        case hi13 => simp only [List.getElem?_toArray, List.getElem?_cons_succ, List.getElem?_cons_zero]; rfl
        case hw13 => rfl
        case hy13 =>
          intro w _
          go_simp
          try with_reducible rfl
        simp only [Act.put, List.setIfInBounds_toArray, List.set_cons_zero, List.set_cons_succ]
        refine' wpAnyH_take (i := 13) (oi := ?o14) (v := ?v14) ?hi14 (by kernel_rfl) (by kernel_rfl) (by kernel_rfl) (fun c a w h => hP c a _ _ w h) (Or.inl ⟨?hw14, ?hy14⟩) hHeld ?rest14
        case hi14 => simp only [List.getElem?_toArray, List.getElem?_cons_succ, List.getElem?_cons_zero]; rfl
        case hw14 => rfl
        case hy14 =>
          intro w _
          go_simp
          try with_reducible rfl
        simp only [Act.put, List.setIfInBounds_toArray, List.set_cons_zero, List.set_cons_succ]
        refine' wpAnyH_take (i := 14) (oi := ?o15) (v := ?v15) ?hi15 (by kernel_rfl) (by kernel_rfl) (by kernel_rfl) (fun c a w h => hP c a _ _ w h) (Or.inl ⟨?hw15, ?hy15⟩) hHeld ?rest15
        case hi15 => simp only [List.getElem?_toArray, List.getElem?_cons_succ, List.getElem?_cons_zero]; rfl
        case hw15 => rfl
        case hy15 =>
          intro w _
          go_simp
          try with_reducible rfl
        simp only [Act.put, List.setIfInBounds_toArray, List.set_cons_zero, List.set_cons_succ]
        refine wpAnyH_ready (rs := [15]) (by kernel_rfl) (by simp) ?_
        refine' AllReadyH.cons (i := 15) (o := ?o16) ?hi16 (fun K hK => ?st16) ?mo16
        case hi16 => simp only [List.getElem?_toArray, List.getElem?_cons_succ, List.getElem?_cons_zero]; rfl
        case st16 =>
          go_simp
          refine (F7.out _ h6).mono ?_
          rintro e w8 ⟨rfl, h8⟩
          go_simp
          refine hK.out _ _ trivial (fun hHeld => ?_)
          clear hK K
          try simp only [Act.put, List.setIfInBounds_toArray, List.set_cons_zero, List.set_cons_succ]
          refine' wpAnyH_take (i := 16) (oi := ?o17) (v := ?v17) ?hi17 (by kernel_rfl) (by kernel_rfl) (by kernel_rfl) (fun c a w h => hP c a _ _ w h) (Or.inl ⟨?hw17, ?hy17⟩) hHeld ?rest17
          case hi17 => simp only [List.getElem?_toArray, List.getElem?_cons_succ, List.getElem?_cons_zero]; rfl
          case hw17 => rfl
          case hy17 =>
            intro w _
            go_simp
            try with_reducible rfl
          simp only [Act.put, List.setIfInBounds_toArray, List.set_cons_zero, List.set_cons_succ]
          refine wpAnyH_done (by kernel_rfl) ?_ _
          refine tillQ_normal ?_
          refine' wpOp_step (i := 17) (o := ?o18) ?hi18 (fun K hK => ?_)
          case hi18 => simp only [List.getElem?_toArray, List.getElem?_cons_succ, List.getElem?_cons_zero]; rfl
          go_simp
          refine hK _ _ ?_
          exact hQ.out _ _ _ _ _ _ _ _ _ _ _ _ _ _ _ _ _ _ h8
        case mo16 => exact AllReadyH.nil
      case mo8 => exact AllReadyH.nil
    case mo7 =>
      refine' AllReadyH.cons (i := 7) (o := ?o19) ?hi19 (fun K hK => ?st19) ?mo19
      case hi19 => simp only [List.getElem?_toArray, List.getElem?_cons_succ, List.getElem?_cons_zero]; rfl
      case st19 =>
        go_simp
        refine (F6.out _ h6).mono ?_
        rintro e w7 ⟨rfl, h6, h7⟩
        have z7 := hcv.out _ h7
        go_simp
        refine hK.out _ _ trivial (fun hHeld => ?_)
        clear hK K
        try simp only [Act.put, List.setIfInBounds_toArray, List.set_cons_zero, List.set_cons_succ]
        refine wpAnyH_ready (rs := [5]) (by kernel_rfl) (by simp) ?_
        refine' AllReadyH.cons (i := 5) (o := ?o20) ?hi20 (fun K hK => ?st20) ?mo20
        case hi20 => simp only [List.getElem?_toArray, List.getElem?_cons_succ, List.getElem?_cons_zero]; rfl
        case st20 =>
          go_simp
          refine hK.out _ _ trivial (fun hHeld => ?_)
          clear hK K
          try simp only [Act.put, List.setIfInBounds_toArray, List.set_cons_zero, List.set_cons_succ]
          clear z7
          refine' wpAnyH_take (i := 8) (oi := ?o21) (v := ?v21) ?hi21 (by kernel_rfl) (by kernel_rfl) (by kernel_rfl) (fun c a w h => hP c a _ _ w h) (Or.inl ⟨?hw21, ?hy21⟩) hHeld ?rest21
          case hi21 => simp only [List.getElem?_toArray, List.getElem?_cons_succ, List.getElem?_cons_zero]; rfl
          case hw21 => rfl
          case hy21 =>
            intro w _
            go_simp
            try with_reducible rfl
          simp only [Act.put, List.setIfInBounds_toArray, List.set_cons_zero, List.set_cons_succ]
          refine' wpAnyH_take (i := 9) (oi := ?o22) (v := ?v22) ?hi22 (by kernel_rfl) (by kernel_rfl) (by kernel_rfl) (fun c a w h => hP c a _ _ w h) (Or.inl ⟨?hw22, ?hy22⟩) hHeld ?rest22
          case hi22 => simp only [List.getElem?_toArray, List.getElem?_cons_succ, List.getElem?_cons_zero]; rfl
          case hw22 => rfl
          case hy22 =>
            intro w _
            go_simp
            try with_reducible rfl
          simp only [Act.put, List.setIfInBounds_toArray, List.set_cons_zero, List.set_cons_succ]
          refine' wpAnyH_take (i := 10) (oi := ?o23) (v := ?v23) ?hi23 (by kernel_rfl) (by kernel_rfl) (by kernel_rfl) (fun c a w h => hP c a _ _ w h) (Or.inl ⟨?hw23, ?hy23⟩) hHeld ?rest23
          case hi23 => simp only [List.getElem?_toArray, List.getElem?_cons_succ, List.getElem?_cons_zero]; rfl
          case hw23 => rfl
          case hy23 =>
            intro w _
            go_simp
            try with_reducible rfl
          simp only [Act.put, List.setIfInBounds_toArray, List.set_cons_zero, List.set_cons_succ]
          refine' wpAnyH_take (i := 11) (oi := ?o24) (v := ?v24) ?hi24 (by kernel_rfl) (by kernel_rfl) (by kernel_rfl) (fun c a w h => hP c a _ _ w h) (Or.inl ⟨?hw24, ?hy24⟩) hHeld ?rest24
          case hi24 => simp only [List.getElem?_toArray, List.getElem?_cons_succ, List.getElem?_cons_zero]; rfl
          case hw24 => rfl
          case hy24 =>
            intro w _
            go_simp
            try with_reducible rfl
          simp only [Act.put, List.setIfInBounds_toArray, List.set_cons_zero, List.set_cons_succ]
          refine' wpAnyH_take (i := 12) (oi := ?o25) (v := ?v25) ?hi25 (by kernel_rfl) (by kernel_rfl) (by kernel_rfl) (fun c a w h => hP c a _ _ w h) (Or.inl ⟨?hw25, ?hy25⟩) hHeld ?rest25
          case hi25 => simp only [List.getElem?_toArray, List.getElem?_cons_succ, List.getElem?_cons_zero]; rfl
          case hw25 => rfl
          case hy25 =>
            intro w _
            go_simp
            try with_reducible rfl
          simp only [Act.put, List.setIfInBounds_toArray, List.set_cons_zero, List.set_cons_succ]
          refine' wpAnyH_take (i := 13) (oi := ?o26) (v := ?v26) ?hi26 (by kernel_rfl) (by kernel_rfl) (by kernel_rfl) (fun c a w h => hP c a _ _ w h) (Or.inl ⟨?hw26, ?hy26⟩) hHeld ?rest26
          case hi26 => simp only [List.getElem?_toArray, List.getElem?_cons_succ, List.getElem?_cons_zero]; rfl
          case hw26 => rfl
          case hy26 =>
            intro w _
            go_simp
            try with_reducible rfl
          simp only [Act.put, List.setIfInBounds_toArray, List.set_cons_zero, List.set_cons_succ]
          refine' wpAnyH_take (i := 14) (oi := ?o27) (v := ?v27) ?hi27 (by kernel_rfl) (by kernel_rfl) (by kernel_rfl) (fun c a w h => hP c a _ _ w h) (Or.inl ⟨?hw27, ?hy27⟩) hHeld ?rest27
          case hi27 => simp only [List.getElem?_toArray, List.getElem?_cons_succ, List.getElem?_cons_zero]; rfl
          case hw27 => rfl
          case hy27 =>
            intro w _
            go_simp
            try with_reducible rfl
          simp only [Act.put, List.setIfInBounds_toArray, List.set_cons_zero, List.set_cons_succ]
          refine wpAnyH_ready (rs := [15]) (by kernel_rfl) (by simp) ?_
          refine' AllReadyH.cons (i := 15) (o := ?o28) ?hi28 (fun K hK => ?st28) ?mo28
          case hi28 => simp only [List.getElem?_toArray, List.getElem?_cons_succ, List.getElem?_cons_zero]; rfl
          case st28 =>
            go_simp
            refine (F7.out _ h6).mono ?_
            rintro e w8 ⟨rfl, h8⟩
            go_simp
            refine hK.out _ _ trivial (fun hHeld => ?_)
            clear hK K
            try simp only [Act.put, List.setIfInBounds_toArray, List.set_cons_zero, List.set_cons_succ]
            refine' wpAnyH_take (i := 16) (oi := ?o29) (v := ?v29) ?hi29 (by kernel_rfl) (by kernel_rfl) (by kernel_rfl) (fun c a w h => hP c a _ _ w h) (Or.inl ⟨?hw29, ?hy29⟩) hHeld ?rest29
            case hi29 => simp only [List.getElem?_toArray, List.getElem?_cons_succ, List.getElem?_cons_zero]; rfl
            case hw29 => rfl
            case hy29 =>
              intro w _
              go_simp
              try with_reducible rfl
            simp only [Act.put, List.setIfInBounds_toArray, List.set_cons_zero, List.set_cons_succ]
            refine wpAnyH_done (by kernel_rfl) ?_ _
            refine tillQ_normal ?_
            refine' wpOp_step (i := 17) (o := ?o30) ?hi30 (fun K hK => ?_)
            case hi30 => simp only [List.getElem?_toArray, List.getElem?_cons_succ, List.getElem?_cons_zero]; rfl
            go_simp
            refine hK _ _ ?_
            exact hQ.out _ _ _ _ _ _ _ _ _ _ _ _ _ _ _ _ _ _ h8
          case mo28 => exact AllReadyH.nil
        case mo20 => exact AllReadyH.nil
      case mo19 => exact AllReadyH.nil
  case mo6 => exact AllReadyH.nil
end Ho
end Go.Proofs.YtchlbkfkecpodaaGreat

namespace Go.Proofs.YtchlbkfkecpodaaGreat.hostPlays
set_option maxRecDepth 100000
open Go.ChangeShapes Go.WideShapes Go.ChangeAt Go.WideMaps Go.WideElems Go.RowKit
open Go.Sort (grow)
open Go.Proofs.YtchlbkfkecpodaaGreat.Pk (Rb adr_block one_at one_free one_set lt_some grown_set grown_trans below_grown grown_refl u8s own_form)
open Go.Proofs.YtchlbkfkecpodaaGreat.St (Stp Ops OpAt Osrc view_sops view_nums view_stock Rr Src usm usm_lt usm_slot own laidOut bnd post_below E eg ez cell eq_ent_run grq Kx dstp stp tick tick_of tick_iff swF swL RowI ivs ByTo upd upd_same upd_other gone_do)
open Go.Proofs.YtchlbkfkecpodaaGreat.Ho
open Go.Proofs.YtchlbkfkecpodaaGreat.Wt (Opn mayOp)


def PlAt (B : World) (q d : Nat) (cap over : Int) (nw i : Value) (wr : World) : Prop := ∃ (j : Nat) (n : Int) (s : S), nw = .int .i64 n ∧ i = .int .i64 j ∧ j ≤ 60 ∧ 0 ≤ n ∧ n ≤ 40 * j ∧ Pd B q d cap over s wr
def SwAt (w : World) (m : Nat) (i : Value) (wr : World) : Prop := ∃ k : Nat, i = .int .i64 k ∧ k ≤ m ∧ Below w.heap.size w wr
set_option maxHeartbeats 12800000 in
theorem walk (w : World) (cap over : Int) (A : Option Addr) (n c : Nat) (l : List Stp) (R : Ops w w.heap.size A n l) (hn : n ≤ 9223372036854775807) :
    Calls Tryz.prog 3 #[.agg #[.int .i64 cap, .int .i64 over], .slice A n c] w fun e w' => e = .returned (.bool true) ∧ Below w.heap.size w w' := by
  obtain ⟨W0, hW0⟩ : ∃ W, W = w.alloc (.cells #[.int .i64 cap, .int .i64 over] 23) := ⟨_, rfl⟩
  have B0 : Hid (Below w.heap.size w W0) := by rw [hW0]; exact (Below.refl _ _).alloc (Nat.le_refl _) _
  have h0 : Hid (W0.heap[w.heap.size]? = some (.cells #[.int .i64 cap, .int .i64 over] 23 (0, 0))) := by rw [hW0]; exact heap_alloc_new _ _
  have HC : Hid (∀ w', Below W0.heap.size W0 w' → w'.cell? ⟨w.heap.size, 0, none⟩ = some (.int .i64 cap) ∧ w'.cell? ⟨w.heap.size, 1, none⟩ = some (.int .i64 over)) := fun w' hb =>
    ⟨one_at (i := 0) ((hb.block _ (lt_some h0.out)).trans h0.out), one_at (i := 1) ((hb.block _ (lt_some h0.out)).trans h0.out)⟩
  have MS := Lib.hid (fun w => St.refMayStock_any w cap over)
  replace hW0 := Lib.hid hW0
  replace R := Lib.hid R
  cases hms : St.mayS cap over with
  | false =>
    have N := Lib.hid (hnew_no W0 cap over hms)
    rw [hms] at MS
    clear hms
    go_enter Tryz.func3, Tryz.ntmps3
    go_wp2_with fail
    rw [← hW0.out]
    refine N.out.mono ?_
    rintro e w1 ⟨rfl, b1⟩
    obtain ⟨p0, p1⟩ := HC.out w1 b1
    have B1 : Hid (Below w.heap.size w w1) := B0.out.trans (b1.mono B0.out.size)
    clear N b1 HC
    go_wp2_with fail
    refine (MS.out w1).mono ?_
    rintro e w2 ⟨rfl, b2⟩
    have B2 : Hid (Below w.heap.size w w2) := B1.out.trans (b2.mono B1.out.size)
    have TA := Lib.hid (htold_any w2)
    clear MS b2 p0 p1
    go_wp2_with fail
    refine TA.out.mono ?_
    rintro e w3 ⟨rfl, b3⟩
    have B3 : Hid (Below w.heap.size w w3) := B2.out.trans (b3.mono B2.out.size)
    clear TA b3
    go_wp2
    go_ret
    exact ⟨rfl, B3.out⟩
  | true =>
    have N := Lib.hid (ow_new W0 cap over hms)
    rw [hms] at MS
    go_enter Tryz.func3, Tryz.ntmps3
    go_wp2_with fail
    rw [← hW0.out]
    refine N.out.mono ?_
    rintro e w1 ⟨q, rfl, O1⟩
    obtain ⟨p0, p1⟩ := HC.out w1 O1.be
    clear N
    go_wp2_with fail
    refine (MS.out w1).mono ?_
    rintro e w2 ⟨rfl, b2⟩
    have O2 := Lib.hid (O1.below b2)
    obtain ⟨p0, p1⟩ := HC.out w2 O2.out.be
    have pp : ∀ x, (w2.alloc x).cell? ⟨w.heap.size, 0, none⟩ = some (.int .i64 cap) ∧ (w2.alloc x).cell? ⟨w.heap.size, 1, none⟩ = some (.int .i64 over) := fun x => HC.out _ (O2.out.below ((Below.refl _ _).alloc (Nat.le_refl _) x)).be
    obtain ⟨p2, p3⟩ := pp (.cells zeros12 41)
    clear MS b2 hms O1 pp
    go_upto_region 6 with fail
    go_wp2_with (first | (refine wpList_build12 rfl rfl ?_) | (refine wpList_box12 rfl (.tmp 43) rfl zeros12 rfl ?_) | (refine wpList_store_mid rfl 23 (.tmp 49) (.tmp 46) rfl w2.heap.size 0 (stv cap over) rfl rfl (new_there w2) stock_size (stv_one _ _) ?_; have P0 := Lib.hid (pd_start O2.out); generalize w2.heap.size = d at P0 ⊢; generalize World.setCells _ _ _ _ = w3 at P0 ⊢))
    have st : Hid (PlAt W0 q d cap over (.int .i64 0) (.int .i64 0) w3) := ⟨0, 0, sz, rfl, rfl, by omega, by omega, by omega, P0.out⟩
    clear O2 P0 p0 p1 p2 p3 h0 HC hW0
    go_wp2_with fail
    go_loopw [8, 9] (fun nw i wr => PlAt W0 q d cap over nw i wr) (fun _ i _ => 60 - (intOf i).toNat)
    case atStart => exact st.out
    case round =>
      clear st
      obtain ⟨j, nw, s, rfl, rfl, hj, n0, n1, P⟩ := hrel
      obtain ⟨bb, hbb⟩ : ∃ b : Bool, b = (decide (j < n) && decide (j < 60)) := ⟨_, rfl⟩
      go_upto_region 10 with fail
      go_cut [57] from 50 to 57 (fun s57 wx => s57 = .bool bb ∧ wx = wr)
      case first =>
        by_cases hjn : j < n
        · by_cases h60 : j < 60
          · have i1 : (j : Int) < 60 := by omega
            have F : Hid (bb = true) := by unfold Hid; rw [hbb, decide_eq_true hjn, decide_eq_true h60]; rfl
            clear hbb P
            go_wp2
            go_meet
            case rel => exact ⟨by rw [F.out], rfl⟩
          · have i1 : ¬ (j : Int) < 60 := by omega
            have F : Hid (bb = false) := by unfold Hid; rw [hbb, decide_eq_true hjn, decide_eq_false h60]; rfl
            clear hbb P
            go_wp2
            go_meet
            case rel => exact ⟨by rw [F.out], rfl⟩
        · have F : Hid (bb = false) := by unfold Hid; rw [hbb, decide_eq_false hjn]; rfl
          clear hbb P
          go_wp2
          go_meet
          case rel => exact ⟨by rw [F.out], rfl⟩
      case rest =>
      obtain ⟨rfl, rfl⟩ := hcut
      obtain ⟨wr, ewr⟩ : ∃ x, x = wc := ⟨_, rfl⟩
      subst ewr
      cases bb with
      | true =>
        have hb := hbb.symm
        rw [Bool.and_eq_true, decide_eq_true_iff, decide_eq_true_iff] at hb
        obtain ⟨hjn, h60⟩ := hb
        clear hbb
        obtain ⟨x, hs⟩ : ∃ s, l[j]? = some s := ⟨_, List.getElem?_eq_getElem (by have := R.out.len; omega)⟩
        obtain ⟨ad, rfl, hab, hat⟩ := R.out.at_ (by omega)
        have bw : Below w.heap.size w wr := B0.out.trans (P.ow.be.mono B0.out.size)
        obtain ⟨c0, c1, c2, c3, c4, c5, c6, c7, c8⟩ := (hat j x hs).same (bw.block _ hab)
        have i1 : (j : Int) < 60 := by omega
        obtain ⟨d', hd'⟩ : ∃ k, k = usm x.d 40 := ⟨_, rfl⟩
        have d1' : d' < 40 := by rw [hd']; exact usm_lt _ (by omega)
        have uz : wrap64 ((IntKind.u64.wrap x.d).tmod 40) = (d' : Int) := by rw [hd']; exact usm_slot x.d (n := 40) (by omega) (by omega)
        obtain ⟨nw2, hnw⟩ : ∃ x : Int, x = nw + (d' : Int) := ⟨_, rfl⟩
        have m0 : 0 ≤ nw2 := by omega
        have m1 : nw2 ≤ 40 * ((j + 1 : Nat) : Int) := by omega
        replace hs := Lib.hid hs
        replace hat := Lib.hid hat
        replace hd' := Lib.hid hd'
        obtain ⟨ob, hob⟩ : ∃ x, x = wr.heap.size := ⟨_, rfl⟩
        obtain ⟨W5, hW5⟩ : ∃ X, X = wr.alloc (.cells #[.int .i64 x.kind, .int .i64 x.o.kind, .int .i64 x.o.book, .int .i64 x.o.units, .int .i64 x.o.cust, .int .i64 x.o.amount, .int .i64 x.d, .int .i64 x.now, .bool x.raw] 45) := ⟨_, rfl⟩
        have M : Hid (Md W0 q d ob cap over s s x W5) := by rw [hW5, hob]; exact P.box x
        clear P bw hs hat
        go_upto_region 14 with fail
        rw [uz, ← hnw]
        clear uz
        replace hnw := Lib.hid hnw
        replace hW5 := Lib.hid hW5
        rw [← hob, ← hW5.out]
        replace hob := Lib.hid hob
        obtain ⟨y0, y1, y2, y3, y4, y5, y6, y7, y8⟩ := M.out.cells
        obtain ⟨rb, hrb⟩ : ∃ b, b = x.raw := ⟨_, rfl⟩
        rw [← hrb] at y8
        clear c0 c1 c2 c3 c4 c5 c6 c7 c8 hW5 hrb
        go_upto_if 73 with fail
        go_cut [11] from 72 to 75 (fun s11 wx => wx = W5 ∧ ∃ t : Int, s11 = .int .i64 t)
        case first =>
          cases rb
          · go_wp2
            go_meet
            case rel => exact ⟨rfl, _, rfl⟩
          · go_wp2
            go_meet
            case rel => exact ⟨rfl, _, rfl⟩
        case rest =>
        obtain ⟨rfl, t, rfl⟩ := hcut
        obtain ⟨W5, ewr⟩ : ∃ x, x = wc := ⟨_, rfl⟩
        subst ewr
        by_cases k1 : x.kind = 1
        · have x1 : (x.kind == 1) = true := by simpa using k1
          have SW := Lib.hid (md_sweep M.out.drew t)
          have dlt := Lib.hid M.out.dh.st.lt
          clear k1 M
          have fewL := St.swL_few s.f t
          have q1 : ((swL s.f t).length != (swL s.f t).length) = false := by simp
          go_upto_region 18 with fail
          go_region_with (first
            | (go_at_call 7; refine SW.out.mono ?_; rintro e w6 ⟨A1, c1, rfl, r1, sz1, M6⟩; have SX := Lib.hid (mx_sweep M6 t r1 dlt.out); clear r1 sz1 M6)
            | (go_at_call 8; refine SX.out.mono ?_; rintro e w7 ⟨A2, c2, rfl, r2, r1, M7⟩; replace r1 := Lib.hid r1; replace r2 := Lib.hid r2; replace M7 := Lib.hid M7))
          all_goals
            have N1 : Hid (∀ w8, Below w7.heap.size w7 w8 → St.Nz w8 A1 (swL s.f t) ∧ St.Nz w8 A2 (swL s.f t)) := fun w8 hb => ⟨(St.Nz.of_row r1.out rfl).below hb, (St.Nz.of_row r2.out rfl).below hb⟩
            have E7 : Hid (∀ w8, Below w7.heap.size w7 w8 → PlAt W0 q d cap over (.int .i64 nw2) (.int .i64 ((j + 1 : Nat) : Int)) w8) := fun w8 hb => ⟨j + 1, nw2, ⟨swF s.f t, s.g⟩, rfl, rfl, by omega, m0, m1, M7.out.pair.below hb⟩
            generalize swL s.f t = L at *
            obtain ⟨m, hm⟩ : ∃ m, m = L.length := ⟨_, rfl⟩
            rw [← hm] at fewL q1 ⊢
            have st2 : Hid (SwAt w7 m (.int .i64 0) w7) := ⟨0, rfl, Nat.zero_le _, Below.refl _ _⟩
            replace hm := Lib.hid hm
            clear SW SX r1 r2 M7 dlt y0 y1 y2 y3 y4 y5 y6 y7 y8 x1
            go_wp2_with fail
            go_loopw [14] (fun i wr => SwAt w7 m i wr) (fun i _ => m - (intOf i).toNat)
            case atStart => exact st2.out
            case round =>
              clear st2
              obtain ⟨k, rfl, hk, hb⟩ := hrel
              by_cases hlt : k < m
              · obtain ⟨z, hz⟩ : ∃ z, L[k]? = some z := ⟨_, List.getElem?_eq_getElem (by have := hm.out; omega)⟩
                obtain ⟨N2, N3⟩ := N1.out wr hb
                obtain ⟨a1, rfl, -, -, d1⟩ := N2 k z hz
                obtain ⟨a2, rfl, -, -, d2⟩ := N3 k z hz
                have j1 : (k : Int) < (m : Int) := by omega
                have j2 : (0 : Int) ≤ (k : Int) := by omega
                have q2 : (z != z) = false := by simp
                have nx : Hid (∀ n0, SwAt w7 m (.int .i64 ((k : Int) + 1)) (wr.drewN n0)) := fun n0 => ⟨k + 1, by simp, by omega, hb.trans (St.below_drewN _ _)⟩
                clear hb N2 N3 hz
                go_wp2_with fail
                go_quiet (fail)
                go_wp2
                exact ⟨nx.out _, by simp [intOf]; omega⟩
              · have j1 : ¬ (k : Int) < (m : Int) := by omega
                have F := Lib.hid (E7.out wr hb)
                clear hb N1 E7
                go_wp2
                exact ⟨F.out, by simp [intOf]; omega⟩
        · have x1 : (x.kind == 1) = false := by simpa using k1
          have AS := Lib.hid (md_ask M.out x.o t)
          have AX : Hid (∀ s' w', Md W0 q d ob cap over s' s x w' → Calls Tryz.prog 10 #[.pointer (some ⟨d, 0, none⟩), .agg #[.int .i64 x.o.kind, .int .i64 x.o.book, .int .i64 x.o.units, .int .i64 x.o.cust, .int .i64 x.o.amount], .int .i64 t] w' fun e w'' => e = .returned (.tuple #[.int .i64 (ans cap over s x.o t), .bool (isNew s x.o t)]) ∧ Md W0 q d ob cap over s' (asked cap over s x.o t) x w'') := fun s' w' h => mx_ask h x.o t
          generalize asked cap over s x.o t = s' at *
          generalize ans cap over s x.o t = a at *
          generalize isNew s x.o t = p at *
          clear k1 M
          go_wp2_with fail
          refine AS.out.mono ?_
          rintro e w6 ⟨rfl, M6⟩
          have X6 := Lib.hid (AX.out _ _ M6)
          clear AS AX y0 y1 y2 y3 y4 y5 y6 y7 y8
          obtain ⟨y0, y1, y2, y3, y4, y5, y6, y7, y8⟩ := M6.cells
          clear M6
          go_wp2_with fail
          refine X6.out.mono ?_
          rintro e w7 ⟨rfl, M7⟩
          have QA := fun dr os => Calls.regrown_of ((md_answers (M7.below (below_regrown w7 dr os))).mono fun _ _ k => ⟨k.1, by rw [← k.2]; exact Below.refl _ _⟩)
          have zN := cell_regrown M7.num
          have E7 : Hid (∀ w8, Below w7.heap.size w7 w8 → PlAt W0 q d cap over (.int .i64 nw2) (.int .i64 ((j + 1 : Nat) : Int)) w8) := fun w8 hb => ⟨j + 1, nw2, s', rfl, rfl, by omega, m0, m1, M7.pair.below hb⟩
          generalize (((Tb.cnt s'.g : Nat)) : Int) = nn at *
          have q1 : (a != a) = false := by simp
          have q2 : (p != p) = false := by simp
          have q3 : (nn != nn) = false := by simp
          clear X6 M7 y0 y1 y2 y3 y4 y5 y6 y7 y8
          go_upto_region 28 with fail
          refine wp_region_quiet_below (by kernel_rfl) (by kernel_rfl) ?_
          repeat (go_big_quiet_step (first | with_reducible exact QA _ _))
          refine wpQuiet_nil ?_
          intro w8 hw'
          obtain ⟨⟨dq, osq⟩, hw8⟩ := hw'
          have F := Lib.hid (E7.out w8 (by rw [hw8]; exact below_regrown w7 dq osq))
          clear hw8 zN QA E7
          go_wp2
          exact ⟨F.out, by simp [intOf]; omega⟩
      | false =>
        have SK := Lib.hid (ow_stock P.ow)
        have BW : Hid (∀ w', Below wr.heap.size wr w' → Below w.heap.size w w') := fun w' hb => B0.out.trans ((P.ow.below hb).be.mono B0.out.size)
        replace P := Lib.hid P
        clear hbb hj n1
        go_wp2_with fail
        refine SK.out.mono ?_
        rintro e w2 ⟨q2, rfl, S2⟩
        have P2 := P.out.below S2.be
        have OK := P2.ow.ok
        have BE2 : Hid (Below wr.heap.size wr w2) := S2.be
        have F5 : Hid (∀ w', Below w2.heap.size w2 w' → Calls Tryz.prog 13 #[.pointer (some ⟨q, 0, none⟩)] w' fun e w'' => ∃ A n c, e = .returned (.slice A n c) ∧ (∀ w3, Below w''.heap.size w'' w3 → (convert 54 9 (.slice A n c)).run Tryz.prog w3 = .ok (.string (Pk.str (hbts cap over s))) w3) ∧ Below w2.heap.size w2 w'') := fun w' hb => (ow_bytes (P2.ow.below hb)).mono fun e w'' h => by
          obtain ⟨v, rfl, hr, h2⟩ := h
          obtain ⟨A, c, rfl⟩ := Pk.own_form hr
          exact ⟨A, _, c, rfl, fun w3 h3 => Pk.str_run (Pk.Rb.of_own (St.rb_below hr h3)), hb.trans (h2.mono hb.size)⟩
        have F6 : Hid (∀ w', Below w2.heap.size w2 w' → Calls Tryz.prog 14 #[.pointer (some ⟨d, 0, none⟩)] w' fun e w'' => e = .returned (.string (Pk.str (hbts cap over s))) ∧ Below w2.heap.size w2 w'' ∧ Below w'.heap.size w' w'') := fun w' hb => (refbytes_any w' d cap over s (P2.dh.below hb) OK).mono fun _ _ ⟨h1, h2⟩ => ⟨h1, hb.trans (h2.mono hb.size), h2⟩
        have F7 : Hid (∀ w', Below w2.heap.size w2 w' → Calls Tryz.prog 15 #[.pointer (some ⟨q2, 0, none⟩), .pointer (some ⟨d, 0, none⟩)] w' fun e w'' => e = .returned (.bool true) ∧ Below w2.heap.size w2 w'') := fun w' hb => (St.same_any w' _ _ _ q2 d cap over s.f (S2.below hb) (P2.dh.below hb).st).mono fun _ _ ⟨h1, h2⟩ => ⟨h1, hb.trans (h2.mono hb.size)⟩
        have DO : Hid (∀ w', Below w2.heap.size w2 w' → Calls Tryz.prog 16 #[.pointer (some ⟨q2, 0, none⟩), .agg #[.int .i64 3, .int .i64 1, .int .i64 0, .int .i64 0, .int .i64 0], .int .i64 nw] w' fun e w'' => (∃ a : Int, e = .returned (.int .i64 a)) ∧ Below wr.heap.size wr w'') := fun w' hb => (St.ow_do (S2.below hb) ⟨3, 1, 0, 0, 0⟩ nw).mono fun _ _ h => ⟨⟨_, h.1⟩, h.2.1.be⟩
        have G5 : Hid (∀ w', Below wr.heap.size wr w' → Calls Tryz.prog 13 #[.pointer (some ⟨q, 0, none⟩)] w' fun e w'' => ∃ A n c, e = .returned (.slice A n c) ∧ (∀ w3, Below w''.heap.size w'' w3 → (convert 54 9 (.slice A n c)).run Tryz.prog w3 = .ok (.string (Pk.str (hbts cap over s))) w3) ∧ Below wr.heap.size wr w'') := fun w' hb => (ow_bytes (P.out.ow.below hb)).mono fun e w'' h => by
          obtain ⟨v, rfl, hr, h2⟩ := h
          obtain ⟨A, c, rfl⟩ := Pk.own_form hr
          exact ⟨A, _, c, rfl, fun w3 h3 => Pk.str_run (Pk.Rb.of_own (St.rb_below hr h3)), hb.trans (h2.mono hb.size)⟩
        have G6 : Hid (∀ w', Below wr.heap.size wr w' → Calls Tryz.prog 14 #[.pointer (some ⟨d, 0, none⟩)] w' fun e w'' => e = .returned (.string (Pk.str (hbts cap over s))) ∧ Below wr.heap.size wr w'' ∧ Below w'.heap.size w' w'') := fun w' hb => (refbytes_any w' d cap over s (P.out.dh.below hb) OK).mono fun _ _ ⟨h1, h2⟩ => ⟨h1, hb.trans (h2.mono hb.size), h2⟩
        have TA : Hid (∀ w', Below wr.heap.size wr w' → Calls Tryz.prog 6 #[] w' fun e w'' => e = .returned (.bool true) ∧ Below wr.heap.size wr w'') := fun w' hb => (htold_any w').mono fun _ _ ⟨h1, h2⟩ => ⟨h1, hb.trans (h2.mono hb.size)⟩
        generalize Pk.str (hbts cap over s) = bs at *
        clear SK P S2 P2 OK
        go_upto_region 31 with fail
        refine hp31 _ _ _ _ _ _ _ _ _ _ _ _ _ _ _ _ _ _ _ _ _ _ _ _ _ _ _ _ _ _ _ _ _ _ _ _ _ _ _ _ _ _ _ _ _ _ _ _ _ _ _ _ _ _ _ _ _ _ _ _ _ _ _ _ _ _ _ _ _ _ _ _ _ _ _ _ _ _ _ _ _ _ _ _ _ _ _ _ _ _ _ _ _ _ _ _ _ _ _ _ _ _ _ _ _ _ _ _ _ _ _ _ _ _ _ _ _ _ _ _ _ _ _ _ _ _ _ _ _ _ _ _ _ _ _ _ _ _ _ _ _ _ _ _ _ _ _ _ _ _ _ _ _ _ _ _ _ _ _ _ _ _ _ _ _ _ _ _ _ _ _ w2 q d q2 bs F5 F6 F7 _ (fun _ _ d _ _ h => by cases d <;> exact h) (fun y143 y144 y145 y146 y147 y148 y149 y150 y151 y152 y153 y154 y155 y156 y157 y158 y159 wc hb => ?_)
        have DW := Lib.hid (DO.out wc hb)
        clear F5 F6 F7 DO hb
        go_wp2_with fail
        refine DW.out.mono ?_
        rintro e w3 ⟨⟨a, rfl⟩, b3⟩
        have b3' : Below wr.heap.size wr w3.drew := b3.trans ⟨rfl, rfl, rfl, Nat.le_refl _, fun _ _ => rfl⟩
        clear DW
        go_upto_region 34 with fail
        go_cut [4] from 143 to 174 (fun s4 wx => s4 = .bool true ∧ Below wr.heap.size wr wx)
        case first =>
          go_region_with ((first | (go_at_call 6; refine (TA.out _ (by assumption)).mono ?_; rintro e w6 ⟨rfl, h6⟩; (try have z6 := hcv.out _ (by assumption))) | (go_at_call 13; refine (G5.out _ (by assumption)).mono ?_; rintro e w6 ⟨A, n, c, rfl, hcv, h6⟩; have z6 := hcv _ (Below.refl _ _); replace hcv := Lib.hid hcv) | (go_at_call 14; refine (G6.out _ (by assumption)).mono ?_; rintro e w6 ⟨rfl, h6, h7⟩; (try have z6 := hcv.out _ h7); clear h7)))
          all_goals
            go_wp2
            go_meet
            case rel => exact ⟨by simp, by assumption⟩
        case rest =>
        obtain ⟨rfl, hb⟩ := hcut
        have E := Lib.hid (BW.out _ hb)
        clear hb
        go_wp2
        go_ret
        exact ⟨rfl, E.out⟩
theorem walkd (x0 : Int × Int) (v1 : Value) (a1 : List Stp) {W : World} (w1 : Osrc W v1 a1) (W' : World) (hW : W' = W) :
    Calls Tryz.prog 3 #[.agg #[.int .i64 x0.1, .int .i64 x0.2], v1] W' fun e w' => e = .returned (.bool true) ∧ Below W'.heap.size W' w' := by
  subst hW
  obtain ⟨A, n, c, rfl, h1, h2, R⟩ := w1
  exact walk W' x0.1 x0.2 A n c a1 R (by omega)


/-! The row: every input. -/
set_option linter.unusedVariables false
set_option maxRecDepth 100000 in
theorem lifted (os : Os) (started : os.Started) (H : Type) (enc : TypeId × Value → H) :
    ReturnsInHanded {} Tryz.checked os 3 .any (Rows.hostPlaysSpec.pre6 enc Tryz.prog Tryz.f3 Rows.hostPlaysRow.domain false) (Rows.hostPlaysSpec.post enc Tryz.prog Tryz.f3 false true false false) := by
  refine returnsInHanded_of_change (C := Tryz.checked) own started (by kernel_rfl) Tryz.func3
    (ChangeSpec.witness6 (enc := enc) (C := Tryz.checked) false ⟨#[], #[.agg #[.int .i64 0, .int .i64 0], .slice none 0 0], []⟩ 8 (by kernel_rfl) (by kernel_rfl) (by kernel_rfl) (by kernel_rfl)) ?_
  intro W base args ds gs before hval0 hW _ _
  have hval : ∀ (j : Nat) t v, Tryz.f3.params[j]? = some t → args[j]? = some v → Value.okWide Tryz.prog W .any base t v := hval0
  have hW' := hW
  obtain ⟨p, q, hA0, hV, rfl, hfz, hnd⟩ := hW
  have hA : DataW.TrodAll enc Tryz.prog W 0 (fun _ => true) true Tryz.f3.params.toList args.toList ds p := hA0
  rw [Tryz.params3] at hA hval
  obtain ⟨v0, vs0, d0, ds0, p0, q0, hargs, rfl, rfl, h0, r0⟩ := trodAll_cons hA
  obtain ⟨v1, vs1, d1, ds1, p1, q1, rfl, rfl, rfl, h1, r1⟩ := trodAll_cons r0
  obtain ⟨rfl, rfl, rfl⟩ := trodAll_nil r1
  obtain rfl : args = #[v0, v1] := by cases args; simp_all
  obtain ⟨rfl, rfl⟩ := trodVars_none hV
  obtain ⟨x0, rfl⟩ := view_stock (hval 0 23 v0 rfl rfl) h0
  obtain ⟨a1, w1⟩ := view_sops (hval 1 24 v1 rfl rfl) h1
  clear hA0 hval0
  simp only [List.append_nil] at hW'
  refine (walkd x0 v1 a1 w1 W rfl).mono fun e W' ⟨he, hb⟩ => ?_
  subst he
  exact ⟨_, rfl, post_below (pa := p0 ++ (p1 ++ [])) (pv := []) hW' (fun _ _ _ => (trodAll_cons_mk (shut_bool Tryz.underlying4 _) trodAll_mk0)) (fun sp hsp => (trodAll_cons_mk (Trod_stays laidOut (by kernel_rfl) (of_decide_eq_true (by kernel_rfl)) h0 (fun x hx => hb.same (hW'.lt x (by simp [hx]))) (fun x hx => hsp x (by simp [hx]))) (trodAll_cons_mk (Trod_stays laidOut (by kernel_rfl) (of_decide_eq_true (by kernel_rfl)) h1 (fun x hx => hb.same (hW'.lt x (by simp [hx]))) (fun x hx => hsp x (by simp [hx]))) trodAll_mk0))) (fun _ _ => rfl) (by simp)
    hb (ok_one (by kernel_rfl) rfl (okWide_bool_mk Tryz.underlying4 _))⟩

theorem proved : Rows.HostPlaysSaid :=
  OpenClaim.holds_of_wide 3 Tryz.f3 rfl rfl rfl rfl rfl rfl rfl ⟨rfl, rfl, rfl, rfl, rfl⟩ rfl rfl rfl rfl rfl (by kernel_rfl) Tryz.func3 (by kernel_rfl)
    (of_decide_eq_true (by kernel_rfl)) (by unfold Func.isWrapper; first | (rw [if_pos (by decide +kernel)]; kernel_rfl) | (rw [if_neg (by decide +kernel)]; exact ⟨rfl, rfl⟩))
    (fun os started H enc _ => lifted os started H enc)
#print axioms proved

end Go.Proofs.YtchlbkfkecpodaaGreat.hostPlays
