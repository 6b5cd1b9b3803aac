/- Proved: what was answered first is told for good, whatever else the operation says (TableFirst), for any operations and answers. -/
import Derived.Test.YtiplhdeomlmpkaaTbO
import Derived.Test.YtiplhdeomlmpkaaWtC
import Derived.JoinedRecord
import Derived.HandedShaped
namespace Go.Proofs.Ytiplhdeomlmpkaa.tableFirst
set_option maxRecDepth 100000
open Go.ChangeShapes Go.WideShapes Go.ChangeAt Go.WideMaps Go.WideElems Go.RowKit
open Go.Sort (grow)
open Go.Proofs.Ytiplhdeomlmpkaa.Pk (Rb adr_block one_at one_free one_set lt_some grown_set grown_trans below_grown grown_refl u8s own_form)
open Go.Proofs.Ytiplhdeomlmpkaa.Tb
open Go.Proofs.Ytiplhdeomlmpkaa.Wt (Opn mayOp)


def FiAt (W : World) (q : Nat) (i : Value) (wr : World) : Prop := ∃ (j : Nat) (f : F), i = .int .i64 j ∧ j ≤ 60 ∧ Ow W.heap.size (fun g => g < W.heap.size) W wr q f
set_option maxHeartbeats 6400000 in
theorem walk (w : World) (A : Option Addr) (n c : Nat) (l : List Pt) (R : Ops w w.heap.size A n l) (hn : n ≤ 9223372036854775807) :
    Calls Try.prog 4 #[.slice A n c] w fun e w' => e = .returned (.bool true) ∧ Below w.heap.size w w' := by
  have N0 := ow_new w
  replace R := Lib.hid R
  go_enter Try.func4, Try.ntmps4
  go_wp2_with fail
  refine N0.mono ?_
  rintro e w1 ⟨q, rfl, O1⟩
  have st : Hid (FiAt w q (.int .i64 0) w1) := ⟨0, fz, rfl, by omega, O1⟩
  clear N0 O1
  go_wp2_with fail
  go_loopw [4] (fun i wr => FiAt w q i wr) (fun i _ => 60 - (intOf i).toNat)
  case atStart => exact st.out
  case round =>
    clear st
    obtain ⟨j, f, rfl, hj, O⟩ := hrel
    by_cases hjn : j < n
    · by_cases h60 : j < 60
      · obtain ⟨s, hs⟩ : ∃ s, l[j]? = some s := ⟨_, List.getElem?_eq_getElem (by have := R.out.len; omega)⟩
        obtain ⟨ad, rfl, hab, hat⟩ := R.out.at_ (by omega)
        have hbp : Bp (s.o.book, s.o.kind) := R.out.bp s (List.mem_of_getElem? hs)
        replace hat : Hid (∀ w', Below w.heap.size w w' → OpAt w' ad j s) := fun w' hb => (hat j s hs).same (hb.block _ hab)
        obtain ⟨c0, c1, c2, c3, c4, c5⟩ := hat.out wr O.be
        have i1 : (j : Int) < 60 := by omega
        have MEAS : Hid (60 - (intOf (.int .i64 ((j : Int) + 1))).toNat < 60 - (intOf (.int .i64 (j : Int))).toNat) := by unfold Hid; simp only [intOf]; omega
        obtain ⟨N, hN⟩ : ∃ N : Int, N = (cnt f : Int) := ⟨_, rfl⟩
        obtain ⟨N1, hN1⟩ : ∃ N1 : Int, N1 = N + 1 := ⟨_, rfl⟩
        have hcl := cnt_le f
        have wN : IntKind.i64.wrap (N + 1) = N1 := by rw [IntKind.wrap_i64]; omega
        have tN : (N == N1) = false := by rw [beq_eq_false_iff_ne]; omega
        replace hN : Hid ((cnt f : Int) = N) := hN.symm
        replace hN1 := Lib.hid hN1
        replace wN := Lib.hid wN
        replace tN := Lib.hid tN
        clear hcl
        obtain ⟨W5, hW5⟩ : ∃ X, X = wr.alloc (.cells #[.int .i64 s.o.kind, .int .i64 s.o.book, .int .i64 s.o.units, .int .i64 s.o.cust, .int .i64 s.o.amount] 32) := ⟨_, rfl⟩
        obtain ⟨X, hX⟩ : ∃ X, X = grq (fun g => g < w.heap.size) wr W5 := ⟨_, rfl⟩
        have b5 : Below wr.heap.size wr W5 := by rw [hW5]; exact (Below.refl _ _).alloc (Nat.le_refl _) _
        have O5 : Ow w.heap.size X w W5 q f := by rw [hX]; exact O.beside b5
        have B5 : Hid (Bx W5 wr.heap.size s.o) := by rw [hW5]; exact heap_alloc_new _ _
        have xg : Hid (X wr.heap.size) := by rw [hX]; exact .inr ⟨Nat.le_refl _, B5.out.lt⟩
        replace hW5 := Lib.hid hW5
        replace hX := Lib.hid hX
        replace hs := Lib.hid hs
        obtain ⟨x0, hX0⟩ : ∃ x, x = f s.o.book s.o.kind := ⟨_, rfl⟩
        replace hX0 : Hid (f s.o.book s.o.kind = x0) := hX0.symm
        replace hbp := Lib.hid hbp
        clear b5 O
        by_cases hx0 : x0 = 0
        · subst hx0
          have hS0 : Hid (ne0 0 = false) := rfl
          cases hMO : mayOp s.o with
          | false =>
            have FI : Calls Try.prog 10 #[.pointer (some ⟨q, 0, none⟩), opv s.o] W5 fun e w' => e = .returned (.tuple #[.int .i64 0, .bool false]) ∧ Below W5.heap.size W5 w' := by
              have := ow_find O5 s.o hbp.out
              rw [hX0.out, hS0.out] at this
              exact this
            have E1 : Hid (putF f s.o s.a s.o.book s.o.kind = 0 ∧ ne0 0 = false ∧ put? f s.o s.a = false ∧ (cnt (putF f s.o s.a) : Int) = N) := by
              have hp : put? f s.o s.a = false := by unfold put?; rw [hMO]; rfl
              have hq : putF f s.o s.a = f := by unfold putF; rw [hp]; rfl
              rw [hq, hX0.out, hp, hN.out]
              exact ⟨rfl, rfl, rfl, rfl⟩
            replace FI := Lib.hid FI
            replace O5 := Lib.hid O5
            go_wp2_with fail
            rw [← hW5.out]
            refine FI.out.mono ?_
            rintro e w6 ⟨rfl, b6⟩
            have O6 := Lib.hid (O5.out.below b6)
            have B6 := Lib.hid (B5.out.below b6)
            have LE := ow_len O6.out
            rw [hN.out] at LE
            replace LE := Lib.hid LE
            clear FI O5 B5 b6
            go_wp2_with fail
            refine LE.out.mono ?_
            rintro e w' ⟨rfl, rfl⟩
            have PU := Lib.hid (ow_put (O6.out.below (below_drew (Below.refl _ w6))) s.o s.a)
            rw [E1.out.2.2.1] at PU
            obtain ⟨z0, z1, z2, z3, z4⟩ := B6.out.cells
            obtain ⟨-, -, -, -, -, d5⟩ := hat.out w6 O6.out.be
            clear LE
            go_wp2_with fail
            go_cut [9] from 42 to 49 (fun s9 wx => s9 = .bool false ∧ Ow w.heap.size X w wx q (putF f s.o s.a) ∧ Bx wx wr.heap.size s.o)
            case first =>
              go_region_with (go_at_call 7; refine PU.out.mono ?_; rintro e w7 ⟨rfl, O7, K7⟩; have B7 : Hid (Bx w7 wr.heap.size s.o) := B6.out.kx K7 xg.out; replace O7 := Lib.hid O7; clear K7)
              all_goals
                go_wp2
                go_meet
                case rel => exact ⟨rfl, O7.out, B7.out⟩
            obtain ⟨rfl, O7, B7⟩ := hcut
            replace O7 := Lib.hid O7
            replace B7 := Lib.hid B7
            clear PU O6 B6 z0 z1 z2 z3 z4 d5
            obtain ⟨y0, y1, y2, y3, y4⟩ := B7.out.cells
            have RM := Wt.refmayop_any wc s.o
            rw [hMO] at RM
            replace RM := Lib.hid RM
            go_wp2_with fail
            refine RM.out.mono ?_
            rintro e w8 ⟨rfl, b8⟩
            have O8 := Lib.hid (O7.out.below b8)
            have B8 := Lib.hid (B7.out.below b8)
            clear RM O7 B7 b8 y0 y1 y2 y3 y4
            obtain ⟨z0, z1, z2, z3, z4⟩ := B8.out.cells
            obtain ⟨-, -, -, -, -, d5⟩ := hat.out w8 O8.out.be
            have FJ := ow_find O8.out s.o hbp.out
            rw [E1.out.1, E1.out.2.1] at FJ
            replace FJ := Lib.hid FJ
            go_wp2_with fail
            refine FJ.out.mono ?_
            rintro e w9 ⟨rfl, b9⟩
            have O9 := Lib.hid (O8.out.below b9)
            have LF := ow_len O9.out
            rw [E1.out.2.2.2] at LF
            replace LF := Lib.hid LF
            have wN' := wN.out
            have tN' := tN.out
            clear FJ O8 B8 b9 z0 z1 z2 z3 z4
            go_wp2_with fail
            refine LF.out.mono ?_
            rintro e w' ⟨rfl, rfl⟩
            have O10 : Hid (Ow w.heap.size (fun g => g < w.heap.size) w w9 q (putF f s.o s.a)) := O9.out.less fun g hg => by rw [hX.out]; exact .inl hg
            clear LF O9
            go_wp2_with fail
            go_roundw
            case rel => exact ⟨j + 1, putF f s.o s.a, rfl, by omega, O10.out⟩
            case measure => exact MEAS.out
          | true =>
            cases hMA : mayA s.a with
            | false =>
              have hA1 : (s.a == 1) = false := by unfold mayA at hMA; rw [Bool.or_eq_false_iff] at hMA; exact hMA.1
              have hA2 : (s.a == 2) = false := by unfold mayA at hMA; rw [Bool.or_eq_false_iff] at hMA; exact hMA.2
              have FI : Calls Try.prog 10 #[.pointer (some ⟨q, 0, none⟩), opv s.o] W5 fun e w' => e = .returned (.tuple #[.int .i64 0, .bool false]) ∧ Below W5.heap.size W5 w' := by
                have := ow_find O5 s.o hbp.out
                rw [hX0.out, hS0.out] at this
                exact this
              have E1 : Hid (putF f s.o s.a s.o.book s.o.kind = 0 ∧ ne0 0 = false ∧ put? f s.o s.a = false ∧ (cnt (putF f s.o s.a) : Int) = N) := by
                have hp : put? f s.o s.a = false := by unfold put?; rw [hMO, hMA]; rfl
                have hq : putF f s.o s.a = f := by unfold putF; rw [hp]; rfl
                rw [hq, hX0.out, hp, hN.out]
                exact ⟨rfl, rfl, rfl, rfl⟩
              replace FI := Lib.hid FI
              replace O5 := Lib.hid O5
              go_wp2_with fail
              rw [← hW5.out]
              refine FI.out.mono ?_
              rintro e w6 ⟨rfl, b6⟩
              have O6 := Lib.hid (O5.out.below b6)
              have B6 := Lib.hid (B5.out.below b6)
              have LE := ow_len O6.out
              rw [hN.out] at LE
              replace LE := Lib.hid LE
              clear FI O5 B5 b6
              go_wp2_with fail
              refine LE.out.mono ?_
              rintro e w' ⟨rfl, rfl⟩
              have PU := Lib.hid (ow_put (O6.out.below (below_drew (Below.refl _ w6))) s.o s.a)
              rw [E1.out.2.2.1] at PU
              obtain ⟨z0, z1, z2, z3, z4⟩ := B6.out.cells
              obtain ⟨-, -, -, -, -, d5⟩ := hat.out w6 O6.out.be
              clear LE
              go_wp2_with fail
              go_cut [9] from 42 to 49 (fun s9 wx => s9 = .bool false ∧ Ow w.heap.size X w wx q (putF f s.o s.a) ∧ Bx wx wr.heap.size s.o)
              case first =>
                go_region_with (go_at_call 7; refine PU.out.mono ?_; rintro e w7 ⟨rfl, O7, K7⟩; have B7 : Hid (Bx w7 wr.heap.size s.o) := B6.out.kx K7 xg.out; replace O7 := Lib.hid O7; clear K7)
                all_goals
                  go_wp2
                  go_meet
                  case rel => exact ⟨rfl, O7.out, B7.out⟩
              obtain ⟨rfl, O7, B7⟩ := hcut
              replace O7 := Lib.hid O7
              replace B7 := Lib.hid B7
              clear PU O6 B6 z0 z1 z2 z3 z4 d5
              obtain ⟨y0, y1, y2, y3, y4⟩ := B7.out.cells
              have RM := Wt.refmayop_any wc s.o
              rw [hMO] at RM
              replace RM := Lib.hid RM
              go_wp2_with fail
              refine RM.out.mono ?_
              rintro e w8 ⟨rfl, b8⟩
              have O8 := Lib.hid (O7.out.below b8)
              have B8 := Lib.hid (B7.out.below b8)
              clear RM O7 B7 b8 y0 y1 y2 y3 y4
              obtain ⟨z0, z1, z2, z3, z4⟩ := B8.out.cells
              obtain ⟨-, -, -, -, -, d5⟩ := hat.out w8 O8.out.be
              have FJ := ow_find O8.out s.o hbp.out
              rw [E1.out.1, E1.out.2.1] at FJ
              replace FJ := Lib.hid FJ
              have g1 : (s.a == 1) = false := hA1
              have g2 : (s.a == 2) = false := hA2
              go_wp2_with fail
              refine FJ.out.mono ?_
              rintro e w9 ⟨rfl, b9⟩
              have O9 := Lib.hid (O8.out.below b9)
              have LF := ow_len O9.out
              rw [E1.out.2.2.2] at LF
              replace LF := Lib.hid LF
              have wN' := wN.out
              have tN' := tN.out
              clear FJ O8 B8 b9 z0 z1 z2 z3 z4
              go_wp2_with fail
              refine LF.out.mono ?_
              rintro e w' ⟨rfl, rfl⟩
              have O10 : Hid (Ow w.heap.size (fun g => g < w.heap.size) w w9 q (putF f s.o s.a)) := O9.out.less fun g hg => by rw [hX.out]; exact .inl hg
              clear LF O9
              go_wp2_with fail
              go_roundw
              case rel => exact ⟨j + 1, putF f s.o s.a, rfl, by omega, O10.out⟩
              case measure => exact MEAS.out
            | true =>
              have FI : Calls Try.prog 10 #[.pointer (some ⟨q, 0, none⟩), opv s.o] W5 fun e w' => e = .returned (.tuple #[.int .i64 0, .bool false]) ∧ Below W5.heap.size W5 w' := by
                have := ow_find O5 s.o hbp.out
                rw [hX0.out, hS0.out] at this
                exact this
              have E1 : Hid (putF f s.o s.a s.o.book s.o.kind = s.a ∧ ne0 s.a = true ∧ put? f s.o s.a = true ∧ (cnt (putF f s.o s.a) : Int) = N1) := by
                have hp : put? f s.o s.a = true := put_iff.2 ⟨hMO, hMA, hX0.out⟩
                have hc := cnt_put f s.o s.a
                rw [if_pos hp] at hc
                rw [put_at, if_pos hp]
                exact ⟨rfl, ne0_iff.2 (maya_ne hMA), hp, by have h1 := hN.out; have h2 := hN1.out; rw [hc]; omega⟩
              replace FI := Lib.hid FI
              replace O5 := Lib.hid O5
              go_wp2_with fail
              rw [← hW5.out]
              refine FI.out.mono ?_
              rintro e w6 ⟨rfl, b6⟩
              have O6 := Lib.hid (O5.out.below b6)
              have B6 := Lib.hid (B5.out.below b6)
              have LE := ow_len O6.out
              rw [hN.out] at LE
              replace LE := Lib.hid LE
              clear FI O5 B5 b6
              go_wp2_with fail
              refine LE.out.mono ?_
              rintro e w' ⟨rfl, rfl⟩
              have PU := Lib.hid (ow_put (O6.out.below (below_drew (Below.refl _ w6))) s.o s.a)
              rw [E1.out.2.2.1] at PU
              obtain ⟨z0, z1, z2, z3, z4⟩ := B6.out.cells
              obtain ⟨-, -, -, -, -, d5⟩ := hat.out w6 O6.out.be
              clear LE
              go_wp2_with fail
              go_cut [9] from 42 to 49 (fun s9 wx => s9 = .bool true ∧ Ow w.heap.size X w wx q (putF f s.o s.a) ∧ Bx wx wr.heap.size s.o)
              case first =>
                go_region_with (go_at_call 7; refine PU.out.mono ?_; rintro e w7 ⟨rfl, O7, K7⟩; have B7 : Hid (Bx w7 wr.heap.size s.o) := B6.out.kx K7 xg.out; replace O7 := Lib.hid O7; clear K7)
                all_goals
                  go_wp2
                  go_meet
                  case rel => exact ⟨rfl, O7.out, B7.out⟩
              obtain ⟨rfl, O7, B7⟩ := hcut
              replace O7 := Lib.hid O7
              replace B7 := Lib.hid B7
              clear PU O6 B6 z0 z1 z2 z3 z4 d5
              obtain ⟨y0, y1, y2, y3, y4⟩ := B7.out.cells
              have RM := Wt.refmayop_any wc s.o
              rw [hMO] at RM
              replace RM := Lib.hid RM
              go_wp2_with fail
              refine RM.out.mono ?_
              rintro e w8 ⟨rfl, b8⟩
              have O8 := Lib.hid (O7.out.below b8)
              have B8 := Lib.hid (B7.out.below b8)
              clear RM O7 B7 b8 y0 y1 y2 y3 y4
              obtain ⟨z0, z1, z2, z3, z4⟩ := B8.out.cells
              obtain ⟨-, -, -, -, -, d5⟩ := hat.out w8 O8.out.be
              have FJ := ow_find O8.out s.o hbp.out
              rw [E1.out.1, E1.out.2.1] at FJ
              replace FJ := Lib.hid FJ
              rcases maya_iff.1 hMA with a1 | a1
              all_goals
                first
                  | have g1 : (s.a == 1) = true := by rw [a1]; rfl
                  | (have g1 : (s.a == 1) = false := by rw [a1]; rfl
                     have g2 : (s.a == 2) = true := by rw [a1]; rfl)
                clear a1
                go_wp2_with fail
                refine FJ.out.mono ?_
                rintro e w9 ⟨rfl, b9⟩
                have O9 := Lib.hid (O8.out.below b9)
                have LF := ow_len O9.out
                rw [E1.out.2.2.2] at LF
                replace LF := Lib.hid LF
                have wN' := wN.out
                have tN' := tN.out
                obtain ⟨-, -, -, -, -, e5⟩ := hat.out w9 O9.out.be
                clear FJ O8 B8 b9 z0 z1 z2 z3 z4
                go_wp2_with fail
                refine LF.out.mono ?_
                rintro e w' ⟨rfl, rfl⟩
                have O10 : Hid (Ow w.heap.size (fun g => g < w.heap.size) w w9 q (putF f s.o s.a)) := O9.out.less fun g hg => by rw [hX.out]; exact .inl hg
                clear LF O9
                go_wp2_with fail
                go_roundw
                case rel => exact ⟨j + 1, putF f s.o s.a, rfl, by omega, O10.out⟩
                case measure => exact MEAS.out
  
        · have hS0 : Hid (ne0 x0 = true) := ne0_iff.2 hx0
          replace hx0 := Lib.hid hx0
          have FI : Calls Try.prog 10 #[.pointer (some ⟨q, 0, none⟩), opv s.o] W5 fun e w' => e = .returned (.tuple #[.int .i64 x0, .bool true]) ∧ Below W5.heap.size W5 w' := by
            have := ow_find O5 s.o hbp.out
            rw [hX0.out, hS0.out] at this
            exact this
          have E1 : Hid (putF f s.o s.a s.o.book s.o.kind = x0 ∧ ne0 x0 = true ∧ put? f s.o s.a = false ∧ (cnt (putF f s.o s.a) : Int) = N) := by
            have hp : put? f s.o s.a = false := by
              unfold put?
              rw [Bool.and_eq_false_iff]
              exact .inr (by rw [beq_eq_false_iff_ne, hX0.out]; exact hx0.out)
            have hq : putF f s.o s.a = f := by unfold putF; rw [hp]; rfl
            rw [hq, hX0.out, hp, hN.out]
            exact ⟨rfl, hS0.out, rfl, rfl⟩
          replace FI := Lib.hid FI
          replace O5 := Lib.hid O5
          go_wp2_with fail
          rw [← hW5.out]
          refine FI.out.mono ?_
          rintro e w6 ⟨rfl, b6⟩
          have O6 := Lib.hid (O5.out.below b6)
          have B6 := Lib.hid (B5.out.below b6)
          have LE := ow_len O6.out
          rw [hN.out] at LE
          replace LE := Lib.hid LE
          clear FI O5 B5 b6
          go_wp2_with fail
          refine LE.out.mono ?_
          rintro e w' ⟨rfl, rfl⟩
          have PU := Lib.hid (ow_put (O6.out.below (below_drew (Below.refl _ w6))) s.o s.a)
          rw [E1.out.2.2.1] at PU
          obtain ⟨z0, z1, z2, z3, z4⟩ := B6.out.cells
          obtain ⟨-, -, -, -, -, d5⟩ := hat.out w6 O6.out.be
          clear LE
          go_wp2_with fail
          go_cut [9] from 42 to 49 (fun s9 wx => s9 = .bool false ∧ Ow w.heap.size X w wx q (putF f s.o s.a) ∧ Bx wx wr.heap.size s.o)
          case first =>
            go_region_with (go_at_call 7; refine PU.out.mono ?_; rintro e w7 ⟨rfl, O7, K7⟩; have B7 : Hid (Bx w7 wr.heap.size s.o) := B6.out.kx K7 xg.out; replace O7 := Lib.hid O7; clear K7)
            all_goals
              go_wp2
              go_meet
              case rel => exact ⟨rfl, O7.out, B7.out⟩
          obtain ⟨rfl, O7, B7⟩ := hcut
          replace O7 := Lib.hid O7
          replace B7 := Lib.hid B7
          clear PU O6 B6 z0 z1 z2 z3 z4 d5
          obtain ⟨y0, y1, y2, y3, y4⟩ := B7.out.cells
          have O8 := O7
          have FJ := ow_find O8.out s.o hbp.out
          rw [E1.out.1, E1.out.2.1] at FJ
          replace FJ := Lib.hid FJ
          go_wp2_with fail
          refine FJ.out.mono ?_
          rintro e w9 ⟨rfl, b9⟩
          have O9 := Lib.hid (O8.out.below b9)
          have LF := ow_len O9.out
          rw [E1.out.2.2.2] at LF
          replace LF := Lib.hid LF
          have wN' := wN.out
          have tN' := tN.out
          clear FJ O8 O7 B7 b9 y0 y1 y2 y3 y4
          go_wp2_with fail
          refine LF.out.mono ?_
          rintro e w' ⟨rfl, rfl⟩
          have O10 : Hid (Ow w.heap.size (fun g => g < w.heap.size) w w9 q (putF f s.o s.a)) := O9.out.less fun g hg => by rw [hX.out]; exact .inl hg
          clear LF O9
          go_wp2_with fail
          go_roundw
          case rel => exact ⟨j + 1, putF f s.o s.a, rfl, by omega, O10.out⟩
          case measure => exact MEAS.out
      · have OO : Hid (Below w.heap.size w wr) := O.be
        have FN := Lib.hid (find_nil wr ⟨1, 1, 0, 0, 0⟩ (bp_in (by decide) (by decide)))
        clear O
        go_wp2_with fail
        refine FN.out.mono ?_
        rintro e w2 ⟨rfl, b2⟩
        have B2 : Hid (Below w.heap.size w w2) := OO.out.trans (b2.mono OO.out.size)
        have TA := Lib.hid (told_any w2)
        clear FN b2
        go_wp2_with fail
        refine TA.out.mono ?_
        rintro e w3 ⟨rfl, b3⟩
        have B3 : Hid (Below w.heap.size w w3) := B2.out.trans (b3.mono B2.out.size)
        have PN := Lib.hid (put_nil w3 ⟨6, 1, 0, 0, 0⟩ 1)
        clear TA b3 B2
        go_wp2_with fail
        refine PN.out.mono ?_
        rintro e w4 ⟨rfl, b4⟩
        have B4 : Hid (Below w.heap.size w w4) := B3.out.trans (b4.mono B3.out.size)
        have LN := Lib.hid (len_nil w4)
        clear PN b4 B3
        go_wp2_with fail
        refine LN.out.mono ?_
        rintro e w' ⟨rfl, rfl⟩
        have KN := Lib.hid (keys_nil w4)
        clear LN
        go_wp2_with fail
        refine KN.out.mono ?_
        rintro e w5 ⟨v, rfl, h5, b5⟩
        have B5 : Hid (Below w.heap.size w w5) := B4.out.trans (b5.mono B4.out.size)
        obtain ⟨A5, c5, rfl, -, -, -⟩ := rp_form h5
        clear KN b5 B4 h5
        go_wp2
        go_ret
        exact ⟨rfl, B5.out⟩
    · have OO : Hid (Below w.heap.size w wr) := O.be
      have FN := Lib.hid (find_nil wr ⟨1, 1, 0, 0, 0⟩ (bp_in (by decide) (by decide)))
      clear O
      go_wp2_with fail
      refine FN.out.mono ?_
      rintro e w2 ⟨rfl, b2⟩
      have B2 : Hid (Below w.heap.size w w2) := OO.out.trans (b2.mono OO.out.size)
      have TA := Lib.hid (told_any w2)
      clear FN b2
      go_wp2_with fail
      refine TA.out.mono ?_
      rintro e w3 ⟨rfl, b3⟩
      have B3 : Hid (Below w.heap.size w w3) := B2.out.trans (b3.mono B2.out.size)
      have PN := Lib.hid (put_nil w3 ⟨6, 1, 0, 0, 0⟩ 1)
      clear TA b3 B2
      go_wp2_with fail
      refine PN.out.mono ?_
      rintro e w4 ⟨rfl, b4⟩
      have B4 : Hid (Below w.heap.size w w4) := B3.out.trans (b4.mono B3.out.size)
      have LN := Lib.hid (len_nil w4)
      clear PN b4 B3
      go_wp2_with fail
      refine LN.out.mono ?_
      rintro e w' ⟨rfl, rfl⟩
      have KN := Lib.hid (keys_nil w4)
      clear LN
      go_wp2_with fail
      refine KN.out.mono ?_
      rintro e w5 ⟨v, rfl, h5, b5⟩
      have B5 : Hid (Below w.heap.size w w5) := B4.out.trans (b5.mono B4.out.size)
      obtain ⟨A5, c5, rfl, -, -, -⟩ := rp_form h5
      clear KN b5 B4 h5
      go_wp2
      go_ret
      exact ⟨rfl, B5.out⟩
theorem walkd {w : World} (v : Value) (l : List Pt) (hv : Osrc w v l) (w' : World) (hw : w' = w) : Calls Try.prog 4 #[v] w' fun e W => e = .returned (.bool true) ∧ Below w'.heap.size w' W := by
  subst hw
  obtain ⟨A, n, c, rfl, h1, h2, R⟩ := hv
  exact walk w' A n c l R (by omega)


/-! The row: every input. -/
set_option linter.unusedVariables false
set_option maxRecDepth 100000 in
theorem lifted (os : Os) (started : os.Started) (H : Type) (enc : TypeId × Value → H) :
    ReturnsInHanded {} Try.checked os 4 .any (Rows.tableFirstSpec.pre6 enc Try.prog Try.f4 Rows.tableFirstRow.domain false) (Rows.tableFirstSpec.post enc Try.prog Try.f4 false true false false) := by
  refine returnsInHanded_of_change (C := Try.checked) own started (by kernel_rfl) Try.func4
    (ChangeSpec.witness6 (enc := enc) (C := Try.checked) false ⟨#[], #[.slice none 0 0], []⟩ 8 (by kernel_rfl) (by kernel_rfl) (by kernel_rfl) (by kernel_rfl)) ?_
  intro W base args ds gs before hval0 hW _ _
  have hval : ∀ (j : Nat) t v, Try.f4.params[j]? = some t → args[j]? = some v → Value.okWide Try.prog W .any base t v := hval0
  have hW' := hW
  obtain ⟨p, q, hA0, hV, rfl, hfz, hnd⟩ := hW
  have hA : DataW.TrodAll enc Try.prog W 0 (fun _ => true) true Try.f4.params.toList args.toList ds p := hA0
  rw [Try.params4] at hA hval
  obtain ⟨v0, vs0, d0, ds0, p0, q0, hargs, rfl, rfl, h0, r0⟩ := trodAll_cons hA
  obtain ⟨rfl, rfl, rfl⟩ := trodAll_nil r0
  obtain rfl : args = #[v0] := by cases args; simp_all
  obtain ⟨rfl, rfl⟩ := trodVars_none hV
  obtain ⟨a0, w0⟩ := view_puts (hval 0 22 v0 rfl rfl) h0
  clear hA0 hval0
  simp only [List.append_nil] at hW'
  refine (walkd v0 a0 w0 W rfl).mono fun e W' ⟨he, hb⟩ => ?_
  subst he
  exact ⟨_, rfl, post_below (pa := p0 ++ []) (pv := []) hW' (fun _ _ _ => (trodAll_cons_mk (shut_bool Try.underlying4 _) trodAll_mk0)) (fun sp hsp => (trodAll_cons_mk (Trod_stays laidOut (by kernel_rfl) (of_decide_eq_true (by kernel_rfl)) h0 (fun x hx => hb.same (hW'.lt x (by simp [hx]))) (fun x hx => hsp x (by simp [hx]))) trodAll_mk0)) (fun _ _ => rfl) (by simp)
    hb (ok_one (by kernel_rfl) rfl (okWide_bool_mk Try.underlying4 _))⟩

theorem proved : Rows.TableFirstSaid :=
  OpenClaim.holds_of_wide 4 Try.f4 rfl rfl rfl rfl rfl rfl rfl ⟨rfl, rfl, rfl, rfl, rfl⟩ rfl rfl rfl rfl rfl (by kernel_rfl) Try.func4 (by kernel_rfl)
    (of_decide_eq_true (by kernel_rfl)) (by unfold Func.isWrapper; first | (rw [if_pos (by decide +kernel)]; kernel_rfl) | (rw [if_neg (by decide +kernel)]; exact ⟨rfl, rfl⟩))
    (fun os started H enc _ => lifted os started H enc)
#print axioms proved

end Go.Proofs.Ytiplhdeomlmpkaa.tableFirst
