/- told. -/
import Derived.Test.YtnfakkinaockiaaWhR
namespace Go.Proofs.Ytnfakkinaockiaa
set_option maxRecDepth 100000
open Go.RowKit
open Go.Sort (grow)
open Go.Proofs.Ytnfakkinaockiaa.Pk (one_at one_free one_set lt_some grown_set grown_trans below_grown grown_refl)
namespace Wh

theorem LwTo.be {B w w' : World} {q : Nat} {now : Int} {S : List Tm} {X : Nat → Prop} (h : LwTo B w q now S X w') : Below B.heap.size B w' := h.1.be
set_option maxHeartbeats 6400000 in
theorem told_any (w : World) : Calls Try.prog 8 #[] w fun e w' => e = .returned (.bool true) ∧ Below w.heap.size w w' := by
  have NW := Lib.hid (lw_new (B := w) 0 (by decide) (Below.refl _ w))
  go_enter Try.func8, Try.ntmps8
  go_wp2_with fail
  refine NW.out.mono ?_
  rintro e w1 ⟨q, rfl, L1, _⟩
  have C1 := Lib.hid (lw_set L1 1 5 (by decide) (by decide))
  clear NW L1
  go_wp2_with fail
  refine C1.out.mono ?_
  rintro e w2 ⟨rfl, L2⟩
  have C2 := Lib.hid (lw_set L2.1 2 3 (by decide) (by decide))
  clear C1 L2
  go_wp2_with fail
  refine C2.out.mono ?_
  rintro e w3 ⟨rfl, L3⟩
  have hS : setS 2 3 (setS 1 5 []) = [(2, 3), (1, 5)] := by decide
  rw [hS] at L3
  have C3 := Lib.hid (lw_next L3.1)
  replace L3 := Lib.hid L3.1
  clear C2 hS
  go_wp2_with fail
  refine C3.out.mono ?_
  rintro e w4 ⟨rfl, hb4⟩
  have L4 := L3.out.below hb4
  have C4 := Lib.hid (lw_turn L4 5 (by decide) (by decide))
  have z1 : tm2 ([(2, 3), (1, 5)] : List Tm).head? = 3 := rfl
  have z2 : ([(2, 3), (1, 5)] : List Tm).head?.isSome = true := rfl
  rw [z1, z2]
  clear C3 L3 L4 hb4 z1 z2
  go_wp2_with fail
  refine C4.out.mono ?_
  rintro e w5 ⟨A, n, c, rfl, hn, R, L5, _⟩
  have ho : offs 5 [(2, 3), (1, 5)] = [(2, 3), (1, 5)] := by decide
  have hl : left 5 [(2, 3), (1, 5)] = [] := by decide
  rw [ho] at hn R
  rw [hl] at L5
  obtain rfl : n = 2 := hn
  have RR := Rr.of_row R
  obtain ⟨ad, rfl, _, _⟩ := RR.at_ (by omega)
  have a0 := RR.cell (k := 0) (z := 2) rfl
  have a1 := RR.cell (k := 1) (z := 1) rfl
  obtain ⟨g, rfl⟩ : ∃ g, ad = ⟨g, 0, none⟩ := by
    rcases R.2 with ⟨h, _⟩ | ⟨g, cap, cur, h, _⟩
    · cases h
    · injection h with h
      injection h with h
      exact ⟨g, h⟩
  rw [Addr.add_zero'] at a0
  rw [Addr.add_lit, Nat.zero_add] at a1
  have C5 := Lib.hid (lw_len L5)
  replace L5 := Lib.hid L5
  clear C4 R RR ho hl
  go_wp2_with fail
  refine C5.out.mono ?_
  rintro e w6 ⟨rfl, hb6⟩
  have L6 := L5.out.below hb6
  have C6 := Lib.hid (lw_now L6)
  have C7 := Lib.hid (lw_off L6 1 (by decide))
  clear C5 L5 L6 hb6 a0 a1
  go_wp2_with fail
  refine C6.out.mono ?_
  rintro e w7 ⟨rfl, rfl⟩
  clear C6
  go_wp2_with fail
  refine C7.out.mono ?_
  rintro e w8 ⟨rfl, L8⟩
  have C8 := Lib.hid (lw_set L8.1 1 (-1) (by decide) (by decide))
  have z1 : (fnd 1 ([] : List Tm)).isSome = false := rfl
  rw [z1]
  clear C7 L8 z1
  go_wp2_with fail
  refine C8.out.mono ?_
  rintro e w9 ⟨rfl, L9⟩
  have E := Lib.hid L9.1.be
  have z1 : setE (-1) = 1 := by decide
  rw [z1]
  clear C8 L9 z1
  go_wp2
  go_ret
  exact ⟨rfl, E.out⟩
end Wh
end Go.Proofs.Ytnfakkinaockiaa
