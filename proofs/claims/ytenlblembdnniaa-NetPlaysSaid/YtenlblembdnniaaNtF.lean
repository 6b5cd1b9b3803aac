/- Send, Double, slices.Delete, remove, Drop of a net. -/
import Derived.Test.YtenlblembdnniaaNtE
import Derived.Lib.SliceRun
import Derived.OwnWalk
namespace Go.Proofs.Ytenlblembdnniaa
set_option maxRecDepth 100000
open Go.RowKit
open Go.Proofs.Ytenlblembdnniaa.Pk (Rb one_at one_free one_set lt_some grown_set grown_trans below_grown grown_refl)
namespace Nt

section
variable {w w6 : World} {q bi most : Nat} {us : List Bool} {L : List Ms} {fp : Nat → Prop} {cs : List (Option Nat)} {v : Value}
def sendC (us : List Bool) (most : Nat) (L : List Ms) (f t : Int) : Int := if (node us.length f && node us.length t) = true then addC most L else 1
def sendS (us : List Bool) (most : Nat) (L : List Ms) (m : Ms) : List Ms := if (node us.length m.fr && node us.length m.to_) = true then addS most L m else L
set_option maxHeartbeats 1600000 in
theorem send_any (W : NtO w q most us L fp) (f t : Int) {T : Nat → Prop} {A : Option Addr} {n c : Nat} {bs : List UInt8} (R : Rb w T A n bs) (hbs : bs.length ≤ 1000) : Calls Try.prog 9 #[.pointer (some ⟨q, 0, none⟩), .int .i64 f, .int .i64 t, .slice A n c] w fun e w' => e = .returned (.int .i64 (sendC us most L f t)) ∧ NTo w q most us (sendS us most L ⟨f, t, bs⟩) fp w' := by
  obtain ⟨bi, A1, n1, cc, c1, c2, _, _⟩ := W.parts
  obtain ⟨z, hz⟩ : ∃ z, z = us.length := ⟨_, rfl⟩
  rw [← hz] at c1
  have N1 := Lib.hid (node_cell w q _ z _ f c1)
  have N2 := Lib.hid (node_cell w q _ z _ t c1)
  unfold sendC sendS
  simp only
  rw [← hz]
  have CV := str_run (c := c) R
  have E := Lib.hid (NTo.of_below W (Below.refl _ _))
  cases h1 : node z f with
  | false =>
    rw [h1] at N1
    simp only [Bool.false_and, Bool.false_eq_true, if_false]
    clear W R N2 CV h1 hz c1 c2
    go_enter Try.func9, Try.ntmps9
    go_wp2_with fail
    refine N1.out.mono ?_
    rintro e w1 ⟨rfl, rfl⟩
    clear N1
    go_wp2
    go_ret
    exact ⟨rfl, E.out⟩
  | true =>
    rw [h1] at N1
    rw [Bool.true_and]
    cases h2 : node z t with
    | false =>
      rw [h2] at N2
      simp only [Bool.false_eq_true, if_false]
      clear W R CV h1 h2 hz c1 c2
      go_enter Try.func9, Try.ntmps9
      go_wp2_with fail
      refine N1.out.mono ?_
      rintro e w1 ⟨rfl, rfl⟩
      clear N1
      go_wp2_with fail
      refine N2.out.mono ?_
      rintro e w1 ⟨rfl, rfl⟩
      clear N2
      go_wp2
      go_ret
      exact ⟨rfl, E.out⟩
    | true =>
      rw [h2] at N2
      simp only [if_true]
      obtain ⟨g1, g2⟩ := node_iff.1 h2
      have AD := add_any W ⟨f, t, bs⟩ ⟨⟨g1, by rw [← hz]; exact g2⟩, hbs⟩
      unfold am at AD
      replace AD := Lib.hid AD
      clear W R h1 h2 hz c1 c2 E g1 g2
      go_enter Try.func9, Try.ntmps9
      go_wp2_with fail
      refine N1.out.mono ?_
      rintro e w1 ⟨rfl, rfl⟩
      clear N1
      go_wp2_with fail
      refine N2.out.mono ?_
      rintro e w1 ⟨rfl, rfl⟩
      clear N2
      go_wp2_with fail
      refine AD.out.mono ?_
      rintro e w1 ⟨rfl, h1⟩
      have E := Lib.hid h1
      clear AD h1 CV
      go_wp2
      go_ret
      exact ⟨rfl, E.out⟩
def dblC (most : Nat) (L : List Ms) (k : Int) : Int := if node L.length k = true then addC most L else 5
def dblS (most : Nat) (L : List Ms) (k : Int) : List Ms := if node L.length k = true then addS most L (mt L k.toNat) else L
set_option maxHeartbeats 1600000 in
theorem double_any (W : NtO w q most us L fp) (k : Int) : Calls Try.prog 13 #[.pointer (some ⟨q, 0, none⟩), .int .i64 k] w fun e w' => e = .returned (.int .i64 (dblC most L k)) ∧ NTo w q most us (dblS most L k) fp w' := by
  obtain ⟨bi, cs, v, O, hu, hf⟩ := W.ex
  have hl : cs.length = us.length := by rw [← hu, List.length_map]
  obtain ⟨A, c, rfl, hc, hm, _⟩ := re_form O.row
  obtain ⟨n, hn⟩ : ∃ z, z = L.length := ⟨_, rfl⟩
  have c2 : w.cell? ⟨q, 2, none⟩ = some (.slice A L.length c) := one_at (i := 2) O.cells
  have R := O.row
  rw [← hn] at c2 R
  have PL := Lib.hid (place_cell w q A n c k c2)
  unfold dblC dblS
  rw [← hn]
  cases hp : node n k with
  | false =>
    rw [hp] at PL
    simp only [Bool.false_eq_true, if_false]
    have E := Lib.hid (NTo.of_below W (Below.refl _ _))
    clear W O R hf hu hl
    go_enter Try.func13, Try.ntmps13
    go_wp2_with fail
    refine PL.out.mono ?_
    rintro e w1 ⟨rfl, rfl⟩
    clear PL
    go_wp2
    go_ret
    exact ⟨rfl, E.out⟩
  | true =>
    rw [hp] at PL
    simp only [if_true]
    obtain ⟨h0, h1⟩ := node_iff.1 hp
    obtain ⟨j, rfl⟩ : ∃ j : Nat, k = j := ⟨k.toNat, by omega⟩
    obtain ⟨g, c', hv, _⟩ := re_some R (by omega)
    injection hv with hA _ hcc
    subst hA; subst hcc
    have hj : j < n := by omega
    obtain ⟨k0, k1, k2⟩ := re_cell R hj
    rw [show ((j : Int)).toNat = j from by omega]
    have AD := add_any W (mt L j) (by rw [← hl, mt_eq (by omega)]; exact O.wf _ (List.getElem_mem _))
    unfold am at AD
    replace AD := Lib.hid AD
    clear W O R hf hu hp hl
    generalize mt L j = m at *
    go_enter Try.func13, Try.ntmps13
    go_wp2_with fail
    refine PL.out.mono ?_
    rintro e w1 ⟨rfl, rfl⟩
    clear PL
    go_wp2_with fail
    refine AD.out.mono ?_
    rintro e w1 ⟨rfl, h1⟩
    have E := Lib.hid h1
    clear AD h1
    go_wp2
    go_ret
    exact ⟨rfl, E.out⟩
end
end Nt
end Go.Proofs.Ytenlblembdnniaa
