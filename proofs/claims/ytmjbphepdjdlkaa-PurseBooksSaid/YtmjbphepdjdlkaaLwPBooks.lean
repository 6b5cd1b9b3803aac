/- Proved: of a booking at most three moves are made: reserved, taken, given back, each of its amount; what is given back is what was reserved (PurseBooks), for any operations. -/
import Derived.Test.YtmjbphepdjdlkaaLwPBooks2
import Derived.JoinedRecord
import Derived.HandedShaped
namespace Go.Proofs.Ytmjbphepdjdlkaa.purseBooks
set_option maxRecDepth 100000
open Go.ChangeShapes Go.WideShapes Go.ChangeAt Go.WideMaps Go.WideElems Go.RowKit
open Go.Sort (grow)
open Go.Proofs.Ytmjbphepdjdlkaa.Pk (Rb adr_block one_at one_free one_set lt_some grown_set grown_trans below_grown grown_refl u8s own_form)
open Go.Proofs.Ytmjbphepdjdlkaa.Pu
open Go.Proofs.Ytmjbphepdjdlkaa.Wt (Opn mayOp)

def GoAt (w2 : World) (q : Nat) (i : Value) (wr : World) : Prop := ∃ (j : Nat) (p : Pu.S), i = .int .i64 j ∧ j ≤ 80 ∧ Ow w2.heap.size (fun g => g < w2.heap.size) w2 wr q p ∧ Bk p
set_option maxHeartbeats 6400000 in
theorem walk (w : World) (A : Option Addr) (n cc : Nat) (l : List Opn) (R : Ops w w.heap.size A n l) (hn : n ≤ 9223372036854775807) :
    Calls Try.prog 5 #[.slice A n cc] w fun e w' => e = .returned (.bool true) ∧ Below w.heap.size w w' := by
  have N := Lib.hid (ow_new w 1073741824 1073741824 1073741824 1073741824 (by unfold Cs.I; simp) (by decide))
  replace R := Lib.hid R
  go_enter Try.func5, Try.ntmps5
  go_wp2_with fail
  refine N.out.mono ?_
  rintro e w3 ⟨q, rfl, O⟩
  have st : Hid (GoAt w q (.int .i64 0) w3) := ⟨0, _, rfl, by omega, O, bk_new _ _ _ _⟩
  clear N O
  go_wp2_with fail
  go_loopw [5] (fun i wr => GoAt w q i wr) (fun i _ => 80 - (intOf i).toNat)
  case atStart => exact st.out
  case round =>
    clear st
    obtain ⟨j, p, rfl, hj, O, K⟩ := hrel
    by_cases hjn : j < n
    · by_cases h80 : j < 80
      · obtain ⟨s, hs⟩ : ∃ s, l[j]? = some s := ⟨_, List.getElem?_eq_getElem (by have := R.out.len; omega)⟩
        obtain ⟨ad, rfl, hab, hat⟩ := R.out.at_ (by omega)
        obtain ⟨x1, x2, x3, x4, x5⟩ := (hat j s hs).same (O.be.block _ hab)
        have i1 : (j : Int) < 80 := by omega
        have D := Lib.hid (ow_do O s)
        unfold opv at D
        have K2 := Lib.hid (bk_do K O.ok s)
        replace hs := Lib.hid hs
        replace hat := Lib.hid hat
        clear O K
        go_wp2_with fail
        refine D.out.mono ?_
        rintro e w4 ⟨rfl, O2, _⟩
        have nx : Hid (GoAt w q (.int .i64 ((j + 1 : Nat) : Int)) w4) := ⟨j + 1, _, rfl, by omega, O2, K2.out⟩
        clear D O2 K2
        go_wp2
        exact ⟨nx.out, by simp [intOf]; omega⟩
      · have i1 : ¬ (j : Int) < 80 := by omega
        rename_i K1 h1
        replace h1 := Lib.hid h1
        replace O := Lib.hid O
        replace K := Lib.hid K
        go_wp2
        exact h1.out _ _ (part2 _ _ _ _ _ _ _ _ _ _ _ _ _ _ _ _ _ _ _ _ _ _ _ _ _ _ _ _ _ _ _ _ _ _ _ _ _ _ _ _ _ _ _ _ _ _ _ _ _ _ _ _ _ _ _ _ _ _ _ _ _ _ _ _ _ _ _ _ _ _ _ _ _ _ _ _ _ _ _ _ _ _ _ _ _ _ _ _ _ _ _ _ _ _ _ _ _ _ _ _ _ _ _ _ _ _ _ _ _ _ _ _ _ _ _ _ _ _ _ _ _ _ _ _ _ _ _ _ _ _ _ _ _ _ _ _ _ _ _ _ _ _ _ _ _ _ _ _ _ _ _ _ _ _ _ _ _ _ _ _ _ _ _ _ _ _ _ _ _ _ _ _ _ _ _ _ _ _ _ _ _ _ _ _ _ _ _ _ _ _ _ _ _ _ _ _ _ _ _ _ _ _ _ _ _ _ _ _ _ _ _ _ _ _ _ _ _ _ _ _ _ w w wr q p O.out K.out (Below.refl _ _))
    · have i1 : ¬ (j : Int) < (n : Int) := by omega
      rename_i K1 h1
      replace h1 := Lib.hid h1
      replace O := Lib.hid O
      replace K := Lib.hid K
      go_wp2
      exact h1.out _ _ (part2 _ _ _ _ _ _ _ _ _ _ _ _ _ _ _ _ _ _ _ _ _ _ _ _ _ _ _ _ _ _ _ _ _ _ _ _ _ _ _ _ _ _ _ _ _ _ _ _ _ _ _ _ _ _ _ _ _ _ _ _ _ _ _ _ _ _ _ _ _ _ _ _ _ _ _ _ _ _ _ _ _ _ _ _ _ _ _ _ _ _ _ _ _ _ _ _ _ _ _ _ _ _ _ _ _ _ _ _ _ _ _ _ _ _ _ _ _ _ _ _ _ _ _ _ _ _ _ _ _ _ _ _ _ _ _ _ _ _ _ _ _ _ _ _ _ _ _ _ _ _ _ _ _ _ _ _ _ _ _ _ _ _ _ _ _ _ _ _ _ _ _ _ _ _ _ _ _ _ _ _ _ _ _ _ _ _ _ _ _ _ _ _ _ _ _ _ _ _ _ _ _ _ _ _ _ _ _ _ _ _ _ _ _ _ _ _ _ _ _ _ _ w w wr q p O.out K.out (Below.refl _ _))
theorem walkd (v0 : Value) (a0 : List Opn) {W : World} (w0 : Osrc W v0 a0) (W' : World) (hW : W' = W) :
    Calls Try.prog 5 #[v0] W' fun e w' => e = .returned (.bool true) ∧ Below W'.heap.size W' w' := by
  subst hW
  obtain ⟨A, n, c, rfl, h1, h2, R⟩ := w0
  exact walk W' A n c a0 R (by omega)


/-! The row: every input. -/
set_option linter.unusedVariables false
set_option maxRecDepth 100000 in
theorem lifted (os : Os) (started : os.Started) (H : Type) (enc : TypeId × Value → H) :
    ReturnsInHanded {} Try.checked os 5 .any (Rows.purseBooksSpec.pre6 enc Try.prog Try.f5 Rows.purseBooksRow.domain false) (Rows.purseBooksSpec.post enc Try.prog Try.f5 false true false false) := by
  refine returnsInHanded_of_change (C := Try.checked) own started (by kernel_rfl) Try.func5
    (ChangeSpec.witness6 (enc := enc) (C := Try.checked) false ⟨#[], #[.slice none 0 0], []⟩ 8 (by kernel_rfl) (by kernel_rfl) (by kernel_rfl) (by kernel_rfl)) ?_
  intro W base args ds gs before hval0 hW _ _
  have hval : ∀ (j : Nat) t v, Try.f5.params[j]? = some t → args[j]? = some v → Value.okWide Try.prog W .any base t v := hval0
  have hW' := hW
  obtain ⟨p, q, hA0, hV, rfl, hfz, hnd⟩ := hW
  have hA : DataW.TrodAll enc Try.prog W 0 (fun _ => true) true Try.f5.params.toList args.toList ds p := hA0
  rw [Try.params5] at hA hval
  obtain ⟨v0, vs0, d0, ds0, p0, q0, hargs, rfl, rfl, h0, r0⟩ := trodAll_cons hA
  obtain ⟨rfl, rfl, rfl⟩ := trodAll_nil r0
  obtain rfl : args = #[v0] := by cases args; simp_all
  obtain ⟨rfl, rfl⟩ := trodVars_none hV
  obtain ⟨a0, w0⟩ := view_aops (hval 0 23 v0 rfl rfl) h0
  clear hA0 hval0
  simp only [List.append_nil] at hW'
  refine (walkd v0 a0 w0 W rfl).mono fun e W' ⟨he, hb⟩ => ?_
  subst he
  exact ⟨_, rfl, post_below (pa := p0 ++ []) (pv := []) hW' (fun _ _ _ => (trodAll_cons_mk (shut_bool Try.underlying4 _) trodAll_mk0)) (fun sp hsp => (trodAll_cons_mk (Trod_stays laidOut (by kernel_rfl) (of_decide_eq_true (by kernel_rfl)) h0 (fun x hx => hb.same (hW'.lt x (by simp [hx]))) (fun x hx => hsp x (by simp [hx]))) trodAll_mk0)) (fun _ _ => rfl) (by simp)
    hb (ok_one (by kernel_rfl) rfl (okWide_bool_mk Try.underlying4 _))⟩

theorem proved : Rows.PurseBooksSaid :=
  OpenClaim.holds_of_wide 5 Try.f5 rfl rfl rfl rfl rfl rfl rfl ⟨rfl, rfl, rfl, rfl, rfl⟩ rfl rfl rfl rfl rfl (by kernel_rfl) Try.func5 (by kernel_rfl)
    (of_decide_eq_true (by kernel_rfl)) (by unfold Func.isWrapper; first | (rw [if_pos (by decide +kernel)]; kernel_rfl) | (rw [if_neg (by decide +kernel)]; exact ⟨rfl, rfl⟩))
    (fun os started H enc _ => lifted os started H enc)
#print axioms proved

end Go.Proofs.Ytmjbphepdjdlkaa.purseBooks
