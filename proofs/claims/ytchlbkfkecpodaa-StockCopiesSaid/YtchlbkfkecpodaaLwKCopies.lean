/- Proved: a copy is its own, and what is done to one is not seen in the other (StockCopies), for any steps, any steps more of the copy. -/
import Derived.Test.YtchlbkfkecpodaaStV
import Derived.JoinedRecord
import Derived.HandedShaped
namespace Go.Proofs.Ytchlbkfkecpodaa.stockCopies
set_option maxRecDepth 100000
open Go.ChangeShapes Go.WideShapes Go.ChangeAt Go.WideMaps Go.WideElems Go.RowKit
open Go.Sort (grow)
open Go.Proofs.Ytchlbkfkecpodaa.Pk (Rb adr_block one_at one_free one_set lt_some grown_set grown_trans below_grown grown_refl u8s own_form)
open Go.Proofs.Ytchlbkfkecpodaa.St
open Go.Proofs.Ytchlbkfkecpodaa.Wt (Opn mayOp)


def CoAt1 (w : World) (q : Nat) (vn i : Value) (wr : World) : Prop := ∃ (j : Nat) (nw : Int) (f : F), i = .int .i64 j ∧ vn = .int .i64 nw ∧ j ≤ 30 ∧ 0 ≤ nw ∧ nw ≤ 20 * j ∧ Ow w.heap.size (fun g => g < w.heap.size) w wr q 30 5 f
def CoAt2 (w : World) (q qc : Nat) (f : F) (i : Value) (wr : World) : Prop := ∃ (j : Nat) (fc : F), i = .int .i64 j ∧ j ≤ 30 ∧ Tw w.heap.size w wr q qc 30 5 f fc
set_option maxHeartbeats 12800000 in
theorem walk (w : World) (A : Option Addr) (n c : Nat) (l : List Stp) (R : Ops w w.heap.size A n l) (A2 : Option Addr) (n2 c2 : Nat) (l2 : List Stp) (R2 : Ops w w.heap.size A2 n2 l2) (hn : n ≤ 9223372036854775807) (hn2 : n2 ≤ 9223372036854775807) :
    Calls Try.prog 3 #[.slice A n c, .slice A2 n2 c2] w fun e w' => e = .returned (.bool true) ∧ Below w.heap.size w w' := by
  have N := Lib.hid (ow_new w 30 5 (by decide))
  replace R := Lib.hid R
  replace R2 := Lib.hid R2
  go_enter Try.func3, Try.ntmps3
  go_wp2_with fail
  refine N.out.mono ?_
  rintro e w1 ⟨q, rfl, O1⟩
  have st : Hid (CoAt1 w q (.int .i64 0) (.int .i64 0) w1) := ⟨0, 0, fz, rfl, rfl, by omega, by omega, by omega, O1⟩
  clear N O1
  go_wp2_with fail
  go_loopw [7, 8] (fun vn i wr => CoAt1 w q vn i wr) (fun _ i _ => 30 - (intOf i).toNat)
  case atStart => exact st.out
  case round =>
    clear st
    obtain ⟨j, nw, f, rfl, rfl, hj, n0, n1, O⟩ := hrel
    by_cases hjn : j < n
    · by_cases h30 : j < 30
      · obtain ⟨s, hs⟩ : ∃ s, l[j]? = some s := ⟨_, List.getElem?_eq_getElem (by have := R.out.len; omega)⟩
        obtain ⟨ad, rfl, hab, hat⟩ := R.out.at_ (by omega)
        obtain ⟨-, c1, c2, c3, c4, c5, c6, -, -⟩ := (hat j s hs).same (O.be.block _ hab)
        have i1 : (j : Int) < 30 := by omega
        obtain ⟨d', hd'⟩ : ∃ k, k = usm s.d 20 := ⟨_, rfl⟩
        have d1' : d' < 20 := by rw [hd']; exact usm_lt _ (by omega)
        have uz : wrap64 ((IntKind.u64.wrap s.d).tmod 20) = (d' : Int) := by rw [hd']; exact usm_slot s.d (n := 20) (by omega) (by omega)
        obtain ⟨nw2, hnw⟩ : ∃ x : Int, x = nw + (d' : Int) := ⟨_, rfl⟩
        have D := Lib.hid (ow_do O s.o nw2)
        unfold opv at D
        have m0 : 0 ≤ nw2 := by omega
        have m1 : nw2 ≤ 20 * ((j + 1 : Nat) : Int) := by omega
        replace hs := Lib.hid hs
        replace hat := Lib.hid hat
        replace hd' := Lib.hid hd'
        clear O
        go_upto_region 9 with fail
        rw [uz, ← hnw]
        clear uz
        replace hnw := Lib.hid hnw
        go_wp2_with fail
        refine D.out.mono ?_
        rintro e w2 ⟨rfl, O2, _⟩
        have nx : Hid (CoAt1 w q (.int .i64 nw2) (.int .i64 ((j + 1 : Nat) : Int)) w2) := ⟨j + 1, nw2, _, rfl, rfl, by omega, m0, m1, O2⟩
        clear D O2
        go_wp2
        exact ⟨nx.out, by simp [intOf]; omega⟩
      · have i1 : ¬ (j : Int) < 30 := by omega
        have n600 : nw ≤ 600 := by omega
        have BY := Lib.hid (ow_bytes O)
        replace O := Lib.hid O
        clear hj n1
        go_wp2_with fail
        refine BY.out.mono ?_
        intro e w2 hby
        obtain ⟨Ba, nb, cb, rfl, sr, b2⟩ := by_str hby
        have O2 := O.out.below b2
        have CP := Lib.hid (ow_copy O2)
        obtain ⟨s0, hs0⟩ : ∃ s, s = Pk.str (bts 30 5 f 200) := ⟨_, rfl⟩
        rw [← hs0] at sr
        replace hs0 := Lib.hid hs0
        clear BY hby O O2 b2
        go_wp2_with fail
        refine CP.out.mono ?_
        rintro e w3 ⟨qc, rfl, T3⟩
        have BY := Lib.hid (tw_bytes T3)
        replace T3 := Lib.hid T3
        clear CP sr
        go_wp2_with fail
        refine BY.out.mono ?_
        intro e w4 hby
        obtain ⟨Bc, nc, cc, rfl, sr, b4⟩ := by_str hby
        rw [← hs0.out] at sr
        have T4 := T3.out.below b4
        have st : Hid (CoAt2 w q qc f (.int .i64 0) w4) := ⟨0, f, rfl, by omega, T4⟩
        have q9 : (s0.data.toList == s0.data.toList) = true := by simp
        clear BY hby T3 T4 b4
        go_wp2_with fail
        clear sr
        go_loopw [11] (fun i wr => CoAt2 w q qc f i wr) (fun i _ => 30 - (intOf i).toNat)
        case atStart => exact st.out
        case round =>
          clear st
          obtain ⟨j, fc, rfl, hj, T⟩ := hrel
          by_cases hjn : j < n2
          · by_cases h30 : j < 30
            · obtain ⟨s, hs⟩ : ∃ s, l2[j]? = some s := ⟨_, List.getElem?_eq_getElem (by have := R2.out.len; omega)⟩
              obtain ⟨ad, rfl, hab, hat⟩ := R2.out.at_ (by omega)
              obtain ⟨-, c1, c2, c3, c4, c5, c6, -, -⟩ := (hat j s hs).same (T.be.block _ hab)
              have i1 : (j : Int) < 30 := by omega
              have D := Lib.hid (tw_do T s.o nw)
              unfold opv at D
              replace hs := Lib.hid hs
              replace hat := Lib.hid hat
              clear T
              go_wp2_with fail
              refine D.out.mono ?_
              rintro e w5 ⟨rfl, T5⟩
              have SW := Lib.hid (tw_sweep T5 (nw + (j : Int)))
              clear D T5 c1 c2 c3 c4 c5 c6
              go_wp2_with fail
              refine SW.out.mono ?_
              rintro e w6 ⟨v, rfl, -, T6⟩
              have nx : Hid (CoAt2 w q qc f (.int .i64 ((j + 1 : Nat) : Int)) w6) := ⟨j + 1, _, rfl, by omega, T6⟩
              clear SW T6
              go_wp2
              exact ⟨nx.out, by simp [intOf]; omega⟩
            · have i1 : ¬ (j : Int) < 30 := by omega
              have BY := Lib.hid (tw_bytes T.swap)
              replace T := Lib.hid T
              go_wp2_with fail
              refine BY.out.mono ?_
              intro e w5 hby
              obtain ⟨Bd, nd, cd, rfl, sr, b5⟩ := by_str hby
              rw [← hs0.out] at sr
              have T5 := T.out.below b5
              have BY2 := Lib.hid (tw_bytes T5)
              replace T5 := Lib.hid T5
              clear BY hby T b5
              go_wp2_with fail
              refine BY2.out.mono ?_
              intro e w6 hby
              obtain ⟨Be, ne, ce, rfl, sr2, b6⟩ := by_str hby
              obtain ⟨s1, hs1⟩ : ∃ s, s = Pk.str (bts 30 5 fc 200) := ⟨_, rfl⟩
              rw [← hs1] at sr2
              replace hs1 := Lib.hid hs1
              have T6 := T5.out.below b6
              have D : Calls Try.prog 12 #[.pointer (some ⟨q, 0, none⟩), .agg #[.int .i64 3, .int .i64 77, .int .i64 0, .int .i64 0, .int .i64 0], .int .i64 nw] w6 fun e w' => e = .returned (.int .i64 1) ∧ Tw w.heap.size w w' qc q 30 5 fc (upd f 77 eg) := by
                have := tw_do T6.swap ⟨3, 77, 0, 0, 0⟩ nw
                rw [d_rel (by omega) (by omega) (tick_of n0 (by omega))] at this
                exact this
              replace D := Lib.hid D
              clear BY2 hby T5 T6 b6 sr
              go_wp2_with fail
              refine D.out.mono ?_
              rintro e w7 ⟨rfl, T7⟩
              have TA := Lib.hid (told_any w7)
              replace T7 := Lib.hid T7
              clear D sr2
              go_wp2_with fail
              refine TA.out.mono ?_
              rintro e w8 ⟨rfl, b8⟩
              have T8 := T7.out.below b8
              have BY3 := Lib.hid (tw_bytes T8.swap)
              replace T8 := Lib.hid T8
              clear TA T7 b8
              go_wp2_with fail
              refine BY3.out.mono ?_
              intro e w9 hby
              obtain ⟨Bf, nf, cf, rfl, sr3, b9⟩ := by_str hby
              rw [← hs1.out] at sr3
              have T9 := T8.out.below b9
              have EN := tw_entry T9 77 ⟨by decide, by decide⟩
              rw [upd_same] at EN
              unfold cell eg at EN
              simp only at EN
              have GR := gone_run
              have q7 : (s1.data.toList == s1.data.toList) = true := by simp
              replace EN := Lib.hid EN
              replace T9 := Lib.hid T9
              clear BY3 hby T8 b9
              go_wp2_with fail
              refine EN.out.mono ?_
              rintro e w10 ⟨rfl, b10⟩
              have E := Lib.hid (T9.out.below b10).be
              clear EN b10 T9 sr3
              go_wp2
              go_ret
              exact ⟨rfl, E.out⟩
          · have i1 : ¬ (j : Int) < (n2 : Int) := by omega
            have BY := Lib.hid (tw_bytes T.swap)
            replace T := Lib.hid T
            go_wp2_with fail
            refine BY.out.mono ?_
            intro e w5 hby
            obtain ⟨Bd, nd, cd, rfl, sr, b5⟩ := by_str hby
            rw [← hs0.out] at sr
            have T5 := T.out.below b5
            have BY2 := Lib.hid (tw_bytes T5)
            replace T5 := Lib.hid T5
            clear BY hby T b5
            go_wp2_with fail
            refine BY2.out.mono ?_
            intro e w6 hby
            obtain ⟨Be, ne, ce, rfl, sr2, b6⟩ := by_str hby
            obtain ⟨s1, hs1⟩ : ∃ s, s = Pk.str (bts 30 5 fc 200) := ⟨_, rfl⟩
            rw [← hs1] at sr2
            replace hs1 := Lib.hid hs1
            have T6 := T5.out.below b6
            have D : Calls Try.prog 12 #[.pointer (some ⟨q, 0, none⟩), .agg #[.int .i64 3, .int .i64 77, .int .i64 0, .int .i64 0, .int .i64 0], .int .i64 nw] w6 fun e w' => e = .returned (.int .i64 1) ∧ Tw w.heap.size w w' qc q 30 5 fc (upd f 77 eg) := by
              have := tw_do T6.swap ⟨3, 77, 0, 0, 0⟩ nw
              rw [d_rel (by omega) (by omega) (tick_of n0 (by omega))] at this
              exact this
            replace D := Lib.hid D
            clear BY2 hby T5 T6 b6 sr
            go_wp2_with fail
            refine D.out.mono ?_
            rintro e w7 ⟨rfl, T7⟩
            have TA := Lib.hid (told_any w7)
            replace T7 := Lib.hid T7
            clear D sr2
            go_wp2_with fail
            refine TA.out.mono ?_
            rintro e w8 ⟨rfl, b8⟩
            have T8 := T7.out.below b8
            have BY3 := Lib.hid (tw_bytes T8.swap)
            replace T8 := Lib.hid T8
            clear TA T7 b8
            go_wp2_with fail
            refine BY3.out.mono ?_
            intro e w9 hby
            obtain ⟨Bf, nf, cf, rfl, sr3, b9⟩ := by_str hby
            rw [← hs1.out] at sr3
            have T9 := T8.out.below b9
            have EN := tw_entry T9 77 ⟨by decide, by decide⟩
            rw [upd_same] at EN
            unfold cell eg at EN
            simp only at EN
            have GR := gone_run
            have q7 : (s1.data.toList == s1.data.toList) = true := by simp
            replace EN := Lib.hid EN
            replace T9 := Lib.hid T9
            clear BY3 hby T8 b9
            go_wp2_with fail
            refine EN.out.mono ?_
            rintro e w10 ⟨rfl, b10⟩
            have E := Lib.hid (T9.out.below b10).be
            clear EN b10 T9 sr3
            go_wp2
            go_ret
            exact ⟨rfl, E.out⟩
    · have i1 : ¬ (j : Int) < (n : Int) := by omega
      have n600 : nw ≤ 600 := by omega
      have BY := Lib.hid (ow_bytes O)
      replace O := Lib.hid O
      clear hj n1
      go_wp2_with fail
      refine BY.out.mono ?_
      intro e w2 hby
      obtain ⟨Ba, nb, cb, rfl, sr, b2⟩ := by_str hby
      have O2 := O.out.below b2
      have CP := Lib.hid (ow_copy O2)
      obtain ⟨s0, hs0⟩ : ∃ s, s = Pk.str (bts 30 5 f 200) := ⟨_, rfl⟩
      rw [← hs0] at sr
      replace hs0 := Lib.hid hs0
      clear BY hby O O2 b2
      go_wp2_with fail
      refine CP.out.mono ?_
      rintro e w3 ⟨qc, rfl, T3⟩
      have BY := Lib.hid (tw_bytes T3)
      replace T3 := Lib.hid T3
      clear CP sr
      go_wp2_with fail
      refine BY.out.mono ?_
      intro e w4 hby
      obtain ⟨Bc, nc, cc, rfl, sr, b4⟩ := by_str hby
      rw [← hs0.out] at sr
      have T4 := T3.out.below b4
      have st : Hid (CoAt2 w q qc f (.int .i64 0) w4) := ⟨0, f, rfl, by omega, T4⟩
      have q9 : (s0.data.toList == s0.data.toList) = true := by simp
      clear BY hby T3 T4 b4
      go_wp2_with fail
      clear sr
      go_loopw [11] (fun i wr => CoAt2 w q qc f i wr) (fun i _ => 30 - (intOf i).toNat)
      case atStart => exact st.out
      case round =>
        clear st
        obtain ⟨j, fc, rfl, hj, T⟩ := hrel
        by_cases hjn : j < n2
        · by_cases h30 : j < 30
          · obtain ⟨s, hs⟩ : ∃ s, l2[j]? = some s := ⟨_, List.getElem?_eq_getElem (by have := R2.out.len; omega)⟩
            obtain ⟨ad, rfl, hab, hat⟩ := R2.out.at_ (by omega)
            obtain ⟨-, c1, c2, c3, c4, c5, c6, -, -⟩ := (hat j s hs).same (T.be.block _ hab)
            have i1 : (j : Int) < 30 := by omega
            have D := Lib.hid (tw_do T s.o nw)
            unfold opv at D
            replace hs := Lib.hid hs
            replace hat := Lib.hid hat
            clear T
            go_wp2_with fail
            refine D.out.mono ?_
            rintro e w5 ⟨rfl, T5⟩
            have SW := Lib.hid (tw_sweep T5 (nw + (j : Int)))
            clear D T5 c1 c2 c3 c4 c5 c6
            go_wp2_with fail
            refine SW.out.mono ?_
            rintro e w6 ⟨v, rfl, -, T6⟩
            have nx : Hid (CoAt2 w q qc f (.int .i64 ((j + 1 : Nat) : Int)) w6) := ⟨j + 1, _, rfl, by omega, T6⟩
            clear SW T6
            go_wp2
            exact ⟨nx.out, by simp [intOf]; omega⟩
          · have i1 : ¬ (j : Int) < 30 := by omega
            have BY := Lib.hid (tw_bytes T.swap)
            replace T := Lib.hid T
            go_wp2_with fail
            refine BY.out.mono ?_
            intro e w5 hby
            obtain ⟨Bd, nd, cd, rfl, sr, b5⟩ := by_str hby
            rw [← hs0.out] at sr
            have T5 := T.out.below b5
            have BY2 := Lib.hid (tw_bytes T5)
            replace T5 := Lib.hid T5
            clear BY hby T b5
            go_wp2_with fail
            refine BY2.out.mono ?_
            intro e w6 hby
            obtain ⟨Be, ne, ce, rfl, sr2, b6⟩ := by_str hby
            obtain ⟨s1, hs1⟩ : ∃ s, s = Pk.str (bts 30 5 fc 200) := ⟨_, rfl⟩
            rw [← hs1] at sr2
            replace hs1 := Lib.hid hs1
            have T6 := T5.out.below b6
            have D : Calls Try.prog 12 #[.pointer (some ⟨q, 0, none⟩), .agg #[.int .i64 3, .int .i64 77, .int .i64 0, .int .i64 0, .int .i64 0], .int .i64 nw] w6 fun e w' => e = .returned (.int .i64 1) ∧ Tw w.heap.size w w' qc q 30 5 fc (upd f 77 eg) := by
              have := tw_do T6.swap ⟨3, 77, 0, 0, 0⟩ nw
              rw [d_rel (by omega) (by omega) (tick_of n0 (by omega))] at this
              exact this
            replace D := Lib.hid D
            clear BY2 hby T5 T6 b6 sr
            go_wp2_with fail
            refine D.out.mono ?_
            rintro e w7 ⟨rfl, T7⟩
            have TA := Lib.hid (told_any w7)
            replace T7 := Lib.hid T7
            clear D sr2
            go_wp2_with fail
            refine TA.out.mono ?_
            rintro e w8 ⟨rfl, b8⟩
            have T8 := T7.out.below b8
            have BY3 := Lib.hid (tw_bytes T8.swap)
            replace T8 := Lib.hid T8
            clear TA T7 b8
            go_wp2_with fail
            refine BY3.out.mono ?_
            intro e w9 hby
            obtain ⟨Bf, nf, cf, rfl, sr3, b9⟩ := by_str hby
            rw [← hs1.out] at sr3
            have T9 := T8.out.below b9
            have EN := tw_entry T9 77 ⟨by decide, by decide⟩
            rw [upd_same] at EN
            unfold cell eg at EN
            simp only at EN
            have GR := gone_run
            have q7 : (s1.data.toList == s1.data.toList) = true := by simp
            replace EN := Lib.hid EN
            replace T9 := Lib.hid T9
            clear BY3 hby T8 b9
            go_wp2_with fail
            refine EN.out.mono ?_
            rintro e w10 ⟨rfl, b10⟩
            have E := Lib.hid (T9.out.below b10).be
            clear EN b10 T9 sr3
            go_wp2
            go_ret
            exact ⟨rfl, E.out⟩
        · have i1 : ¬ (j : Int) < (n2 : Int) := by omega
          have BY := Lib.hid (tw_bytes T.swap)
          replace T := Lib.hid T
          go_wp2_with fail
          refine BY.out.mono ?_
          intro e w5 hby
          obtain ⟨Bd, nd, cd, rfl, sr, b5⟩ := by_str hby
          rw [← hs0.out] at sr
          have T5 := T.out.below b5
          have BY2 := Lib.hid (tw_bytes T5)
          replace T5 := Lib.hid T5
          clear BY hby T b5
          go_wp2_with fail
          refine BY2.out.mono ?_
          intro e w6 hby
          obtain ⟨Be, ne, ce, rfl, sr2, b6⟩ := by_str hby
          obtain ⟨s1, hs1⟩ : ∃ s, s = Pk.str (bts 30 5 fc 200) := ⟨_, rfl⟩
          rw [← hs1] at sr2
          replace hs1 := Lib.hid hs1
          have T6 := T5.out.below b6
          have D : Calls Try.prog 12 #[.pointer (some ⟨q, 0, none⟩), .agg #[.int .i64 3, .int .i64 77, .int .i64 0, .int .i64 0, .int .i64 0], .int .i64 nw] w6 fun e w' => e = .returned (.int .i64 1) ∧ Tw w.heap.size w w' qc q 30 5 fc (upd f 77 eg) := by
            have := tw_do T6.swap ⟨3, 77, 0, 0, 0⟩ nw
            rw [d_rel (by omega) (by omega) (tick_of n0 (by omega))] at this
            exact this
          replace D := Lib.hid D
          clear BY2 hby T5 T6 b6 sr
          go_wp2_with fail
          refine D.out.mono ?_
          rintro e w7 ⟨rfl, T7⟩
          have TA := Lib.hid (told_any w7)
          replace T7 := Lib.hid T7
          clear D sr2
          go_wp2_with fail
          refine TA.out.mono ?_
          rintro e w8 ⟨rfl, b8⟩
          have T8 := T7.out.below b8
          have BY3 := Lib.hid (tw_bytes T8.swap)
          replace T8 := Lib.hid T8
          clear TA T7 b8
          go_wp2_with fail
          refine BY3.out.mono ?_
          intro e w9 hby
          obtain ⟨Bf, nf, cf, rfl, sr3, b9⟩ := by_str hby
          rw [← hs1.out] at sr3
          have T9 := T8.out.below b9
          have EN := tw_entry T9 77 ⟨by decide, by decide⟩
          rw [upd_same] at EN
          unfold cell eg at EN
          simp only at EN
          have GR := gone_run
          have q7 : (s1.data.toList == s1.data.toList) = true := by simp
          replace EN := Lib.hid EN
          replace T9 := Lib.hid T9
          clear BY3 hby T8 b9
          go_wp2_with fail
          refine EN.out.mono ?_
          rintro e w10 ⟨rfl, b10⟩
          have E := Lib.hid (T9.out.below b10).be
          clear EN b10 T9 sr3
          go_wp2
          go_ret
          exact ⟨rfl, E.out⟩
theorem walkd (v0 : Value) (a0 : List Stp) {W : World} (w0 : Osrc W v0 a0) (v1 : Value) (a1 : List Stp) (w1 : Osrc W v1 a1) (W' : World) (hW : W' = W) :
    Calls Try.prog 3 #[v0, v1] W' fun e w' => e = .returned (.bool true) ∧ Below W'.heap.size W' w' := by
  subst hW
  obtain ⟨A, n, c, rfl, h1, h2, R⟩ := w0
  obtain ⟨A2, n2, c2, rfl, k1, k2, R2⟩ := w1
  exact walk W' A n c a0 R A2 n2 c2 a1 R2 (by omega) (by omega)


/-! The row: every input. -/
set_option linter.unusedVariables false
set_option maxRecDepth 100000 in
theorem lifted (os : Os) (started : os.Started) (H : Type) (enc : TypeId × Value → H) :
    ReturnsInHanded {} Try.checked os 3 .any (Rows.stockCopiesSpec.pre6 enc Try.prog Try.f3 Rows.stockCopiesRow.domain false) (Rows.stockCopiesSpec.post enc Try.prog Try.f3 false true false false) := by
  refine returnsInHanded_of_change (C := Try.checked) own started (by kernel_rfl) Try.func3
    (ChangeSpec.witness6 (enc := enc) (C := Try.checked) false ⟨#[], #[.slice none 0 0, .slice none 0 0], []⟩ 8 (by kernel_rfl) (by kernel_rfl) (by kernel_rfl) (by kernel_rfl)) ?_
  intro W base args ds gs before hval0 hW _ _
  have hval : ∀ (j : Nat) t v, Try.f3.params[j]? = some t → args[j]? = some v → Value.okWide Try.prog W .any base t v := hval0
  have hW' := hW
  obtain ⟨p, q, hA0, hV, rfl, hfz, hnd⟩ := hW
  have hA : DataW.TrodAll enc Try.prog W 0 (fun _ => true) true Try.f3.params.toList args.toList ds p := hA0
  rw [Try.params3] at hA hval
  obtain ⟨v0, vs0, d0, ds0, p0, q0, hargs, rfl, rfl, h0, r0⟩ := trodAll_cons hA
  obtain ⟨v1, vs1, d1, ds1, p1, q1, rfl, rfl, rfl, h1, r1⟩ := trodAll_cons r0
  obtain ⟨rfl, rfl, rfl⟩ := trodAll_nil r1
  obtain rfl : args = #[v0, v1] := by cases args; simp_all
  obtain ⟨rfl, rfl⟩ := trodVars_none hV
  obtain ⟨a0, w0⟩ := view_sops (hval 0 22 v0 rfl rfl) h0
  obtain ⟨a1, w1⟩ := view_sops (hval 1 22 v1 rfl rfl) h1
  clear hA0 hval0
  simp only [List.append_nil] at hW'
  refine (walkd v0 a0 w0 v1 a1 w1 W rfl).mono fun e W' ⟨he, hb⟩ => ?_
  subst he
  exact ⟨_, rfl, post_below (pa := p0 ++ (p1 ++ [])) (pv := []) hW' (fun _ _ _ => (trodAll_cons_mk (shut_bool Try.underlying4 _) trodAll_mk0)) (fun sp hsp => (trodAll_cons_mk (Trod_stays laidOut (by kernel_rfl) (of_decide_eq_true (by kernel_rfl)) h0 (fun x hx => hb.same (hW'.lt x (by simp [hx]))) (fun x hx => hsp x (by simp [hx]))) (trodAll_cons_mk (Trod_stays laidOut (by kernel_rfl) (of_decide_eq_true (by kernel_rfl)) h1 (fun x hx => hb.same (hW'.lt x (by simp [hx]))) (fun x hx => hsp x (by simp [hx]))) trodAll_mk0))) (fun _ _ => rfl) (by simp)
    hb (ok_one (by kernel_rfl) rfl (okWide_bool_mk Try.underlying4 _))⟩

theorem proved : Rows.StockCopiesSaid :=
  OpenClaim.holds_of_wide 3 Try.f3 rfl rfl rfl rfl rfl rfl rfl ⟨rfl, rfl, rfl, rfl, rfl⟩ rfl rfl rfl rfl rfl (by kernel_rfl) Try.func3 (by kernel_rfl)
    (of_decide_eq_true (by kernel_rfl)) (by unfold Func.isWrapper; first | (rw [if_pos (by decide +kernel)]; kernel_rfl) | (rw [if_neg (by decide +kernel)]; exact ⟨rfl, rfl⟩))
    (fun os started H enc _ => lifted os started H enc)
#print axioms proved

end Go.Proofs.Ytchlbkfkecpodaa.stockCopies
