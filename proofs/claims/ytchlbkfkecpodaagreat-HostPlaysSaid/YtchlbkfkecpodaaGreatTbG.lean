/- rising, Keys: the keys, the lowest first. -/
import Derived.Test.YtchlbkfkecpodaaGreatTbF
import Derived.LoopTactic
namespace Go.Proofs.YtchlbkfkecpodaaGreat
set_option maxRecDepth 100000
open Go.RowKit
open Go.Sort (grow)
open Go.Proofs.YtchlbkfkecpodaaGreat.Pk (one_at one_free one_set lt_some grown_set grown_trans below_grown grown_refl)
namespace Tb
open Wt (Opn mayOp)

/-- A row of a call's own new blocks that holds l. -/
def RisTo (w : World) (l : List (Int × Int)) (e : Ending) (w' : World) : Prop := ∃ v, e = .returned v ∧ RowP w' w.heap.size v l.length l ∧ Below w.heap.size w w'
set_option maxHeartbeats 800000 in
theorem rising_none (w : World) : Calls Tryz.prog 66 #[.map none] w (RisTo w []) := by
  have hrg := run_range_nilMap (P := Tryz.prog) w 68 95 3 Tryz.underlying68
  have hnx : ∀ ty, (Instr.next (.pointer (some ⟨w.heap.size, 0, none⟩)) false ty).run Tryz.prog (w.alloc (.mapIter none 0 #[] 0)) = _ := fun ty => run_next_nilMap w ty 0 0 #[]
  have HB : Hid (Below w.heap.size w (w.alloc (.mapIter none 0 #[] 0))) := (Below.refl _ _).alloc (Nat.le_refl _) _
  have SO : Hid (∀ w fv, Calls Tryz.prog 70 #[.slice none 0 0, fv] w fun e w' => e = .returned (.tuple #[]) ∧ w' = w) := fun w fv => AnyF.slices_SortFunc_none Tryz.tbsort none 0 fv w
  go_enter Tryz.func66, Tryz.ntmps66
  go_wp2
  refine wp_loop_rounds 1 ?_
  rw [rounds_succ]
  go_wp2_with fail
  refine (SO.out _ _).mono ?_
  rintro e w1 ⟨rfl, rfl⟩
  clear SO
  go_wp2
  go_ret
  exact ⟨_, rfl, World.ownsRow_nil _ _ _ _, HB.out⟩
set_option maxHeartbeats 1600000 in
theorem rising_some (w : World) (m : Nat) (f : F) (D : DataW Value) (hown : w.ownsMap Tryz.prog KT Rdv m 1200 D) (T : Tie D f) (O : Ok f) :
    Calls Tryz.prog 66 #[.map (some m)] w (RisTo w (keys f)) := by
  have hT := Lib.hid T
  have hO := Lib.hid O
  have hm := hown.lt
  have st : Hid (Col f (fun p => ne0 (f p.1 p.2)) []) := Col.start fun p hp => ne0_not.1 hp
  obtain ⟨i0, hi, hz0, hz1, hz2⟩ := info_parts key_info
  replace hi := Lib.hid hi
  replace hz0 := Lib.hid hz0
  replace hz1 := Lib.hid hz1
  replace hz2 := Lib.hid hz2
  clear T O
  go_enter Tryz.func66, Tryz.ntmps66
  go_wp2_with (first
    | (at_range; refine wpList_range_tab rfl _ 68 rfl 3 Tryz.underlying68 f hO.out D rfl hown hT.out ?_; intro w0 hrg0 hg0 hs0)
    | go_in)
  go_frame
  go_loopw [3] (fun v wr => ∃ L xs, RowP wr w.heap.size v xs.length xs ∧ Col f L xs ∧ Rg wr m w.heap.size D f L ∧ Below w.heap.size w wr) (fun _ wr => wr.rangeLeft m w.heap.size)
  case atStart => exact ⟨_, [], World.ownsRow_nil _ _ _ _, st.out, hrg0, below_of_grown hg0 (Nat.le_refl _) (fun i h => by cases h)⟩
  case round =>
    clear hrg0 hg0 hs0
    obtain ⟨L, xs, hrow, hcol, hrg, hb⟩ := hrel
    have few := hcol.len
    obtain ⟨A, c, rfl, hc1, hc2, hc3⟩ := rp_form hrow
    replace hb := Lib.hid hb
    replace hcol := Lib.hid hcol
    go_wp2_with (first
      | (at_next; refine wpList_next_tab rfl _ rfl m w.heap.size D f hO.out L rfl hrg hT.out ?_ ?_)
      | go_in)
    · intro hl0
      have hl : ∀ p, L p = false := fun p => hl0 p.1 p.2
      have SO := Lib.hid (sort_row wr w.heap.size _ xs hrow few)
      rw [hcol.out.sort hl] at SO
      have hln : (keys f).length = xs.length := (hcol.out.perm hl).symm
      replace hln := Lib.hid hln
      clear hrow hrg
      go_wp2_with fail
      refine SO.out.mono ?_
      rintro e w2 ⟨rfl, h2, h3⟩
      have E : Hid (RisTo w (keys f) (.returned (.slice A xs.length c)) w2) := ⟨_, rfl, by rw [hln.out]; exact h2, hb.out.trans h3⟩
      clear SO h2 h3
      go_wp2
      go_ret
      exact E.out
    · intro x y z w1 hlx hmem hrg1 hlt hg1 hs1 hen
      obtain ⟨W, hW⟩ : ∃ W, W = w1.alloc (.cells #[.int .i64 x, .int .i64 y] 95) := ⟨_, rfl⟩
      have hWs : w1.heap.size + 1 = W.heap.size := by rw [hW]; simp
      have gW : wr.grownBy W (some w.heap.size) := by rw [hW]; exact hg1.andThen (World.grownBy_alloc _ _ none) (fun j hj => by cases hj)
      have BW : Hid (Below w.heap.size w W) := hb.out.trans (below_of_grown gW hb.out.size (fun i h => by injection h with h; omega))
      have rW : Hid (Rg W m w.heap.size D f (fun k => L k && !decide (k = (x, y)))) := by rw [hW]; exact hrg1.keep (World.grownBy_alloc _ _ none) (by simp) (by simp)
      have oW : Hid (RowP W w.heap.size (.slice A xs.length c) xs.length xs) := rp_same hrow fun g hg => gW.block g (rp_lt hrow hg) (fun e => (hrg.not_row hrow).2 (by rw [hg, e]))
      have mW : Hid (W.rangeLeft m w.heap.size < wr.rangeLeft m w.heap.size) := by
        have e : W.rangeLeft m w.heap.size = w1.rangeLeft m w.heap.size := by
          obtain ⟨left, cnt, h, _⟩ := hrg1.at_
          rw [hW, h.left_eq, (h.alloc _).left_eq]
        rw [e]; exact hlt
      have hcol2 : Hid (Col f (fun k => L k && !decide (k = (x, y))) (xs ++ [(x, y)])) := hcol.out.take hlx (fun _ => rfl) hmem
      have z2 : Hid (w.heap.size ≤ W.heap.size) := BW.out.size
      replace hW := Lib.hid hW
      replace hWs := Lib.hid hWs
      clear gW hrg1 hlt hg1 hs1 hlx hrg hrow hmem
      go_wp2_with (at_builtin; go_loud (refine wpList_app2 (w1.alloc (.cells #[.int .i64 x, .int .i64 y] 95)) rfl (.tmp 11) (.tmp 13) 92 rfl w.heap.size 95 i0 (.agg #[.int .i64 0, .int .i64 0]) 16 Tryz.underlying92 hi.out hz0.out hz1.out hz2.out rfl _ xs.length (fll xs) (.int .i64 x) (.int .i64 y) rfl (by rw [← hW.out]; exact oW.out) (w1.heap.size + 1) (by rw [← hW.out]; exact hWs.out) rfl rfl rfl (by unfold maxLen; omega) (by omega) (by rw [← hW.out]; exact z2.out) ?_); intro v6 w6 h6 g6; have G6 : Hid (W.grownBy w6 (Value.slice A xs.length c).ownBlock) := (World.grownBy_alloc W (.cells #[.int .i64 x, .int .i64 y] 95) (Value.slice A xs.length c).ownBlock).trans (by rw [hW.out]; exact g6); have O6 := Lib.hid h6; clear h6 g6)
      have r6 : Hid (Rg w6 m w.heap.size D f (fun k => L k && !decide (k = (x, y)))) := by
        have := rW.out.not_row oW.out
        exact rW.out.keep G6.out this.1 this.2
      have m6 : Hid (w6.rangeLeft m w.heap.size < wr.rangeLeft m w.heap.size) := by
        have e : w6.rangeLeft m w.heap.size = W.rangeLeft m w.heap.size := by
          obtain ⟨l1, l2⟩ := rW.out.lt
          have := rW.out.not_row oW.out
          unfold World.rangeLeft
          rw [G6.out.block _ l1 this.2, G6.out.block _ l2 this.1]
        rw [e]; exact mW.out
      have B6 : Hid (Below w.heap.size w w6) := BW.out.trans (below_of_grown G6.out z2.out (fun i h => (oW.out.lt i h).1))
      go_roundw
      case rel => exact ⟨_, xs ++ [(x, y)], by unfold RowP; rw [fll_snoc, List.length_append]; exact O6.out, hcol2.out, r6.out, B6.out⟩
      case measure => exact m6.out
theorem rising_any (w : World) (mo : Option Nat) (f : F) (h : MapIs w mo f) (O : Ok f) :
    Calls Tryz.prog 66 #[.map mo] w (RisTo w (keys f)) := by
  rcases h with ⟨rfl, rfl⟩ | ⟨m, D, rfl, ho, T⟩
  · rw [keys_z]
    exact rising_none w
  · exact rising_some w m f D ho T O
set_option maxHeartbeats 800000 in
theorem keys_any (w : World) (q z : Nat) (f : F) (fp : Nat → Prop) (L : Tab w q z f fp) : Calls Tryz.prog 52 #[.pointer (some ⟨q, z, none⟩)] w (RisTo w (keys f)) := by
  obtain ⟨mo, h1, h2, h3⟩ := L.at_
  have C := all_at w q z mo h1
  have R := Lib.hid (rising_any w mo f h2 L.ok)
  clear h1 h2 h3 L
  go_enter Tryz.func52, Tryz.ntmps52
  go_wp2_with fail
  refine C.mono ?_
  rintro e w' ⟨rfl, rfl⟩
  clear C
  go_wp2_with fail
  refine R.out.mono ?_
  rintro e w1 ⟨v, rfl, h1, h2⟩
  have E : Hid (RisTo w (keys f) (.returned v) w1) := ⟨v, rfl, h1, h2⟩
  clear R h1 h2
  go_wp2
  go_ret
  exact E.out
set_option maxHeartbeats 800000 in
theorem keys_nil (w : World) : Calls Tryz.prog 52 #[.pointer none] w (RisTo w []) := by
  have C := all_nil w
  have R := Lib.hid (rising_none w)
  go_enter Tryz.func52, Tryz.ntmps52
  go_wp2_with fail
  refine C.mono ?_
  rintro e w' ⟨rfl, rfl⟩
  clear C
  go_wp2_with fail
  refine R.out.mono ?_
  rintro e w1 ⟨v, rfl, h1, h2⟩
  have E : Hid (RisTo w [] (.returned v) w1) := ⟨v, rfl, h1, h2⟩
  clear R h1 h2
  go_wp2
  go_ret
  exact E.out
end Tb
end Go.Proofs.YtchlbkfkecpodaaGreat
