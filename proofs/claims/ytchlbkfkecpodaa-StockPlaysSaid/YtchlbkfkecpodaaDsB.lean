/- The document's inventory: Sweep. -/
import Derived.Test.YtchlbkfkecpodaaDsA
import Derived.Test.YtchlbkfkecpodaaStD
namespace Go.Proofs.Ytchlbkfkecpodaa
set_option maxRecDepth 100000
open Go.RowKit
open Go.Sort (grow)
open Go.Proofs.Ytchlbkfkecpodaa.Pk (one_at one_free one_set lt_some grown_set grown_trans below_grown grown_refl)
namespace St

def RsAt (w : World) (p : Nat) (cap over now : Int) (f : F) (v i : Value) (wr : World) : Prop := ∃ (k : Nat) (A : Option Addr) (c : Nat), v = .slice A (sel (ovr now) f k).length c ∧ i = .int .i64 ((k : Int) + 1) ∧ k ≤ 200 ∧ RowI wr w.heap.size v (sel (ovr now) f k).length (ivs (sel (ovr now) f k)) ∧ Ds wr p cap over (swn f now k) ∧ Kt p 1007 (fun g => g = p) w wr
theorem row_off {w w' : World} {p base n : Nat} {v : Value} {xs : List Value} (h : RowI w base v n xs) (K : Kt p 1007 (fun g => g = p) w w') (ne : ∀ g, v.ownBlock = some g → g ≠ p) : RowI w' base v n xs := ri_same h fun g hg => K.block g (by
  obtain ⟨_, cur, hc⟩ := ri_block h hg
  exact lt_some hc) (ne g hg)
/-- What the document's sweep leaves. -/
def RSw (w : World) (p : Nat) (cap over now : Int) (f : F) (e : Ending) (w' : World) : Prop := ∃ v, e = .returned v ∧ RowI w' w.heap.size v (swL f now).length (ivs (swL f now)) ∧ Ds w' p cap over (swF f now) ∧ Kt p 1007 (fun g => g = p) w w'
set_option maxHeartbeats 3200000 in
theorem refsweep_any (w : World) (p : Nat) (cap over now : Int) (f : F) (D : Ds w p cap over f) (O : Ok cap over f) : Calls Try.prog 21 #[.pointer (some ⟨p, 0, none⟩), .int .i64 now] w (RSw w p cap over now f) := by
  have TM := Lib.hid (fun w => reftime_any w now)
  have plt : Hid (p < w.heap.size) := D.lt
  obtain ⟨i0, hi0, hii⟩ : ∃ i, Try.prog.info? 3 = some i ∧ (i.zero, i.size, i.bytes) = (some (.int .i64 0), 1, 8) := by
    have := int_info
    cases hq : Try.prog.info? 3 with
    | none => rw [hq] at this; cases this
    | some i => rw [hq] at this; exact ⟨i, rfl, by simpa using this⟩
  simp only [Prod.mk.injEq] at hii
  obtain ⟨hz0, hz1, hz2⟩ := hii
  replace hi := Lib.hid hi0
  replace hz0 := Lib.hid hz0
  replace hz1 := Lib.hid hz1
  replace hz2 := Lib.hid hz2
  clear hi0
  cases hk : tick now with
  | false =>
    have EX : Hid (RSw w p cap over now f (.returned (.slice none 0 0)) w) := by
      have h1 : swL f now = [] := by unfold swL; rw [hk]; rfl
      have h2 : swF f now = f := by unfold swF; rw [hk]; rfl
      refine ⟨_, rfl, ?_, ?_, Kt.refl _ _ _ _⟩
      · rw [h1]; exact World.ownsRow_nil _ _ _ _
      · rw [h2]; exact D
    rw [hk] at TM
    clear D hk
    go_enter Try.func21, Try.ntmps21
    go_wp2_with fail
    refine wp_loop_rounds 1 ?_
    rw [rounds_succ]
    go_wp2_with fail
    refine (TM.out _).mono ?_
    rintro e w1 ⟨rfl, rfl⟩
    clear TM
    go_wp2
    go_ret
    exact EX.out
  | true =>
    have EX : Hid (∀ v w', RowI w' w.heap.size v (sel (ovr now) f 200).length (ivs (sel (ovr now) f 200)) → Ds w' p cap over (swn f now 200) → Kt p 1007 (fun g => g = p) w w' → RSw w p cap over now f (.returned v) w') := by
      intro v w' h1 h2 h3
      have e1 : swL f now = sel (ovr now) f 200 := by unfold swL; rw [hk]; rfl
      have e2 : swF f now = swn f now 200 := by unfold swF; rw [hk, if_pos rfl]; exact (swl_ovs O now).symm
      exact ⟨v, rfl, by rw [e1]; exact h1, by rw [e2]; exact h2, h3⟩
    rw [hk] at TM
    have st : Hid (RsAt w p cap over now f (.slice none 0 0) (.int .i64 1) w) := ⟨0, none, 0, rfl, rfl, by omega, World.ownsRow_nil _ _ _ _, by
      have : swn f now 0 = f := swl_nil f
      rw [this]; exact D, Kt.refl _ _ _ _⟩
    clear D hk O
    go_enter Try.func21, Try.ntmps21
    go_wp2_with fail
    go_loopw [5, 6] (fun v i wr => RsAt w p cap over now f v i wr) (fun _ i _ => 201 - (intOf i).toNat)
    case atStart => exact st.out
    case round =>
      clear st
      obtain ⟨k, A, c, rfl, rfl, hk, hrow, D, K⟩ := hrel
      by_cases hk2 : k < 200
      · have i1 : (k : Int) + 1 ≤ 200 := by omega
        have c1 := D.st (k := k + 1) (by omega)
        have c2 := D.ut (k := k + 1) (by omega)
        have e1 : ((k + 1 : Nat) : Int) = (k : Int) + 1 := by omega
        have th : Hid (wr.there p (2 + (k + 1) * 5) 5) := D.there (by omega)
        rw [e1, swn_at] at c1 c2
        have hs := sel_succ (ovr now) f k
        have hw := swn_succ f now k
        have hps : Hid (∀ e, Ds (wr.setCells p (2 + (k + 1) * 5) (entc e)) p cap over (upd (swn f now k) ((k : Int) + 1) e)) := fun e => by
          have := D.put (k := k + 1) (by omega) e
          rw [e1] at this
          exact this
        obtain ⟨E, hE⟩ : ∃ E, E = f ((k : Int) + 1) := ⟨_, rfl⟩
        rw [← hE] at c1 c2 hs hw
        have ho : ovr now E = (decide (E.st = 1) && decide (E.ut ≤ now)) := rfl
        replace K := Lib.hid K
        clear e1 hE
        by_cases g1 : E.st = 1 ∧ E.ut ≤ now
        · obtain ⟨g1, g2⟩ := g1
          rw [ho, g1] at hs hw
          simp only [decide_true, decide_eq_true g2, Bool.and_self, if_true] at hs hw
          rw [g1] at c1
          have hc1 : (sel (ovr now) f k).length ≤ c := by
            obtain ⟨A', c', e, h, _⟩ := ri_form hrow
            injection e with _ _ e
            rw [e]; exact h
          have hs := Lib.hid hs
          have hw := Lib.hid hw
          have few : Hid ((sel (ovr now) f k).length ≤ 200) := Nat.le_trans (sel_len _ _ _) (by omega)
          obtain ⟨n, hn⟩ : ∃ n, n = (sel (ovr now) f k).length := ⟨_, rfl⟩
          rw [← hn] at hrow few hc1 ⊢
          have few' := few.out
          have o1 : Hid (RowI wr w.heap.size (.slice A n c) n (ivs (sel (ovr now) f k))) := hrow
          have zs : Hid (w.heap.size ≤ wr.heap.size) := K.out.size
          have ne : Hid (∀ g, (Value.slice A n c).ownBlock = some g → g ≠ p) := fun g hg => by
            have := (ri_block hrow hg).1
            have := plt.out
            omega
          have hn1 := hn
          replace hn := Lib.hid hn
          clear ho D few hrow hn1
          go_wp2_with fail
          refine (TM.out _).mono ?_
          rintro e w1 ⟨rfl, rfl⟩
          go_wp2_with (first | (refine wpList_store_mid rfl 41 (.tmp 39) (.tmp 36) rfl p (2 + (k + 1) * 5) (entc eg).toArray rfl rfl th.out entry_size (entc_one _) ?_; have D2 : Hid (Ds (wr.setCells p (2 + (k + 1) * 5) (entc eg).toArray.toList) p cap over (upd (swn f now k) ((k : Int) + 1) eg)) := hps.out eg; have K2 : Hid (Kt p 1007 (fun g => g = p) wr (wr.setCells p (2 + (k + 1) * 5) (entc eg).toArray.toList)) := Kt.of_ent _ _ (k := k + 1) (by omega) eg; have o2 : Hid (RowI (wr.setCells p (2 + (k + 1) * 5) (entc eg).toArray.toList) w.heap.size (.slice A n c) n (ivs (sel (ovr now) f k))) := row_off o1.out K2.out ne.out; have z2 : Hid (w.heap.size ≤ (wr.setCells p (2 + (k + 1) * 5) (entc eg).toArray.toList).heap.size) := Nat.le_trans zs.out K2.out.size; clear hps o1 zs; generalize wr.setCells p (2 + (k + 1) * 5) (entc eg).toArray.toList = w2 at D2 K2 o2 z2 ⊢) | (at_builtin; go_loud (refine wpList_app1 w2 rfl (.tmp 40) (.tmp 42) 37 rfl w.heap.size 3 i0 (.int .i64 0) 8 Try.underlying37 hi.out hz0.out hz1.out hz2.out rfl _ n (ivs (sel (ovr now) f k)) (.int .i64 ((k : Int) + 1)) rfl o2.out rfl rfl (by unfold maxLen; omega) (by omega) z2.out ?_); intro v6 w6 h6 g6; have G6 : Hid (w2.grownBy w6 (Value.slice A n c).ownBlock) := (World.grownBy_alloc w2 (.cells #[.int .i64 ((k : Int) + 1)] 3) (Value.slice A n c).ownBlock).trans g6; have O6 := Lib.hid h6; clear h6 g6))
          have D6 : Hid (Ds w6 p cap over (swn f now (k + 1))) := by
            unfold Hid
            rw [hw.out]
            exact D2.out.keep (G6.out.block _ D2.out.lt fun e => ne.out p e.symm rfl)
          have K6 : Hid (Kt p 1007 (fun g => g = p) w w6) := (K.out.self K2.out).trans ⟨⟨G6.out.os, G6.out.tape, G6.out.output, G6.out.size, fun g hg hn => G6.out.block g hg fun e => hn (by
            have h1 := (ri_block o2.out e.symm).1
            exact .inr ⟨h1, hg⟩)⟩, fun _ _ => World.cell?_of_block (G6.out.block p D2.out.lt fun e => ne.out p e.symm rfl)⟩
          have nx : Hid (RsAt w p cap over now f v6 (.int .i64 ((k : Int) + 1 + 1)) w6) := by
            have h6 : RowI w6 w.heap.size v6 (sel (ovr now) f (k + 1)).length (ivs (sel (ovr now) f (k + 1))) := by rw [hs.out, ivs_snoc, List.length_append, ← hn.out]; exact O6.out
            obtain ⟨A', c', e, _⟩ := ri_form h6
            exact ⟨k + 1, A', c', e, by simp, by omega, h6, D6.out, K6.out⟩
          clear O6 D6 K6 G6 o2 z2 D2 K2
          go_wp2
          exact ⟨nx.out, by simp [intOf]; omega⟩
        · have ho2 : ovr now E = false := by
            rw [ho]
            by_cases g2 : E.st = 1
            · rw [decide_eq_true g2, decide_eq_false (fun h => g1 ⟨g2, h⟩)]; rfl
            · rw [decide_eq_false g2]; rfl
          rw [ho2] at hs hw
          simp only [Bool.false_eq_true, if_false] at hs hw
          have nx : Hid (RsAt w p cap over now f (.slice A (sel (ovr now) f k).length c) (.int .i64 ((k : Int) + 1 + 1)) wr) := ⟨k + 1, A, c, by rw [hs], by simp, by omega, by rw [hs]; exact hrow, by rw [hw]; exact D, K.out⟩
          clear ho ho2 hs hw D hrow hps th
          by_cases g2 : E.st = 1
          · have q2 : decide (E.ut ≤ now) = false := decide_eq_false (fun h => g1 ⟨g2, h⟩)
            rw [g2] at c1
            clear g1 g2
            go_wp2_with fail
            refine (TM.out _).mono ?_
            rintro e w1 ⟨rfl, rfl⟩
            go_wp2
            exact ⟨nx.out, by simp [intOf]; omega⟩
          · have q2 : (E.st == 1) = false := by simpa using g2
            clear g1 g2
            go_wp2_with fail
            refine (TM.out _).mono ?_
            rintro e w1 ⟨rfl, rfl⟩
            go_wp2
            exact ⟨nx.out, by simp [intOf]; omega⟩
      · have i1 : ¬ (k : Int) + 1 ≤ 200 := by omega
        have F : Hid (RSw w p cap over now f (.returned (.slice A (sel (ovr now) f k).length c)) wr) := by
          obtain rfl : k = 200 := by omega
          exact EX.out _ _ hrow D K
        clear hrow D K EX
        go_wp2
        go_ret
        exact F.out
end St
end Go.Proofs.Ytchlbkfkecpodaa
