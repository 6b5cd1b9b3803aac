/- Parts of the claim: DzA, DzB, DzC -/
import Derived.Lib.QuietBelow
import Derived.Test.YtpkdigegkemogaaGreatDoorDhXT
import Derived.Test.YtpkdigegkemogaaGreatDoorSnXT
namespace Go.Proofs.YtpkdigegkemogaaGreatDoor
set_option maxRecDepth 100000
open Go.RowKit
open Go.Proofs.YtpkdigegkemogaaGreatDoor.Pk (one_at one_free one_set lt_some grown_set grown_trans grown_refl)
namespace St

structure Kv (q : Nat) (S : Nat → Prop) (w w' : World) : Prop extends Kq S w w' where
  tail : ∀ i, i < 1 ∨ 1008 ≤ i → w'.cell? ⟨q, i, none⟩ = w.cell? ⟨q, i, none⟩
section
variable {q : Nat} {S S' : Nat → Prop} {w w' w1 w2 : World}
theorem Kv.refl (q : Nat) (S : Nat → Prop) (w : World) : Kv q S w w := ⟨.refl _ _, fun _ _ => rfl⟩
theorem Kv.trans (h : Kv q S w w1) (k : Kv q (grq S w w1) w1 w2) : Kv q S w w2 := ⟨h.toKq.trans k.toKq, fun i hi => (k.tail i hi).trans (h.tail i hi)⟩
theorem Kv.mono (h : Kv q S w w') (hs : ∀ g, S g → S' g) : Kv q S' w w' := ⟨h.toKq.mono hs, h.tail⟩
theorem Kv.self (h : Kv q S w w1) (k : Kv q S w1 w2) : Kv q S w w2 := h.trans (k.mono fun _ e => .inl e)
end
structure Dz (w : World) (p : Nat) (cap over : Int) (f : F) : Prop where
  lt : p < w.heap.size
  c0 : w.cell? ⟨p, 1, none⟩ = some (.int .i64 cap)
  c1 : w.cell? ⟨p, 2, none⟩ = some (.int .i64 over)
  ent : ∀ k : Nat, k ≤ 200 → w.rangeAt p (3 + k * 5) (entc (f (k : Int)))
  free : ∀ i, w.frozen? ⟨p, i, none⟩ = false
section
variable {w w' : World} {p : Nat} {cap over : Int} {f : F}
theorem Dz.keep (D : Dz w p cap over f) (h : w'.heap[p]? = w.heap[p]?) : Dz w' p cap over f := by
  have e : ∀ i, w'.cell? ⟨p, i, none⟩ = w.cell? ⟨p, i, none⟩ := fun i => World.cell?_of_block h
  refine ⟨?_, (e _).trans D.c0, (e _).trans D.c1, fun k hk j v hj => (e _).trans (D.ent k hk j v hj), fun i => ?_⟩
  · have := Array.getElem?_eq_getElem D.lt
    rw [← h] at this
    exact lt_some this
  · have := D.free i
    unfold World.frozen? at this ⊢
    simp only [h]
    exact this
theorem Dz.below (D : Dz w p cap over f) (hb : Below w.heap.size w w') : Dz w' p cap over f := D.keep (hb.block _ D.lt)
theorem Dz.st (D : Dz w p cap over f) {k : Nat} (hk : k ≤ 200) : w.cell? ⟨p, 3 + k * 5, none⟩ = some (.int .i64 (f k).st) := D.ent k hk 0 _ rfl
theorem Dz.un (D : Dz w p cap over f) {k : Nat} (hk : k ≤ 200) : w.cell? ⟨p, 3 + k * 5 + 1, none⟩ = some (.int .i64 (f k).un) := D.ent k hk 1 _ rfl
theorem Dz.ut (D : Dz w p cap over f) {k : Nat} (hk : k ≤ 200) : w.cell? ⟨p, 3 + k * 5 + 2, none⟩ = some (.int .i64 (f k).ut) := D.ent k hk 2 _ rfl
theorem Dz.z3 (D : Dz w p cap over f) {k : Nat} (hk : k ≤ 200) : w.cell? ⟨p, 3 + k * 5 + 3, none⟩ = some (.int .i64 0) := D.ent k hk 3 _ rfl
theorem Dz.z4 (D : Dz w p cap over f) {k : Nat} (hk : k ≤ 200) : w.cell? ⟨p, 3 + k * 5 + 4, none⟩ = some (.int .i64 0) := D.ent k hk 4 _ rfl
theorem Dz.there (D : Dz w p cap over f) {k : Nat} (hk : k ≤ 200) : w.there p (3 + k * 5) 5 := fun j hj => ⟨(D.ent k hk).isSome j hj, D.free _⟩
theorem Kv.of_ent (w : World) (p : Nat) {k : Nat} (hk : k ≤ 200) (e : E) : Kv p (fun g => g = p) w (w.setCells p (3 + k * 5) (entc e)) :=
  ⟨.of_cells w p _ _, fun i hi => World.cell?_setCells_out p _ _ w ⟨p, i, none⟩ (fun _ _ => by
    rcases hi with hi | hi
    · exact .inl (by show i < 3 + k * 5; omega)
    · exact .inr (by show 3 + k * 5 + 5 ≤ i; omega))⟩
theorem Dz.put (D : Dz w p cap over f) {k : Nat} (hk : k ≤ 200) (e : E) : Dz (w.setCells p (3 + k * 5) (entc e)) p cap over (upd f (k : Int) e) := by
  refine ⟨by rw [(setCells_block p _ _ w).1]; exact D.lt, ?_, ?_, fun j hj => ?_, fun i => ?_⟩
  · rw [World.cell?_setCells_out p _ _ w ⟨p, 1, none⟩ (fun _ _ => .inl (by show 1 < 3 + k * 5; omega))]
    exact D.c0
  · rw [World.cell?_setCells_out p _ _ w ⟨p, 2, none⟩ (fun _ _ => .inl (by show 2 < 3 + k * 5; omega))]
    exact D.c1
  · by_cases h : j = k
    · subst h
      rw [upd_same]
      exact World.rangeAt_setCells_same w p _ _ (D.there hk)
    · rw [upd_other (by omega)]
      exact World.rangeAt_setCells_apart (D.ent j hj) p _ _ (.inr (by show 3 + j * 5 + 5 ≤ _ ∨ _ + 5 ≤ _; omega))
  · rw [World.frozen?_setCells]
    exact D.free i
end
end St
end Go.Proofs.YtpkdigegkemogaaGreatDoor
namespace Go.Proofs.YtpkdigegkemogaaGreatDoor
set_option maxRecDepth 100000
open Go.RowKit
open Go.Sort (grow)
open Go.Proofs.YtpkdigegkemogaaGreatDoor.Pk (one_at one_free one_set lt_some grown_set grown_trans grown_refl)
namespace St

def RzAt (w : World) (p : Nat) (cap over now : Int) (f : F) (v i : Value) (wr : World) : Prop := ∃ (k : Nat) (A : Option Addr) (c : Nat), v = .slice A (sel (ovr now) f k).length c ∧ i = .int .i64 ((k : Int) + 1) ∧ k ≤ 200 ∧ RowI wr w.heap.size v (sel (ovr now) f k).length (ivs (sel (ovr now) f k)) ∧ Dz wr p cap over (swn f now k) ∧ Kv p (fun g => g = p) w wr
theorem row_offz {w w' : World} {p base n : Nat} {v : Value} {xs : List Value} (h : RowI w base v n xs) (K : Kv p (fun g => g = p) w w') (ne : ∀ g, v.ownBlock = some g → g ≠ p) : RowI w' base v n xs := ri_same h fun g hg => K.block g (by
  obtain ⟨_, cur, hc⟩ := ri_block h hg
  exact lt_some hc) (ne g hg)
def RZw (w : World) (p : Nat) (cap over now : Int) (f : F) (e : Ending) (w' : World) : Prop := ∃ v, e = .returned v ∧ RowI w' w.heap.size v (swL f now).length (ivs (swL f now)) ∧ Dz w' p cap over (swF f now) ∧ Kv p (fun g => g = p) w w'
set_option maxHeartbeats 3200000 in
theorem refsweepz_any (w : World) (p : Nat) (cap over now : Int) (f : F) (D : Dz w p cap over f) (O : Ok cap over f) : Calls Tryz.prog 25 #[.pointer (some ⟨p, 1, none⟩), .int .i64 now] w (RZw w p cap over now f) := by
  have TM := Lib.hid (fun w => reftime_any w now)
  have plt : Hid (p < w.heap.size) := D.lt
  obtain ⟨i0, hi0, hii⟩ : ∃ i, Tryz.prog.info? 3 = some i ∧ (i.zero, i.size, i.bytes) = (some (.int .i64 0), 1, 8) := by
    have := int_info
    cases hq : Tryz.prog.info? 3 with
    | none => rw [hq] at this; cases this
    | some i => rw [hq] at this; exact ⟨i, rfl, by simpa using this⟩
  simp only [Prod.mk.injEq] at hii
  obtain ⟨hz0, hz1, hz2⟩ := hii
  replace hi := Lib.hid hi0
  replace hz0 := Lib.hid hz0
  replace hz1 := Lib.hid hz1
  replace hz2 := Lib.hid hz2
  clear hi0
  cases hk : tick now with
  | false =>
    have EX : Hid (RZw w p cap over now f (.returned (.slice none 0 0)) w) := by
      have h1 : swL f now = [] := by unfold swL; rw [hk]; rfl
      have h2 : swF f now = f := by unfold swF; rw [hk]; rfl
      refine ⟨_, rfl, ?_, ?_, Kv.refl _ _ _⟩
      · rw [h1]; exact World.ownsRow_nil _ _ _ _
      · rw [h2]; exact D
    rw [hk] at TM
    clear D hk
    go_enter Tryz.func25, Tryz.ntmps25
    go_wp2_with fail
    refine wp_loop_rounds 1 ?_
    rw [rounds_succ]
    go_wp2_with fail
    refine (TM.out _).mono ?_
    rintro e w1 ⟨rfl, rfl⟩
    clear TM
    go_wp2
    go_ret
    exact EX.out
  | true =>
    have EX : Hid (∀ v w', RowI w' w.heap.size v (sel (ovr now) f 200).length (ivs (sel (ovr now) f 200)) → Dz w' p cap over (swn f now 200) → Kv p (fun g => g = p) w w' → RZw w p cap over now f (.returned v) w') := by
      intro v w' h1 h2 h3
      have e1 : swL f now = sel (ovr now) f 200 := by unfold swL; rw [hk]; rfl
      have e2 : swF f now = swn f now 200 := by unfold swF; rw [hk, if_pos rfl]; exact (swl_ovs O now).symm
      exact ⟨v, rfl, by rw [e1]; exact h1, by rw [e2]; exact h2, h3⟩
    rw [hk] at TM
    have st : Hid (RzAt w p cap over now f (.slice none 0 0) (.int .i64 1) w) := ⟨0, none, 0, rfl, rfl, by omega, World.ownsRow_nil _ _ _ _, by
      have : swn f now 0 = f := swl_nil f
      rw [this]; exact D, Kv.refl _ _ _⟩
    clear D hk O
    go_enter Tryz.func25, Tryz.ntmps25
    go_wp2_with fail
    go_loopw [5, 6] (fun v i wr => RzAt w p cap over now f v i wr) (fun _ i _ => 201 - (intOf i).toNat)
    case atStart => exact st.out
    case round =>
      clear st
      obtain ⟨k, A, c, rfl, rfl, hk, hrow, D, K⟩ := hrel
      by_cases hk2 : k < 200
      · have i1 : (k : Int) + 1 ≤ 200 := by omega
        have c1 := D.st (k := k + 1) (by omega)
        have c2 := D.ut (k := k + 1) (by omega)
        have e1 : ((k + 1 : Nat) : Int) = (k : Int) + 1 := by omega
        have th : Hid (wr.there p (3 + (k + 1) * 5) 5) := D.there (by omega)
        rw [e1, swn_at] at c1 c2
        have hs := sel_succ (ovr now) f k
        have hw := swn_succ f now k
        have hps : Hid (∀ e, Dz (wr.setCells p (3 + (k + 1) * 5) (entc e)) p cap over (upd (swn f now k) ((k : Int) + 1) e)) := fun e => by
          have := D.put (k := k + 1) (by omega) e
          rw [e1] at this
          exact this
        obtain ⟨E, hE⟩ : ∃ E, E = f ((k : Int) + 1) := ⟨_, rfl⟩
        rw [← hE] at c1 c2 hs hw
        have ho : ovr now E = (decide (E.st = 1) && decide (E.ut ≤ now)) := rfl
        replace K := Lib.hid K
        clear e1 hE
        by_cases g1 : E.st = 1 ∧ E.ut ≤ now
        · obtain ⟨g1, g2⟩ := g1
          rw [ho, g1] at hs hw
          simp only [decide_true, decide_eq_true g2, Bool.and_self, if_true] at hs hw
          rw [g1] at c1
          have hc1 : (sel (ovr now) f k).length ≤ c := by
            obtain ⟨A', c', e, h, _⟩ := ri_form hrow
            injection e with _ _ e
            rw [e]; exact h
          have hs := Lib.hid hs
          have hw := Lib.hid hw
          have few : Hid ((sel (ovr now) f k).length ≤ 200) := Nat.le_trans (sel_len _ _ _) (by omega)
          obtain ⟨n, hn⟩ : ∃ n, n = (sel (ovr now) f k).length := ⟨_, rfl⟩
          rw [← hn] at hrow few hc1 ⊢
          have few' := few.out
          have o1 : Hid (RowI wr w.heap.size (.slice A n c) n (ivs (sel (ovr now) f k))) := hrow
          have zs : Hid (w.heap.size ≤ wr.heap.size) := K.out.size
          have ne : Hid (∀ g, (Value.slice A n c).ownBlock = some g → g ≠ p) := fun g hg => by
            have := (ri_block hrow hg).1
            have := plt.out
            omega
          have hn1 := hn
          replace hn := Lib.hid hn
          clear ho D few hrow hn1
          go_wp2_with fail
          refine (TM.out _).mono ?_
          rintro e w1 ⟨rfl, rfl⟩
          go_wp2_with (first | (refine wpList_store_mid rfl 37 (.tmp 39) (.tmp 36) rfl p (3 + (k + 1) * 5) (entc eg).toArray rfl rfl th.out entry_size (entc_one _) ?_; have D2 : Hid (Dz (wr.setCells p (3 + (k + 1) * 5) (entc eg).toArray.toList) p cap over (upd (swn f now k) ((k : Int) + 1) eg)) := hps.out eg; have K2 : Hid (Kv p (fun g => g = p) wr (wr.setCells p (3 + (k + 1) * 5) (entc eg).toArray.toList)) := Kv.of_ent _ _ (k := k + 1) (by omega) eg; have o2 : Hid (RowI (wr.setCells p (3 + (k + 1) * 5) (entc eg).toArray.toList) w.heap.size (.slice A n c) n (ivs (sel (ovr now) f k))) := row_offz o1.out K2.out ne.out; have z2 : Hid (w.heap.size ≤ (wr.setCells p (3 + (k + 1) * 5) (entc eg).toArray.toList).heap.size) := Nat.le_trans zs.out K2.out.size; clear hps o1 zs; generalize wr.setCells p (3 + (k + 1) * 5) (entc eg).toArray.toList = w2 at D2 K2 o2 z2 ⊢) | (at_builtin; go_loud (refine wpList_app1 w2 rfl (.tmp 40) (.tmp 42) 22 rfl w.heap.size 3 i0 (.int .i64 0) 8 Tryz.underlying22 hi.out hz0.out hz1.out hz2.out rfl _ n (ivs (sel (ovr now) f k)) (.int .i64 ((k : Int) + 1)) rfl o2.out rfl rfl (by unfold maxLen; omega) (by omega) z2.out ?_); intro v6 w6 h6 g6; have G6 : Hid (w2.grownBy w6 (Value.slice A n c).ownBlock) := (World.grownBy_alloc w2 (.cells #[.int .i64 ((k : Int) + 1)] 3) (Value.slice A n c).ownBlock).trans g6; have O6 := Lib.hid h6; clear h6 g6))
          have D6 : Hid (Dz w6 p cap over (swn f now (k + 1))) := by
            unfold Hid
            rw [hw.out]
            exact D2.out.keep (G6.out.block _ D2.out.lt fun e => ne.out p e.symm rfl)
          have K6 : Hid (Kv p (fun g => g = p) w w6) := (K.out.self K2.out).trans ⟨⟨G6.out.os, G6.out.tape, G6.out.output, G6.out.size, fun g hg hn => G6.out.block g hg fun e => hn (by
            have h1 := (ri_block o2.out e.symm).1
            exact .inr ⟨h1, hg⟩)⟩, fun _ _ => World.cell?_of_block (G6.out.block p D2.out.lt fun e => ne.out p e.symm rfl)⟩
          have nx : Hid (RzAt w p cap over now f v6 (.int .i64 ((k : Int) + 1 + 1)) w6) := by
            have h6 : RowI w6 w.heap.size v6 (sel (ovr now) f (k + 1)).length (ivs (sel (ovr now) f (k + 1))) := by rw [hs.out, ivs_snoc, List.length_append, ← hn.out]; exact O6.out
            obtain ⟨A', c', e, _⟩ := ri_form h6
            exact ⟨k + 1, A', c', e, by simp, by omega, h6, D6.out, K6.out⟩
          clear O6 D6 K6 G6 o2 z2 D2 K2
          go_wp2
          exact ⟨nx.out, by simp [intOf]; omega⟩
        · have ho2 : ovr now E = false := by
            rw [ho]
            by_cases g2 : E.st = 1
            · rw [decide_eq_true g2, decide_eq_false (fun h => g1 ⟨g2, h⟩)]; rfl
            · rw [decide_eq_false g2]; rfl
          rw [ho2] at hs hw
          simp only [Bool.false_eq_true, if_false] at hs hw
          have nx : Hid (RzAt w p cap over now f (.slice A (sel (ovr now) f k).length c) (.int .i64 ((k : Int) + 1 + 1)) wr) := ⟨k + 1, A, c, by rw [hs], by simp, by omega, by rw [hs]; exact hrow, by rw [hw]; exact D, K.out⟩
          clear ho ho2 hs hw D hrow hps th
          by_cases g2 : E.st = 1
          · have q2 : decide (E.ut ≤ now) = false := decide_eq_false (fun h => g1 ⟨g2, h⟩)
            rw [g2] at c1
            clear g1 g2
            go_wp2_with fail
            refine (TM.out _).mono ?_
            rintro e w1 ⟨rfl, rfl⟩
            go_wp2
            exact ⟨nx.out, by simp [intOf]; omega⟩
          · have q2 : (E.st == 1) = false := by simpa using g2
            clear g1 g2
            go_wp2_with fail
            refine (TM.out _).mono ?_
            rintro e w1 ⟨rfl, rfl⟩
            go_wp2
            exact ⟨nx.out, by simp [intOf]; omega⟩
      · have i1 : ¬ (k : Int) + 1 ≤ 200 := by omega
        have F : Hid (RZw w p cap over now f (.returned (.slice A (sel (ovr now) f k).length c)) wr) := by
          obtain rfl : k = 200 := by omega
          exact EX.out _ _ hrow D K
        clear hrow D K EX
        go_wp2
        go_ret
        exact F.out
end St
end Go.Proofs.YtpkdigegkemogaaGreatDoor
namespace Go.Proofs.YtpkdigegkemogaaGreatDoor
set_option maxRecDepth 100000
open Go.RowKit Go.Sort
open Go.Proofs.YtpkdigegkemogaaGreatDoor.Pk (one_at one_free one_set lt_some grown_set grown_trans grown_refl refint str str_add str_cat str_size)
namespace St

def ByzAt (w : World) (cap over : Int) (f : F) (s i : Value) (wr : World) : Prop := ∃ k : Nat, s = .string (str (bts cap over f k)) ∧ i = .int .i64 ((k : Int) + 1) ∧ k ≤ 200 ∧ Below w.heap.size w wr
set_option maxHeartbeats 6400000 in
theorem refbytesz_any (w : World) (p : Nat) (cap over : Int) (f : F) (D : Dz w p cap over f) (O : Ok cap over f) : Calls Tryz.prog 51 #[.pointer (some ⟨p, 1, none⟩)] w fun e w' => e = .returned (.string (str (bts cap over f 200))) ∧ Below w.heap.size w w' := by
  have bc : Bd cap := bd_of O.c0 O.c1 (by decide) (by decide)
  have bo : Bd over := bd_of O.o0 O.o1 (by decide) (by decide)
  have k0 := cell_regrown D.c0
  have k1 := cell_regrown D.c1
  obtain ⟨b0, e0⟩ : ∃ b, b = Pk.encI cap := ⟨_, rfl⟩
  obtain ⟨b1, e1⟩ : ∃ b, b = Pk.encI over := ⟨_, rfl⟩
  have l0 : b0.length ≤ 10 := by rw [e0]; exact Pk.encI_len _ bc.1 bc.2
  have l1 : b1.length ≤ 10 := by rw [e1]; exact Pk.encI_len _ bo.1 bo.2
  have C0 := int_of cap b0 bc e0 w
  have C1 := int_of over b1 bo e1 w
  obtain ⟨s1, f1⟩ : ∃ s, s = b0 ++ b1 := ⟨_, rfl⟩
  have a1 := str_add b0 b1 (by omega)
  have q1 := size_add2 (a := b0) (b := b1) (by omega)
  have t1 := str_cat b0 b1
  rw [← f1] at a1 t1
  have F0 : Hid (s1 = bts cap over f 0) := by
    unfold Hid
    rw [f1, e0, e1]
    simp [bts, sel, rn, many]
  replace D := Lib.hid D
  replace O := Lib.hid O
  clear f1 e0 e1 l0 l1 bc bo
  go_enter Tryz.func51, Tryz.ntmps51
  go_upto_region 1 with fail
  refine wp_region_quiet_below (by kernel_rfl) (by kernel_rfl) ?_
  repeat (go_big_quiet_step (first | with_reducible exact C0 _ _ | with_reducible exact C1 _ _))
  refine wpQuiet_nil ?_
  intro w2 hw'
  obtain ⟨⟨dq, osq⟩, hw''⟩ := hw'
  have be2 : Hid (RowKit.Below w.heap.size w w2) := by rw [hw'']; exact below_regrown w dq osq
  have st : Hid (ByzAt w cap over f (.string (str s1)) (.int .i64 1) w2) := ⟨0, by rw [F0.out], rfl, by omega, be2.out⟩
  clear hw'' k0 k1 C0 C1 a1 q1 t1 F0 be2
  go_wp2_with fail
  go_loopw [3, 4] (fun s i wr => ByzAt w cap over f s i wr) (fun _ i _ => 201 - (intOf i).toNat)
  case atStart => exact st.out
  case round =>
    clear st
    obtain ⟨k, rfl, rfl, hk, be⟩ := hrel
    have D2 := D.out.below be
    obtain ⟨s, hs⟩ : ∃ s, s = bts cap over f k := ⟨_, rfl⟩
    have ls : s.length ≤ 8020 := by rw [hs]; exact bts_len O.out hk
    rw [← hs]
    by_cases hk2 : k < 200
    · have i1 : (k : Int) + 1 ≤ 200 := by omega
      have c0 := D2.st (k := k + 1) (by omega)
      have c1 := D2.un (k := k + 1) (by omega)
      have c2 := D2.ut (k := k + 1) (by omega)
      have c3 := D2.z3 (k := k + 1) (by omega)
      have c4 := D2.z4 (k := k + 1) (by omega)
      have e1 : ((k + 1 : Nat) : Int) = (k : Int) + 1 := by omega
      have bd := (O.out.shp ((k : Int) + 1)).bds
      rw [e1] at c0 c1 c2
      have hb := bts_succ cap over f k
      unfold one at hb
      rw [← hs] at hb
      obtain ⟨⟨st, un, ut⟩, hE⟩ : ∃ E, E = f ((k : Int) + 1) := ⟨_, rfl⟩
      rw [← hE] at c0 c1 c2 hb bd
      have hp : pre ⟨st, un, ut⟩ = !decide (st = 0) := rfl
      simp only at c0 c1 c2 hb bd
      obtain ⟨W, hW⟩ : ∃ W, W = wr.alloc (.cells #[.int .i64 st, .int .i64 un, .int .i64 ut, .int .i64 0, .int .i64 0] 37) := ⟨_, rfl⟩
      have bW : Hid (Below w.heap.size w W) := by rw [hW]; exact be.alloc be.size _
      have hB : Hid (W.heap[wr.heap.size]? = some (.cells #[.int .i64 st, .int .i64 un, .int .i64 ut, .int .i64 0, .int .i64 0] 37 (0, 0))) := by rw [hW]; exact heap_alloc_new _ _
      replace hW := Lib.hid hW
      clear D2 be hE e1
      go_upto_region 6 with fail
      rw [← hW.out]
      by_cases g : st = 0
      · have gb : (st == 0) = true := by simpa using g
        have x0 : W.cell? ⟨wr.heap.size, 0, none⟩ = some (.int .i64 st) := one_at hB.out
        rw [hp, decide_eq_true g] at hb
        simp only [Bool.not_true, Bool.false_eq_true, if_false] at hb
        have nx : Hid (ByzAt w cap over f (.string (str s)) (.int .i64 ((k : Int) + 1 + 1)) W) := ⟨k + 1, by rw [hb], by simp, by omega, bW.out⟩
        clear hb hs hp g
        go_wp2
        exact ⟨nx.out, by simp [intOf]; omega⟩
      · have gb : (st == 0) = false := by simpa using g
        rw [hp, decide_eq_false g] at hb
        simp only [Bool.not_false, if_true] at hb
        obtain ⟨d0, d1, d2, d3, d4, d5⟩ := bd
        have B1 : Bd ((k : Int) + 1) := ⟨by omega, by omega⟩
        have B2 : Bd st := ⟨by omega, by omega⟩
        have B3 : Bd un := ⟨by omega, by omega⟩
        have B4 : Bd ut := ⟨by omega, by omega⟩
        obtain ⟨b1, e1⟩ : ∃ b, b = Pk.encI ((k : Int) + 1) := ⟨_, rfl⟩
        obtain ⟨b2, e2⟩ : ∃ b, b = Pk.encI st := ⟨_, rfl⟩
        obtain ⟨b3, e3⟩ : ∃ b, b = Pk.encI un := ⟨_, rfl⟩
        obtain ⟨b4, e4⟩ : ∃ b, b = Pk.encI ut := ⟨_, rfl⟩
        have l1 : b1.length ≤ 10 := by rw [e1]; exact Pk.encI_len _ B1.1 B1.2
        have l2 : b2.length ≤ 10 := by rw [e2]; exact Pk.encI_len _ B2.1 B2.2
        have l3 : b3.length ≤ 10 := by rw [e3]; exact Pk.encI_len _ B3.1 B3.2
        have l4 : b4.length ≤ 10 := by rw [e4]; exact Pk.encI_len _ B4.1 B4.2
        have C1 := int_of _ b1 B1 e1 W
        have C2 := int_of _ b2 B2 e2 W
        have C3 := int_of _ b3 B3 e3 W
        have C4 := int_of _ b4 B4 e4 W
        rw [← e1, ← e2, ← e3, ← e4] at hb
        clear e1 e2 e3 e4 B1 B2 B3 B4 d0 d1 d2 d3 d4 d5
        obtain ⟨s1, f1⟩ : ∃ x, x = s ++ b1 := ⟨_, rfl⟩
        obtain ⟨s2, f2⟩ : ∃ x, x = s1 ++ b2 := ⟨_, rfl⟩
        obtain ⟨s3, f3⟩ : ∃ x, x = s2 ++ b3 := ⟨_, rfl⟩
        obtain ⟨s4, f4⟩ : ∃ x, x = s3 ++ b4 := ⟨_, rfl⟩
        have F : Hid (bts cap over f (k + 1) = s4) := by unfold Hid; rw [hb, f4, f3, f2, f1]; simp
        have m1 : s1.length ≤ 8030 := by rw [f1, List.length_append]; omega
        have m2 : s2.length ≤ 8040 := by rw [f2, List.length_append]; omega
        have m3 : s3.length ≤ 8050 := by rw [f3, List.length_append]; omega
        have a1 := str_add s b1 (by omega)
        have a2 := str_add s1 b2 (by omega)
        have a3 := str_add s2 b3 (by omega)
        have a4 := str_add s3 b4 (by omega)
        have q1 := size_add2 (a := s) (b := b1) (by omega)
        have q2 := size_add2 (a := s1) (b := b2) (by omega)
        have q3 := size_add2 (a := s2) (b := b3) (by omega)
        have q4 := size_add2 (a := s3) (b := b4) (by omega)
        have t1 := str_cat s b1
        have t2 := str_cat s1 b2
        have t3 := str_cat s2 b3
        have t4 := str_cat s3 b4
        rw [← f1] at a1 t1
        rw [← f2] at a2 t2
        rw [← f3] at a3 t3
        rw [← f4] at a4 t4
        have x0 : W.cell? ⟨wr.heap.size, 0, none⟩ = some (.int .i64 st) := one_at hB.out
        have z0 := cell_regrown x0
        have z1 := cell_regrown (show W.cell? ⟨wr.heap.size, 1, none⟩ = some (.int .i64 un) from one_at hB.out)
        have z2 := cell_regrown (show W.cell? ⟨wr.heap.size, 2, none⟩ = some (.int .i64 ut) from one_at hB.out)
        have hk3 : Hid (k + 1 ≤ 200) := by unfold Hid; omega
        clear f1 f2 f3 f4 m1 m2 m3 l1 l2 l3 l4 ls hb hs hp g c0 c1 c2 c3 c4 hk hk2
        go_upto_region 7 with fail
        refine wp_region_quiet_below (by kernel_rfl) (by kernel_rfl) ?_
        repeat (go_big_quiet_step (first | with_reducible exact C1 _ _ | with_reducible exact C2 _ _ | with_reducible exact C3 _ _ | with_reducible exact C4 _ _))
        refine wpQuiet_nil ?_
        intro w2 hw'
        obtain ⟨⟨dq, osq⟩, hw''⟩ := hw'
        have be2 : Hid (RowKit.Below w.heap.size w w2) := by rw [hw'']; exact bW.out.trans ((below_regrown W dq osq).mono bW.out.size)
        have nx : Hid (ByzAt w cap over f (.string (str s4)) (.int .i64 ((k : Int) + 1 + 1)) w2) := ⟨k + 1, by rw [F.out], by simp, hk3.out, be2.out⟩
        clear hw'' z0 z1 z2 C1 C2 C3 C4 x0
        go_wp2_with fail
        exact ⟨nx.out, by
          have h3 : k + 1 ≤ 200 := hk3.out
          simp [intOf]
          omega⟩
    · have i1 : ¬ (k : Int) + 1 ≤ 200 := by omega
      have EX : Hid (bts cap over f 200 = s ∧ Below w.heap.size w wr) := by
        obtain rfl : k = 200 := by omega
        exact ⟨hs.symm, be⟩
      clear hs ls D2 be
      go_wp2
      go_ret
      rw [EX.out.1]
      exact ⟨rfl, EX.out.2⟩
end St
end Go.Proofs.YtpkdigegkemogaaGreatDoor
