/- Pop of a heap of timers. -/
import Derived.Test.YtnfakkinaockiaaWhC
import Derived.Deep.CutBlock
import Derived.Deep.CutRange
import Derived.Lib.SliceRun
import Derived.OwnWalk
namespace Go.Proofs.Ytnfakkinaockiaa
set_option maxRecDepth 100000
open Go.RowKit
open Go.Sort (grow)
open Go.Proofs.Ytnfakkinaockiaa.Pk (one_at one_free one_set lt_some grown_set grown_trans below_grown grown_refl)
namespace Wh

theorem zero_tm (w : World) : (zeroValue 57).run Try.prog w = .ok (.agg #[.int .i64 0, .int .i64 0]) w := by kernel_rfl
theorem clear_t (w : World) (ty : TypeId) (g o c : Nat) (a b : Value) (h1 : w.cell? ⟨g, o, none⟩ = some a) (h2 : w.cell? ⟨g, o + 1, none⟩ = some b) (hf : ∀ k, w.frozen? ⟨g, k, none⟩ = false) :
    (Builtin.clear_ #[62] ty #[.slice (some ⟨g, o, none⟩) 1 c]).run Try.prog w = .ok (.tuple #[]) (w.setCells g o [.int .i64 0, .int .i64 0]) := by
  have hst := run_storeCells_cells (P := Try.prog) g o [.int .i64 0, .int .i64 0] 0 w (by
      intro j hj
      simp at hj
      match j, hj with
      | 0, _ => simp [h1]
      | 1, _ => simp [h2]) (by intro j _; exact hf _) (by intro v hv; simp at hv; subst hv; rfl)
  simp only [Nat.add_zero] at hst
  have hz : (Builtin.zeroCells (Value.agg #[.int .i64 0, .int .i64 0]).cells 1).toList = [.int .i64 0, .int .i64 0] := by kernel_rfl
  simp [Builtin.clear_, run_underlying Try.underlying62, hz, hst]
theorem clear_is (w : World) (g o : Nat) (a b : Value) : w.setCells g o [a, b] = (w.setCell ⟨g, o, none⟩ a).setCell ⟨g, o + 1, none⟩ b := by
  simp [World.setCells]
theorem flt_last {l : List Tm} {n : Nat} (hn : l.length = n + 1) : flt l = flt (l.take n) ++ ent (gt l n) := by
  have e : l = l.take n ++ [gt l n] := by
    have e1 : gt l n = l[n] := by simp [gt, hn]
    rw [e1]
    have := List.take_append_drop n l
    rw [List.drop_eq_getElem_cons (by omega), List.drop_of_length_le (by omega)] at this
    exact this.symm
  have e2 : flt [gt l n] = ent (gt l n) := by simp [flt]
  rw [← e2, ← flt_app, ← e]
theorem rw_pop {w : World} {base g c n : Nat} {l : List Tm} (h : RowW w base (.slice (some ⟨g, 0, none⟩) (n + 1) c) (n + 1) l) (hn : l.length = n + 1) : RowW w base (.slice (some ⟨g, 0, none⟩) n c) n (l.take n) := by
  unfold RowW at h ⊢
  rw [flt_last hn] at h
  exact ownsRow_pop (by rw [flt_len, List.length_take]; congr 1; omega) h
theorem rw_beyond {w : World} {base g c n j : Nat} {l : List Tm} (h : RowW w base (.slice (some ⟨g, 0, none⟩) n c) n l) (hl : l.length = n) (hj : n * 2 ≤ j) (u : Value) : RowW (w.setCell ⟨g, j, none⟩ u) base (.slice (some ⟨g, 0, none⟩) n c) n l ∧ w.grownBy (w.setCell ⟨g, j, none⟩ u) (some g) := by
  have := h.stored j u
  rw [List.set_eq_of_length_le (by rw [flt_len]; omega)] at this
  exact this
theorem slice_from (g n c i : Nat) (hi : i < n) (hn : n ≤ c) (_ : c ≤ 9223372036854775807) (W : World) : (Instr.slice 62 (.slice (some ⟨g, 0, none⟩) n c) (some (.int .i64 (i : Int))) none none).run Try.prog W = .ok (.slice (some ⟨g, i * 2, none⟩) (n - i) (c - i)) W := by
  rw [run_slice_l W 62 _ n c (by kernel_rfl) .i64 (i : Int) (by omega) (by omega)]
  have e : (sizeOf (Try.prog.elem 62)).run Try.prog W = .ok 2 W := by kernel_rfl
  rw [e]
  have hne : ¬ c = i := by omega
  simp [Result.andThen, sliced, hne, Addr.add_lit]
theorem slice_to (g n c i : Nat) (hi : i ≤ c) (_ : 0 < c) (W : World) : (Instr.slice 62 (.slice (some ⟨g, 0, none⟩) n c) none (some (.int .i64 (i : Int))) none).run Try.prog W = .ok (.slice (some ⟨g, 0, none⟩) i c) W := by
  rw [run_slice_h W 62 _ n c (by kernel_rfl) .i64 (i : Int) (by omega) (by omega)]
  have e : (sizeOf (Try.prog.elem 62)).run Try.prog W = .ok 2 W := by kernel_rfl
  rw [e]
  simp only [Result.andThen, sliced]
  by_cases hc : c = 0 <;> simp [hc, Addr.add]
theorem Sw.del {w W : World} {h m nn : Nat} {v : Value} {l : List Tm} {D : DataW Value} (S : Sw w h v m nn l D W) {t : Tm} (ht : wfT t) (ty : TypeId) : ∃ W', (Builtin.delete_ #[63, 3] ty #[.map (some m), .int .i64 t.1]).run Try.prog W = .ok (.tuple #[]) W' ∧ Sw w h v m nn l (D.del (kid t)) W' ∧ W.grownBy W' (some m) := by
  obtain ⟨W', hrun, hM, hT⟩ := S.map.drop law Try.underlying63 (wf_key ht) ty
  have g := hT.grown
  refine ⟨W', hrun, ⟨(g.block h (lt_some S.cells) (fun e => S.map_ne S.cells (by injection e))).trans S.cells, rw_same S.row (fun k hk => ?_), hM, S.kq.trans' (.of_grown g fun k hk => Or.inr (Or.inr hk))⟩, g⟩
  obtain ⟨_, cur, hc⟩ := rw_block S.row hk
  exact g.block k (lt_some hc) (fun e => S.map_ne hc (by injection e))
theorem len_cell (w : World) (h : Nat) (A : Option Addr) (n c : Nat) (c0 : w.cell? ⟨h, 0, none⟩ = some (.slice A n c)) : Calls Try.prog 41 #[.pointer (some ⟨h, 0, none⟩)] w fun e w' => e = .returned (.int .i64 n) ∧ w = w' := by
  go_enter Try.func41, Try.ntmps41
  go_wp2
  go_ret
  exact ⟨rfl, rfl⟩

/-- What Pop leaves. -/
def PopTo (w : World) (h : Nat) (v : Value) (mo : Option Nat) (l : List Tm) (n : Nat) (e : Ending) (w' : World) : Prop :=
  e = .returned (.iface 57 (.agg #[.int .i64 (gt l n).1, .int .i64 (gt l n).2])) ∧ ∃ v', v'.ownBlock = v.ownBlock ∧ Hpo w' h (l.take n) v' mo ∧ Kq (inn h v mo) w w'
set_option maxHeartbeats 1600000 in
theorem pop_any (w : World) (h : Nat) (l : List Tm) (v : Value) (mo : Option Nat) (H : Hpo w h l v mo) (n : Nat) (hn : l.length = n + 1) :
    Calls Try.prog 53 #[.pointer (some ⟨h, 0, none⟩)] w (PopTo w h v mo l n) := by
  obtain ⟨m, D, rfl, S0, hpl⟩ := H.sw (by omega)
  have few := H.few
  obtain ⟨g, c, rfl, h1, h2⟩ := rw_some H.row (by omega)
  have c0 : w.cell? ⟨h, 0, none⟩ = some (.slice (some ⟨g, 0, none⟩) l.length c) := one_at (i := 0) H.cells
  have c1 : w.cell? ⟨h, 1, none⟩ = some (.map (some m)) := one_at (i := 1) H.cells
  obtain ⟨a1, a2⟩ := rw_cell H.row (i := n) (by omega)
  have wfn : Hid (wfT (gt l n)) := H.wf_at (by omega)
  rw [hn] at c0 h1
  obtain ⟨a, ha⟩ : ∃ z, z = (gt l n).1 := ⟨_, rfl⟩
  obtain ⟨b, hb⟩ : ∃ z, z = (gt l n).2 := ⟨_, rfl⟩
  rw [← ha] at a1
  rw [← hb] at a2
  obtain ⟨N, hN⟩ : ∃ z, z = n + 1 := ⟨_, rfl⟩
  rw [← hN] at c0 h1
  have ew : (N : Int) - 1 = (n : Int) := by omega
  have i1 : (n : Int) < (N : Int) := by omega
  have i2 : (0 : Int) ≤ (n : Int) := by omega
  have i3 : (N : Int) ≤ 1000000 := by omega
  have LN := Lib.hid (len_cell w h (some ⟨g, 0, none⟩) N c c0)
  have hgh : g ≠ h := fun e => H.row_ne (by rw [← e]; rfl)
  have hwt : Hid (∀ t ∈ l, wfT t) := H.wf
  have hnd : Hid (Nd l) := H.nd
  have hrow := rw_pop (by have := H.row; rw [hn] at this; exact this) hn
  have hcells := Lib.hid H.cells
  have hmap := Lib.hid (S0.map)
  have hgm : g ≠ m := fun e => H.row_map (g := g) rfl (by rw [e])
  have hhm : h ≠ m := fun e => H.map_ne (by rw [e])
  have hsz : h < w.heap.size ∧ g < w.heap.size ∧ m < w.heap.size := ⟨H.lt h (.inl rfl), H.lt g (.inr (.inl rfl)), H.lt m (.inr (.inr rfl))⟩
  have hlt : (l.take n).length = n := by rw [List.length_take]; omega
  -- behind the alloc
  obtain ⟨Wa, hWa⟩ : ∃ z, z = w.alloc (.cells #[.int .i64 a, .int .i64 b] 57) := ⟨_, rfl⟩
  have ba : Below w.heap.size w Wa := by rw [hWa]; exact (Below.refl _ _).alloc (Nat.le_refl _) _
  have kb : ∀ (k o : Nat), k < w.heap.size → Wa.cell? ⟨k, o, none⟩ = w.cell? ⟨k, o, none⟩ := fun k o hk => World.cell?_of_block (ba.block k hk)
  have ta : Wa.heap[w.heap.size]? = some (.cells #[.int .i64 a, .int .i64 b] 57 (0, 0)) := by rw [hWa]; exact heap_alloc_new _ _
  have ra : RowW Wa 0 (.slice (some ⟨g, 0, none⟩) n c) n (l.take n) := rw_same hrow fun k hk => ba.block k (by
    have : g = k := by simpa [Value.ownBlock] using hk
    rw [← this]; exact hsz.2.1)
  -- the last one struck
  obtain ⟨r1, g1⟩ := rw_beyond ra hlt (Nat.le_refl _) (.int .i64 0)
  obtain ⟨r2, g2⟩ := rw_beyond r1 hlt (j := n * 2 + 1) (by omega) (.int .i64 0)
  have gb := grown_trans g1 g2
  have clr : ∀ ty, (Builtin.clear_ #[62] ty #[.slice (some ⟨g, n * 2, none⟩) 1 (c - n)]).run Try.prog Wa = .ok (.tuple #[]) ((Wa.setCell ⟨g, n * 2, none⟩ (.int .i64 0)).setCell ⟨g, n * 2 + 1, none⟩ (.int .i64 0)) := fun ty => by
    rw [← clear_is]
    exact clear_t Wa ty g (n * 2) (c - n) _ _ ((kb g _ hsz.2.1).trans a1) ((kb g _ hsz.2.1).trans a2) (fun k => ra.frozenAt k)
  obtain ⟨Wb, hWb⟩ : ∃ z, z = (Wa.setCell ⟨g, n * 2, none⟩ (.int .i64 0)).setCell ⟨g, n * 2 + 1, none⟩ (.int .i64 0) := ⟨_, rfl⟩
  rw [← hWb] at r2 gb clr
  have hb1 : Wb.heap[h]? = some (.cells #[.slice (some ⟨g, 0, none⟩) N c, .map (some m)] 65 (0, 0)) := (gb.block h (by have := ba.size; omega) (fun e => hgh (by injection e with e; exact e.symm))).trans ((ba.block h hsz.1).trans (by rw [hN, ← hn]; exact hcells.out))
  have c0b : Wb.cell? ⟨h, 0, none⟩ = some (.slice (some ⟨g, 0, none⟩) N c) := one_at (i := 0) hb1
  have f0b : Wb.frozen? ⟨h, 0, none⟩ = false := one_free hb1
  have tb : Wb.heap[w.heap.size]? = some (.cells #[.int .i64 a, .int .i64 b] 57 (0, 0)) := (gb.block _ (lt_some ta) (fun e => by injection e with e; omega)).trans ta
  have mb : Wb.ownsMap Try.prog 3 Rdw m l.length D := by
    obtain ⟨es, clock, h0, r⟩ := hmap.out
    exact ⟨es, clock, (gb.block m (by have := ba.size; omega) (fun e => hgm (by injection e with e; exact e.symm))).trans ((ba.block m hsz.2.2).trans h0), r⟩
  -- the shorter row stored
  obtain ⟨Wc, hWc⟩ : ∃ z, z = Wb.setCell ⟨h, 0, none⟩ (.slice (some ⟨g, 0, none⟩) n c) := ⟨_, rfl⟩
  have gc : Wb.grownBy Wc (some h) := by rw [hWc]; exact grown_set _ _ _ _
  have hc1 : Wc.heap[h]? = some (.cells #[.slice (some ⟨g, 0, none⟩) n c, .map (some m)] 65 (0, 0)) := by rw [hWc]; exact one_set hb1 (.slice (some ⟨g, 0, none⟩) n c)
  have Sc : Hid (Sw w h (.slice (some ⟨g, 0, none⟩) n c) m l.length (l.take n) D Wc) :=
    ⟨hc1, by rw [hlt]; exact rw_same r2 fun k hk => gc.block k (lt_some (rw_block r2 hk).2.choose_spec) (fun e => by
        have e1 : g = k := by simpa [Value.ownBlock] using hk
        injection e with e
        exact hgh (e1.trans e)),
      mb.kept gc (fun e => hhm (by injection e with e; exact e.symm)), (Kq.of_below ba).trans' ((Kq.of_grown gb (fun k hk => .inr (.inl hk))).trans' (.of_grown gc (fun k hk => .inl (by injection hk with hk; exact hk.symm))))⟩
  have tc : Hid (Wc.heap[w.heap.size]? = some (.cells #[.int .i64 a, .int .i64 b] 57 (0, 0))) := (gc.block _ (lt_some tb) (fun e => by injection e with e; omega)).trans tb
  have cab : Wa.cell? ⟨h, 0, none⟩ = some (.slice (some ⟨g, 0, none⟩) N c) := (kb h 0 hsz.1).trans c0
  -- the place dropped
  have DL : Hid (∀ W, Sw w h (.slice (some ⟨g, 0, none⟩) n c) m l.length (l.take n) D W → ∃ W', (∀ ty, (Builtin.delete_ #[63, 3] ty #[.map (some m), .int .i64 a]).run Try.prog W = .ok (.tuple #[]) W') ∧ Sw w h (.slice (some ⟨g, 0, none⟩) n c) m l.length (l.take n) (D.del (kid (gt l n))) W' ∧ W.grownBy W' (some m)) := fun W S => by
    obtain ⟨W', r, h2, h3⟩ := S.del wfn.out 0
    rw [ha]
    exact ⟨W', fun _ => r, h2, h3⟩
  have sl1 := slice_from g N c n (by omega) h1 h2
  rw [show N - n = 1 by omega] at sl1
  have sl2 := slice_to g N c n (by omega) (by omega)
  obtain ⟨q, hq⟩ : ∃ q, q = w.heap.size := ⟨_, rfl⟩
  rw [← hq] at tc
  have hqm : Hid (q ≠ m) := by show _ ≠ _; omega
  have hpl' := Lib.hid hpl
  have few' := Lib.hid few
  have hn' := Lib.hid hn
  have hv : Hid (∀ k, (Value.slice (some ⟨g, 0, none⟩) n c).ownBlock = some k ↔ (Value.slice (some ⟨g, 0, none⟩) l.length c).ownBlock = some k) := fun k => Iff.rfl
  replace ha := Lib.hid ha
  replace hb := Lib.hid hb
  replace hq := Lib.hid hq
  replace hWb := Lib.hid hWb
  replace hWc := Lib.hid hWc
  clear H S0 hn hN hrow hcells hmap hgm hhm hsz ba ta ra r1 r2 g1 g2 gb gc hb1 tb mb hc1 hpl few hlt kb
  have K := key_any
  have mk := m_key
  go_enter Try.func53, Try.ntmps53
  go_wp2_with fail
  refine LN.out.mono ?_
  rintro e w1 ⟨rfl, rfl⟩
  go_upto_region 3 with fail
  rw [← hWa, ← hq.out]
  clear hWa
  go_upto_region 5 with fail
  rw [← hWc.out]
  clear hWc hWb c0b f0b cab sl1 sl2 clr c0 c1 a1 a2 LN
  have c1 : Wc.cell? ⟨h, 1, none⟩ = some (.map (some m)) := one_at (i := 1) Sc.out.cells
  have t0 : Wc.cell? ⟨q, 0, none⟩ = some (.int .i64 a) := one_at (i := 0) tc.out
  have t1 : Wc.cell? ⟨q, 1, none⟩ = some (.int .i64 b) := one_at (i := 1) tc.out
  go_region_held3 (fun w' => w'.cell? ⟨h, 1, none⟩ = some (.map (some m)) ∧ w'.cell? ⟨q, 0, none⟩ = some (.int .i64 a) ∧ w'.cell? ⟨q, 1, none⟩ = some (.int .i64 b)) (first | assumption | exact ⟨c1, t0, t1⟩ | go_keep)
    ((first
      | (go_at_call 40; refine (K _ _ _).mono ?_; rintro e w6 ⟨rfl, hb6⟩; have S6 := Sw.below (W' := w6) (Sw.drew Sc.out) hb6; have t6 : w6.heap[q]? = some (.cells #[.int .i64 a, .int .i64 b] 57 (0, 0)) := (hb6.block q (lt_some tc.out)).trans tc.out; obtain ⟨w7, hrun, S7, g7⟩ := DL.out w6 S6; have t7 : w7.heap[q]? = some (.cells #[.int .i64 a, .int .i64 b] 57 (0, 0)) := (g7.block q (lt_some t6) (fun e => hqm.out (by injection e))).trans t6; have s1 : w6.cell? ⟨h, 1, none⟩ = some (.map (some m)) := one_at (i := 1) S6.cells; have s2 : w6.cell? ⟨q, 0, none⟩ = some (.int .i64 a) := one_at (i := 0) t6; have s3 : w6.cell? ⟨q, 1, none⟩ = some (.int .i64 b) := one_at (i := 1) t6; have q1 : w7.cell? ⟨h, 1, none⟩ = some (.map (some m)) := one_at (i := 1) S7.cells; have q2 : w7.cell? ⟨q, 0, none⟩ = some (.int .i64 a) := one_at (i := 0) t7; have q3 : w7.cell? ⟨q, 1, none⟩ = some (.int .i64 b) := one_at (i := 1) t7; clear S6 hb6 g7)))
  clear hrun s1 s2 s3 q1 DL Sc tc
  have F : Hid (PopTo w h (.slice (some ⟨g, 0, none⟩) l.length c) (some m) l n (.returned (.iface 57 (.agg #[.int .i64 a, .int .i64 b]))) w7) := by
    refine ⟨by rw [ha.out, hb.out], .slice (some ⟨g, 0, none⟩) n c, rfl, ?_, S7.kq.mono fun k hk => .inl ?_⟩
    · have := hn'.out
      exact S7.hpo (pl_pop hpl'.out hnd.out hn'.out) (by
        unfold Nd
        exact hnd.out.sublist ((List.take_sublist n l).map _)) (fun t ht => hwt.out t (List.mem_of_mem_take ht)) (by rw [List.length_take]; have := few'.out; omega)
    · rcases hk with hk | hk | hk
      · exact .inl hk
      · exact .inr (.inl ((hv.out k).1 hk))
      · exact .inr (.inr hk)
  clear S7 t7 hpl' hnd hwt few' hn' hv
  go_wp2
  go_ret
  exact F.out
end Wh
end Go.Proofs.Ytnfakkinaockiaa
