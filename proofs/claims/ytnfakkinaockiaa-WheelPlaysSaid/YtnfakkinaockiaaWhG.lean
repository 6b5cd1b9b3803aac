/- Push of a heap of timers. -/
import Derived.Test.YtnfakkinaockiaaWhF
import Derived.Maps.AppendAt
import Derived.WalkSpells
namespace Go.Proofs.Ytnfakkinaockiaa
set_option maxRecDepth 100000
open Go.RowKit
open Go.Sort (grow)
open Go.Proofs.Ytnfakkinaockiaa.Pk (one_at one_free one_set lt_some grown_set grown_trans below_grown grown_refl)
namespace Wh

theorem tm_info3 : (Try.prog.info? 57).map (fun i => (i.zero, i.size, i.bytes)) = some (some (.agg #[.int .i64 0, .int .i64 0]), 2, 16) := by kernel_rfl
/-- One timer appended; it lies in a block just made. -/
theorem rw_push {W : World} {v : Value} {n : Nat} {l : List Tm} (h : RowW W 0 v n l) (hn : l.length = n) (hf : n ≤ 1000000) (t : Tm) : ∃ A' c' w', (Builtin.append_ #[62, 62] 62 #[v, .slice (some ⟨W.heap.size, 0, none⟩) 1 1]).run Try.prog (W.alloc (.cells #[.int .i64 t.1, .int .i64 t.2] 57)).drew = .ok (.slice A' (n + 1) c') w' ∧
    RowW w' 0 (.slice A' (n + 1) c') (n + 1) (l ++ [t]) ∧ W.grownBy w' v.ownBlock ∧ (∀ g, (Value.slice A' (n + 1) c').ownBlock = some g → v.ownBlock = some g ∨ W.heap.size ≤ g) := by
  obtain ⟨i0, hi, hz0, hz1, hz2⟩ := info_parts tm_info3
  have b0 : Below W.heap.size W (W.alloc (.cells #[.int .i64 t.1, .int .i64 t.2] 57)).drew := ⟨rfl, rfl, rfl, by simp, fun k hk => heap_alloc_old _ _ hk⟩
  have h0 : RowW (W.alloc (.cells #[.int .i64 t.1, .int .i64 t.2] 57)).drew 0 v n l := rw_same h fun g hg => b0.block g (lt_some (rw_block h hg).2.choose_spec)
  obtain ⟨v', w', h1, h2, h3, _, h5⟩ := run_append_own_at (P := Try.prog) _ 0 62 62 57 i0 _ 2 16 Try.underlying62 hi hz0 hz1 hz2 rfl (by decide) v n (flt l) h0 ⟨W.heap.size, 0, none⟩ 1 1 (ent t) rfl
    (by
      have hnew : (W.alloc (.cells #[.int .i64 t.1, .int .i64 t.2] 57)).drew.heap[W.heap.size]? = some (.cells #[.int .i64 t.1, .int .i64 t.2] 57 (0, 0)) := heap_alloc_new _ _
      intro j u hu
      match j, hu with
      | 0, hu => simp [ent] at hu; subst hu; exact one_at (i := 0) hnew
      | 1, hu => simp [ent] at hu; subst hu; rw [Addr.add_lit]; exact one_at (i := 1) hnew
      | j + 2, hu => simp [ent] at hu) (by intro u hu; simp [ent] at hu; rcases hu with rfl | rfl <;> rfl) (by unfold maxLen; omega) (by omega) (Nat.zero_le _)
  have e : flt (l ++ [t]) = flt l ++ ent t := by rw [flt_app]; simp [flt]
  have h2' : RowW w' 0 v' (n + 1) (l ++ [t]) := by unfold RowW; rw [e]; exact h2
  obtain ⟨A', c', rfl, _⟩ := rw_form h2'
  refine ⟨A', c', w', h1, h2', ⟨h3.os, h3.tape, h3.output, Nat.le_trans b0.size h3.size, fun k hk hne => (h3.block k (Nat.lt_of_lt_of_le hk b0.size) hne).trans (b0.block k hk)⟩, fun g hg => ?_⟩
  rcases h5 with h5 | h5
  · exact .inl (h5 ▸ hg)
  · rw [h5] at hg
    injection hg with hg
    have := b0.size
    omega
/-- An append whose run is known, in a region that draws. -/
theorem step_run_app {w : World} {ops : Array Oper} {o : Oper} {a : Act} {K : Act → World → Prop} {Q : Exit → Act → World → Prop} {E : Prop} {t : TypeId} (hgd : o.guard = none) (s x : Operand) (ho : o.op = .call { callee := .builtin .append, args := #[s, x], argTypes := #[t, t] }) (hty : o.type = t)
    (v0 x0 : Value) (hs : a.eval s = v0) (hx : a.eval x = x0) {v' : Value} {w' : World} (hrun : (Builtin.append_ #[t, t] t #[v0, x0]).run Try.prog w = .ok v' w') (h : K (a.put o.dst v') w') :
    if Region.wanted o (yielded ops a.tmps) = true then Oper.wp Try.prog o a w K Q else E := by
  have hw : Region.wanted o (yielded ops a.tmps) = true := by simp [Region.wanted, hgd]
  rw [if_pos hw]
  unfold Oper.wp execOp
  simp only [ho, resolve, invoke, builtin, Sem.run_bind, Sem.run_pure, Result.andThen_ok, List.map_toArray, List.map_cons, List.map_nil, hs, hx, hty, hrun]
  exact h
theorem map_nil_run (mo : Option Nat) (w : World) : (binOp .eql 63 (.map mo) (.map none)).run Try.prog w = .ok (.bool mo.isNone) w := run_eql_map_nil w _ _ _ mo Try.underlying63

/-- What a call leaves that may let the heap grow. -/
def GrTo (w : World) (h : Nat) (v : Value) (mo : Option Nat) (l' : List Tm) (w' : World) : Prop := ∃ v' mo', Hpo w' h l' v' mo' ∧ Kq (inn h v mo) w w' ∧ ∀ g, inn h v' mo' g → inn h v mo g ∨ w.heap.size ≤ g
/-- The last store of Push. -/
theorem push_last {w W w8 : World} {h m : Nat} {v : Value} {mo : Option Nat} {l : List Tm} {D : DataW Value} {t : Tm} {A : Option Addr} {c : Nat} (S : Sw w h v m (l.length + 1) l (D.put (kid t) (.held (.int .i64 (l.length : Nat)))) W) (hp : Pl D l) (nd : Nd l) (wf : ∀ u ∈ l, wfT u) (ht : wfT t) (hne : ∀ u ∈ l, u.1 ≠ t.1) (few : l.length + 1 ≤ 1000000) (hm : mo = some m ∨ w.heap.size ≤ m)
    (hr : RowW w8 0 (.slice A (l.length + 1) c) (l.length + 1) (l ++ [t])) (hg : W.grownBy w8 v.ownBlock) (hb : ∀ g, (Value.slice A (l.length + 1) c).ownBlock = some g → v.ownBlock = some g ∨ W.heap.size ≤ g) (hw : w.heap.size ≤ W.heap.size) (hbl : v.ownBlock ≠ some m) :
    GrTo w h v mo (l ++ [t]) (w8.setCell ⟨h, 0, none⟩ (.slice A (l.length + 1) c)) ∧ w8.cell? ⟨h, 0, none⟩ = some v ∧ w8.frozen? ⟨h, 0, none⟩ = false := by
  have hc : w8.heap[h]? = some (.cells #[v, .map (some m)] 65 (0, 0)) := (hg.block h (lt_some S.cells) (fun e => S.row_ne e.symm)).trans S.cells
  have hM : w8.ownsMap Try.prog 3 Rdw m (l.length + 1) (D.put (kid t) (.held (.int .i64 (l.length : Nat)))) := S.map.kept hg (fun e => hbl e.symm)
  have gs := grown_set w8 h 0 (.slice A (l.length + 1) c)
  have hhm : h ≠ m := S.map_ne S.cells
  have e1 : (l ++ [t]).length = l.length + 1 := by simp
  refine ⟨⟨.slice A (l.length + 1) c, some m, ⟨one_set hc _, ?_, .inr ⟨m, _, rfl, ?_, pl_push hp t hne⟩, ?_, fun u hu => ?_, by rw [e1]; exact few⟩, ?_, fun g hg' => ?_⟩, one_at (i := 0) hc, one_free hc⟩
  · rw [e1]
    exact rw_same hr fun g hg' => gs.block g (lt_some (rw_block hr hg').2.choose_spec) (fun e => by
      injection e with e
      rw [e] at hg'
      rcases hb h hg' with h1 | h1
      · exact S.row_ne h1
      · have := lt_some S.cells; omega)
  · rw [e1]
    exact hM.kept gs (fun e => hhm (by injection e with e; exact e.symm))
  · have := (nd_perm (List.perm_append_comm (l₁ := [t]) (l₂ := l))).1
    refine this ?_
    unfold Nd
    rw [List.map_append, List.map_cons, List.map_nil, List.singleton_append, List.nodup_cons]
    exact ⟨fun hx => by obtain ⟨u, hu, e⟩ := List.mem_map.1 hx; exact hne u hu e, nd⟩
  · rcases List.mem_append.1 hu with hu | hu
    · exact wf u hu
    · rw [List.mem_singleton] at hu
      rw [hu]
      exact ht
  · have k1 : Kq (inn h v (some m)) w w8 := S.kq.trans' (.of_grown hg fun g hg' => .inr (.inl hg'))
    have k2 : Kq (inn h v (some m)) w (w8.setCell ⟨h, 0, none⟩ (.slice A (l.length + 1) c)) := k1.trans' (.of_grown gs fun g hg' => .inl (by injection hg' with hg'; exact hg'.symm))
    refine k2.mono fun g hg' => ?_
    rcases hg' with hg' | hg' | hg'
    · exact .inl (.inl hg')
    · exact .inl (.inr (.inl hg'))
    · injection hg' with hg'
      subst hg'
      rcases hm with hm | hm
      · exact .inl (.inr (.inr hm))
      · exact .inr hm
  · rcases hg' with hg' | hg' | hg'
    · exact .inl (.inl hg')
    · rcases hb g hg' with h1 | h1
      · exact .inl (.inr (.inl h1))
      · exact .inr (by omega)
    · injection hg' with hg'
      subst hg'
      rcases hm with hm | hm
      · exact .inl (.inr (.inr hm))
      · exact .inr hm
theorem t_as (a b : Value) (w : World) : (Instr.typeAssert (.iface 57 (.agg #[a, b])) 20 57 false).run Try.prog w = .ok (.agg #[a, b]) w := by kernel_rfl

set_option maxHeartbeats 6400000 in
theorem push_some (w : World) (h : Nat) (l : List Tm) (v : Value) (mo : Option Nat) (hsome : mo ≠ none) (H : Hpo w h l v mo) (t : Tm) (ht : wfT t) (hne : ∀ u ∈ l, u.1 ≠ t.1) (few : l.length + 1 ≤ 1000000) :
    Calls Try.prog 54 #[.pointer (some ⟨h, 0, none⟩), .iface 57 (.agg #[.int .i64 t.1, .int .i64 t.2])] w fun e w' => e = .returned (.tuple #[]) ∧ GrTo w h v mo (l ++ [t]) w' := by
  obtain ⟨A, c, rfl, h1, h2, _⟩ := rw_form H.row
  obtain ⟨n, hn⟩ : ∃ z, z = l.length := ⟨_, rfl⟩
  obtain ⟨v, hv⟩ : ∃ z, z = Value.slice A n c := ⟨_, rfl⟩
  rw [← hn, ← hv] at H
  rw [← hn] at h1
  obtain ⟨a, ha⟩ : ∃ z, z = t.1 := ⟨_, rfl⟩
  obtain ⟨b, hb⟩ : ∃ z, z = t.2 := ⟨_, rfl⟩
  have c0 : w.cell? ⟨h, 0, none⟩ = some (.slice A n c) := by rw [← hv]; exact one_at (i := 0) H.cells
  have c1 : w.cell? ⟨h, 1, none⟩ = some (.map mo) := one_at (i := 1) H.cells
  have i2 : (0 : Int) ≤ (n : Int) := by omega
  have i3 : (n : Int) ≤ 1000000 := by omega
  have hrt : Hid (∀ g, v.ownBlock = some g → g < w.heap.size) := fun g hg => H.lt g (.inr (.inl hg))
  obtain ⟨q, hq⟩ : ∃ z, z = w.heap.size := ⟨_, rfl⟩
  obtain ⟨Wa, hWa⟩ : ∃ z, z = w.alloc (.cells #[.int .i64 a, .int .i64 b] 57) := ⟨_, rfl⟩
  have ba : Below w.heap.size w Wa := by rw [hWa]; exact (Below.refl _ _).alloc (Nat.le_refl _) _
  have ta : Wa.heap[q]? = some (.cells #[.int .i64 a, .int .i64 b] 57 (0, 0)) := by rw [hWa, hq]; exact heap_alloc_new _ _
  have TA := t_as
  have K := key_any
  have mk := m_key
  obtain ⟨m, D, rfl, S0, hpl⟩ : ∃ m D, mo = some m ∧ Sw w h v m l.length l D w ∧ Pl D l := by
    rcases H.map with ⟨e0, _⟩ | ⟨m, D, e, hM, hp⟩
    · exact absurd e0 hsome
    · subst e
      exact ⟨m, D, rfl, ⟨H.cells, H.row, hM, Kq.refl _ _⟩, hp⟩
  have hrm : Hid (v.ownBlock ≠ some m) := fun e => H.row_map e rfl
  have hqm : Hid (q ≠ m) := by have := H.lt m (.inr (.inr rfl)); show _ ≠ _; omega
  have Sc : Hid (Sw w h v m n l D Wa) := by rw [hn]; exact S0.below ba
  have tc := Lib.hid ta
  replace hpl := Lib.hid hpl
  clear S0
  have hwt : Hid (∀ u ∈ l, wfT u) := H.wf
  have hnd : Hid (Nd l) := H.nd
  replace ht := Lib.hid ht
  replace hne := Lib.hid hne
  replace few := Lib.hid few
  replace ha := Lib.hid ha
  replace hb := Lib.hid hb
  replace hn := Lib.hid hn
  replace hq := Lib.hid hq
  replace hWa := Lib.hid hWa
  have ca0 : Wa.cell? ⟨h, 0, none⟩ = some (.slice A n c) := (World.cell?_of_block (ba.block h (H.lt h (.inl rfl)))).trans c0
  have ca1 : Wa.cell? ⟨h, 1, none⟩ = some (.map (some m)) := (World.cell?_of_block (ba.block h (H.lt h (.inl rfl)))).trans c1
  have NR := map_nil_run (some m)
  replace hv := Lib.hid hv
  clear H c0 c1 ba ta h1
  rw [← ha.out, ← hb.out]
  go_enter Try.func54, Try.ntmps54
  go_upto_region 1 with fail
  rw [← hWa.out, ← hq.out]
  simp only [Option.isNone] at NR
  go_wp2_with fail
  clear ca0 ca1 NR hWa TA
  -- the place
  have U : Hid (∀ W, Sw w h v m n l D W → ∃ W', (Instr.mapUpdate 63 (.map (some m)) (.int .i64 a) (.int .i64 n)).run Try.prog W = .ok () W' ∧ Sw w h v m (n + 1) l (D.put (kid t) (.held (.int .i64 n))) W' ∧ (∀ g, g < W.heap.size → g ≠ m → W'.heap[g]? = W.heap[g]?)) := fun W S => by
    obtain ⟨W', hrun, hM, g⟩ := S.map.update law Try.underlying63 (by unfold maxLen; omega) (wf_key ht.out) (val := .int .i64 n) (d := .held (.int .i64 n)) (ps := []) rfl
    rw [ha.out]
    exact ⟨W', hrun, ⟨(g.block h (lt_some S.cells) (fun e => S.map_ne S.cells (by injection e))).trans S.cells, rw_same S.row (fun k hk => by
        obtain ⟨_, cur, hc⟩ := rw_block S.row hk
        exact g.block k (lt_some hc) (fun e => S.map_ne hc (by injection e))), hM, S.kq.trans' (.of_grown g fun k hk => Or.inr (Or.inr hk))⟩, fun k h1 h2 => g.block k h1 (fun e => h2 (by injection e))⟩
  have CC : Hid (∀ nn D W, Sw w h v m nn l D W → W.heap[q]? = some (.cells #[.int .i64 a, .int .i64 b] 57 (0, 0)) → W.cell? ⟨h, 0, none⟩ = some (.slice A n c) ∧ W.cell? ⟨h, 1, none⟩ = some (.map (some m)) ∧ W.cell? ⟨q, 0, none⟩ = some (.int .i64 a) ∧ W.cell? ⟨q, 1, none⟩ = some (.int .i64 b)) := fun nn D W S T => by
    rw [← hv.out]
    exact ⟨one_at (i := 0) S.cells, one_at (i := 1) S.cells, one_at (i := 0) T, one_at (i := 1) T⟩
  have LN : Hid (∀ W : World, W.cell? ⟨h, 0, none⟩ = some (.slice A n c) → Calls Try.prog 41 #[.pointer (some ⟨h, 0, none⟩)] W fun e w' => e = .returned (.int .i64 n) ∧ W = w') := fun W hc => len_cell W h A n c hc
  obtain ⟨s1, s2, s3, s4⟩ := CC.out _ _ _ Sc.out tc.out
  go_region_held3 (fun w' => w'.cell? ⟨h, 0, none⟩ = some (.slice A n c) ∧ w'.cell? ⟨h, 1, none⟩ = some (.map (some m)) ∧ w'.cell? ⟨q, 0, none⟩ = some (.int .i64 a) ∧ w'.cell? ⟨q, 1, none⟩ = some (.int .i64 b)) (first | assumption | exact ⟨s1, s2, s3, s4⟩ | go_keep)
    ((first
      | (go_at_call 40; refine (K _ _ _).mono ?_; rintro e w6 ⟨rfl, hb6⟩; have S6 := Sw.below (W' := w6) (Sw.drew Sc.out) hb6; have t6 : w6.heap[q]? = some (.cells #[.int .i64 a, .int .i64 b] 57 (0, 0)) := (hb6.block q (lt_some tc.out)).trans tc.out; obtain ⟨w7, hrun, S7, g7⟩ := U.out w6 S6; have t7 : w7.heap[q]? = some (.cells #[.int .i64 a, .int .i64 b] 57 (0, 0)) := (g7 q (lt_some t6) hqm.out).trans t6; have p6 := CC.out _ _ _ S6 t6; obtain ⟨p1, p2, p3, p4⟩ := p6; have p7 := CC.out _ _ _ S7 t7; obtain ⟨r1, r2, r3, r4⟩ := p7; clear S6 hb6 g7 t6)
      | (go_at_call 41; refine (LN.out _ (by first | assumption | exact s1)).mono ?_; rintro e w5 ⟨rfl, rfl⟩)))
  all_goals
    clear hrun s1 s2 s3 s4 p1 p2 p3 p4 r1 r2 r3 r4 Sc tc U LN K mk
    obtain ⟨A8, c8, w8, hrun8, row8, g8, own8⟩ := rw_push (W := w7) (n := n) (by rw [hn.out]; exact S7.row) hn.out.symm (by omega) t
    obtain ⟨E8, k8, f8⟩ := push_last (mo := (some m)) (by rw [← hn.out]; exact S7) hpl.out hnd.out hwt.out ht.out hne.out few.out (.inl rfl) (by rw [← hn.out]; exact row8) g8 (by rw [← hn.out]; exact own8) S7.kq.size hrm.out
    obtain ⟨x1, x2, x3, x4⟩ := CC.out _ _ _ S7 t7
    have x5 : h < w7.heap.size := lt_some S7.cells
    have x6 : q < w7.heap.size := lt_some t7
    rw [← hn.out] at E8
    replace E8 := Lib.hid E8
    rw [← ha.out, ← hb.out, hv.out] at hrun8
    rw [hv.out] at k8
    clear row8 g8 own8 S7 t7 CC hpl hnd hwt ht hne few hrm
    go_wp2_with fail
    go_region_law (first
      | (refine step_run_app rfl (.tmp 29) (.tmp 31) rfl rfl (.slice A n c) (.slice (some ⟨w7.heap.size, 0, none⟩) 1 1) rfl rfl hrun8 ?_))
    all_goals
      go_wp2
      go_end0
      refine ⟨rfl, ?_⟩
      rw [← hn.out, ← hv.out]
      exact E8.out

set_option maxHeartbeats 6400000 in
theorem push_none (w : World) (h : Nat) (l : List Tm) (v : Value) (H : Hpo w h l v none) (t : Tm) (ht : wfT t) (hne : ∀ u ∈ l, u.1 ≠ t.1) (few : l.length + 1 ≤ 1000000) :
    Calls Try.prog 54 #[.pointer (some ⟨h, 0, none⟩), .iface 57 (.agg #[.int .i64 t.1, .int .i64 t.2])] w fun e w' => e = .returned (.tuple #[]) ∧ GrTo w h v none (l ++ [t]) w' := by
  obtain ⟨A, c, rfl, h1, h2, _⟩ := rw_form H.row
  obtain ⟨n, hn⟩ : ∃ z, z = l.length := ⟨_, rfl⟩
  obtain ⟨v, hv⟩ : ∃ z, z = Value.slice A n c := ⟨_, rfl⟩
  rw [← hn, ← hv] at H
  rw [← hn] at h1
  obtain ⟨a, ha⟩ : ∃ z, z = t.1 := ⟨_, rfl⟩
  obtain ⟨b, hb⟩ : ∃ z, z = t.2 := ⟨_, rfl⟩
  have c0 : w.cell? ⟨h, 0, none⟩ = some (.slice A n c) := by rw [← hv]; exact one_at (i := 0) H.cells
  have c1 : w.cell? ⟨h, 1, none⟩ = some (.map none) := one_at (i := 1) H.cells
  have i2 : (0 : Int) ≤ (n : Int) := by omega
  have i3 : (n : Int) ≤ 1000000 := by omega
  have hrt : Hid (∀ g, v.ownBlock = some g → g < w.heap.size) := fun g hg => H.lt g (.inr (.inl hg))
  obtain ⟨q, hq⟩ : ∃ z, z = w.heap.size := ⟨_, rfl⟩
  obtain ⟨Wa, hWa⟩ : ∃ z, z = w.alloc (.cells #[.int .i64 a, .int .i64 b] 57) := ⟨_, rfl⟩
  have ba : Below w.heap.size w Wa := by rw [hWa]; exact (Below.refl _ _).alloc (Nat.le_refl _) _
  have ta : Wa.heap[q]? = some (.cells #[.int .i64 a, .int .i64 b] 57 (0, 0)) := by rw [hWa, hq]; exact heap_alloc_new _ _
  have TA := t_as
  have K := key_any
  have mk := m_key
  have hl0 : l = [] := by
    rcases H.map with ⟨_, e⟩ | ⟨m, D, e, _⟩
    · exact e
    · cases e
  obtain ⟨m, hm⟩ : ∃ z, z = q + 1 := ⟨_, rfl⟩
  obtain ⟨D, hD⟩ : ∃ z : DataW Value, z = .map [] := ⟨_, rfl⟩
  have hpl : Hid (Pl D l) := by rw [hD, hl0]; exact pl_nil
  have hmo : Hid (w.heap.size ≤ m) := by show _ ≤ _; omega
  have hrm : Hid (v.ownBlock ≠ some m) := fun e => by have := hrt.out _ e; omega
  have hqm : Hid (q ≠ m) := by show _ ≠ _; omega
  have za : Wa.heap.size = m := by rw [hWa, hm, hq]; simp
  have bb : Below Wa.heap.size Wa (Wa.alloc (.map #[] 0)) := (Below.refl _ _).alloc (Nat.le_refl _) _
  obtain ⟨Wb, hWb⟩ : ∃ z, z = Wa.alloc (.map #[] 0) := ⟨_, rfl⟩
  rw [← hWb] at bb
  have hh : h < w.heap.size := H.lt h (.inl rfl)
  have hbh : Wb.heap[h]? = some (.cells #[v, .map none] 65 (0, 0)) := (bb.block h (by have := ba.size; omega)).trans ((ba.block h hh).trans H.cells)
  have mb : Wb.ownsMap Try.prog 3 Rdw m 0 D := by rw [hWb, hD, ← za]; exact World.ownsMap_made _ _ _ _
  obtain ⟨Wc, hWc⟩ : ∃ z, z = Wb.setCell ⟨h, 1, none⟩ (.map (some m)) := ⟨_, rfl⟩
  have gc : Wb.grownBy Wc (some h) := by rw [hWc]; exact grown_set _ _ _ _
  have bab : Below w.heap.size w Wb := ba.trans (bb.mono ba.size)
  have Sc : Hid (Sw w h v m n l D Wc) :=
    ⟨by rw [hWc]; exact one_set hbh (.map (some m)), rw_same H.row (fun k hk => (gc.block k (by have := hrt.out k hk; have := bab.size; omega) (fun e => H.row_ne (by injection e with e; rw [← e]; exact hk))).trans (bab.block k (hrt.out k hk))),
      by rw [hn, hl0]; exact mb.kept gc (fun e => by injection e with e; omega), (Kq.of_below bab).trans' (.of_grown gc fun k hk => .inl (by injection hk with hk; exact hk.symm))⟩
  have tc : Hid (Wc.heap[q]? = some (.cells #[.int .i64 a, .int .i64 b] 57 (0, 0))) := (gc.block q (by have := lt_some ta; have := bb.size; omega) (fun e => by injection e with e; omega)).trans ((bb.block q (lt_some ta)).trans ta)
  have cb1 : Wb.cell? ⟨h, 1, none⟩ = some (.map none) := one_at (i := 1) hbh
  have fb1 : Wb.frozen? ⟨h, 1, none⟩ = false := one_free hbh
  have MM : (Instr.makeMap 63 none).run Try.prog Wa = .ok (.map (some m)) Wb := by rw [hWb, ← za]; exact run_makeMap _ _
  replace hWb := Lib.hid hWb
  replace hWc := Lib.hid hWc
  replace za := Lib.hid za
  replace hm := Lib.hid hm
  replace hD := Lib.hid hD
  clear bb hh hbh mb gc bab hl0
  have hwt : Hid (∀ u ∈ l, wfT u) := H.wf
  have hnd : Hid (Nd l) := H.nd
  replace ht := Lib.hid ht
  replace hne := Lib.hid hne
  replace few := Lib.hid few
  replace ha := Lib.hid ha
  replace hb := Lib.hid hb
  replace hn := Lib.hid hn
  replace hq := Lib.hid hq
  replace hWa := Lib.hid hWa
  have ca0 : Wa.cell? ⟨h, 0, none⟩ = some (.slice A n c) := (World.cell?_of_block (ba.block h (H.lt h (.inl rfl)))).trans c0
  have ca1 : Wa.cell? ⟨h, 1, none⟩ = some (.map none) := (World.cell?_of_block (ba.block h (H.lt h (.inl rfl)))).trans c1
  have NR := map_nil_run none
  replace hv := Lib.hid hv
  clear H c0 c1 ba ta h1
  rw [← ha.out, ← hb.out]
  go_enter Try.func54, Try.ntmps54
  go_upto_region 1 with fail
  rw [← hWa.out, ← hq.out]
  simp only [Option.isNone] at NR
  go_upto_region 3 with fail
  rw [← hWc.out]
  clear hWc cb1 fb1 MM
  clear ca0 ca1 NR hWa TA
  -- the place
  have U : Hid (∀ W, Sw w h v m n l D W → ∃ W', (Instr.mapUpdate 63 (.map (some m)) (.int .i64 a) (.int .i64 n)).run Try.prog W = .ok () W' ∧ Sw w h v m (n + 1) l (D.put (kid t) (.held (.int .i64 n))) W' ∧ (∀ g, g < W.heap.size → g ≠ m → W'.heap[g]? = W.heap[g]?)) := fun W S => by
    obtain ⟨W', hrun, hM, g⟩ := S.map.update law Try.underlying63 (by unfold maxLen; omega) (wf_key ht.out) (val := .int .i64 n) (d := .held (.int .i64 n)) (ps := []) rfl
    rw [ha.out]
    exact ⟨W', hrun, ⟨(g.block h (lt_some S.cells) (fun e => S.map_ne S.cells (by injection e))).trans S.cells, rw_same S.row (fun k hk => by
        obtain ⟨_, cur, hc⟩ := rw_block S.row hk
        exact g.block k (lt_some hc) (fun e => S.map_ne hc (by injection e))), hM, S.kq.trans' (.of_grown g fun k hk => Or.inr (Or.inr hk))⟩, fun k h1 h2 => g.block k h1 (fun e => h2 (by injection e))⟩
  have CC : Hid (∀ nn D W, Sw w h v m nn l D W → W.heap[q]? = some (.cells #[.int .i64 a, .int .i64 b] 57 (0, 0)) → W.cell? ⟨h, 0, none⟩ = some (.slice A n c) ∧ W.cell? ⟨h, 1, none⟩ = some (.map (some m)) ∧ W.cell? ⟨q, 0, none⟩ = some (.int .i64 a) ∧ W.cell? ⟨q, 1, none⟩ = some (.int .i64 b)) := fun nn D W S T => by
    rw [← hv.out]
    exact ⟨one_at (i := 0) S.cells, one_at (i := 1) S.cells, one_at (i := 0) T, one_at (i := 1) T⟩
  have LN : Hid (∀ W : World, W.cell? ⟨h, 0, none⟩ = some (.slice A n c) → Calls Try.prog 41 #[.pointer (some ⟨h, 0, none⟩)] W fun e w' => e = .returned (.int .i64 n) ∧ W = w') := fun W hc => len_cell W h A n c hc
  obtain ⟨s1, s2, s3, s4⟩ := CC.out _ _ _ Sc.out tc.out
  go_region_held3 (fun w' => w'.cell? ⟨h, 0, none⟩ = some (.slice A n c) ∧ w'.cell? ⟨h, 1, none⟩ = some (.map (some m)) ∧ w'.cell? ⟨q, 0, none⟩ = some (.int .i64 a) ∧ w'.cell? ⟨q, 1, none⟩ = some (.int .i64 b)) (first | assumption | exact ⟨s1, s2, s3, s4⟩ | go_keep)
    ((first
      | (go_at_call 40; refine (K _ _ _).mono ?_; rintro e w6 ⟨rfl, hb6⟩; have S6 := Sw.below (W' := w6) (Sw.drew Sc.out) hb6; have t6 : w6.heap[q]? = some (.cells #[.int .i64 a, .int .i64 b] 57 (0, 0)) := (hb6.block q (lt_some tc.out)).trans tc.out; obtain ⟨w7, hrun, S7, g7⟩ := U.out w6 S6; have t7 : w7.heap[q]? = some (.cells #[.int .i64 a, .int .i64 b] 57 (0, 0)) := (g7 q (lt_some t6) hqm.out).trans t6; have p6 := CC.out _ _ _ S6 t6; obtain ⟨p1, p2, p3, p4⟩ := p6; have p7 := CC.out _ _ _ S7 t7; obtain ⟨r1, r2, r3, r4⟩ := p7; clear S6 hb6 g7 t6)
      | (go_at_call 41; refine (LN.out _ (by first | assumption | exact s1)).mono ?_; rintro e w5 ⟨rfl, rfl⟩)))
  all_goals
    clear hrun s1 s2 s3 s4 p1 p2 p3 p4 r1 r2 r3 r4 Sc tc U LN K mk
    obtain ⟨A8, c8, w8, hrun8, row8, g8, own8⟩ := rw_push (W := w7) (n := n) (by rw [hn.out]; exact S7.row) hn.out.symm (by omega) t
    obtain ⟨E8, k8, f8⟩ := push_last (mo := none) (by rw [← hn.out]; exact S7) hpl.out hnd.out hwt.out ht.out hne.out few.out (.inr hmo.out) (by rw [← hn.out]; exact row8) g8 (by rw [← hn.out]; exact own8) S7.kq.size hrm.out
    obtain ⟨x1, x2, x3, x4⟩ := CC.out _ _ _ S7 t7
    have x5 : h < w7.heap.size := lt_some S7.cells
    have x6 : q < w7.heap.size := lt_some t7
    rw [← hn.out] at E8
    replace E8 := Lib.hid E8
    rw [← ha.out, ← hb.out, hv.out] at hrun8
    rw [hv.out] at k8
    clear row8 g8 own8 S7 t7 CC hpl hnd hwt ht hne few hmo hrm
    go_wp2_with fail
    go_region_law (first
      | (refine step_run_app rfl (.tmp 29) (.tmp 31) rfl rfl (.slice A n c) (.slice (some ⟨w7.heap.size, 0, none⟩) 1 1) rfl rfl hrun8 ?_))
    all_goals
      go_wp2
      go_end0
      refine ⟨rfl, ?_⟩
      rw [← hn.out, ← hv.out]
      exact E8.out
end Wh
end Go.Proofs.Ytnfakkinaockiaa
