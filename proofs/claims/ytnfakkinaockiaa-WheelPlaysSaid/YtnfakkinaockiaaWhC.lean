/- Less, Swap of a heap of timers. -/
import Derived.Test.YtnfakkinaockiaaWhB
import Derived.Deep.RegionHeld3
namespace Go.Proofs.Ytnfakkinaockiaa
set_option maxRecDepth 100000
open Go.RowKit
open Go.Sort (grow)
open Go.Proofs.Ytnfakkinaockiaa.Pk (one_at one_free one_set lt_some grown_set grown_trans below_grown grown_refl)
namespace Wh

set_option maxHeartbeats 800000 in
theorem less_any (w : World) (h : Nat) (l : List Tm) (v : Value) (mo : Option Nat) (H : Hpo w h l v mo) (i j : Nat) (hi : i < l.length) (hj : j < l.length) :
    Calls Try.prog 52 #[.pointer (some ⟨h, 0, none⟩), .int .i64 i, .int .i64 j] w fun e w' => e = .returned (.bool (decide (tlt (gt l i) (gt l j)))) ∧ Below w.heap.size w w' := by
  have c0 : w.cell? ⟨h, 0, none⟩ = some v := one_at (i := 0) H.cells
  obtain ⟨g, c, rfl, h1, h2⟩ := rw_some H.row (by omega)
  obtain ⟨a1, a2⟩ := rw_cell H.row hi
  obtain ⟨b1, b2⟩ := rw_cell H.row hj
  have few := H.few
  have C := fun d os => Calls.regrown_of (before_any (grow (redrawn w d) os) (gt l i) (gt l j))
  generalize l.length = n at c0 hi hj few h1
  generalize decide (tlt (gt l i) (gt l j)) = r at C ⊢
  obtain ⟨p, q⟩ := gt l i
  obtain ⟨p2, q2⟩ := gt l j
  try simp only at a1 a2 b1 b2
  try simp only at C
  clear H
  have i1 : (i : Int) < (n : Int) := by omega
  have i2 : (j : Int) < (n : Int) := by omega
  have i3 : (n : Int) ≤ 1000000 := by omega
  have i4 : (0 : Int) ≤ (i : Int) := by omega
  have i5 : (0 : Int) ≤ (j : Int) := by omega
  go_enter Try.func52, Try.ntmps52
  have z0 := cell_regrown c0
  have z1 := cell_regrown a1
  have z2 := cell_regrown a2
  have z3 := cell_regrown b1
  have z4 := cell_regrown b2
  clear c0 a1 a2 b1 b2
  go_wp2_with fail
  refine wp_region_quiet_below (by kernel_rfl) (by kernel_rfl) ?_
  have m0 := m_before
  repeat (go_big_quiet_step (with_reducible exact C _ _))
  refine wpQuiet_nil ?_
  intro w2 hw'
  obtain ⟨⟨dq, osq⟩, hw2⟩ := hw'
  have be : Hid (Below w.heap.size w w2) := by rw [hw2]; exact below_regrown w dq osq
  clear hw2 C z0 z1 z2 z3 z4 m0
  go_wp2
  go_ret
  exact ⟨rfl, be.out⟩

/-- A heap on whose row and places one works. -/
structure Sw (w : World) (h : Nat) (v : Value) (m nn : Nat) (l : List Tm) (D : DataW Value) (W : World) : Prop where
  cells : W.heap[h]? = some (.cells #[v, .map (some m)] 65 (0, 0))
  row : RowW W 0 v l.length l
  map : W.ownsMap Try.prog 3 Rdw m nn D
  kq : Kq (inn h v (some m)) w W
section
variable {w W W' : World} {h m nn : Nat} {v : Value} {l : List Tm} {D : DataW Value}
theorem Sw.map_ne (S : Sw w h v m nn l D W) {g : Nat} {cs : Array Value} {t : TypeId} {fr : Nat × Nat} (hg : W.heap[g]? = some (.cells cs t fr)) : g ≠ m := by
  rintro rfl
  obtain ⟨es, clock, hb, _⟩ := S.map
  rw [hb] at hg
  injection hg with hg
  cases hg
theorem Sw.row_ne (S : Sw w h v m nn l D W) : v.ownBlock ≠ some h := fun e => by
  obtain ⟨_, cur, hc⟩ := rw_block S.row e
  have := S.cells
  rw [hc] at this
  injection this with this
  injection this with _ e
  exact absurd e (by decide)
theorem Sw.keep (S : Sw w h v m nn l D W) (hk : ∀ g, inn h v (some m) g → W'.heap[g]? = W.heap[g]?) (kq : Kq (inn h v (some m)) w W') : Sw w h v m nn l D W' := by
  refine ⟨(hk h (.inl rfl)).trans S.cells, rw_same S.row fun g hg => hk g (.inr (.inl hg)), ?_, kq⟩
  obtain ⟨es, clock, hb, r⟩ := S.map
  exact ⟨es, clock, (hk m (.inr (.inr rfl))).trans hb, r⟩
theorem Sw.lt (S : Sw w h v m nn l D W) : ∀ g, inn h v (some m) g → g < W.heap.size := by
  rintro g (rfl | hg | hg)
  · exact lt_some S.cells
  · exact lt_some (rw_block S.row hg).2.choose_spec
  · injection hg with hg
    subst hg
    exact S.map.lt
theorem Sw.below (S : Sw w h v m nn l D W) (hb : Below W.heap.size W W') : Sw w h v m nn l D W' := S.keep (fun g hg => hb.block g (S.lt g hg)) (S.kq.trans' (.of_below hb))
theorem Sw.drew (S : Sw w h v m nn l D W) : Sw w h v m nn l D W.drew := ⟨S.cells, S.row, S.map, ⟨S.kq.os, S.kq.tape, S.kq.output, S.kq.size, S.kq.block⟩⟩
theorem Sw.upd (S : Sw w h v m nn l D W) (hn : nn ≤ 2000000) {t : Tm} (ht : wfT t) (x : Nat) : ∃ W', (Instr.mapUpdate 63 (.map (some m)) (.int .i64 t.1) (.int .i64 x)).run Try.prog W = .ok () W' ∧ Sw w h v m (nn + 1) l (D.put (kid t) (.held (.int .i64 x))) W' := by
  obtain ⟨W', hrun, hM, g⟩ := S.map.update law Try.underlying63 (by unfold maxLen; omega) (wf_key ht) (val := .int .i64 x) (d := .held (.int .i64 x)) (ps := []) rfl
  refine ⟨W', hrun, (g.block h (lt_some S.cells) (fun e => S.map_ne S.cells (by injection e))).trans S.cells, rw_same S.row (fun k hk => ?_), hM, S.kq.trans' (.of_grown g fun k hk => Or.inr (Or.inr hk))⟩
  · obtain ⟨_, cur, hc⟩ := rw_block S.row hk
    exact g.block k (lt_some hc) (fun e => S.map_ne hc (by injection e))
theorem Hpo.sw {mo : Option Nat} (H : Hpo w h l v mo) (hl : 0 < l.length) : ∃ m D, mo = some m ∧ Sw w h v m l.length l D w ∧ Pl D l := by
  rcases H.map with ⟨_, e⟩ | ⟨m, D, e, hM, hp⟩
  · rw [e] at hl
    simp at hl
  · subst e
    exact ⟨m, D, rfl, ⟨H.cells, H.row, hM, Kq.refl _ _⟩, hp⟩
theorem Sw.hpo (S : Sw w h v m nn l D W) (hp : Pl D l) (nd : Nd l) (wf : ∀ t ∈ l, wfT t) (few : l.length ≤ 1000000) : Hpo W h l v (some m) := ⟨S.cells, S.row, .inr ⟨m, D, rfl, tight S.map hp, hp⟩, nd, wf, few⟩
end
set_option maxHeartbeats 1600000 in
theorem swap_any (w : World) (h : Nat) (l : List Tm) (v : Value) (mo : Option Nat) (H : Hpo w h l v mo) (i j : Nat) (hi : i < l.length) (hj : j < l.length) (hne : i ≠ j) :
    Calls Try.prog 55 #[.pointer (some ⟨h, 0, none⟩), .int .i64 i, .int .i64 j] w fun e w' => e = .returned (.tuple #[]) ∧ Hpo w' h (swp i j l) v mo ∧ Kq (inn h v mo) w w' := by
  obtain ⟨m, D, rfl, S0, hpl⟩ := H.sw (by omega)
  have few := H.few
  have c0 : w.cell? ⟨h, 0, none⟩ = some v := one_at (i := 0) H.cells
  obtain ⟨g, c, rfl, h1, h2⟩ := rw_some H.row (by omega)
  obtain ⟨a1, a2⟩ := rw_cell H.row hi
  obtain ⟨b1, b2⟩ := rw_cell H.row hj
  have f0 := fun k => H.row.frozenAt k
  -- the row stored
  obtain ⟨r1, g1⟩ := rw_store (i := i) H.row (gt l j)
  have r1' := r1
  rw [show l.length = (l.set i (gt l j)).length by simp] at r1'
  obtain ⟨r2, g2⟩ := rw_store (i := j) r1' (gt l i)
  rw [show (l.set i (gt l j)).length = (swp i j l).length by simp [swp]] at r2
  have hG0 := grown_trans g1 g2
  obtain ⟨X, hX⟩ : ∃ X, X = ((((w.setCell ⟨g, i * 2, none⟩ (.int .i64 (gt l j).1)).setCell ⟨g, i * 2 + 1, none⟩ (.int .i64 (gt l j).2)).setCell ⟨g, j * 2, none⟩ (.int .i64 (gt l i).1)).setCell ⟨g, j * 2 + 1, none⟩ (.int .i64 (gt l i).2)) := ⟨_, rfl⟩
  rw [← hX] at hG0 r2
  have hG : w.grownBy X.drew (some g) := ⟨hG0.os, hG0.tape, hG0.output, hG0.size, hG0.block⟩
  have hgh : g ≠ h := fun e => H.row_ne (by rw [← e]; rfl)
  have S1 : Sw w h (.slice (some ⟨g, 0, none⟩) l.length c) m l.length (swp i j l) D X.drew :=
    ⟨(hG.block h (lt_some H.cells) (fun e => hgh (by injection e with e; exact e.symm))).trans H.cells, by rw [show l.length = (swp i j l).length by simp [swp]]; exact r2,
      S0.map.kept hG (fun e => H.row_map (g := g) rfl e), .of_grown hG (fun k hk => .inr (.inl hk))⟩
  have S1h := Lib.hid S1
  obtain ⟨W1, hW1⟩ : ∃ W1, W1 = X.drew := ⟨_, rfl⟩
  rw [← hW1] at S1h
  rw [hX] at hW1
  clear hX
  have few' : Hid (l.length ≤ 1000000) := few
  have nd' : Hid (Nd l) := H.nd
  have wf' : Hid (∀ t ∈ l, wfT t) := H.wf
  have hpl' := Lib.hid hpl
  have n1 : i * 2 ≠ j * 2 := by omega
  have n2 : i * 2 ≠ j * 2 + 1 := by omega
  have n3 : i * 2 + 1 ≠ j * 2 := by omega
  have n4 : i * 2 + 1 ≠ j * 2 + 1 := by omega
  have f1 := f0 (i * 2)
  have f2 := f0 (i * 2 + 1)
  have f3 := f0 (j * 2)
  have f4 := f0 (j * 2 + 1)
  obtain ⟨n, hn⟩ : ∃ n, n = l.length := ⟨_, rfl⟩
  have i1 : (i : Int) < (n : Int) := by omega
  have i2 : (j : Int) < (n : Int) := by omega
  have i3 : (n : Int) ≤ 1000000 := by omega
  have i4 : (0 : Int) ≤ (i : Int) := by omega
  have i5 : (0 : Int) ≤ (j : Int) := by omega
  rw [← hn] at c0 h1 hi hj
  have hn' := Lib.hid hn
  obtain ⟨x1, hx1⟩ : ∃ z, z = (gt l i).1 := ⟨_, rfl⟩
  obtain ⟨x2, hx2⟩ : ∃ z, z = (gt l i).2 := ⟨_, rfl⟩
  obtain ⟨y1, hy1⟩ : ∃ z, z = (gt l j).1 := ⟨_, rfl⟩
  obtain ⟨y2, hy2⟩ : ∃ z, z = (gt l j).2 := ⟨_, rfl⟩
  rw [← hx1] at a1
  rw [← hx2] at a2
  rw [← hy1] at b1
  rw [← hy2] at b2
  rw [← hx1, ← hx2, ← hy1, ← hy2] at hW1
  replace hx1 := Lib.hid hx1
  replace hx2 := Lib.hid hx2
  replace hy1 := Lib.hid hy1
  replace hy2 := Lib.hid hy2
  replace hW1 := Lib.hid hW1
  clear r1 r1' r2 g1 g2 hG hG0 S1 S0 hpl few f0 H hn hgh
  go_enter Try.func55, Try.ntmps55
  go_wp2_with fail
  go_region
  rw [← hW1.out]
  clear c0 a1 a2 b1 b2 f1 f2 f3 f4 n1 n2 n3 n4 hW1
  have K := key_any
  have mk := m_key
  -- the first place
  have U1 : Hid (∀ W, Sw w h (.slice (some ⟨g, 0, none⟩) n c) m n (swp i j l) D W → ∃ W', (Instr.mapUpdate 63 (.map (some m)) (.int .i64 y1) (.int .i64 i)).run Try.prog W = .ok () W' ∧ Sw w h (.slice (some ⟨g, 0, none⟩) n c) m (n + 1) (swp i j l) (D.put (kid (gt l j)) (.held (.int .i64 i))) W') := fun W S => by
    rw [hy1.out]
    exact S.upd (by omega) (wf'.out _ (gt_mem (by rw [← hn'.out]; exact hj))) i
  have U2 : Hid (∀ D W, Sw w h (.slice (some ⟨g, 0, none⟩) n c) m (n + 1) (swp i j l) D W → ∃ W', (Instr.mapUpdate 63 (.map (some m)) (.int .i64 x1) (.int .i64 j)).run Try.prog W = .ok () W' ∧ Sw w h (.slice (some ⟨g, 0, none⟩) n c) m (n + 2) (swp i j l) (D.put (kid (gt l i)) (.held (.int .i64 j))) W') := fun D W S => by
    rw [hx1.out]
    exact S.upd (by omega) (wf'.out _ (gt_mem (by rw [← hn'.out]; exact hi))) j
  have CC : Hid (∀ nn D W, Sw w h (.slice (some ⟨g, 0, none⟩) n c) m nn (swp i j l) D W → W.cell? ⟨h, 0, none⟩ = some (.slice (some ⟨g, 0, none⟩) n c) ∧ W.cell? ⟨h, 1, none⟩ = some (.map (some m)) ∧ W.cell? ⟨g, i * 2, none⟩ = some (.int .i64 y1) ∧ W.cell? ⟨g, i * 2 + 1, none⟩ = some (.int .i64 y2) ∧ W.cell? ⟨g, j * 2, none⟩ = some (.int .i64 x1) ∧ W.cell? ⟨g, j * 2 + 1, none⟩ = some (.int .i64 x2)) := fun nn D W S => by
    have e0 : n = (swp i j l).length := by rw [hn'.out]; simp [swp]
    have r := S.row
    rw [e0] at r
    obtain ⟨d1, d2⟩ := rw_cell r (i := i) (by rw [← e0]; exact hi)
    obtain ⟨d3, d4⟩ := rw_cell r (i := j) (by rw [← e0]; exact hj)
    rw [gt_swp (by rw [← hn'.out]; exact hi) (by rw [← hn'.out]; exact hj)] at d1 d2 d3 d4
    rw [if_neg hne, if_pos rfl] at d1 d2
    rw [if_pos rfl] at d3 d4
    rw [hx1.out, hx2.out, hy1.out, hy2.out]
    exact ⟨one_at (i := 0) S.cells, one_at (i := 1) S.cells, d1, d2, d3, d4⟩
  rw [← hn'.out] at S1h
  have s0 := CC.out _ _ _ S1h.out
  obtain ⟨s1, s2, s3, s4, s5, s6⟩ := s0
  go_wp2_with fail
  go_region_held3 (fun w' => w'.cell? ⟨h, 0, none⟩ = some (.slice (some ⟨g, 0, none⟩) n c) ∧ w'.cell? ⟨h, 1, none⟩ = some (.map (some m)) ∧ w'.cell? ⟨g, i * 2, none⟩ = some (.int .i64 y1) ∧ w'.cell? ⟨g, i * 2 + 1, none⟩ = some (.int .i64 y2)) (first | assumption | exact ⟨s1, s2, s3, s4⟩ | go_keep)
    ((first
      | (go_at_call 40; refine (K _ _ _).mono ?_; rintro e w6 ⟨rfl, hb⟩; have S6 := Sw.below (W' := w6) (Sw.drew S1h.out) hb; obtain ⟨w7, hrun, S7⟩ := U1.out w6 S6; obtain ⟨s1, s2, s3, s4, s5, s6⟩ := CC.out _ _ _ S6; obtain ⟨q1, q2, q3, q4, q5, q6⟩ := CC.out _ _ _ S7; clear S6 hb)))
  clear s1 s2 s3 s4 s5 s6 q3 q4 hrun S1h U1
  obtain ⟨D1, hD1⟩ : ∃ D1, D1 = D.put (kid (gt l j)) (.held (.int .i64 i)) := ⟨_, rfl⟩
  rw [← hD1] at S7
  replace S7 := Lib.hid S7
  replace hD1 := Lib.hid hD1
  go_wp2_with fail
  go_region_held3 (fun w' => w'.cell? ⟨h, 0, none⟩ = some (.slice (some ⟨g, 0, none⟩) n c) ∧ w'.cell? ⟨h, 1, none⟩ = some (.map (some m)) ∧ w'.cell? ⟨g, j * 2, none⟩ = some (.int .i64 x1) ∧ w'.cell? ⟨g, j * 2 + 1, none⟩ = some (.int .i64 x2)) (first | assumption | exact ⟨q1, q2, q5, q6⟩ | go_keep)
    ((first
      | (go_at_call 40; refine (K _ _ _).mono ?_; rintro e w8 ⟨rfl, hb⟩; have S8 := Sw.below (W' := w8) (Sw.drew S7.out) hb; obtain ⟨w9, hrun, S9⟩ := U2.out _ w8 S8; obtain ⟨s1, s2, s3, s4, s5, s6⟩ := CC.out _ _ _ S8; obtain ⟨p1, p2, p3, p4, p5, p6⟩ := CC.out _ _ _ S9; clear S8 hb)))
  clear s1 s2 s3 s4 s5 s6 q1 q2 q5 q6 p1 p2 p3 p4 p5 p6 hrun S7 U2 CC K mk
  rw [hD1.out] at S9
  rw [hn'.out] at S9
  have F : Hid (Hpo w9 h (swp i j l) (.slice (some ⟨g, 0, none⟩) n c) (some m) ∧ Kq (inn h (.slice (some ⟨g, 0, none⟩) n c) (some m)) w w9) := by
    rw [hn'.out] at hi hj ⊢
    have G : ∀ k, gt (swp i j l) k = if k = j then gt l i else if k = i then gt l j else gt l k := fun k => gt_swp hi hj
    have P := pl_put hpl'.out nd'.out hi hj hne (swp_len i j l) G
    rw [G i, G j, if_neg hne, if_pos rfl, if_pos rfl] at P
    have pp := swp_perm hi hj
    exact ⟨S9.hpo P ((nd_perm pp).2 nd'.out) (fun t ht => wf'.out t (pp.mem_iff.1 ht)) (by rw [swp_len]; exact few'.out), S9.kq⟩
  clear S9 hpl' nd' wf' few'
  go_wp2
  go_end0
  refine ⟨rfl, ?_⟩
  rw [← hn'.out]
  exact F.out
end Wh
end Go.Proofs.Ytnfakkinaockiaa
