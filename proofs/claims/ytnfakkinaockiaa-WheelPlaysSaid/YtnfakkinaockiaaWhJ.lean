/- drop, put of a heap of timers. -/
import Derived.Test.YtnfakkinaockiaaWhI
namespace Go.Proofs.Ytnfakkinaockiaa
set_option maxRecDepth 100000
open Go.RowKit
open Go.Sort (grow)
open Go.Proofs.Ytnfakkinaockiaa.Pk (one_at one_free one_set lt_some grown_set grown_trans below_grown grown_refl)
namespace Wh

theorem GrTo.refl {w w' : World} {h : Nat} {v : Value} {mo : Option Nat} {l : List Tm} (H : Hpo w h l v mo) (hb : Below w.heap.size w w') : GrTo w h v mo l w' := ⟨v, mo, H.below hb, .of_below hb, fun _ h => .inl h⟩
set_option maxHeartbeats 1600000 in
theorem drop_any (w : World) (h : Nat) (l : List Tm) (v : Value) (mo : Option Nat) (H : Hpo w h l v mo) (Hh : Heap l.length l) (id : Int) (hw : -9223372036854775808 ≤ id ∧ id ≤ 9223372036854775807) :
    Calls Try.prog 42 #[.pointer (some ⟨h, 0, none⟩), .int .i64 id] w fun e w' => e = .returned (.bool (fnd id l).isSome) ∧ HeTo w h v mo (without id l) w' := by
  have L := look_run H.map id hw
  have c1 : w.cell? ⟨h, 1, none⟩ = some (.map mo) := one_at (i := 1) H.cells
  cases hf : fnd id l with
  | none =>
    rw [hf] at L
    have E : Hid (HeTo w h v mo (without id l) w) := ⟨l, GrTo.refl H (Below.refl _ _), Hh, by rw [without_none (fnd_none.1 hf)]⟩
    simp only [Option.isSome] at L ⊢
    generalize lkx id l = x at L
    clear hf H Hh
    go_enter Try.func42, Try.ntmps42
    go_wp2
    go_ret
    exact ⟨rfl, E.out⟩
  | some t =>
    obtain ⟨hlt, hg⟩ := pos_lt hf
    have hx : lkx id l = (pos id l : Nat) := by unfold lkx; rw [hf]; rfl
    rw [hf, hx] at L
    have R := remove_any w h l v mo H Hh (pos id l) hlt
    rw [hg, (fnd_mem hf).2] at R
    replace R := Lib.hid R
    simp only [Option.isSome] at L ⊢
    generalize pos id l = i at *
    clear hf H Hh hg hx hlt
    go_enter Try.func42, Try.ntmps42
    go_wp2_with fail
    refine R.out.mono ?_
    rintro e w1 ⟨⟨x, rfl⟩, E⟩
    replace E := Lib.hid E
    clear R L c1
    go_wp2
    go_ret
    exact ⟨rfl, E.out⟩
set_option maxHeartbeats 3200000 in
theorem put_any (w : World) (h : Nat) (l : List Tm) (v : Value) (mo : Option Nat) (H : Hpo w h l v mo) (Hh : Heap l.length l) (t : Tm) (ht : wfT t) (few : l.length + 1 ≤ 1000000) :
    Calls Try.prog 45 #[.pointer (some ⟨h, 0, none⟩), .agg #[.int .i64 t.1, .int .i64 t.2]] w fun e w' => e = .returned (.tuple #[]) ∧ HeTo w h v mo (t :: without t.1 l) w' := by
  obtain ⟨a, ha⟩ : ∃ z, z = t.1 := ⟨_, rfl⟩
  obtain ⟨b, hb⟩ : ∃ z, z = t.2 := ⟨_, rfl⟩
  obtain ⟨q, hq⟩ : ∃ z, z = w.heap.size := ⟨_, rfl⟩
  obtain ⟨Wa, hWa⟩ : ∃ z, z = w.alloc (.cells #[.int .i64 a, .int .i64 b] 57) := ⟨_, rfl⟩
  have ba : Hid (Below w.heap.size w Wa) := by rw [hWa]; exact (Below.refl _ _).alloc (Nat.le_refl _) _
  have ta : Hid (Wa.heap[q]? = some (.cells #[.int .i64 a, .int .i64 b] 57 (0, 0))) := by rw [hWa, hq]; exact heap_alloc_new _ _
  have Ha : Hid (Hpo Wa h l v mo) := H.below ba.out
  have CC : Hid (∀ W, Below Wa.heap.size Wa W → Hpo W h l v mo ∧ W.cell? ⟨h, 1, none⟩ = some (.map mo) ∧ W.cell? ⟨q, 0, none⟩ = some (.int .i64 a) ∧ W.cell? ⟨q, 1, none⟩ = some (.int .i64 b) ∧ (Instr.lookup 63 (.map mo) (.int .i64 a) true).run Try.prog W = .ok (.tuple #[.int .i64 (lkx a l), .bool (fnd a l).isSome]) W) := fun W hB => by
    have HW := Ha.out.below hB
    have tW := (hB.block q (lt_some ta.out)).trans ta.out
    exact ⟨HW, one_at (i := 1) HW.cells, one_at (i := 0) tW, one_at (i := 1) tW, look_run HW.map a (by rw [ha]; exact ht.1)⟩
  obtain ⟨_, s1, s2, s3, _⟩ := CC.out Wa (Below.refl _ _)
  have K := key_any
  have mk := m_key
  rw [← ha, ← hb]
  have ht' := Lib.hid ht
  have Hh' := Lib.hid Hh
  have few' := Lib.hid few
  replace ha := Lib.hid ha
  replace hb := Lib.hid hb
  replace hq := Lib.hid hq
  replace hWa := Lib.hid hWa
  clear H Hh ht few
  have T6 : Hid (∀ W, Below Wa.heap.size Wa W → W.heap[q]? = some (.cells #[.int .i64 a, .int .i64 b] 57 (0, 0))) := fun W hB => (hB.block q (lt_some ta.out)).trans ta.out
  cases hf : fnd a l with
  | none =>
    have hne : Hid (∀ u ∈ l, u.1 ≠ t.1) := by rw [← ha.out]; exact fnd_none.1 hf
    have hwo : Hid (without a l = l) := without_none (fnd_none.1 hf)
    rw [hf] at CC
    simp only [Option.isSome] at CC
    generalize lkx a l = x at CC
    clear hf
    go_enter Try.func45, Try.ntmps45
    go_upto_region 1 with fail
    rw [← hWa.out, ← hq.out]
    go_region_held3 (fun w' => w'.cell? ⟨h, 1, none⟩ = some (.map mo) ∧ w'.cell? ⟨q, 0, none⟩ = some (.int .i64 a) ∧ w'.cell? ⟨q, 1, none⟩ = some (.int .i64 b)) (first | assumption | exact ⟨s1, s2, s3⟩ | go_keep)
      ((first
        | (go_at_call 40; refine (K _ _ _).mono ?_; rintro e w6 ⟨rfl, hb6⟩; have B6 : Hid (Below Wa.heap.size Wa w6) := Below.trans (⟨rfl, rfl, rfl, Nat.le_refl _, fun _ _ => rfl⟩ : Below Wa.heap.size Wa Wa.drew) hb6; obtain ⟨H6, p1, p2, p3, L6⟩ := CC.out w6 B6.out; replace H6 := Lib.hid H6; clear hb6)))
    all_goals
      have HP := hpush_some w6 h l v mo H6.out Hh'.out t ht'.out hne.out few'.out
      rw [← ha.out, ← hb.out] at HP
      replace HP := Lib.hid HP
      clear L6 H6 s1 s2 s3
      go_wp2_with fail
      refine HP.out.mono ?_
      rintro e w7 ⟨rfl, l', ⟨v', mo', h1, h2, h3⟩, hh, hp⟩
      have E : Hid (HeTo w h v mo (t :: without a l) w7) := by
        have hs : w.heap.size ≤ w6.heap.size := Nat.le_trans ba.out.size B6.out.size
        refine ⟨l', ⟨v', mo', h1, (Kq.of_below (ba.out.trans (B6.out.mono ba.out.size))).trans' h2, fun g hg => ?_⟩, hh, ?_⟩
        · rcases h3 g hg with h4 | h4
          · exact .inl h4
          · exact .inr (by omega)
        · rw [hwo.out]
          exact hp.trans List.perm_append_comm
      clear HP h1 h2 h3 hh hp B6
      go_wp2
      refine bodyPost_ret (results_none rfl _ _ _) rfl ?_
      exact ⟨rfl, E.out⟩
  | some u =>
    obtain ⟨hlt, hg⟩ := pos_lt hf
    have hx : lkx a l = (pos a l : Nat) := by unfold lkx; rw [hf]; rfl
    have hgu : Hid ((gt l (pos a l)).1 = a) := by rw [hg]; exact (fnd_mem hf).2
    rw [hf, hx] at CC
    simp only [Option.isSome] at CC
    obtain ⟨i, hi⟩ : ∃ z, z = pos a l := ⟨_, rfl⟩
    rw [← hi] at CC hlt hgu
    obtain ⟨g, c, hv, h1, h2⟩ := rw_some Ha.out.row (by omega)
    obtain ⟨n, hn⟩ : ∃ z, z = l.length := ⟨_, rfl⟩
    have few := Ha.out.few
    rw [← hn] at hlt h1 hv few
    have i1 : (i : Int) < (n : Int) := by omega
    have i2 : (0 : Int) ≤ (i : Int) := by omega
    have i3 : (n : Int) ≤ 1000000 := by omega
    have hgh : Hid (g ≠ h) := fun e => Ha.out.row_ne (by rw [hv, ← e]; rfl)
    subst hv
    have ST : Hid (∀ W, Hpo W h l (.slice (some ⟨g, 0, none⟩) n c) mo → Hpo ((W.setCell ⟨g, i * 2, none⟩ (.int .i64 a)).setCell ⟨g, i * 2 + 1, none⟩ (.int .i64 b)).drew h (l.set i t) (.slice (some ⟨g, 0, none⟩) n c) mo ∧ Kq (inn h (.slice (some ⟨g, 0, none⟩) n c) mo) W ((W.setCell ⟨g, i * 2, none⟩ (.int .i64 a)).setCell ⟨g, i * 2 + 1, none⟩ (.int .i64 b)).drew) := fun W HW => by
      have hr := HW.row
      rw [hn] at hr
      obtain ⟨r1, g1⟩ := rw_store (i := i) hr t
      rw [← ha.out, ← hb.out, ← hn] at r1
      rw [← ha.out, ← hb.out] at g1
      generalize (W.setCell ⟨g, i * 2, none⟩ (.int .i64 a)).setCell ⟨g, i * 2 + 1, none⟩ (.int .i64 b) = X at *
      have gd : W.grownBy X.drew (some g) := ⟨g1.os, g1.tape, g1.output, g1.size, g1.block⟩
      have hl : (l.set i t).length = n := by rw [List.length_set, hn]
      refine ⟨⟨(gd.block h (lt_some HW.cells) (fun e => hgh.out (by injection e with e; exact e.symm))).trans HW.cells, by rw [hl]; exact r1, ?_, ?_, fun u hu => ?_, by rw [hl]; exact few⟩, .of_grown gd fun k hk => .inr (.inl hk)⟩
      · rcases HW.map with ⟨_, e⟩ | ⟨m, D, e, hM, hp⟩
        · rw [e] at hn; simp at hn; omega
        · subst e
          exact .inr ⟨m, D, rfl, by rw [hl, hn]; exact hM.kept gd (fun e => HW.row_map (g := g) rfl (by rw [e])), pl_set hp (by omega) t (by rw [← ha.out]; exact hgu.out.symm)⟩
      · refine (nd_perm (perm_set t HW.nd (by omega))).2 ?_
        rw [hgu.out, ha.out]
        exact cons_nd HW.nd
      · rcases List.mem_or_eq_of_mem_set hu with hu | rfl
        · exact HW.wf u hu
        · exact ht'.out
    have DI : Hid (DnI (l.set i t).length i i (l.set i t)) := dn_start Hh'.out (by simp) (by simp; omega) fun k hk hne => by rw [gt_set (by omega), if_neg hne]
    have hsl : Hid ((l.set i t).length = n) := by show _ = _; rw [List.length_set, hn]
    have pm : Hid ((l.set i t).Perm (t :: without a l)) := by
      have := perm_set t Ha.out.nd (i := i) (by omega)
      rw [hgu.out] at this
      exact this
    have C2 : Hid (∀ W, Below Wa.heap.size Wa W → W.cell? ⟨h, 0, none⟩ = some (.slice (some ⟨g, 0, none⟩) n c) ∧ W.cell? ⟨g, i * 2, none⟩ = some (.int .i64 (gt l i).1) ∧ W.cell? ⟨g, i * 2 + 1, none⟩ = some (.int .i64 (gt l i).2) ∧ W.frozen? ⟨g, i * 2, none⟩ = false ∧ W.frozen? ⟨g, i * 2 + 1, none⟩ = false) := fun W hB => by
      have HW := Ha.out.below hB
      have hr := HW.row
      rw [hn] at hr
      obtain ⟨x1, x2⟩ := rw_cell hr (i := i) (by omega)
      exact ⟨one_at (i := 0) HW.cells, x1, x2, hr.frozenAt _, hr.frozenAt _⟩
    clear hf hg hx hi hgu few Ha
    replace hn := Lib.hid hn
    go_enter Try.func45, Try.ntmps45
    go_upto_region 1 with fail
    rw [← hWa.out, ← hq.out]
    go_region_held3 (fun w' => w'.cell? ⟨h, 1, none⟩ = some (.map mo) ∧ w'.cell? ⟨q, 0, none⟩ = some (.int .i64 a) ∧ w'.cell? ⟨q, 1, none⟩ = some (.int .i64 b)) (first | assumption | exact ⟨s1, s2, s3⟩ | go_keep)
      ((first
        | (go_at_call 40; refine (K _ _ _).mono ?_; rintro e w6 ⟨rfl, hb6⟩; have B6 : Hid (Below Wa.heap.size Wa w6) := Below.trans (⟨rfl, rfl, rfl, Nat.le_refl _, fun _ _ => rfl⟩ : Below Wa.heap.size Wa Wa.drew) hb6; obtain ⟨H6, p1, p2, p3, L6⟩ := CC.out w6 B6.out; replace H6 := Lib.hid H6; clear hb6)))
    all_goals
      obtain ⟨y1, y2, y3, y4, y5⟩ := C2.out w6 B6.out
      obtain ⟨H7, K7⟩ := ST.out w6 H6.out
      obtain ⟨w7, hw7⟩ : ∃ z, z = ((w6.setCell ⟨g, i * 2, none⟩ (.int .i64 a)).setCell ⟨g, i * 2 + 1, none⟩ (.int .i64 b)).drew := ⟨_, rfl⟩
      rw [← hw7] at H7 K7
      have FX := Lib.hid (fix_any w7 h (l.set i t) (.slice (some ⟨g, 0, none⟩) n c) mo H7 i (by rw [hsl.out]; omega) DI.out)
      replace H7 := Lib.hid H7
      replace K7 := Lib.hid K7
      replace hw7 := Lib.hid hw7
      clear L6 H6 s1 s2 s3 p1 CC ST
      go_wp2_with fail
      go_region
      rw [← hw7.out]
      clear y1 y2 y3 y4 y5 hw7
      go_wp2_with fail
      refine FX.out.mono ?_
      rintro e w8 ⟨rfl, l', M, hh⟩
      have E : Hid (HeTo w h (.slice (some ⟨g, 0, none⟩) n c) mo (t :: without a l) w8) := by
        refine ⟨l', ⟨_, mo, M.hp, (Kq.of_below (ba.out.trans (B6.out.mono ba.out.size))).trans' (K7.out.trans' M.kq), fun g hg => .inl hg⟩, by rw [M.len]; exact hh, M.perm.trans pm.out⟩
      clear FX M hh B6 K7 H7
      go_wp2
      go_end0
      exact ⟨rfl, E.out⟩
end Wh
end Go.Proofs.Ytnfakkinaockiaa
