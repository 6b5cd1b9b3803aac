/- The document's inventory: Do. -/
import Derived.Test.YtchlbkfkecpodaaDsC
import Derived.Test.YtchlbkfkecpodaaStH
namespace Go.Proofs.Ytchlbkfkecpodaa
set_option maxRecDepth 100000
open Go.RowKit Go.Sort
open Go.Proofs.Ytchlbkfkecpodaa.Pk (one_at one_free one_set lt_some grown_set grown_trans below_grown grown_refl)
namespace St
open Wt (Opn mayOp refmayop_any)

theorem mayop_bds {o : Opn} (h : mayOp o = true) : 1 ≤ o.kind ∧ o.kind ≤ 6 ∧ 1 ≤ o.book ∧ o.book ≤ 200 := by
  refine Decidable.byContradiction fun hn => ?_
  rw [Wt.mayop_out (by omega)] at h
  cases h
/-- What the document's Do leaves. -/
def RDo (w : World) (p : Nat) (cap over now : Int) (f : F) (o : Opn) (e : Ending) (w' : World) : Prop := e = .returned (.int .i64 (dstp cap over f o now).2) ∧ Ds w' p cap over (dstp cap over f o now).1 ∧ Kt p 1007 (fun g => g = p) w w'
set_option maxHeartbeats 6400000 in
theorem refdo_any (w : World) (p : Nat) (cap over now : Int) (f : F) (D : Ds w p cap over f) (O : Ok cap over f) (o : Opn) : Calls Try.prog 19 #[.pointer (some ⟨p, 0, none⟩), opv o, .int .i64 now] w (RDo w p cap over now f o) := by
  obtain ⟨W0, hW0⟩ : ∃ W, W = w.alloc (.cells #[.int .i64 o.kind, .int .i64 o.book, .int .i64 o.units, .int .i64 o.cust, .int .i64 o.amount] 30) := ⟨_, rfl⟩
  have B0 : Hid (Below w.heap.size w W0) := by rw [hW0]; exact (Below.refl _ _).alloc (Nat.le_refl _) _
  have h0 : Hid (W0.heap[w.heap.size]? = some (.cells #[.int .i64 o.kind, .int .i64 o.book, .int .i64 o.units, .int .i64 o.cust, .int .i64 o.amount] 30 (0, 0))) := by rw [hW0]; exact heap_alloc_new _ _
  have MO := Lib.hid (refmayop_any W0 o)
  have TM := Lib.hid (fun w => reftime_any w now)
  have plt : Hid (p < w.heap.size) := D.lt
  replace hW0 := Lib.hid hW0
  have NO : Hid (mayOp o = false ∨ 3 < o.kind ∨ tick now = false → ∀ w', Below w.heap.size w w' → RDo w p cap over now f o (.returned (.int .i64 2)) w') := by
    intro h w' hb
    have e : dstp cap over f o now = (f, 2) := by
      unfold dstp stp
      rcases h with h | h | h
      · rw [h]; rfl
      · cases hc : (mayOp o && tick now) with
        | false => rfl
        | true => rw [if_neg (by decide), if_neg (by omega), if_neg (by omega), if_neg (by omega)]
      · rw [h, Bool.and_false]; rfl
    unfold RDo
    rw [e]
    exact ⟨rfl, D.below hb, .of_below D.lt hb⟩
  cases hm : mayOp o with
  | false =>
    rw [hm] at MO
    have N := Lib.hid (NO.out (.inl hm))
    clear NO hm D
    unfold opv
    have x0 : W0.cell? ⟨w.heap.size, 0, none⟩ = some (.int .i64 o.kind) := one_at h0.out
    have x1 : W0.cell? ⟨w.heap.size, 1, none⟩ = some (.int .i64 o.book) := one_at h0.out
    have x2 : W0.cell? ⟨w.heap.size, 2, none⟩ = some (.int .i64 o.units) := one_at h0.out
    have x3 : W0.cell? ⟨w.heap.size, 3, none⟩ = some (.int .i64 o.cust) := one_at h0.out
    have x4 : W0.cell? ⟨w.heap.size, 4, none⟩ = some (.int .i64 o.amount) := one_at h0.out
    go_enter Try.func19, Try.ntmps19
    go_wp2_with fail
    rw [← hW0.out]
    go_wp2_with fail
    refine MO.out.mono ?_
    rintro e w1 ⟨rfl, h1⟩
    have F := Lib.hid (N.out w1 (B0.out.trans (h1.mono B0.out.size)))
    clear x0 x1 x2 x3 x4 h1 MO h0 B0 hW0 N
    go_wp2_with fail
    go_ret
    exact F.out
  | true =>
    rw [hm] at MO
    obtain ⟨k1, k6, b1, b2⟩ := mayop_bds hm
    by_cases h3 : o.kind ≤ 3
    · cases ht : tick now with
      | false =>
        rw [ht] at TM
        have N := Lib.hid (NO.out (.inr (.inr ht)))
        have g3 : decide (3 < o.kind) = false := decide_eq_false (by omega)
        clear NO hm D ht
        unfold opv
        have x0 : W0.cell? ⟨w.heap.size, 0, none⟩ = some (.int .i64 o.kind) := one_at h0.out
        have x1 : W0.cell? ⟨w.heap.size, 1, none⟩ = some (.int .i64 o.book) := one_at h0.out
        have x2 : W0.cell? ⟨w.heap.size, 2, none⟩ = some (.int .i64 o.units) := one_at h0.out
        have x3 : W0.cell? ⟨w.heap.size, 3, none⟩ = some (.int .i64 o.cust) := one_at h0.out
        have x4 : W0.cell? ⟨w.heap.size, 4, none⟩ = some (.int .i64 o.amount) := one_at h0.out
        go_enter Try.func19, Try.ntmps19
        go_wp2_with fail
        rw [← hW0.out]
        go_wp2_with fail
        refine MO.out.mono ?_
        rintro e w1 ⟨rfl, h1⟩
        have y0 : w1.cell? ⟨w.heap.size, 0, none⟩ = some (.int .i64 o.kind) := one_at ((h1.block _ (lt_some h0.out)).trans h0.out)
        have F := Lib.hid (N.out w1 (B0.out.trans (h1.mono B0.out.size)))
        clear x0 x1 x2 x3 x4 h1 MO h0 B0 hW0 N
        go_wp2_with fail
        refine (TM.out _).mono ?_
        rintro e w2 ⟨rfl, rfl⟩
        go_wp2_with fail
        go_ret
        exact F.out
      | true =>
        rw [ht] at TM
        have EQ : Hid (dstp cap over f o now = stp cap over f true o.kind o.book o.units now) := by unfold Hid dstp; rw [hm, ht]; rfl
        obtain ⟨t0, t1⟩ := tick_iff.1 ht
        clear NO
        obtain ⟨kd, bk, un, cu, am⟩ := o
        unfold opv
        dsimp only at *
        obtain ⟨kb, rfl⟩ : ∃ k : Nat, bk = (k : Int) := ⟨bk.toNat, by omega⟩
        have k200 : kb ≤ 200 := by omega
        have g3 : decide (3 < kd) = false := decide_eq_false (by omega)
        have x0 : W0.cell? ⟨w.heap.size, 0, none⟩ = some (.int .i64 kd) := one_at h0.out
        have x1 : W0.cell? ⟨w.heap.size, 1, none⟩ = some (.int .i64 (kb : Int)) := one_at h0.out
        have x2 : W0.cell? ⟨w.heap.size, 2, none⟩ = some (.int .i64 un) := one_at h0.out
        have x3 : W0.cell? ⟨w.heap.size, 3, none⟩ = some (.int .i64 cu) := one_at h0.out
        have x4 : W0.cell? ⟨w.heap.size, 4, none⟩ = some (.int .i64 am) := one_at h0.out
        obtain ⟨⟨st, eu, et⟩, hE⟩ : ∃ E, E = f (kb : Int) := ⟨_, rfl⟩
        have SH : Shp (kb : Int) ⟨st, eu, et⟩ := by rw [hE]; exact O.shp _
        have EX : Hid (∀ (f' : F) (r : Int) (w' : World), stp cap over f true kd kb un now = (f', r) → Ds w' p cap over f' → Kt p 1007 (fun g => g = p) w w' → RDo w p cap over now f ⟨kd, kb, un, cu, am⟩ (.returned (.int .i64 r)) w') := by
          intro f' r w' h1 h2 h3
          unfold RDo
          rw [EQ.out, h1]
          exact ⟨rfl, h2, h3⟩
        have b200 : (kb : Int) < 201 := by omega
        have b0 : (0 : Int) ≤ (kb : Int) := by omega
        go_enter Try.func19, Try.ntmps19
        go_wp2_with fail
        rw [← hW0.out]
        go_wp2_with fail
        refine MO.out.mono ?_
        rintro e w1 ⟨rfl, h1⟩
        have B1 : Hid (Below w.heap.size w w1) := B0.out.trans (h1.mono B0.out.size)
        have H1 : Hid (w1.heap[w.heap.size]? = some (.cells #[.int .i64 kd, .int .i64 kb, .int .i64 un, .int .i64 cu, .int .i64 am] 30 (0, 0))) := (h1.block _ (lt_some h0.out)).trans h0.out
        have D1 := D.below B1.out
        have y0 : w1.cell? ⟨w.heap.size, 0, none⟩ = some (.int .i64 kd) := one_at H1.out
        have y1 : w1.cell? ⟨w.heap.size, 1, none⟩ = some (.int .i64 (kb : Int)) := one_at H1.out
        have y2 : w1.cell? ⟨w.heap.size, 2, none⟩ = some (.int .i64 un) := one_at H1.out
        have c0 := D1.st k200
        have c1 := D1.un k200
        have c2 := D1.ut k200
        have c3 := D1.z3 k200
        have c4 := D1.z4 k200
        rw [← hE] at c0 c1 c2
        clear x0 x1 x2 x3 x4 h1 MO h0 B0 hW0
        go_wp2_with fail
        refine (TM.out _).mono ?_
        rintro e w2 ⟨rfl, rfl⟩
        have BZ : Below w1.heap.size w1 (w1.alloc (.cells #[.int .i64 0, .int .i64 0, .int .i64 0, .int .i64 0, .int .i64 0] 41)) := (Below.refl _ _).alloc (Nat.le_refl _) _
        have DZ := D1.below BZ
        have yz : (w1.alloc (.cells #[.int .i64 0, .int .i64 0, .int .i64 0, .int .i64 0, .int .i64 0] 41)).cell? ⟨w.heap.size, 1, none⟩ = some (.int .i64 (kb : Int)) := one_at ((BZ.block _ (lt_some H1.out)).trans H1.out)
        have d0 := DZ.st k200
        have d1 := DZ.un k200
        have d2 := DZ.ut k200
        have d3 := DZ.z3 k200
        have d4 := DZ.z4 k200
        rw [← hE] at d0 d1 d2
        clear BZ DZ
        go_wp2_with fail
        go_region
        obtain ⟨w3, hw3⟩ : ∃ X, X = (w1.alloc (.cells #[.int .i64 st, .int .i64 eu, .int .i64 et, .int .i64 0, .int .i64 0] 41)).drew := ⟨_, rfl⟩
        rw [← hw3]
        have B3 : Below w1.heap.size w1 w3 := by
          have h := (Below.refl w1.heap.size w1).alloc (Nat.le_refl _) (.cells #[.int .i64 st, .int .i64 eu, .int .i64 et, .int .i64 0, .int .i64 0] 41)
          rw [hw3]
          exact ⟨h.os, h.tape, h.output, h.size, h.block⟩
        have E3 : w3.heap[w1.heap.size]? = some (.cells #[.int .i64 st, .int .i64 eu, .int .i64 et, .int .i64 0, .int .i64 0] 41 (0, 0)) := by rw [hw3]; show (w1.alloc (.cells #[.int .i64 st, .int .i64 eu, .int .i64 et, .int .i64 0, .int .i64 0] 41)).heap[w1.heap.size]? = _; exact heap_alloc_new _ _
        have H3 : w3.heap[w.heap.size]? = some (.cells #[.int .i64 kd, .int .i64 kb, .int .i64 un, .int .i64 cu, .int .i64 am] 30 (0, 0)) := (B3.block _ (lt_some H1.out)).trans H1.out
        obtain ⟨W4, hW4⟩ : ∃ X, X = w3.alloc (.cells #[.int .i64 3, .int .i64 0, .int .i64 0, .int .i64 0, .int .i64 0] 41) := ⟨_, rfl⟩
        have B4 : Below w3.heap.size w3 W4 := by rw [hW4]; exact (Below.refl _ _).alloc (Nat.le_refl _) _
        have G4 : Hid (W4.heap[w3.heap.size]? = some (.cells #[.int .i64 3, .int .i64 0, .int .i64 0, .int .i64 0, .int .i64 0] 41 (0, 0))) := by rw [hW4]; exact heap_alloc_new _ _
        have E4 : Hid (W4.heap[w1.heap.size]? = some (.cells #[.int .i64 st, .int .i64 eu, .int .i64 et, .int .i64 0, .int .i64 0] 41 (0, 0))) := (B4.block _ (lt_some E3)).trans E3
        have H4 : Hid (W4.heap[w.heap.size]? = some (.cells #[.int .i64 kd, .int .i64 kb, .int .i64 un, .int .i64 cu, .int .i64 am] 30 (0, 0))) := (B4.block _ (lt_some H3)).trans H3
        have BW : Hid (Below w.heap.size w W4) := (B1.out.trans (B3.mono B1.out.size)).trans (B4.mono (Nat.le_trans B1.out.size B3.size))
        have D4 : Hid (Ds W4 p cap over f) := D.below BW.out
        have K4 : Hid (Kt p 1007 (fun g => g = p) w W4) := .of_below plt.out BW.out
        have DR : Hid (Ds W4.drew p cap over f) := D4.out.keep rfl
        have KR : Hid (Kt p 1007 (fun g => g = p) w W4.drew) := K4.out.heap rfl rfl rfl rfl
        have th : Hid (W4.drew.there p (2 + kb * 5) 5) := DR.out.there k200
        have y0 : W4.cell? ⟨w.heap.size, 0, none⟩ = some (.int .i64 kd) := one_at H4.out
        have y1 : W4.cell? ⟨w.heap.size, 1, none⟩ = some (.int .i64 (kb : Int)) := one_at H4.out
        have y2 : W4.cell? ⟨w.heap.size, 2, none⟩ = some (.int .i64 un) := one_at H4.out
        have e0 : W4.cell? ⟨w1.heap.size, 0, none⟩ = some (.int .i64 st) := one_at E4.out
        have e1 : W4.cell? ⟨w1.heap.size, 1, none⟩ = some (.int .i64 eu) := one_at E4.out
        have e2 : W4.cell? ⟨w1.heap.size, 2, none⟩ = some (.int .i64 et) := one_at E4.out
        have v0 : W4.cell? ⟨w3.heap.size, 0, none⟩ = some (.int .i64 3) := one_at G4.out
        have v1 : W4.cell? ⟨w3.heap.size, 1, none⟩ = some (.int .i64 0) := one_at G4.out
        have v2 : W4.cell? ⟨w3.heap.size, 2, none⟩ = some (.int .i64 0) := one_at G4.out
        have v3 : W4.cell? ⟨w3.heap.size, 3, none⟩ = some (.int .i64 0) := one_at G4.out
        have v4 : W4.cell? ⟨w3.heap.size, 4, none⟩ = some (.int .i64 0) := one_at G4.out
        replace k200 := Lib.hid k200
        replace hE := Lib.hid hE.symm
        replace SH := Lib.hid SH
        have FR := Lib.hid (fun n => reffree_any (W4.drewN n) p cap over f (D4.out.keep rfl) O)
        replace hW4 := Lib.hid hW4
        replace O := Lib.hid O
        clear d0 d1 d2 d3 d4 c0 c1 c2 c3 c4 yz hw3 B3 E3 H3 B4 D D1 EQ plt hm ht TM
        go_upto_region 5 with fail
        rw [← hW4.out]
        clear hW4
        by_cases q3 : kd = 3
        · subst q3
          go_upto_region 6 with fail
          go_still_tail 7, (by kernel_rfl)
          change wpList _ _ _ _ _ W4.drew
          go_wp2_with (refine wpList_store_mid rfl 41 (.tmp 40) (.tmp 37) rfl p (2 + kb * 5) (entc eg).toArray rfl rfl th.out entry_size (entc_one _) ?_; have D5 : Hid (Ds (W4.drew.setCells p (2 + kb * 5) (entc eg).toArray.toList) p cap over (upd f (kb : Int) eg)) := DR.out.put k200.out eg; have K5 : Hid (Kt p 1007 (fun g => g = p) w (W4.drew.setCells p (2 + kb * 5) (entc eg).toArray.toList)) := KR.out.self (Kt.of_ent _ _ k200.out _); generalize W4.drew.setCells p (2 + kb * 5) (entc eg).toArray.toList = w5 at D5 K5 ⊢)
          go_ret
          exact EX.out _ _ _ (by unfold stp; rfl) D5.out K5.out
        · have n3 : (kd == 3) = false := by simpa using q3
          by_cases s3 : st = 3
          · subst s3
            have P : Hid (stp cap over f true kd kb un now = (f, 2)) := by
              have hg : f (kb : Int) = eg := SH.out.gone rfl ▸ hE.out
              unfold Hid stp
              rw [if_neg (by decide), hg]
              by_cases h1 : kd = 1
              · rw [if_pos h1, if_neg (by decide), if_neg (fun h => h.1 rfl)]
              · rw [if_neg h1, if_pos (by omega), if_neg (by decide), if_neg (fun h => by have := h.1; revert this; decide), upd_id hg]
            go_wp2
            go_ret
            exact EX.out _ _ _ (P.out) D4.out K4.out
          · have n4 : (st == 3) = false := by simpa using s3
            by_cases q1 : kd = 1
            · subst q1
              by_cases s0 : st = 0
              · subst s0
                by_cases hr : un ≤ room cap over f
                · have P : Hid (stp cap over f true 1 kb un now = (upd f kb ⟨1, un, now + 60⟩, 1)) := by unfold Hid stp; rw [if_neg (by decide), if_pos rfl, if_pos (by rw [hE.out]), if_pos hr]
                  have hd : decide (room cap over f < un) = false := decide_eq_false (by omega)
                  obtain ⟨r, hr2⟩ : ∃ r, r = room cap over f := ⟨_, rfl⟩
                  rw [← hr2] at FR hd
                  obtain ⟨n6, hn6⟩ : ∃ x, x = now + 60 := ⟨_, rfl⟩
                  have ad : IntKind.i64.wrap (now + 60) = n6 := by rw [hn6, IntKind.wrap_i64]; omega
                  rw [← hn6] at P
                  clear hr2 hr hn6
                  go_upto_region 11 with fail
                  go_quiet ((go_at_call 70; exact Calls.quiet_of (FR.out _)))
                  generalize hW6 : World.drewN _ _ = W6
                  have D6 : Hid (Ds W6.drew p cap over f) := by rw [← hW6]; exact D4.out.keep rfl
                  have K6 : Hid (Kt p 1007 (fun g => g = p) w W6.drew) := by rw [← hW6]; exact K4.out.heap rfl rfl rfl rfl
                  have th6 : Hid (W6.drew.there p (2 + kb * 5) 5) := D6.out.there k200.out
                  have z1 : W6.cell? ⟨w.heap.size, 1, none⟩ = some (.int .i64 (kb : Int)) := by rw [← hW6]; exact y1
                  have z2 : W6.cell? ⟨w.heap.size, 2, none⟩ = some (.int .i64 un) := by rw [← hW6]; exact y2
                  have j0 : W6.cell? ⟨w3.heap.size, 0, none⟩ = some (.int .i64 3) := by rw [← hW6]; exact v0
                  have j1 : W6.cell? ⟨w3.heap.size, 1, none⟩ = some (.int .i64 0) := by rw [← hW6]; exact v1
                  have j2 : W6.cell? ⟨w3.heap.size, 2, none⟩ = some (.int .i64 0) := by rw [← hW6]; exact v2
                  have j3 : W6.cell? ⟨w3.heap.size, 3, none⟩ = some (.int .i64 0) := by rw [← hW6]; exact v3
                  have j4 : W6.cell? ⟨w3.heap.size, 4, none⟩ = some (.int .i64 0) := by rw [← hW6]; exact v4
                  clear hW6 y0 y1 y2 v0 v1 v2 v3 v4 e0 e1 e2 FR DR KR th
                  go_upto_region 14 with fail
                  go_still_tail 11, (by kernel_rfl)
                  change wpList _ _ _ _ _ W6.drew
                  go_wp2_with (refine wpList_store_mid rfl 41 (.tmp 76) (.tmp 73) rfl p (2 + kb * 5) (entc ⟨1, un, n6⟩).toArray rfl rfl th6.out entry_size (entc_one _) ?_; have D5 : Hid (Ds (W6.drew.setCells p (2 + kb * 5) (entc ⟨1, un, n6⟩).toArray.toList) p cap over (upd f (kb : Int) ⟨1, un, n6⟩)) := D6.out.put k200.out ⟨1, un, n6⟩; have K5 : Hid (Kt p 1007 (fun g => g = p) w (W6.drew.setCells p (2 + kb * 5) (entc ⟨1, un, n6⟩).toArray.toList)) := K6.out.self (Kt.of_ent _ _ k200.out _); generalize W6.drew.setCells p (2 + kb * 5) (entc ⟨1, un, n6⟩).toArray.toList = w5 at D5 K5 ⊢)
                  go_ret
                  exact EX.out _ _ _ (P.out) D5.out K5.out
                · have P : Hid (stp cap over f true 1 kb un now = (upd f kb eg, 2)) := by unfold Hid stp; rw [if_neg (by decide), if_pos rfl, if_pos (by rw [hE.out]), if_neg hr]
                  have hd : decide (room cap over f < un) = true := decide_eq_true (by omega)
                  obtain ⟨r, hr2⟩ : ∃ r, r = room cap over f := ⟨_, rfl⟩
                  rw [← hr2] at FR hd
                  clear hr2 hr
                  go_upto_region 11 with fail
                  go_quiet ((go_at_call 70; exact Calls.quiet_of (FR.out _)))
                  generalize hW6 : World.drewN _ _ = W6
                  have D6 : Hid (Ds W6.drew p cap over f) := by rw [← hW6]; exact D4.out.keep rfl
                  have K6 : Hid (Kt p 1007 (fun g => g = p) w W6.drew) := by rw [← hW6]; exact K4.out.heap rfl rfl rfl rfl
                  have th6 : Hid (W6.drew.there p (2 + kb * 5) 5) := D6.out.there k200.out
                  have z1 : W6.cell? ⟨w.heap.size, 1, none⟩ = some (.int .i64 (kb : Int)) := by rw [← hW6]; exact y1
                  have z2 : W6.cell? ⟨w.heap.size, 2, none⟩ = some (.int .i64 un) := by rw [← hW6]; exact y2
                  have j0 : W6.cell? ⟨w3.heap.size, 0, none⟩ = some (.int .i64 3) := by rw [← hW6]; exact v0
                  have j1 : W6.cell? ⟨w3.heap.size, 1, none⟩ = some (.int .i64 0) := by rw [← hW6]; exact v1
                  have j2 : W6.cell? ⟨w3.heap.size, 2, none⟩ = some (.int .i64 0) := by rw [← hW6]; exact v2
                  have j3 : W6.cell? ⟨w3.heap.size, 3, none⟩ = some (.int .i64 0) := by rw [← hW6]; exact v3
                  have j4 : W6.cell? ⟨w3.heap.size, 4, none⟩ = some (.int .i64 0) := by rw [← hW6]; exact v4
                  clear hW6 y0 y1 y2 v0 v1 v2 v3 v4 e0 e1 e2 FR DR KR th
                  go_upto_region 12 with fail
                  go_still_tail 7, (by kernel_rfl)
                  change wpList _ _ _ _ _ W6.drew
                  go_wp2_with (refine wpList_store_mid rfl 41 (.tmp 65) (.tmp 62) rfl p (2 + kb * 5) (entc eg).toArray rfl rfl th6.out entry_size (entc_one _) ?_; have D5 : Hid (Ds (W6.drew.setCells p (2 + kb * 5) (entc eg).toArray.toList) p cap over (upd f (kb : Int) eg)) := D6.out.put k200.out eg; have K5 : Hid (Kt p 1007 (fun g => g = p) w (W6.drew.setCells p (2 + kb * 5) (entc eg).toArray.toList)) := K6.out.self (Kt.of_ent _ _ k200.out _); generalize W6.drew.setCells p (2 + kb * 5) (entc eg).toArray.toList = w5 at D5 K5 ⊢)
                  go_ret
                  exact EX.out _ _ _ (P.out) D5.out K5.out
              · have n0 : (st == 0) = false := by simpa using s0
                by_cases hu : eu = un
                · have P : Hid (stp cap over f true 1 kb un now = (f, 1)) := by unfold Hid stp; rw [if_neg (by decide), if_pos rfl, if_neg (by rw [hE.out]; exact s0), if_pos (by rw [hE.out]; exact ⟨s3, hu⟩)]
                  have n1 : (eu == un) = true := by simpa using hu
                  clear hu s0 s3
                  go_wp2
                  go_ret
                  exact EX.out _ _ _ (P.out) D4.out K4.out
                · have P : Hid (stp cap over f true 1 kb un now = (f, 2)) := by unfold Hid stp; rw [if_neg (by decide), if_pos rfl, if_neg (by rw [hE.out]; exact s0), if_neg (by rw [hE.out]; exact fun h => hu h.2)]
                  have n1 : (eu == un) = false := by simpa using hu
                  clear hu s0 s3
                  go_wp2
                  go_ret
                  exact EX.out _ _ _ (P.out) D4.out K4.out
            · obtain rfl : kd = 2 := by omega
              by_cases s0 : st = 0 ∨ (st = 1 ∧ et ≤ now)
              · have P : Hid (stp cap over f true 2 kb un now = (upd f kb eg, 2)) := by
                  unfold Hid stp
                  rw [if_neg (by decide), if_neg (by decide), if_pos rfl, if_neg (by rw [hE.out]; show ¬ st = 2; omega), if_neg (by rw [hE.out]; show ¬ (st = 1 ∧ now < et); omega)]
                by_cases z : st = 0
                · subst z
                  clear s0 s3
                  go_upto_region 21 with fail
                  go_still_tail 7, (by kernel_rfl)
                  change wpList _ _ _ _ _ W4.drew
                  go_wp2_with (refine wpList_store_mid rfl 41 (.tmp 113) (.tmp 110) rfl p (2 + kb * 5) (entc eg).toArray rfl rfl th.out entry_size (entc_one _) ?_; have D5 : Hid (Ds (W4.drew.setCells p (2 + kb * 5) (entc eg).toArray.toList) p cap over (upd f (kb : Int) eg)) := DR.out.put k200.out eg; have K5 : Hid (Kt p 1007 (fun g => g = p) w (W4.drew.setCells p (2 + kb * 5) (entc eg).toArray.toList)) := KR.out.self (Kt.of_ent _ _ k200.out _); generalize W4.drew.setCells p (2 + kb * 5) (entc eg).toArray.toList = w5 at D5 K5 ⊢)
                  go_ret
                  exact EX.out _ _ _ (P.out) D5.out K5.out
                · obtain ⟨rfl, h2⟩ : st = 1 ∧ et ≤ now := by omega
                  have n1 : decide (et ≤ now) = true := decide_eq_true h2
                  clear s0 s3 z
                  go_upto_region 21 with fail
                  go_still_tail 7, (by kernel_rfl)
                  change wpList _ _ _ _ _ W4.drew
                  go_wp2_with (refine wpList_store_mid rfl 41 (.tmp 113) (.tmp 110) rfl p (2 + kb * 5) (entc eg).toArray rfl rfl th.out entry_size (entc_one _) ?_; have D5 : Hid (Ds (W4.drew.setCells p (2 + kb * 5) (entc eg).toArray.toList) p cap over (upd f (kb : Int) eg)) := DR.out.put k200.out eg; have K5 : Hid (Kt p 1007 (fun g => g = p) w (W4.drew.setCells p (2 + kb * 5) (entc eg).toArray.toList)) := KR.out.self (Kt.of_ent _ _ k200.out _); generalize W4.drew.setCells p (2 + kb * 5) (entc eg).toArray.toList = w5 at D5 K5 ⊢)
                  go_ret
                  exact EX.out _ _ _ (P.out) D5.out K5.out
              · have P : Hid (stp cap over f true 2 kb un now = (upd f kb ⟨2, eu, 0⟩, 1)) := by
                  unfold Hid stp
                  rw [if_neg (by decide), if_neg (by decide), if_pos rfl]
                  by_cases h2 : st = 2
                  · have ht : et = 0 := by
                      rcases SH.out with h | ⟨_, _, h | h | h⟩
                      · have : st = 0 := h.1
                        omega
                      · have : st = 1 := h.1
                        omega
                      · exact h.2.2.2
                      · have : st = 3 := h.1
                        omega
                    rw [if_pos (by rw [hE.out]; exact h2), upd_id (by rw [hE.out, h2, ht])]
                  · rw [if_neg (by rw [hE.out]; exact h2), if_pos (by
                      rw [hE.out]
                      have := SH.out.bds
                      have h4 : (⟨st, eu, et⟩ : E).st = st := rfl
                      exact ⟨by show st = 1; omega, by show now < et; omega⟩), hE.out]
                have n0 : (st == 0) = false := by simpa using fun h => s0 (.inl h)
                by_cases z : st = 1
                · subst z
                  have n1 : decide (et ≤ now) = false := decide_eq_false (fun h => s0 (.inr ⟨rfl, h⟩))
                  clear s0 s3
                  go_upto_region 23 with fail
                  go_still_tail 9, (by kernel_rfl)
                  change wpList _ _ _ _ _ W4.drew
                  go_wp2_with (refine wpList_store_mid rfl 41 (.tmp 122) (.tmp 119) rfl p (2 + kb * 5) (entc ⟨2, eu, 0⟩).toArray rfl rfl th.out entry_size (entc_one _) ?_; have D5 : Hid (Ds (W4.drew.setCells p (2 + kb * 5) (entc ⟨2, eu, 0⟩).toArray.toList) p cap over (upd f (kb : Int) ⟨2, eu, 0⟩)) := DR.out.put k200.out ⟨2, eu, 0⟩; have K5 : Hid (Kt p 1007 (fun g => g = p) w (W4.drew.setCells p (2 + kb * 5) (entc ⟨2, eu, 0⟩).toArray.toList)) := KR.out.self (Kt.of_ent _ _ k200.out _); generalize W4.drew.setCells p (2 + kb * 5) (entc ⟨2, eu, 0⟩).toArray.toList = w5 at D5 K5 ⊢)
                  go_ret
                  exact EX.out _ _ _ (P.out) D5.out K5.out
                · have n1 : (st == 1) = false := by simpa using z
                  clear s0 s3 z
                  go_upto_region 23 with fail
                  go_still_tail 9, (by kernel_rfl)
                  change wpList _ _ _ _ _ W4.drew
                  go_wp2_with (refine wpList_store_mid rfl 41 (.tmp 122) (.tmp 119) rfl p (2 + kb * 5) (entc ⟨2, eu, 0⟩).toArray rfl rfl th.out entry_size (entc_one _) ?_; have D5 : Hid (Ds (W4.drew.setCells p (2 + kb * 5) (entc ⟨2, eu, 0⟩).toArray.toList) p cap over (upd f (kb : Int) ⟨2, eu, 0⟩)) := DR.out.put k200.out ⟨2, eu, 0⟩; have K5 : Hid (Kt p 1007 (fun g => g = p) w (W4.drew.setCells p (2 + kb * 5) (entc ⟨2, eu, 0⟩).toArray.toList)) := KR.out.self (Kt.of_ent _ _ k200.out _); generalize W4.drew.setCells p (2 + kb * 5) (entc ⟨2, eu, 0⟩).toArray.toList = w5 at D5 K5 ⊢)
                  go_ret
                  exact EX.out _ _ _ (P.out) D5.out K5.out
    · have N := Lib.hid (NO.out (.inr (.inl (by omega))))
      have g3 : decide (3 < o.kind) = true := decide_eq_true (by omega)
      clear NO hm D
      unfold opv
      have x0 : W0.cell? ⟨w.heap.size, 0, none⟩ = some (.int .i64 o.kind) := one_at h0.out
      have x1 : W0.cell? ⟨w.heap.size, 1, none⟩ = some (.int .i64 o.book) := one_at h0.out
      have x2 : W0.cell? ⟨w.heap.size, 2, none⟩ = some (.int .i64 o.units) := one_at h0.out
      have x3 : W0.cell? ⟨w.heap.size, 3, none⟩ = some (.int .i64 o.cust) := one_at h0.out
      have x4 : W0.cell? ⟨w.heap.size, 4, none⟩ = some (.int .i64 o.amount) := one_at h0.out
      go_enter Try.func19, Try.ntmps19
      go_wp2_with fail
      rw [← hW0.out]
      go_wp2_with fail
      refine MO.out.mono ?_
      rintro e w1 ⟨rfl, h1⟩
      have y0 : w1.cell? ⟨w.heap.size, 0, none⟩ = some (.int .i64 o.kind) := one_at ((h1.block _ (lt_some h0.out)).trans h0.out)
      have F := Lib.hid (N.out w1 (B0.out.trans (h1.mono B0.out.size)))
      clear x0 x1 x2 x3 x4 h1 MO h0 B0 hW0 N
      go_wp2_with fail
      go_ret
      exact F.out
end St
end Go.Proofs.Ytchlbkfkecpodaa
