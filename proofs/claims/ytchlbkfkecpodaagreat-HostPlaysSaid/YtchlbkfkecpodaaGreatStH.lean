/- hold, confirm, Do of a ledger. -/
import Derived.Test.YtchlbkfkecpodaaGreatStG
import Derived.Test.YtchlbkfkecpodaaGreatWtC
namespace Go.Proofs.YtchlbkfkecpodaaGreat
set_option maxRecDepth 100000
open Go.RowKit
open Go.Sort (grow)
open Go.Proofs.YtchlbkfkecpodaaGreat.Pk (one_at one_free one_set lt_some grown_set grown_trans below_grown grown_refl u8s adr_block own_form)
namespace St
open Wt (Opn mayOp mayop_any inR)

abbrev opv (o : Opn) : Value := .agg #[.int .i64 o.kind, .int .i64 o.book, .int .i64 o.units, .int .i64 o.cust, .int .i64 o.amount]
def dstp (cap over : Int) (f : F) (o : Opn) (now : Int) : F × Int := stp cap over f (mayOp o && tick now) o.kind o.book o.units now
/-- What an operation answers, and leaves. -/
def DoTo (w : World) (q : Nat) (cap over : Int) (fp : Nat → Prop) (r : F × Int) (e : Ending) (w' : World) : Prop := e = .returned (.int .i64 r.2) ∧ LTo w q cap over fp r.1 w'
set_option maxHeartbeats 3200000 in
theorem hold_any (w : World) (q : Nat) (cap over : Int) (f : F) (fp : Nat → Prop) (L : Led w q cap over f fp) (k b u c m now : Int) (b1 : 1 ≤ b) (b2 : b ≤ 200) (u1 : 1 ≤ u) (u2 : u ≤ 1000) (ht : tick now = true) :
    Calls Tryz.prog 41 #[.pointer (some ⟨q, 0, none⟩), .agg #[.int .i64 k, .int .i64 b, .int .i64 u, .int .i64 c, .int .i64 m], .int .i64 now] w (DoTo w q cap over fp (stp cap over f true 1 b u now)) := by
  obtain ⟨t0, t1⟩ := tick_iff.1 ht
  have hz := L.zero b
  have hsh := L.ok.shp b
  obtain ⟨a, ha⟩ : ∃ a, a = (f b).st := ⟨_, rfl⟩
  obtain ⟨x, hx⟩ : ∃ a, a = (f b).un := ⟨_, rfl⟩
  obtain ⟨t, htt⟩ : ∃ a, a = (f b).ut := ⟨_, rfl⟩
  obtain ⟨W, hW⟩ : ∃ W, W = ((w.alloc (.cells #[.int .i64 k, .int .i64 b, .int .i64 u, .int .i64 c, .int .i64 m] 43)).alloc (.cells #[.int .i64 a, .int .i64 x, .int .i64 t, .int .i64 0, .int .i64 0] 32)).drew := ⟨_, rfl⟩
  have HB : Below w.heap.size w W := by rw [hW]; exact below_drew (((Below.refl _ _).alloc (Nat.le_refl _) _).alloc (by simp) _)
  have LW := L.below HB
  have hO : W.heap[w.heap.size]? = some (.cells #[.int .i64 k, .int .i64 b, .int .i64 u, .int .i64 c, .int .i64 m] 43 (0, 0)) := by rw [hW]; exact heap_alloc2_old _ _ _
  have hE : W.heap[w.heap.size + 1]? = some (.cells #[.int .i64 a, .int .i64 x, .int .i64 t, .int .i64 0, .int .i64 0] 32 (0, 0)) := by
    have := heap_alloc_new (w.alloc (.cells #[.int .i64 k, .int .i64 b, .int .i64 u, .int .i64 c, .int .i64 m] 43)) (.cells #[.int .i64 a, .int .i64 x, .int .i64 t, .int .i64 0, .int .i64 0] 32)
    rw [hW]
    show ((w.alloc (.cells #[.int .i64 k, .int .i64 b, .int .i64 u, .int .i64 c, .int .i64 m] 43)).alloc (.cells #[.int .i64 a, .int .i64 x, .int .i64 t, .int .i64 0, .int .i64 0] 32)).heap[w.heap.size + 1]? = _
    simpa using this
  have b1' : Below w.heap.size w (w.alloc (.cells #[.int .i64 k, .int .i64 b, .int .i64 u, .int .i64 c, .int .i64 m] 43)) := (Below.refl _ _).alloc (Nat.le_refl _) _
  obtain ⟨mo, g1, g2, g3⟩ := (L.below b1').at_
  have k2 : w.cell? ⟨q, 2, none⟩ = some (.map mo) := (b1'.cell L.lt).symm.trans (g1.c2)
  have hql := L.lt
  have LK := look_run (w.alloc (.cells #[.int .i64 k, .int .i64 b, .int .i64 u, .int .i64 c, .int .i64 m] 43)).drew mo f b g2 L.zero ⟨by omega, by omega⟩
  unfold cell at LK
  rw [← ha, ← hx, ← htt] at LK
  have LK' : ∀ o, (Instr.lookup 64 (.map mo) (.int .i64 b) false).run Tryz.prog ((w.alloc (.cells #[.int .i64 k, .int .i64 b, .int .i64 u, .int .i64 c, .int .i64 m] 43)).alloc o).drew = .ok (.agg #[.int .i64 a, .int .i64 x, .int .i64 t, .int .i64 0, .int .i64 0]) ((w.alloc (.cells #[.int .i64 k, .int .i64 b, .int .i64 u, .int .i64 c, .int .i64 m] 43)).alloc o).drew := fun o => by
    have hbb : Below w.heap.size w ((w.alloc (.cells #[.int .i64 k, .int .i64 b, .int .i64 u, .int .i64 c, .int .i64 m] 43)).alloc o).drew := below_drew (b1'.alloc b1'.size _)
    obtain ⟨mo', e1, e2, _⟩ := (L.below hbb).at_
    have e3 := e1.c2
    rw [(hbb.cell hql).trans k2] at e3
    injection e3 with e3
    injection e3 with e3
    subst e3
    have := look_run _ mo f b e2 L.zero ⟨by omega, by omega⟩
    unfold cell at this
    rw [← ha, ← hx, ← htt] at this
    exact this
  have LK1 := LK' (.cells #[.int .i64 0, .int .i64 0, .int .i64 0, .int .i64 0, .int .i64 0] 32)
  have o1 : W.cell? ⟨w.heap.size, 1, none⟩ = some (.int .i64 b) := one_at (i := 1) hO
  have o2 : W.cell? ⟨w.heap.size, 2, none⟩ = some (.int .i64 u) := one_at (i := 2) hO
  have e0 : W.cell? ⟨w.heap.size + 1, 0, none⟩ = some (.int .i64 a) := one_at (i := 0) hE
  have e1 : W.cell? ⟨w.heap.size + 1, 1, none⟩ = some (.int .i64 x) := one_at (i := 1) hE
  have Q1 := fun d os => Calls.regrown_of (free_any _ q cap over f fp (LW.below (below_regrown W d os)))
  have z2 := cell_regrown o2
  have z3 := cell_regrown e0
  have HG : Hid (∀ W', Below W.heap.size W W' → Below w.heap.size w W' ∧ W'.cell? ⟨w.heap.size, 1, none⟩ = some (.int .i64 b) ∧ W'.cell? ⟨w.heap.size, 2, none⟩ = some (.int .i64 u) ∧ W'.cell? ⟨w.heap.size + 1, 0, none⟩ = some (.int .i64 a) ∧ W'.cell? ⟨w.heap.size + 1, 1, none⟩ = some (.int .i64 x)) := fun W' hb =>
    ⟨HB.trans (hb.mono HB.size), (hb.cell (lt_some hO)).trans o1, (hb.cell (lt_some hO)).trans o2, (hb.cell (lt_some hE)).trans e0, (hb.cell (lt_some hE)).trans e1⟩
  have EP : Hid (∀ W', Below w.heap.size w W' → u ≤ room cap over f → Calls Tryz.prog 59 #[.pointer (some ⟨q, 0, none⟩), .int .i64 b, .agg #[.int .i64 1, .int .i64 u, .int .i64 (now + 60), .int .i64 0, .int .i64 0]] W' fun r w' => r = .returned (.tuple #[]) ∧ LTo w q cap over fp (upd f b ⟨1, u, now + 60⟩) w') := fun W' hb hr => by
    refine (put_any W' q cap over b f ⟨1, u, now + 60⟩ fp (L.below hb) (ok_hold L.ok b1 b2 u1 u2 hr ht) b1 b2 (by show (1 : Int) ≠ 0; decide)).mono ?_
    rintro r w' ⟨rfl, h⟩
    exact ⟨rfl, LTo.after L hb h⟩
  have EE : Hid (∀ W', Below w.heap.size w W' → Calls Tryz.prog 43 #[.pointer (some ⟨q, 0, none⟩), .int .i64 b] W' fun r w' => r = .returned (.tuple #[]) ∧ LTo w q cap over fp (upd f b eg) w') := fun W' hb => by
    refine (end_any W' q cap over b f fp (L.below hb) b1 b2).mono ?_
    rintro r w' ⟨rfl, h⟩
    exact ⟨rfl, LTo.after L hb h⟩
  have ST : Hid (∀ W', Below w.heap.size w W' → LTo w q cap over fp f W') := fun W' hb => LTo.of_below L hb
  have hS : Hid (stp cap over f true 1 b u now = if a = 0 then (if u ≤ room cap over f then (upd f b ⟨1, u, now + 60⟩, 1) else (upd f b eg, 2)) else if a ≠ 3 ∧ x = u then (f, 1) else (f, 2)) := by rw [ha, hx]; rfl
  generalize room cap over f = rm at *
  replace hW := Lib.hid hW
  clear ha hx htt hz hsh L ht b1 b2 u1 u2 LW hO hE b1' g1 g2 g3 LK' HB
  go_enter Tryz.func41, Tryz.ntmps41
  go_wp2_with fail
  go_region
  all_goals
    rw [← hW.out]
    clear LK LK1 k2
    by_cases h0 : a = 0
    · subst h0
      rw [if_pos rfl] at hS
      by_cases hr : u ≤ rm
      · have hd : decide (u ≤ rm) = true := decide_eq_true hr
        rw [if_pos hr] at hS
        go_wp2_with fail
        refine wp_region_quiet_below (by kernel_rfl) (by kernel_rfl) ?_
        repeat (go_big_quiet_step (with_reducible exact Q1 _ _))
        refine wpQuiet_nil ?_
        intro w7 hw'
        obtain ⟨⟨dq, osq⟩, hw7⟩ := hw'
        obtain ⟨B7, y1, y2, y3, y4⟩ := HG.out w7 (by rw [hw7]; exact below_regrown W dq osq)
        have S7 := Lib.hid (ST.out w7 B7)
        have P7 := EP.out w7 B7 hr
        clear hw7 Q1 z2 z3 o1 o2 e0 e1 HG EP EE ST B7 hr
        go_wp2_with fail
        refine P7.mono ?_
        rintro e w8 ⟨rfl, h8⟩
        replace h8 := Lib.hid h8
        clear P7
        go_wp2
        go_ret
        rw [hS.out]
        exact ⟨rfl, h8.out⟩
      · have hd : decide (u ≤ rm) = false := decide_eq_false hr
        rw [if_neg hr] at hS
        go_wp2_with fail
        refine wp_region_quiet_below (by kernel_rfl) (by kernel_rfl) ?_
        repeat (go_big_quiet_step (with_reducible exact Q1 _ _))
        refine wpQuiet_nil ?_
        intro w7 hw'
        obtain ⟨⟨dq, osq⟩, hw7⟩ := hw'
        obtain ⟨B7, y1, y2, y3, y4⟩ := HG.out w7 (by rw [hw7]; exact below_regrown W dq osq)
        have S7 := Lib.hid (ST.out w7 B7)
        have P7 := EE.out w7 B7
        clear hw7 Q1 z2 z3 o1 o2 e0 e1 HG EP EE ST B7
        go_wp2_with fail
        refine P7.mono ?_
        rintro e w8 ⟨rfl, h8⟩
        replace h8 := Lib.hid h8
        clear P7
        go_wp2
        go_ret
        rw [hS.out]
        exact ⟨rfl, h8.out⟩
    · rw [if_neg h0] at hS
      have hb0 : (a == 0) = false := by simpa using h0
      go_wp2_with fail
      refine wp_region_quiet_below (by kernel_rfl) (by kernel_rfl) ?_
      repeat (go_big_quiet_step (with_reducible exact Q1 _ _))
      refine wpQuiet_nil ?_
      intro w7 hw'
      obtain ⟨⟨dq, osq⟩, hw7⟩ := hw'
      obtain ⟨B7, y1, y2, y3, y4⟩ := HG.out w7 (by rw [hw7]; exact below_regrown W dq osq)
      have S7 := Lib.hid (ST.out w7 B7)
      clear hw7 Q1 z2 z3 o1 o2 e0 e1 HG EP EE ST B7
      by_cases h3 : a = 3
      · subst h3
        rw [if_neg (by simp)] at hS
        go_wp2
        go_ret
        rw [hS.out]
        exact ⟨rfl, S7.out⟩
      · have hb3 : (a == 3) = false := by simpa using h3
        by_cases hxu : x = u
        · subst hxu
          rw [if_pos ⟨h3, rfl⟩] at hS
          go_wp2
          go_ret
          rw [hS.out]
          exact ⟨rfl, S7.out⟩
        · have hbx : (x == u) = false := by simpa using hxu
          rw [if_neg (fun h => hxu h.2)] at hS
          go_wp2
          go_ret
          rw [hS.out]
          exact ⟨rfl, S7.out⟩
end St
end Go.Proofs.YtchlbkfkecpodaaGreat
