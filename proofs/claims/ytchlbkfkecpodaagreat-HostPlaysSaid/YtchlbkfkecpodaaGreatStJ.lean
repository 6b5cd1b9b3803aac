/- confirm and Do of a ledger. -/
import Derived.Test.YtchlbkfkecpodaaGreatStH
namespace Go.Proofs.YtchlbkfkecpodaaGreat
set_option maxRecDepth 100000
open Go.RowKit
open Go.Sort (grow)
open Go.Proofs.YtchlbkfkecpodaaGreat.Pk (one_at one_free one_set lt_some grown_set grown_trans below_grown grown_refl u8s adr_block own_form)
namespace St
open Wt (Opn mayOp mayop_any inR)

set_option maxHeartbeats 3200000 in
theorem confirm_any (w : World) (q : Nat) (cap over : Int) (f : F) (fp : Nat → Prop) (L : Led w q cap over f fp) (b u now : Int) (b1 : 1 ≤ b) (b2 : b ≤ 200) :
    Calls Tryz.prog 42 #[.pointer (some ⟨q, 0, none⟩), .int .i64 b, .int .i64 now] w (DoTo w q cap over fp (stp cap over f true 2 b u now)) := by
  have hsh := L.ok.shp b
  obtain ⟨a, ha⟩ : ∃ a, a = (f b).st := ⟨_, rfl⟩
  obtain ⟨x, hx⟩ : ∃ a, a = (f b).un := ⟨_, rfl⟩
  obtain ⟨t, htt⟩ : ∃ a, a = (f b).ut := ⟨_, rfl⟩
  obtain ⟨W, hW⟩ : ∃ W, W = w.alloc (.cells #[.int .i64 a, .int .i64 x, .int .i64 t, .int .i64 0, .int .i64 0] 32) := ⟨_, rfl⟩
  have HB : Below w.heap.size w W := by rw [hW]; exact (Below.refl _ _).alloc (Nat.le_refl _) _
  have hE : W.heap[w.heap.size]? = some (.cells #[.int .i64 a, .int .i64 x, .int .i64 t, .int .i64 0, .int .i64 0] 32 (0, 0)) := by rw [hW]; exact heap_alloc_new _ _
  obtain ⟨mo, g1, g2, g3⟩ := L.at_
  have k2 : w.cell? ⟨q, 2, none⟩ = some (.map mo) := g1.c2
  have hql := L.lt
  have LK := look_run w mo f b g2 L.zero ⟨by omega, by omega⟩
  unfold cell at LK
  rw [← ha, ← hx, ← htt] at LK
  have e0 : W.cell? ⟨w.heap.size, 0, none⟩ = some (.int .i64 a) := one_at (i := 0) hE
  have e1 : W.cell? ⟨w.heap.size, 1, none⟩ = some (.int .i64 x) := one_at (i := 1) hE
  have e2 : W.cell? ⟨w.heap.size, 2, none⟩ = some (.int .i64 t) := one_at (i := 2) hE
  have e3 : W.cell? ⟨w.heap.size, 3, none⟩ = some (.int .i64 0) := one_at (i := 3) hE
  have e4 : W.cell? ⟨w.heap.size, 4, none⟩ = some (.int .i64 0) := one_at (i := 4) hE
  have IO := Lib.hid (isOver_any W ⟨a, x, t⟩ now)
  unfold cell at IO
  simp only at IO
  have HG : Hid (∀ W', Below W.heap.size W W' → Below w.heap.size w W' ∧ W'.cell? ⟨w.heap.size, 1, none⟩ = some (.int .i64 x)) := fun W' hb =>
    ⟨HB.trans (hb.mono HB.size), (hb.cell (lt_some hE)).trans e1⟩
  have EP : Hid (∀ W', Below w.heap.size w W' → a = 1 → Calls Tryz.prog 59 #[.pointer (some ⟨q, 0, none⟩), .int .i64 b, .agg #[.int .i64 2, .int .i64 x, .int .i64 0, .int .i64 0, .int .i64 0]] W' fun r w' => r = .returned (.tuple #[]) ∧ LTo w q cap over fp (upd f b ⟨2, (f b).un, 0⟩) w') := fun W' hb h1 => by
    have := put_any W' q cap over b f ⟨2, (f b).un, 0⟩ fp (L.below hb) (ok_conf L.ok b1 b2 (ha ▸ h1)) b1 b2 (by show (2 : Int) ≠ 0; decide)
    unfold cell at this
    rw [hx]
    refine this.mono ?_
    rintro r w' ⟨rfl, h⟩
    exact ⟨rfl, LTo.after L hb h⟩
  have EE : Hid (∀ W', Below w.heap.size w W' → Calls Tryz.prog 43 #[.pointer (some ⟨q, 0, none⟩), .int .i64 b] W' fun r w' => r = .returned (.tuple #[]) ∧ LTo w q cap over fp (upd f b eg) w') := fun W' hb => by
    refine (end_any W' q cap over b f fp (L.below hb) b1 b2).mono ?_
    rintro r w' ⟨rfl, h⟩
    exact ⟨rfl, LTo.after L hb h⟩
  have ST : Hid (LTo w q cap over fp f W) := LTo.of_below L HB
  have hS : Hid (stp cap over f true 2 b u now = if a = 2 then (f, 1) else if a = 1 ∧ now < t then (upd f b ⟨2, (f b).un, 0⟩, 1) else (upd f b eg, 2)) := by rw [ha, htt]; rfl
  obtain ⟨o, ho⟩ : ∃ o, o = ovr now ⟨a, x, t⟩ := ⟨_, rfl⟩
  have hov : Hid (a = 1 → (o = true ↔ t ≤ now)) := fun h => by rw [ho]; simp [ovr, h]
  rw [← ho] at IO
  replace HB := Lib.hid HB
  replace hW := Lib.hid hW
  clear ha hx htt hsh ho L b1 b2 hE g1 g2 g3
  by_cases h2 : a = 2
  · subst h2
    rw [if_pos rfl] at hS
    go_enter Tryz.func42, Tryz.ntmps42
    go_wp2_with fail
    rw [← hW.out]
    go_ret
    rw [hS.out]
    exact ⟨rfl, ST.out⟩
  · rw [if_neg h2] at hS
    have hb2 : (a == 2) = false := by simpa using h2
    by_cases h1 : a = 1
    · subst h1
      cases o with
      | true =>
        rw [if_neg (fun h => by have := (hov.out rfl).1 rfl; omega)] at hS
        go_enter Tryz.func42, Tryz.ntmps42
        go_wp2_with fail
        rw [← hW.out]
        refine IO.out.mono ?_
        rintro e w1 ⟨rfl, hh⟩
        obtain ⟨B7, y1⟩ := HG.out w1 hh
        have P7 := EE.out w1 B7
        clear IO LK k2 e0 e1 e2 e3 e4 HG EP EE ST hh B7
        go_wp2_with fail
        refine P7.mono ?_
        rintro e w8 ⟨rfl, h8⟩
        replace h8 := Lib.hid h8
        clear P7
        go_wp2
        go_ret
        rw [hS.out]
        exact ⟨rfl, h8.out⟩
      | false =>
        rw [if_pos ⟨rfl, by have := (hov.out rfl).2; have h5 : ¬ t ≤ now := fun h => (by have := this h; cases this); omega⟩] at hS
        go_enter Tryz.func42, Tryz.ntmps42
        go_wp2_with fail
        rw [← hW.out]
        refine IO.out.mono ?_
        rintro e w1 ⟨rfl, hh⟩
        obtain ⟨B7, y1⟩ := HG.out w1 hh
        have P7 := EP.out w1 B7 (by simp)
        clear IO LK k2 e0 e1 e2 e3 e4 HG EP EE ST hh B7
        go_wp2_with fail
        refine P7.mono ?_
        rintro e w8 ⟨rfl, h8⟩
        replace h8 := Lib.hid h8
        clear P7
        go_wp2
        go_ret
        rw [hS.out]
        exact ⟨rfl, h8.out⟩
    · rw [if_neg (fun h => h1 h.1)] at hS
      have hb1 : (a == 1) = false := by simpa using h1
      have P7 := EE.out W HB.out
      clear IO HG EP EE ST
      go_enter Tryz.func42, Tryz.ntmps42
      go_wp2_with fail
      rw [← hW.out]
      refine P7.mono ?_
      rintro e w8 ⟨rfl, h8⟩
      replace h8 := Lib.hid h8
      clear P7
      go_wp2
      go_ret
      rw [hS.out]
      exact ⟨rfl, h8.out⟩

/-! ### Do -/
theorem do_nil (w : World) (o : Opn) (now : Int) : Calls Tryz.prog 16 #[.pointer none, opv o, .int .i64 now] w fun e w' => e = .returned (.int .i64 2) ∧ Below w.heap.size w w' := by
  have HB : Hid (Below w.heap.size w (w.alloc (.cells #[.int .i64 o.kind, .int .i64 o.book, .int .i64 o.units, .int .i64 o.cust, .int .i64 o.amount] 43))) := (Below.refl _ _).alloc (Nat.le_refl _) _
  unfold opv
  go_enter Tryz.func16, Tryz.ntmps16
  go_wp2
  go_ret
  exact ⟨rfl, HB.out⟩
theorem mayop_book {o : Opn} (h : mayOp o = true) : (1 ≤ o.book ∧ o.book ≤ 200) ∧ (o.kind = 1 → 1 ≤ o.units ∧ o.units ≤ 1000) := by
  unfold mayOp inR at h
  rw [Bool.and_eq_true, decide_eq_true_iff] at h
  refine ⟨h.1, fun hk => ?_⟩
  have h2 := h.2
  rw [if_pos hk] at h2
  simp at h2
  exact h2.1
set_option maxHeartbeats 3200000 in
theorem do_any (w : World) (q : Nat) (cap over : Int) (f : F) (fp : Nat → Prop) (L : Led w q cap over f fp) (o : Opn) (now : Int) :
    Calls Tryz.prog 16 #[.pointer (some ⟨q, 0, none⟩), opv o, .int .i64 now] w (DoTo w q cap over fp (dstp cap over f o now)) := by
  have MO : ∀ W, Calls Tryz.prog 39 #[.agg #[.int .i64 o.kind, .int .i64 o.book, .int .i64 o.units, .int .i64 o.cust, .int .i64 o.amount]] W _ := fun W => mayop_any W o
  have MT := fun W => mayTick_any W now
  obtain ⟨W, hW⟩ : ∃ W, W = w.alloc (.cells #[.int .i64 o.kind, .int .i64 o.book, .int .i64 o.units, .int .i64 o.cust, .int .i64 o.amount] 43) := ⟨_, rfl⟩
  have HB : Hid (Below w.heap.size w W) := by rw [hW]; exact (Below.refl _ _).alloc (Nat.le_refl _) _
  have hE : Hid (W.heap[w.heap.size]? = some (.cells #[.int .i64 o.kind, .int .i64 o.book, .int .i64 o.units, .int .i64 o.cust, .int .i64 o.amount] 43 (0, 0))) := by rw [hW]; exact heap_alloc_new _ _
  have hql := L.lt
  have MW := Lib.hid (MO W)
  unfold opv dstp
  replace hW := Lib.hid hW
  cases hm : mayOp o with
  | false =>
    rw [hm] at MW
    simp only [Bool.false_and]
    have hL := Lib.hid L
    clear hm MO MT L
    go_enter Tryz.func16, Tryz.ntmps16
    go_wp2_with fail
    rw [← hW.out]
    refine MW.out.mono ?_
    rintro e w1 ⟨rfl, hh⟩
    have E : Hid (LTo w q cap over fp f w1) := LTo.of_below hL.out (HB.out.trans (hh.mono HB.out.size))
    clear MW hh hL
    go_wp2
    go_ret
    exact ⟨rfl, E.out⟩
  | true =>
    obtain ⟨⟨b1, b2⟩, hu⟩ := mayop_book hm
    rw [hm] at MW
    simp only [Bool.true_and]
    clear hm MO
    cases ht : tick now with
    | false =>
      rw [ht] at MT
      have hL := Lib.hid L
      clear L b1 b2 hu ht
      go_enter Tryz.func16, Tryz.ntmps16
      go_wp2_with fail
      rw [← hW.out]
      refine MW.out.mono ?_
      rintro e w1 ⟨rfl, hh⟩
      have E : Hid (LTo w q cap over fp f w1) := LTo.of_below hL.out (HB.out.trans (hh.mono HB.out.size))
      clear MW hh hL
      go_wp2_with (go_at_call 40; (with_reducible refine (MT _).mono ?_); rintro e w' ⟨rfl, rfl⟩)
      go_ret
      exact ⟨rfl, E.out⟩
    | true =>
      rw [ht] at MT
      have H1 : Hid (∀ W', Below w.heap.size w W' → o.kind = 1 → Calls Tryz.prog 41 #[.pointer (some ⟨q, 0, none⟩), .agg #[.int .i64 o.kind, .int .i64 o.book, .int .i64 o.units, .int .i64 o.cust, .int .i64 o.amount], .int .i64 now] W' (DoTo w q cap over fp (stp cap over f true o.kind o.book o.units now))) := fun W' hb hk => by
        refine (hold_any W' q cap over f fp (L.below hb) o.kind o.book o.units o.cust o.amount now b1 b2 (hu hk).1 (hu hk).2 ht).mono ?_
        rintro e w' ⟨rfl, h⟩
        rw [hk]
        exact ⟨rfl, LTo.after L hb h⟩
      have H2 : Hid (∀ W', Below w.heap.size w W' → o.kind = 2 → Calls Tryz.prog 42 #[.pointer (some ⟨q, 0, none⟩), .int .i64 o.book, .int .i64 now] W' (DoTo w q cap over fp (stp cap over f true o.kind o.book o.units now))) := fun W' hb hk => by
        refine (confirm_any W' q cap over f fp (L.below hb) o.book o.units now b1 b2).mono ?_
        rintro e w' ⟨rfl, h⟩
        rw [hk]
        exact ⟨rfl, LTo.after L hb h⟩
      have H3 : Hid (∀ W', Below w.heap.size w W' → o.kind = 3 → Calls Tryz.prog 43 #[.pointer (some ⟨q, 0, none⟩), .int .i64 o.book] W' fun e w' => e = .returned (.tuple #[]) ∧ DoTo w q cap over fp (stp cap over f true o.kind o.book o.units now) (.returned (.int .i64 1)) w') := fun W' hb hk => by
        refine (end_any W' q cap over o.book f fp (L.below hb) b1 b2).mono ?_
        rintro e w' ⟨rfl, h⟩
        rw [hk]
        exact ⟨rfl, rfl, LTo.after L hb h⟩
      have H4 : Hid (∀ W', Below w.heap.size w W' → ¬ o.kind = 1 → ¬ o.kind = 2 → ¬ o.kind = 3 → DoTo w q cap over fp (stp cap over f true o.kind o.book o.units now) (.returned (.int .i64 2)) W') := fun W' hb h1 h2 h3 => by
        have e : stp cap over f true o.kind o.book o.units now = (f, 2) := by unfold stp; rw [if_neg (by simp), if_neg h1, if_neg h2, if_neg h3]
        rw [e]
        exact ⟨rfl, LTo.of_below L hb⟩
      clear L b1 b2 hu ht
      obtain ⟨r, hr⟩ : ∃ r, r = stp cap over f true o.kind o.book o.units now := ⟨_, rfl⟩
      rw [← hr] at H1 H2 H3 H4 ⊢
      clear hr
      obtain ⟨k, b, u, c, m⟩ := o
      simp only at *
      go_enter Tryz.func16, Tryz.ntmps16
      go_wp2_with fail
      rw [← hW.out]
      refine MW.out.mono ?_
      rintro e w1 ⟨rfl, hh⟩
      have B1 : Hid (Below w.heap.size w w1) := HB.out.trans (hh.mono HB.out.size)
      have hE1 := (hh.block _ (lt_some hE.out)).trans hE.out
      have e0 : w1.cell? ⟨w.heap.size, 0, none⟩ = some (.int .i64 k) := one_at (i := 0) hE1
      have e1 : w1.cell? ⟨w.heap.size, 1, none⟩ = some (.int .i64 b) := one_at (i := 1) hE1
      have e2 : w1.cell? ⟨w.heap.size, 2, none⟩ = some (.int .i64 u) := one_at (i := 2) hE1
      have e3 : w1.cell? ⟨w.heap.size, 3, none⟩ = some (.int .i64 c) := one_at (i := 3) hE1
      have e4 : w1.cell? ⟨w.heap.size, 4, none⟩ = some (.int .i64 m) := one_at (i := 4) hE1
      clear MW hh hE1 hE hW
      by_cases h1 : k = 1
      · have C := H1.out w1 B1.out h1
        have hb1 : (k == 1) = true := by simpa using h1
        clear H1 H2 H3 H4 h1
        go_wp2_with (go_at_call 40; (with_reducible refine (MT _).mono ?_); rintro e w' ⟨rfl, rfl⟩)
        refine C.mono ?_
        rintro e w2 ⟨rfl, hl⟩
        replace hl := Lib.hid hl
        clear C
        go_wp2
        go_ret
        exact ⟨rfl, hl.out⟩
      · have hb1 : (k == 1) = false := by simpa using h1
        by_cases h2 : k = 2
        · have C := H2.out w1 B1.out h2
          have hb2 : (k == 2) = true := by simpa using h2
          clear H1 H2 H3 H4 h1 h2
          go_wp2_with (go_at_call 40; (with_reducible refine (MT _).mono ?_); rintro e w' ⟨rfl, rfl⟩)
          refine C.mono ?_
          rintro e w2 ⟨rfl, hl⟩
          replace hl := Lib.hid hl
          clear C
          go_wp2
          go_ret
          exact ⟨rfl, hl.out⟩
        · have hb2 : (k == 2) = false := by simpa using h2
          by_cases h3 : k = 3
          · have C := H3.out w1 B1.out h3
            have hb3 : (k == 3) = true := by simpa using h3
            clear H1 H2 H3 H4 h1 h2 h3
            go_wp2_with (go_at_call 40; (with_reducible refine (MT _).mono ?_); rintro e w' ⟨rfl, rfl⟩)
            refine C.mono ?_
            rintro e w2 ⟨rfl, hl⟩
            replace hl := Lib.hid hl
            clear C
            go_wp2
            go_ret
            exact hl.out
          · have hb3 : (k == 3) = false := by simpa using h3
            have E := Lib.hid (H4.out w1 B1.out h1 h2 h3)
            clear H1 H2 H3 H4 h1 h2 h3
            go_wp2_with (go_at_call 40; (with_reducible refine (MT _).mono ?_); rintro e w' ⟨rfl, rfl⟩)
            go_ret
            exact E.out
end St
end Go.Proofs.YtchlbkfkecpodaaGreat
