/- The document's purse: Do. -/
import Derived.Test.YtchlbkfkecpodaaPrA
import Derived.Test.YtchlbkfkecpodaaWtC
namespace Go.Proofs.Ytchlbkfkecpodaa
set_option maxRecDepth 100000
open Go.RowKit
open Go.Sort (grow)
open Go.Proofs.Ytchlbkfkecpodaa.Pk (one_at one_free one_set lt_some adr_block)
namespace Pu
open Wt (Opn mayOp refmayop_any)

abbrev DPur (w : World) (d : Nat) (p : S) (fp : Nat → Prop) : Prop := Led DLineT w d p fp
/-- What the document's Do leaves. -/
def RDo (w : World) (d : Nat) (fp : Nat → Prop) (r : S × Int) (e : Ending) (w' : World) : Prop := e = .returned (.int .i64 r.2) ∧ RTo w d fp r.1 w'
set_option maxHeartbeats 6400000 in
theorem refdo_any (w : World) (d : Nat) (p : S) (fp : Nat → Prop) (L : DPur w d p fp) (o : Opn) : Calls Try.prog 31 #[.pointer (some ⟨d, 0, none⟩), opv o] w (RDo w d fp (dstp p o)) := by
  obtain ⟨W0, hW0⟩ : ∃ W, W = w.alloc (.cells #[.int .i64 o.kind, .int .i64 o.book, .int .i64 o.units, .int .i64 o.cust, .int .i64 o.amount] 30) := ⟨_, rfl⟩
  have B0 : Hid (Below w.heap.size w W0) := by rw [hW0]; exact (Below.refl _ _).alloc (Nat.le_refl _) _
  have h0 : Hid (W0.heap[w.heap.size]? = some (.cells #[.int .i64 o.kind, .int .i64 o.book, .int .i64 o.units, .int .i64 o.cust, .int .i64 o.amount] 30 (0, 0))) := by rw [hW0]; exact heap_alloc_new _ _
  have MO := Lib.hid (refmayop_any W0 o)
  have x0 : W0.cell? ⟨w.heap.size, 0, none⟩ = some (.int .i64 o.kind) := one_at h0.out
  have x1 : W0.cell? ⟨w.heap.size, 1, none⟩ = some (.int .i64 o.book) := one_at h0.out
  have x2 : W0.cell? ⟨w.heap.size, 2, none⟩ = some (.int .i64 o.units) := one_at h0.out
  have x3 : W0.cell? ⟨w.heap.size, 3, none⟩ = some (.int .i64 o.cust) := one_at h0.out
  have x4 : W0.cell? ⟨w.heap.size, 4, none⟩ = some (.int .i64 o.amount) := one_at h0.out
  replace hW0 := Lib.hid hW0
  have NO : Hid (mayOp o = false ∨ o.kind < 4 → ∀ w', Below w.heap.size w w' → RDo w d fp (dstp p o) (.returned (.int .i64 2)) w') := by
    intro h w' hb
    have e : dstp p o = (p, 2) := by
      unfold dstp stp
      rcases h with h | h
      · rw [h]; rfl
      · cases hc : mayOp o with
        | false => rfl
        | true => rw [if_neg (by decide), if_neg (by omega), if_neg (by omega), if_neg (by omega)]
    unfold RDo
    rw [e]
    exact ⟨rfl, MvTo.of_below L.toLax hb⟩
  cases hm : mayOp o with
  | false =>
    rw [hm] at MO
    have N := Lib.hid (NO.out (.inl hm))
    clear NO hm L
    unfold opv
    go_enter Try.func31, Try.ntmps31
    go_wp2_with fail
    rw [← hW0.out]
    go_wp2_with fail
    refine MO.out.mono ?_
    rintro e w1 ⟨rfl, h1⟩
    have F := Lib.hid (N.out w1 (B0.out.trans (h1.mono B0.out.size)))
    clear x0 x1 x2 x3 x4 h1 MO h0 B0 hW0 N
    go_wp2
    go_ret
    exact F.out
  | true =>
    rw [hm] at MO
    obtain ⟨⟨b1, b2⟩, ⟨k1, k6⟩, hcu⟩ := mayop_bds hm
    by_cases h4 : o.kind < 4
    · have N := Lib.hid (NO.out (.inr h4))
      have g3 : decide (o.kind < 4) = true := decide_eq_true h4
      clear NO hm L hcu k1 k6
      unfold opv
      go_enter Try.func31, Try.ntmps31
      go_wp2_with fail
      rw [← hW0.out]
      go_wp2_with fail
      refine MO.out.mono ?_
      rintro e w1 ⟨rfl, h1⟩
      have y0 : w1.cell? ⟨w.heap.size, 0, none⟩ = some (.int .i64 o.kind) := one_at ((h1.block _ (lt_some h0.out)).trans h0.out)
      have F := Lib.hid (N.out w1 (B0.out.trans (h1.mono B0.out.size)))
      clear x0 x1 x2 x3 x4 h1 MO h0 B0 hW0 N
      go_wp2
      go_ret
      exact F.out
    · have EQ : Hid (dstp p o = stp p true o.kind o.book o.cust o.amount) := by unfold Hid dstp; rw [hm]
      clear NO
      obtain ⟨kd, bk, un, cu, am⟩ := o
      unfold opv
      dsimp only at *
      obtain ⟨kb, rfl⟩ : ∃ k : Nat, bk = (k : Int) := ⟨bk.toNat, by omega⟩
      have k200 : kb ≤ 200 := by omega
      have g3 : decide (kd < 4) = false := decide_eq_false (by omega)
      obtain ⟨st, hst⟩ : ∃ x, x = (p.f (kb : Int)).st := ⟨_, rfl⟩
      obtain ⟨eu, heu⟩ : ∃ x, x = (p.f (kb : Int)).cu := ⟨_, rfl⟩
      obtain ⟨et, het⟩ : ∃ x, x = (p.f (kb : Int)).am := ⟨_, rfl⟩
      have SH := L.ok.shp (kb : Int)
      have OK := Lib.hid L.ok
      have EX : Hid (∀ (p' : S) (r : Int) (w' : World), stp p true kd kb cu am = (p', r) → RTo w d fp p' w' → RDo w d fp (dstp p ⟨kd, kb, un, cu, am⟩) (.returned (.int .i64 r)) w') := by
        intro p' r w' h1 h2
        unfold RDo
        rw [EQ.out, h1]
        exact ⟨rfl, h2⟩
      have MV : Hid (∀ W, Below w.heap.size w W → ∀ (fr tg : Nat) (m : Int), fr ≤ 5 → tg ≤ 5 → fr ≠ tg → 0 ≤ m ∧ m ≤ 1099511627776 → Calls Try.prog 79 #[.pointer (some ⟨d, 0, none⟩), .int .i64 (kb : Int), .int .i64 (fr : Int), .int .i64 (tg : Int), .int .i64 m] W fun e w' => e = .returned (.tuple #[]) ∧ RTo w d fp (mv p (kb : Int) fr tg m) w' ∧ Kq fp W w') := fun W hb fr tg m h1 h2 h3 h4 => by
        refine (refmove_any W d p fp (L.below hb).toLax (kb : Int) m fr tg h1 h2 h3 (by have := L.ok.few; omega) (L.ok.bds (by omega) (by omega)) (L.ok.bds (by omega) (by omega)) h4).mono ?_
        rintro e w' ⟨rfl, h⟩
        exact ⟨rfl, MvTo.after L.lt hb h, h.2.toKq⟩
      have FP : Hid (∀ g, w.heap.size ≤ g → ¬ fp g) := fun g hg h => by have := L.size g h; omega
      have b200 : (kb : Int) < 201 := by omega
      have b0 : (0 : Int) ≤ (kb : Int) := by omega
      replace MV := Lib.hid MV.out
      go_enter Try.func31, Try.ntmps31
      go_wp2_with fail
      rw [← hW0.out]
      go_wp2_with fail
      refine MO.out.mono ?_
      rintro e w1 ⟨rfl, h1⟩
      have B1 : Hid (Below w.heap.size w w1) := B0.out.trans (h1.mono B0.out.size)
      have H1 : Hid (w1.heap[w.heap.size]? = some (.cells #[.int .i64 kd, .int .i64 kb, .int .i64 un, .int .i64 cu, .int .i64 am] 30 (0, 0))) := (h1.block _ (lt_some h0.out)).trans h0.out
      obtain ⟨v, D, R, hne, hv⟩ := L.at_
      have D1 := D.below B1.out
      have y0 : w1.cell? ⟨w.heap.size, 0, none⟩ = some (.int .i64 kd) := one_at H1.out
      have y1 : w1.cell? ⟨w.heap.size, 1, none⟩ = some (.int .i64 (kb : Int)) := one_at H1.out
      have c0 := D1.st k200
      have c1 := D1.z1 k200
      have c2 := D1.z2 k200
      have c3 := D1.cu k200
      have c4 := D1.am k200
      rw [← hst] at c0
      rw [← heu] at c3
      rw [← het] at c4
      have BZ : Below w1.heap.size w1 (w1.alloc (.cells #[.int .i64 0, .int .i64 0, .int .i64 0, .int .i64 0, .int .i64 0] 41)) := (Below.refl _ _).alloc (Nat.le_refl _) _
      have DZ := D1.below BZ
      have yz : (w1.alloc (.cells #[.int .i64 0, .int .i64 0, .int .i64 0, .int .i64 0, .int .i64 0] 41)).cell? ⟨w.heap.size, 1, none⟩ = some (.int .i64 (kb : Int)) := one_at ((BZ.block _ (lt_some H1.out)).trans H1.out)
      have d0 := DZ.st k200
      have d1 := DZ.z1 k200
      have d2 := DZ.z2 k200
      have d3 := DZ.cu k200
      have d4 := DZ.am k200
      rw [← hst] at d0
      rw [← heu] at d3
      rw [← het] at d4
      replace hst := Lib.hid hst
      replace heu := Lib.hid heu
      replace het := Lib.hid het
      replace SH := Lib.hid SH
      clear BZ DZ x0 x1 x2 x3 x4 h1 MO h0 B0 hW0 R hne hv
      go_upto_region 3 with fail
      go_region
      obtain ⟨w3, hw3⟩ : ∃ X, X = (w1.alloc (.cells #[.int .i64 st, .int .i64 0, .int .i64 0, .int .i64 eu, .int .i64 et] 41)).drew := ⟨_, rfl⟩
      rw [← hw3]
      have B3 : Below w1.heap.size w1 w3 := by rw [hw3]; exact below_drew ((Below.refl _ _).alloc (Nat.le_refl _) _)
      have E3 : w3.heap[w1.heap.size]? = some (.cells #[.int .i64 st, .int .i64 0, .int .i64 0, .int .i64 eu, .int .i64 et] 41 (0, 0)) := by rw [hw3]; exact heap_alloc_new w1 _
      have H3 : w3.heap[w.heap.size]? = some (.cells #[.int .i64 kd, .int .i64 kb, .int .i64 un, .int .i64 cu, .int .i64 am] 30 (0, 0)) := (B3.block _ (lt_some H1.out)).trans H1.out
      obtain ⟨W4, hW4⟩ : ∃ X, X = w3.alloc (.cells #[.int .i64 3, .int .i64 0, .int .i64 0, .int .i64 0, .int .i64 0] 41) := ⟨_, rfl⟩
      have B4 : Below w3.heap.size w3 W4 := by rw [hW4]; exact (Below.refl _ _).alloc (Nat.le_refl _) _
      have G4 : Hid (W4.heap[w3.heap.size]? = some (.cells #[.int .i64 3, .int .i64 0, .int .i64 0, .int .i64 0, .int .i64 0] 41 (0, 0))) := by rw [hW4]; exact heap_alloc_new _ _
      have E4 : Hid (W4.heap[w1.heap.size]? = some (.cells #[.int .i64 st, .int .i64 0, .int .i64 0, .int .i64 eu, .int .i64 et] 41 (0, 0))) := (B4.block _ (lt_some E3)).trans E3
      have H4 : Hid (W4.heap[w.heap.size]? = some (.cells #[.int .i64 kd, .int .i64 kb, .int .i64 un, .int .i64 cu, .int .i64 am] 30 (0, 0))) := (B4.block _ (lt_some H3)).trans H3
      have BW : Hid (Below w.heap.size w W4) := (B1.out.trans (B3.mono B1.out.size)).trans (B4.mono (Nat.le_trans B1.out.size B3.size))
      have s3 : Hid (w.heap.size ≤ w1.heap.size ∧ w.heap.size ≤ w3.heap.size) := ⟨B1.out.size, Nat.le_trans B1.out.size B3.size⟩
      have R4 : Hid (RTo w d fp p W4) := MvTo.of_below L.toLax BW.out
      have y0 : W4.cell? ⟨w.heap.size, 0, none⟩ = some (.int .i64 kd) := one_at H4.out
      have y1 : W4.cell? ⟨w.heap.size, 1, none⟩ = some (.int .i64 (kb : Int)) := one_at H4.out
      have y3 : W4.cell? ⟨w.heap.size, 3, none⟩ = some (.int .i64 cu) := one_at H4.out
      have y4 : W4.cell? ⟨w.heap.size, 4, none⟩ = some (.int .i64 am) := one_at H4.out
      have e0 : W4.cell? ⟨w1.heap.size, 0, none⟩ = some (.int .i64 st) := one_at E4.out
      have e3 : W4.cell? ⟨w1.heap.size, 3, none⟩ = some (.int .i64 eu) := one_at E4.out
      have e4 : W4.cell? ⟨w1.heap.size, 4, none⟩ = some (.int .i64 et) := one_at E4.out
      have v0 : W4.cell? ⟨w3.heap.size, 0, none⟩ = some (.int .i64 3) := one_at G4.out
      have v1 : W4.cell? ⟨w3.heap.size, 1, none⟩ = some (.int .i64 0) := one_at G4.out
      have v2 : W4.cell? ⟨w3.heap.size, 2, none⟩ = some (.int .i64 0) := one_at G4.out
      have v3 : W4.cell? ⟨w3.heap.size, 3, none⟩ = some (.int .i64 0) := one_at G4.out
      have v4 : W4.cell? ⟨w3.heap.size, 4, none⟩ = some (.int .i64 0) := one_at G4.out
      have LL := Lib.hid L
      replace k200 := Lib.hid k200
      replace hW4 := Lib.hid hW4
      clear d0 d1 d2 d3 d4 c0 c1 c2 c3 c4 yz hw3 B3 E3 H3 B4 D D1 EQ L
      go_upto_region 5 with fail
      rw [← hW4.out]
      clear hW4
      by_cases q6 : kd = 6
      · have n6 : (kd == 6) = true := by simpa using q6
        have ST : Hid (stp p true kd kb cu am = (void p kb, 1)) := by unfold Hid stp; rw [if_neg (by decide), if_neg (by omega), if_neg (by omega), if_pos q6]
        by_cases s4 : st = 4
        · have C := Lib.hid (MV.out W4 BW.out 4 eu.toNat et (by omega) (by have := SH.out.bds; rw [← heu.out] at this; omega) (by have := SH.out.bds; rw [← heu.out] at this; omega) (by have := SH.out.bds; rw [← het.out] at this; omega))
          have PV : Hid (void p (kb : Int) = Pu.put (mv p kb ((4 : Nat) : Int) (eu.toNat : Int) et) kb eg) := by
            have h1 := SH.out.bds
            unfold Hid void
            rw [← hst.out, if_pos s4, ← heu.out, ← het.out, show ((eu.toNat : Nat) : Int) = eu by rw [← heu.out] at h1; omega]
            rfl
          have eun : ((eu.toNat : Nat) : Int) = eu := by have h1 := SH.out.bds; rw [← heu.out] at h1; omega
          rw [eun] at C
          replace eun := Lib.hid eun
          subst s4
          clear MV q6
          go_wp2_with fail
          refine C.out.mono ?_
          rintro e w5 ⟨rfl, R5, K5⟩
          clear C
          rw [← eun.out] at R5
          have H5 := (K5.block _ (lt_some H4.out) (FP.out _ (Nat.le_refl _))).trans H4.out
          have E5 := (K5.block _ (lt_some E4.out) (FP.out _ s3.out.1)).trans E4.out
          have G5 := (K5.block _ (lt_some G4.out) (FP.out _ s3.out.2)).trans G4.out
          have y0 : w5.cell? ⟨w.heap.size, 0, none⟩ = some (.int .i64 kd) := one_at H5
          have y1 : w5.cell? ⟨w.heap.size, 1, none⟩ = some (.int .i64 (kb : Int)) := one_at H5
          have v0 : w5.cell? ⟨w3.heap.size, 0, none⟩ = some (.int .i64 3) := one_at G5
          have v1 : w5.cell? ⟨w3.heap.size, 1, none⟩ = some (.int .i64 0) := one_at G5
          have v2 : w5.cell? ⟨w3.heap.size, 2, none⟩ = some (.int .i64 0) := one_at G5
          have v3 : w5.cell? ⟨w3.heap.size, 3, none⟩ = some (.int .i64 0) := one_at G5
          have v4 : w5.cell? ⟨w3.heap.size, 4, none⟩ = some (.int .i64 0) := one_at G5
          clear H5 E5 G5 K5
          go_upto_region 11 with fail
          have F : Hid (RTo w d fp _ (w5.drew.setCells d (6 + kb * 5) (entc eg).toArray.toList)) := R5.drew.put k200.out eg
          obtain ⟨v5, D5, -, -, -⟩ := R5.drew.1.at_
          have th := Lib.hid (D5.there k200.out)
          clear R5 D5
          go_still_tail 7, (by kernel_rfl)
          change wpList _ _ _ _ _ w5.drew
          go_wp2_with (refine wpList_store_mid rfl 41 (.tmp 55) (.tmp 52) rfl d (6 + kb * 5) (entc eg).toArray rfl rfl th.out entry_size (entc_one _) ?_)
          go_ret
          exact EX.out _ _ _ (by rw [ST.out, PV.out]) F.out
        · by_cases s5 : st = 5
          · have C := Lib.hid (MV.out W4 BW.out 5 eu.toNat et (by omega) (by have := SH.out.bds; rw [← heu.out] at this; omega) (by have := SH.out.bds; rw [← heu.out] at this; omega) (by have := SH.out.bds; rw [← het.out] at this; omega))
            have PV : Hid (void p (kb : Int) = Pu.put (mv p kb ((5 : Nat) : Int) (eu.toNat : Int) et) kb eg) := by
              have h1 := SH.out.bds
              unfold Hid void
              rw [← hst.out, if_neg s4, if_pos s5, ← heu.out, ← het.out, show ((eu.toNat : Nat) : Int) = eu by rw [← heu.out] at h1; omega]
              rfl
            have eun : ((eu.toNat : Nat) : Int) = eu := by have h1 := SH.out.bds; rw [← heu.out] at h1; omega
            rw [eun] at C
            replace eun := Lib.hid eun
            subst s5
            clear MV q6 s4
            go_wp2_with fail
            refine C.out.mono ?_
            rintro e w5 ⟨rfl, R5, K5⟩
            clear C
            rw [← eun.out] at R5
            have H5 := (K5.block _ (lt_some H4.out) (FP.out _ (Nat.le_refl _))).trans H4.out
            have E5 := (K5.block _ (lt_some E4.out) (FP.out _ s3.out.1)).trans E4.out
            have G5 := (K5.block _ (lt_some G4.out) (FP.out _ s3.out.2)).trans G4.out
            have y0 : w5.cell? ⟨w.heap.size, 0, none⟩ = some (.int .i64 kd) := one_at H5
            have y1 : w5.cell? ⟨w.heap.size, 1, none⟩ = some (.int .i64 (kb : Int)) := one_at H5
            have v0 : w5.cell? ⟨w3.heap.size, 0, none⟩ = some (.int .i64 3) := one_at G5
            have v1 : w5.cell? ⟨w3.heap.size, 1, none⟩ = some (.int .i64 0) := one_at G5
            have v2 : w5.cell? ⟨w3.heap.size, 2, none⟩ = some (.int .i64 0) := one_at G5
            have v3 : w5.cell? ⟨w3.heap.size, 3, none⟩ = some (.int .i64 0) := one_at G5
            have v4 : w5.cell? ⟨w3.heap.size, 4, none⟩ = some (.int .i64 0) := one_at G5
            clear H5 E5 G5 K5
            go_upto_region 11 with fail
            have F : Hid (RTo w d fp _ (w5.drew.setCells d (6 + kb * 5) (entc eg).toArray.toList)) := R5.drew.put k200.out eg
            obtain ⟨v5, D5, -, -, -⟩ := R5.drew.1.at_
            have th := Lib.hid (D5.there k200.out)
            clear R5 D5
            go_still_tail 7, (by kernel_rfl)
            change wpList _ _ _ _ _ w5.drew
            go_wp2_with (refine wpList_store_mid rfl 41 (.tmp 55) (.tmp 52) rfl d (6 + kb * 5) (entc eg).toArray rfl rfl th.out entry_size (entc_one _) ?_)
            go_ret
            exact EX.out _ _ _ (by rw [ST.out, PV.out]) F.out
          · have n4 : (st == 4) = false := by simpa using s4
            have n5 : (st == 5) = false := by simpa using s5
            have PV : Hid (void p (kb : Int) = Pu.put p kb eg) := by unfold Hid void; rw [← hst.out, if_neg s4, if_neg s5]
            have R5 := R4.out
            clear MV q6 s4 s5
            go_upto_region 11 with fail
            have F : Hid (RTo w d fp _ (W4.drew.setCells d (6 + kb * 5) (entc eg).toArray.toList)) := R5.drew.put k200.out eg
            obtain ⟨v5, D5, -, -, -⟩ := R5.drew.1.at_
            have th := Lib.hid (D5.there k200.out)
            clear R5 D5
            go_still_tail 7, (by kernel_rfl)
            change wpList _ _ _ _ _ W4.drew
            go_wp2_with (refine wpList_store_mid rfl 41 (.tmp 55) (.tmp 52) rfl d (6 + kb * 5) (entc eg).toArray rfl rfl th.out entry_size (entc_one _) ?_)
            go_ret
            exact EX.out _ _ _ (by rw [ST.out, PV.out]) F.out
      · have n6 : (kd == 6) = false := by simpa using q6
        by_cases s3' : st = 3
        · have P : Hid (stp p true kd kb cu am = (p, 2)) := by
            have hg : p.f (kb : Int) = eg := SH.out.gone (by rw [← hst.out]; exact s3')
            have e1 : Pu.put p (kb : Int) eg = p := by
              show (⟨p.a, upd p.f (kb : Int) eg, p.l⟩ : S) = p
              rw [upd_id hg]
            unfold Hid stp
            rw [if_neg (by decide)]
            by_cases h4 : kd = 4
            · rw [if_pos h4]; unfold auth; rw [← hst.out, if_neg (by omega), if_neg (fun h => h.1 s3')]
            · rw [if_neg h4]
              by_cases h5 : kd = 5
              · rw [if_pos h5]; unfold capt; rw [← hst.out, if_neg (by omega), if_neg (by omega), e1]
              · rw [if_neg h5, if_neg q6]
          have F := Lib.hid (EX.out _ _ _ P.out R4.out)
          have n3 : (st == 3) = true := by simpa using s3'
          clear MV EX q6 s3'
          go_wp2
          go_ret
          exact F.out
        · have n3 : (st == 3) = false := by simpa using s3'
          by_cases q4 : kd = 4
          · have n4 : (kd == 4) = true := by simpa using q4
            have ST : Hid (stp p true kd kb cu am = auth p kb cu am) := by unfold Hid stp; rw [if_neg (by decide), if_pos q4]
            obtain ⟨⟨c0, c3⟩, m0, m1⟩ := hcu q4
            obtain ⟨cn, rfl⟩ : ∃ k : Nat, cu = (k : Int) := ⟨cu.toNat, by omega⟩
            by_cases s0 : st = 0
            · have n0 : (st == 0) = true := by simpa using s0
              have ca : W4.cell? ⟨d, cn, none⟩ = some (.int .i64 (p.a (cn : Int))) := by
                obtain ⟨v, D, _⟩ := R4.out.1.at_
                exact D.acc cn (by omega)
              obtain ⟨ac, hac⟩ : ∃ x, x = p.a (cn : Int) := ⟨_, rfl⟩
              rw [← hac] at ca
              have j0 : (0 : Int) ≤ (cn : Int) := by omega
              have j6 : (cn : Int) < 6 := by omega
              by_cases hlt : ac < am
              · have dl : decide (ac < am) = true := decide_eq_true hlt
                have PV : Hid (auth p kb (cn : Int) am = (Pu.put p kb eg, 2)) := by unfold Hid auth; rw [← hst.out, if_pos s0, if_neg (by omega)]
                clear MV q6 s3' hcu c0 c3 m0 m1 hac hlt s0 q4
                go_upto_region 16 with fail
                go_quiet (fail)
                generalize hW5 : World.drewN _ _ = w5
                have B5 : Below W4.heap.size W4 w5 := by rw [← hW5]; exact ⟨rfl, rfl, rfl, Nat.le_refl _, fun _ _ => rfl⟩
                have BW5 : Hid (Below w.heap.size w w5) := BW.out.trans (B5.mono BW.out.size)
                have R5 : RTo w d fp p w5 := MvTo.of_below LL.out.toLax BW5.out
                have H5 := (B5.block _ (lt_some H4.out)).trans H4.out
                have G5 := (B5.block _ (lt_some G4.out)).trans G4.out
                have y1 : w5.cell? ⟨w.heap.size, 1, none⟩ = some (.int .i64 (kb : Int)) := one_at H5
                have y3 : w5.cell? ⟨w.heap.size, 3, none⟩ = some (.int .i64 (cn : Int)) := one_at H5
                have y4 : w5.cell? ⟨w.heap.size, 4, none⟩ = some (.int .i64 am) := one_at H5
                have v0 : w5.cell? ⟨w3.heap.size, 0, none⟩ = some (.int .i64 3) := one_at G5
                have v1 : w5.cell? ⟨w3.heap.size, 1, none⟩ = some (.int .i64 0) := one_at G5
                have v2 : w5.cell? ⟨w3.heap.size, 2, none⟩ = some (.int .i64 0) := one_at G5
                have v3 : w5.cell? ⟨w3.heap.size, 3, none⟩ = some (.int .i64 0) := one_at G5
                have v4 : w5.cell? ⟨w3.heap.size, 4, none⟩ = some (.int .i64 0) := one_at G5
                clear hW5 B5 G5
                go_upto_region 17 with fail
                have F : Hid (RTo w d fp _ (w5.drew.setCells d (6 + kb * 5) (entc eg).toArray.toList)) := R5.drew.put k200.out eg
                obtain ⟨v5, D5, -, -, -⟩ := R5.drew.1.at_
                have th := Lib.hid (D5.there k200.out)
                clear R5 D5
                go_still_tail 7, (by kernel_rfl)
                change wpList _ _ _ _ _ w5.drew
                go_wp2_with (refine wpList_store_mid rfl 41 (.tmp 85) (.tmp 82) rfl d (6 + kb * 5) (entc eg).toArray rfl rfl th.out entry_size (entc_one _) ?_)
                go_ret
                exact EX.out _ _ _ (by rw [ST.out, PV.out]) F.out
              · have dl : decide (ac < am) = false := decide_eq_false hlt
                have PV : Hid (auth p kb (cn : Int) am = (Pu.put (mv p kb (cn : Int) 4 am) kb ⟨4, (cn : Int), am⟩, 1)) := by unfold Hid auth; rw [← hst.out, if_pos s0, if_pos (by omega)]
                have MV2 := Lib.hid (fun W hb => MV.out W hb cn 4 am (by omega) (by omega) (by omega) ⟨m0, m1⟩)
                clear MV q6 s3' hcu c0 c3 m0 m1 hac hlt s0 q4
                go_upto_region 16 with fail
                go_quiet (fail)
                generalize hW5 : World.drewN _ _ = w5
                have B5 : Below W4.heap.size W4 w5 := by rw [← hW5]; exact ⟨rfl, rfl, rfl, Nat.le_refl _, fun _ _ => rfl⟩
                have BW5 : Hid (Below w.heap.size w w5) := BW.out.trans (B5.mono BW.out.size)
                have R5 : RTo w d fp p w5 := MvTo.of_below LL.out.toLax BW5.out
                have H5 := (B5.block _ (lt_some H4.out)).trans H4.out
                have G5 := (B5.block _ (lt_some G4.out)).trans G4.out
                have y1 : w5.cell? ⟨w.heap.size, 1, none⟩ = some (.int .i64 (kb : Int)) := one_at H5
                have y3 : w5.cell? ⟨w.heap.size, 3, none⟩ = some (.int .i64 (cn : Int)) := one_at H5
                have y4 : w5.cell? ⟨w.heap.size, 4, none⟩ = some (.int .i64 am) := one_at H5
                have v0 : w5.cell? ⟨w3.heap.size, 0, none⟩ = some (.int .i64 3) := one_at G5
                have v1 : w5.cell? ⟨w3.heap.size, 1, none⟩ = some (.int .i64 0) := one_at G5
                have v2 : w5.cell? ⟨w3.heap.size, 2, none⟩ = some (.int .i64 0) := one_at G5
                have v3 : w5.cell? ⟨w3.heap.size, 3, none⟩ = some (.int .i64 0) := one_at G5
                have v4 : w5.cell? ⟨w3.heap.size, 4, none⟩ = some (.int .i64 0) := one_at G5
                clear hW5 B5 G5
                have C := Lib.hid (MV2.out w5 BW5.out)
                go_wp2_with fail
                refine C.out.mono ?_
                rintro e w6 ⟨rfl, R6, K6⟩
                clear C MV2
                have H6 := (K6.block _ (lt_some H5) (FP.out _ (Nat.le_refl _))).trans H5
                have y1 : w6.cell? ⟨w.heap.size, 1, none⟩ = some (.int .i64 (kb : Int)) := one_at H6
                have y3 : w6.cell? ⟨w.heap.size, 3, none⟩ = some (.int .i64 (cn : Int)) := one_at H6
                have y4 : w6.cell? ⟨w.heap.size, 4, none⟩ = some (.int .i64 am) := one_at H6
                have R5 := R6
                clear H6 K6
                go_upto_region 20 with fail
                have F : Hid (RTo w d fp _ (w6.drew.setCells d (6 + kb * 5) (entc (⟨4, (cn:Int), am⟩ : E)).toArray.toList)) := R5.drew.put k200.out (⟨4, (cn:Int), am⟩ : E)
                obtain ⟨v5, D5, -, -, -⟩ := R5.drew.1.at_
                have th := Lib.hid (D5.there k200.out)
                clear R5 D5
                go_still_tail 11, (by kernel_rfl)
                change wpList _ _ _ _ _ w6.drew
                go_wp2_with (refine wpList_store_mid rfl 41 (.tmp 104) (.tmp 101) rfl d (6 + kb * 5) (entc (⟨4, (cn:Int), am⟩ : E)).toArray rfl rfl th.out entry_size (entc_one _) ?_)
                go_ret
                exact EX.out _ _ _ (by rw [ST.out, PV.out]; rfl) F.out
            · have n0 : (st == 0) = false := by simpa using s0
              have e0' : (st != 3) = true := by simpa using s3'
              by_cases hc : eu = (cn : Int)
              · have n7 : (eu == (cn : Int)) = true := by simpa using hc
                by_cases hm2 : et = am
                · have n8 : (et == am) = true := by simpa using hm2
                  have PV : Hid (auth p kb (cn : Int) am = (p, 1)) := by unfold Hid auth; rw [← hst.out, ← heu.out, ← het.out, if_neg s0, if_pos ⟨s3', hc, hm2⟩]
                  have F := Lib.hid (EX.out _ _ _ (by rw [ST.out, PV.out]) R4.out)
                  clear MV EX q6 s3' hcu c0 c3 m0 m1 hc hm2 s0 q4
                  go_wp2
                  go_ret
                  exact F.out
                · have n8 : (et == am) = false := by simpa using hm2
                  have PV : Hid (auth p kb (cn : Int) am = (p, 2)) := by unfold Hid auth; rw [← hst.out, ← heu.out, ← het.out, if_neg s0, if_neg (fun h => hm2 h.2.2)]
                  have F := Lib.hid (EX.out _ _ _ (by rw [ST.out, PV.out]) R4.out)
                  clear MV EX q6 s3' hcu c0 c3 m0 m1 hc hm2 s0 q4
                  go_wp2
                  go_ret
                  exact F.out
              · have n7 : (eu == (cn : Int)) = false := by simpa using hc
                have PV : Hid (auth p kb (cn : Int) am = (p, 2)) := by unfold Hid auth; rw [← hst.out, ← heu.out, ← het.out, if_neg s0, if_neg (fun h => hc h.2.1)]
                have F := Lib.hid (EX.out _ _ _ (by rw [ST.out, PV.out]) R4.out)
                clear MV EX q6 s3' hcu c0 c3 m0 m1 hc s0 q4
                go_wp2
                go_ret
                exact F.out
          · have n4 : (kd == 4) = false := by simpa using q4
            have q5 : kd = 5 := by omega
            have ST : Hid (stp p true kd kb cu am = capt p kb) := by unfold Hid stp; rw [if_neg (by decide), if_neg q4, if_pos q5]
            by_cases s0 : st = 0
            · have n0 : (st == 0) = true := by simpa using s0
              have PV : Hid (capt p (kb : Int) = (Pu.put p kb eg, 2)) := by unfold Hid capt; rw [← hst.out, if_neg (by omega), if_neg (by omega)]
              have R5 := R4.out
              clear MV q6 s3' hcu q4 q5 s0
              go_upto_region 27 with fail
              have F : Hid (RTo w d fp _ (W4.drew.setCells d (6 + kb * 5) (entc eg).toArray.toList)) := R5.drew.put k200.out eg
              obtain ⟨v5, D5, -, -, -⟩ := R5.drew.1.at_
              have th := Lib.hid (D5.there k200.out)
              clear R5 D5
              go_still_tail 7, (by kernel_rfl)
              change wpList _ _ _ _ _ W4.drew
              go_wp2_with (refine wpList_store_mid rfl 41 (.tmp 137) (.tmp 134) rfl d (6 + kb * 5) (entc eg).toArray rfl rfl th.out entry_size (entc_one _) ?_)
              go_ret
              exact EX.out _ _ _ (by rw [ST.out, PV.out]) F.out
            · have n0 : (st == 0) = false := by simpa using s0
              by_cases s4 : st = 4
              · have C := Lib.hid (MV.out W4 BW.out 4 5 et (by omega) (by omega) (by omega) (by have := SH.out.bds; rw [← het.out] at this; omega))
                have PV : Hid (capt p (kb : Int) = (Pu.put (mv p kb 4 5 et) kb ⟨5, eu, et⟩, 1)) := by unfold Hid capt; rw [← hst.out, if_neg (by omega), if_pos s4, ← heu.out, ← het.out]
                subst s4
                clear MV q6 s3' hcu q4 q5 s0
                go_wp2_with fail
                refine C.out.mono ?_
                rintro e w5 ⟨rfl, R5, K5⟩
                clear C
                have H5 := (K5.block _ (lt_some H4.out) (FP.out _ (Nat.le_refl _))).trans H4.out
                have E5 := (K5.block _ (lt_some E4.out) (FP.out _ s3.out.1)).trans E4.out
                have G5 := (K5.block _ (lt_some G4.out) (FP.out _ s3.out.2)).trans G4.out
                have y0 : w5.cell? ⟨w.heap.size, 0, none⟩ = some (.int .i64 kd) := one_at H5
                have y1 : w5.cell? ⟨w.heap.size, 1, none⟩ = some (.int .i64 (kb : Int)) := one_at H5
                have v0 : w5.cell? ⟨w3.heap.size, 0, none⟩ = some (.int .i64 3) := one_at G5
                have v1 : w5.cell? ⟨w3.heap.size, 1, none⟩ = some (.int .i64 0) := one_at G5
                have v2 : w5.cell? ⟨w3.heap.size, 2, none⟩ = some (.int .i64 0) := one_at G5
                have v3 : w5.cell? ⟨w3.heap.size, 3, none⟩ = some (.int .i64 0) := one_at G5
                have v4 : w5.cell? ⟨w3.heap.size, 4, none⟩ = some (.int .i64 0) := one_at G5
                clear H5 E5 G5 K5
                obtain ⟨v5, D5, -, -, -⟩ := R5.1.at_
                have c6 := D5.st k200.out
                have q6 := D5.free (6 + kb * 5)
                have F : Hid (RTo w d fp (Pu.put (mv p kb 4 5 et) kb ⟨5, eu, et⟩) (w5.setCell ⟨d, 6 + kb * 5, none⟩ (.int .i64 5)).drew) := by
                  have h1 := R5.1.state k200.out 5
                  rw [show (⟨5, ((mv p (kb : Int) ((4 : Nat) : Int) ((5 : Nat) : Int) et).f (kb : Int)).cu, ((mv p (kb : Int) ((4 : Nat) : Int) ((5 : Nat) : Int) et).f (kb : Int)).am⟩ : E) = ⟨5, eu, et⟩ by rw [heu.out, het.out]; rfl] at h1
                  exact (R5.then (MvTo.of_same h1 (by rw [set1]; exact (Kt.of_cells _ _ _ _ (by have := k200.out; show 6 + kb * 5 + 1 ≤ 1012; omega)).mono fun g hg => by rw [hg]; exact R5.1.pin))).drew
                clear R5 D5
                go_upto_region 31 with fail
                go_still_tail 7, (by kernel_rfl)
                change wpList _ _ _ _ _ w5.drew
                go_wp2
                go_ret
                exact EX.out _ _ _ (by rw [ST.out, PV.out]) F.out
              · have s5 : st = 5 := by
                  rcases SH.out.st_ne (by rw [← hst.out]; exact s0) with h | h | h
                  · rw [← hst.out] at h; exact absurd h s3'
                  · rw [← hst.out] at h; exact absurd h s4
                  · rw [← hst.out] at h; exact h
                have n5 : (st == 4) = false := by simpa using s4
                have PV : Hid (capt p (kb : Int) = (p, 1)) := by unfold Hid capt; rw [← hst.out, if_pos s5]
                have F := Lib.hid (EX.out _ _ _ (by rw [ST.out, PV.out]) R4.out)
                clear MV EX q6 s3' hcu q4 q5 s0 s4 s5
                go_wp2
                go_ret
                exact F.out
end Pu
end Go.Proofs.Ytchlbkfkecpodaa
