/- What a purse does: auth. -/
import Derived.Test.YtchlbkfkecpodaaPuF
namespace Go.Proofs.Ytchlbkfkecpodaa
set_option maxRecDepth 100000
open Go.RowKit
open Go.Sort (grow)
open Go.Proofs.Ytchlbkfkecpodaa.Pk (one_at one_free one_set lt_some grown_set grown_trans below_grown grown_refl)
namespace Pu

set_option maxHeartbeats 3200000 in
theorem auth_any (w : World) (q : Nat) (p : S) (fp : Nat → Prop) (L : LedP w q p fp) (k u m : Int) (b c : Nat) (h1 : 1 ≤ b) (h2 : b ≤ 200) (c3 : c ≤ 3) (m0 : 0 ≤ m) (m1 : m ≤ 1099511627776) :
    Calls Try.prog 76 #[.pointer (some ⟨q, 0, none⟩), .agg #[.int .i64 k, .int .i64 (b : Int), .int .i64 u, .int .i64 (c : Int), .int .i64 m]] w fun e w' => e = .returned (.int .i64 (auth p (b : Int) (c : Int) m).2) ∧ LTo LineT (fun g => g = q) w q fp (auth p (b : Int) (c : Int) m).1 w' := by
  have hO := Lib.hid L.ok
  have hq := L.lt
  have b0 : (0 : Int) ≤ (b : Int) := by omega
  have b1 : (b : Int) < 201 := by omega
  have hv : Hid (auth p (b : Int) (c : Int) m = if (p.f (b : Int)).st = 0 then (if m ≤ p.a c then (put (mv p b c 4 m) b ⟨4, c, m⟩, 1) else (put p b eg, 2)) else if (p.f (b : Int)).st ≠ 3 ∧ (p.f (b : Int)).cu = c ∧ (p.f (b : Int)).am = m then (p, 1) else (p, 2)) := rfl
  obtain ⟨st, hst⟩ : ∃ x, x = (p.f (b : Int)).st := ⟨_, rfl⟩
  obtain ⟨cu, hcu⟩ : ∃ x, x = (p.f (b : Int)).cu := ⟨_, rfl⟩
  obtain ⟨am, ham⟩ : ∃ x, x = (p.f (b : Int)).am := ⟨_, rfl⟩
  obtain ⟨W0, hW0⟩ : ∃ x, x = w.alloc (.cells #[.int .i64 k, .int .i64 (b : Int), .int .i64 u, .int .i64 (c : Int), .int .i64 m] 30) := ⟨_, rfl⟩
  have B0 : Below w.heap.size w W0 := by rw [hW0]; exact (Below.refl _ _).alloc (Nat.le_refl _) _
  have G0 : W0.heap[w.heap.size]? = some (.cells #[.int .i64 k, .int .i64 (b : Int), .int .i64 u, .int .i64 (c : Int), .int .i64 m] 30 (0, 0)) := by rw [hW0]; exact heap_alloc_new _ _
  have BZ : Below W0.heap.size W0 (W0.alloc (.cells #[.int .i64 0, .int .i64 0, .int .i64 0, .int .i64 0, .int .i64 0] 41)) := (Below.refl _ _).alloc (Nat.le_refl _) _
  obtain ⟨w1, hw1⟩ : ∃ x, x = (W0.alloc (.cells #[.int .i64 st, .int .i64 0, .int .i64 0, .int .i64 cu, .int .i64 am] 41)).drew := ⟨_, rfl⟩
  have B1' : Below W0.heap.size W0 w1 := by rw [hw1]; exact below_drew ((Below.refl _ _).alloc (Nat.le_refl _) _)
  have B1 : Hid (Below w.heap.size w w1) := B0.trans (B1'.mono B0.size)
  have G1 : Hid (w1.heap[W0.heap.size]? = some (.cells #[.int .i64 st, .int .i64 0, .int .i64 0, .int .i64 cu, .int .i64 am] 41 (0, 0))) := by rw [hw1]; exact heap_alloc_new W0 _
  have H1 : Hid (w1.heap[w.heap.size]? = some (.cells #[.int .i64 k, .int .i64 (b : Int), .int .i64 u, .int .i64 (c : Int), .int .i64 m] 30 (0, 0))) := (B1'.block _ (lt_some G0)).trans G0
  have s0 : Hid (w.heap.size ≤ W0.heap.size) := B0.size
  have OW : Hid (∀ w3, Below w.heap.size w w3 → ∀ lb ab bb, Cap w3 q lb ab bb (b : Int) m →
      Calls Try.prog 108 #[.int .i64 (c : Int), .int .i64 4, .pointer (some ⟨lb, 0, none⟩), .pointer (some ⟨ab, 0, none⟩), .pointer (some ⟨bb, 0, none⟩)] w3 (MovTo w3 q fp p b c 4 m)) := fun w3 hb lb ab bb C =>
    mover_any w3 q p fp (L.below hb) lb ab bb c 4 (b : Int) m C (by omega) (by omega) (by omega) ⟨m0, m1⟩
  have EN : Hid (∀ w3 p3, MvTo LineT (fun g => g = q) w q fp p3 w3 → Ok (put p3 (b : Int) eg) → Calls Try.prog 101 #[.pointer (some ⟨q, 0, none⟩), .int .i64 (b : Int)] w3 fun e w' => e = .returned (.tuple #[]) ∧ LTo LineT (fun g => g = q) w q fp (put p3 (b : Int) eg) w') := fun w3 p3 h ho => by
    refine (end_lax w3 q p3 _ h.1 b h2).mono ?_
    rintro e w' ⟨rfl, h'⟩
    exact ⟨rfl, (h.then h').led ho⟩
  have hst' := Lib.hid hst
  rw [← hst, ← hcu, ← ham] at hv
  obtain ⟨v, D0, -, -, -⟩ := (L.below B0).at_
  have DZ := D0.below BZ
  have x1 : W0.cell? ⟨w.heap.size, 1, none⟩ = some (.int .i64 (b : Int)) := one_at (i := 1) G0
  have x2 : (W0.alloc (.cells #[.int .i64 0, .int .i64 0, .int .i64 0, .int .i64 0, .int .i64 0] 41)).cell? ⟨w.heap.size, 1, none⟩ = some (.int .i64 (b : Int)) := one_at (i := 1) ((BZ.block _ (lt_some G0)).trans G0)
  have d0 := D0.st h2
  have d1 := D0.z1 h2
  have d2 := D0.z2 h2
  have d3 := D0.cu h2
  have d4 := D0.am h2
  have f0 := DZ.st h2
  have f1 := DZ.z1 h2
  have f2 := DZ.z2 h2
  have f3 := DZ.cu h2
  have f4 := DZ.am h2
  rw [← hst] at d0 f0
  rw [← hcu] at d3 f3
  rw [← ham] at d4 f4
  replace hW0 := Lib.hid hW0
  replace hw1 := Lib.hid hw1
  replace L := Lib.hid L
  replace hcu := Lib.hid hcu
  replace ham := Lib.hid ham
  replace h1 := Lib.hid h1
  clear hst D0 DZ B0 BZ G0 B1'
  go_enter Try.func76, Try.ntmps76
  go_upto_region 1 with fail
  rw [← hW0.out]
  go_region
  rw [← hw1.out]
  have j1 : w1.cell? ⟨w.heap.size, 1, none⟩ = some (.int .i64 (b : Int)) := one_at (i := 1) H1.out
  have j4 : w1.cell? ⟨w.heap.size, 4, none⟩ = some (.int .i64 m) := one_at (i := 4) H1.out
  clear x1 x2 d0 d1 d2 d3 d4 f0 f1 f2 f3 f4 hw1 hW0
  go_wp2_with fail
  refine (mov_mk w1 q (b : Int) m (Nat.lt_of_lt_of_le hq B1.out.size)).mono ?_
  rintro e w2 ⟨lb, ab, bb, rfl, C, hb2⟩
  have B2 : Hid (Below w.heap.size w w2) := B1.out.trans (hb2.mono B1.out.size)
  have G2 : Hid (w2.heap[W0.heap.size]? = some (.cells #[.int .i64 st, .int .i64 0, .int .i64 0, .int .i64 cu, .int .i64 am] 41 (0, 0))) := (hb2.block _ (lt_some G1.out)).trans G1.out
  have H2 : Hid (w2.heap[w.heap.size]? = some (.cells #[.int .i64 k, .int .i64 (b : Int), .int .i64 u, .int .i64 (c : Int), .int .i64 m] 30 (0, 0))) := (hb2.block _ (lt_some H1.out)).trans H1.out
  have e0 : w2.cell? ⟨W0.heap.size, 0, none⟩ = some (.int .i64 st) := one_at (i := 0) G2.out
  have o3 : w2.cell? ⟨w.heap.size, 3, none⟩ = some (.int .i64 (c : Int)) := one_at (i := 3) H2.out
  replace C := Lib.hid C
  clear G1 H1 B1 hb2 j1 j4
  by_cases s0' : st = 0
  · have MV := Lib.hid (OW.out w2 B2.out lb ab bb C.out)
    rw [if_pos s0'] at hv
    have hst0 := Lib.hid (hst'.out.symm.trans s0')
    clear OW
    subst s0'
    go_wp2_with fail
    refine MV.out.mono ?_
    rintro e w3 hmv
    clear MV C e0 o3
    rcases hmv with ⟨hlt, rfl, hb3⟩ | ⟨hle, rfl, h3⟩
    · have B3 : Hid (Below w.heap.size w w3) := B2.out.trans (hb3.mono B2.out.size)
      have G3 := (hb3.block _ (lt_some G2.out)).trans G2.out
      have H3 := (hb3.block _ (lt_some H2.out)).trans H2.out
      have e0 : w3.cell? ⟨W0.heap.size, 0, none⟩ = some (.int .i64 0) := one_at (i := 0) G3
      have o1 : w3.cell? ⟨w.heap.size, 1, none⟩ = some (.int .i64 (b : Int)) := one_at (i := 1) H3
      rw [if_neg (by omega)] at hv
      have OK := Lib.hid (ok_end (b := (b : Int)) hO.out (by have := h1.out; omega) (by omega) (by rw [hst0.out]; omega) (by rw [hst0.out]; omega))
      have EX := Lib.hid (EN.out w3 p (MvTo.of_below L.out.toLax B3.out) OK.out)
      clear EN OK hb3 hlt G3 H3 B3 B2
      go_wp2_with fail
      refine EX.out.mono ?_
      rintro e w4 ⟨rfl, h4⟩
      have F : Hid ((auth p (b : Int) (c : Int) m).2 = 2 ∧ LTo LineT (fun g => g = q) w q fp (auth p (b : Int) (c : Int) m).1 w4) := by unfold Hid; rw [hv.out]; exact ⟨rfl, h4⟩
      clear EX h4 hv
      go_wp2
      go_ret
      rw [F.out.1]
      exact ⟨rfl, F.out.2⟩
    · rw [if_pos hle] at hv
      have OK := Lib.hid (ok_auth hO.out (by have := h1.out; omega) (by omega) hst0.out (by omega) (by omega) m0 m1 hle)
      have hqs : q ≠ W0.heap.size := by have := s0.out; omega
      have hqt : q ≠ w.heap.size := by omega
      have hs2 := lt_some G2.out
      have G3 := (h3.2.block _ hs2 (fun e => hqs e.symm)).trans G2.out
      have H3 := (h3.2.block _ (lt_some H2.out) (fun e => hqt e.symm)).trans H2.out
      have e0 : w3.cell? ⟨W0.heap.size, 0, none⟩ = some (.int .i64 0) := one_at (i := 0) G3
      have o1 : w3.cell? ⟨w.heap.size, 1, none⟩ = some (.int .i64 (b : Int)) := one_at (i := 1) H3
      have o3 : w3.cell? ⟨w.heap.size, 3, none⟩ = some (.int .i64 (c : Int)) := one_at (i := 3) H3
      have o4 : w3.cell? ⟨w.heap.size, 4, none⟩ = some (.int .i64 m) := one_at (i := 4) H3
      have LR : Lax LineT w3.drew q (mv p b c 4 m) _ := h3.1.keep (w' := w3.drew) (Nat.le_refl _) (fun _ _ => rfl)
      obtain ⟨v3, D3, -, -, -⟩ := LR.at_
      have th := Lib.hid (D3.there h2)
      have F : Hid ((auth p (b : Int) (c : Int) m).2 = 1 ∧ LTo LineT (fun g => g = q) w q fp (auth p (b : Int) (c : Int) m).1 (w3.drew.setCells q (6 + b * 5) (entc ⟨4, c, m⟩).toArray.toList)) := by
        unfold Hid
        rw [hv.out]
        refine ⟨rfl, MvTo.led ?_ OK.out⟩
        have hd : MvTo LineT (fun g => g = q) w2 q fp (mv p b c 4 m) w3.drew := ⟨LR, h3.2.drew⟩
        exact MvTo.after L.out.lt B2.out (hd.then (MvTo.of_same (LR.put h2 ⟨4, c, m⟩) (Kt.of_cells _ _ _ _ (by show 6 + b * 5 + 5 ≤ 1012; omega))))
      clear EN OK h3 hle hqs hqt hs2 G3 H3 G2 H2 LR D3 hv B2
      go_upto_region 4 with fail
      go_still_tail 11, (by kernel_rfl)
      change wpList _ _ _ _ _ w3.drew
      go_wp2_with (refine wpList_store_mid rfl 41 (.tmp 40) (.tmp 37) rfl q (6 + b * 5) (entc ⟨4, c, m⟩).toArray rfl rfl th.out entry_size (entc_one _) ?_)
      go_ret
      rw [F.out.1]
      exact ⟨rfl, F.out.2⟩
  · have g0 : (st == 0) = false := by simpa using s0'
    have e3 : w2.cell? ⟨W0.heap.size, 3, none⟩ = some (.int .i64 cu) := one_at (i := 3) G2.out
    have e4 : w2.cell? ⟨W0.heap.size, 4, none⟩ = some (.int .i64 am) := one_at (i := 4) G2.out
    have o4 : w2.cell? ⟨w.heap.size, 4, none⟩ = some (.int .i64 m) := one_at (i := 4) H2.out
    have FF : Hid (LTo LineT (fun g => g = q) w q fp p w2) := LTo.of_below L.out B2.out
    rw [if_neg s0'] at hv
    clear OW EN G2 H2 B2 C
    by_cases s3 : st = 3
    · have F : Hid (auth p (b : Int) (c : Int) m = (p, 2)) := by unfold Hid; rw [hv.out, if_neg (fun h => h.1 s3)]
      have n3 : (st != 3) = false := by simpa using s3
      clear hv s0'
      subst s3
      go_wp2
      go_ret
      rw [F.out]
      exact ⟨rfl, FF.out⟩
    · have n3 : (st != 3) = true := by simpa using s3
      by_cases hc : cu = (c : Int)
      · have n4 : (cu == (c : Int)) = true := by simpa using hc
        by_cases hm : am = m
        · have F : Hid (auth p (b : Int) (c : Int) m = (p, 1)) := by unfold Hid; rw [hv.out, if_pos ⟨s3, hc, hm⟩]
          have n5 : (am == m) = true := by simpa using hm
          clear hv s0' s3 hc hm
          go_wp2
          go_ret
          rw [F.out]
          exact ⟨rfl, FF.out⟩
        · have F : Hid (auth p (b : Int) (c : Int) m = (p, 2)) := by unfold Hid; rw [hv.out, if_neg (fun h => hm h.2.2)]
          have n5 : (am == m) = false := by simpa using hm
          clear hv s0' s3 hc hm
          go_wp2
          go_ret
          rw [F.out]
          exact ⟨rfl, FF.out⟩
      · have F : Hid (auth p (b : Int) (c : Int) m = (p, 2)) := by unfold Hid; rw [hv.out, if_neg (fun h => hc h.2.1)]
        have n4 : (cu == (c : Int)) = false := by simpa using hc
        clear hv s0' s3 hc
        go_wp2
        go_ret
        rw [F.out]
        exact ⟨rfl, FF.out⟩
end Pu
end Go.Proofs.Ytchlbkfkecpodaa
