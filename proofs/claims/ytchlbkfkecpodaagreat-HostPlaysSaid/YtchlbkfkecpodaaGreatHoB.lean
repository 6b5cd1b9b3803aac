/- New, mayAsk, once, Ask of a host. -/
import Derived.Test.YtchlbkfkecpodaaGreatHoA
import Derived.Deep.RegionWith
namespace Go.Proofs.YtchlbkfkecpodaaGreat
set_option maxRecDepth 100000
open Go.RowKit
open Go.Sort (grow)
open Go.Proofs.YtchlbkfkecpodaaGreat.Pk (one_at one_free one_set lt_some grown_set grown_trans below_grown grown_refl)
namespace Ho
open Wt (Opn mayOp)
open St (Kq grq Led Kt dstp tick)
open Tb (Tab Kz)

abbrev opv (o : Opn) : Value := .agg #[.int .i64 o.kind, .int .i64 o.book, .int .i64 o.units, .int .i64 o.cust, .int .i64 o.amount]
abbrev opc (o : Opn) : Array Value := #[.int .i64 o.kind, .int .i64 o.book, .int .i64 o.units, .int .i64 o.cust, .int .i64 o.amount]
/-! ### New -/
set_option maxHeartbeats 800000 in
theorem hnew_no (w : World) (cap over : Int) (hm : St.mayS cap over = false) : Calls Tryz.prog 4 #[.agg #[.int .i64 cap, .int .i64 over]] w fun e w' => e = .returned (.tuple #[.pointer none, .int .i64 1]) ∧ Below w.heap.size w w' := by
  have HB : Hid (∀ w1, Below (w.alloc (.cells #[.int .i64 cap, .int .i64 over] 23)).heap.size (w.alloc (.cells #[.int .i64 cap, .int .i64 over] 23)) w1 → Below w.heap.size w w1) := fun w1 h1 =>
    ((Below.refl _ _).alloc (Nat.le_refl _) _).trans (h1.mono (by simp))
  have NW := fun w => St.new_no w cap over hm
  clear hm
  go_enter Tryz.func4, Tryz.ntmps4
  go_wp2_with fail
  refine (NW _).mono ?_
  rintro e w1 ⟨rfl, h1⟩
  have B1 := Lib.hid (HB.out w1 h1)
  clear h1 HB NW
  go_wp2
  go_ret2
  exact ⟨rfl, B1.out⟩
set_option maxHeartbeats 800000 in
theorem hnew_yes (w : World) (cap over : Int) (hm : St.mayS cap over = true) : Calls Tryz.prog 4 #[.agg #[.int .i64 cap, .int .i64 over]] w fun e w' => ∃ q, e = .returned (.tuple #[.pointer (some ⟨q, 0, none⟩), .int .i64 0]) ∧ w.heap.size ≤ q ∧ Hst w' q cap over sz (fun x => x = q) ∧ Below w.heap.size w w' := by
  have HB : Hid (∀ w1, Below (w.alloc (.cells #[.int .i64 cap, .int .i64 over] 23)).heap.size (w.alloc (.cells #[.int .i64 cap, .int .i64 over] 23)) w1 → Below w.heap.size w w1) := fun w1 h1 =>
    ((Below.refl _ _).alloc (Nat.le_refl _) _).trans (h1.mono (by simp))
  have NW := fun w => St.new_yes w cap over hm
  have O := Lib.hid (Ok.start hm)
  clear hm
  go_enter Tryz.func4, Tryz.ntmps4
  go_wp2_with fail
  refine (NW _).mono ?_
  rintro e w1 ⟨q, rfl, hq, L, h1⟩
  have B1 := Lib.hid (HB.out w1 h1)
  obtain ⟨mo, g1, g2, g3⟩ := L.at_
  obtain rfl : mo = none := by
    rcases g2 with ⟨e, _⟩ | ⟨m, D, e, ho, T⟩
    · exact e
    · exact absurd (g3 m e).symm (g1.ne_map ho)
  have c0 := g1.c0
  have c1 := g1.c1
  have c2 := g1.c2
  have E : Hid (∃ q', w1.heap.size = q' ∧ w.heap.size ≤ q' ∧ Hst (w1.alloc (.cells #[.int .i64 cap, .int .i64 over, .map none, .map none] 74)) q' cap over sz (fun x => x = q') ∧ Below w.heap.size w (w1.alloc (.cells #[.int .i64 cap, .int .i64 over, .map none, .map none] 74))) :=
    ⟨_, rfl, B1.out.size, .start O.out (heap_alloc_new _ _), B1.out.alloc B1.out.size _⟩
  clear h1 HB NW g1 g2 g3 L hq
  go_wp2
  go_ret2
  obtain ⟨q', rfl, e1, e2, e3⟩ := E.out
  exact ⟨_, rfl, e1, e2, e3⟩
/-! ### mayAsk -/
set_option maxHeartbeats 1600000 in
theorem mayask_any (w : World) (o : Opn) (now : Int) : Calls Tryz.prog 21 #[opv o, .int .i64 now] w fun e w' => e = .returned (.bool (mayH o now)) ∧ Below w.heap.size w w' := by
  have MO : ∀ W, Calls Tryz.prog 39 #[.agg #[.int .i64 o.kind, .int .i64 o.book, .int .i64 o.units, .int .i64 o.cust, .int .i64 o.amount]] W _ := fun W => Wt.mayop_any W o
  obtain ⟨W, hW⟩ : ∃ W, W = w.alloc (.cells (opc o) 43) := ⟨_, rfl⟩
  have HB : Hid (Below w.heap.size w W) := by rw [hW]; exact (Below.refl _ _).alloc (Nat.le_refl _) _
  have N0 : Hid (W.heap[w.heap.size]? = some (.cells (opc o) 43 (0, 0))) := by rw [hW]; exact heap_alloc_new _ _
  have MW := Lib.hid (MO W)
  have z0 := one_at (i := 0) N0.out
  have z1 := one_at (i := 1) N0.out
  have z2 := one_at (i := 2) N0.out
  have z3 := one_at (i := 3) N0.out
  have z4 := one_at (i := 4) N0.out
  have F : Hid (mayH o now = (mayOp o && tick now && decide (o.kind ≤ 3))) := rfl
  have bd := fun h => (Tb.mayop_bds (o := o) h).2
  replace hW := Lib.hid hW
  clear MO
  obtain ⟨k, b, u, c, m⟩ := o
  simp only at *
  cases hm : mayOp ⟨k, b, u, c, m⟩ with
  | false =>
    rw [hm] at MW F
    clear bd hm
    go_enter Tryz.func21, Tryz.ntmps21
    go_wp2_with fail
    rw [← hW.out]
    go_wp2_with fail
    refine MW.out.mono ?_
    rintro e w1 ⟨rfl, h1⟩
    have B1 : Hid (Below w.heap.size w w1) := HB.out.trans (h1.mono HB.out.size)
    clear h1 MW z0 z1 z2 z3 z4
    go_wp2
    go_ret
    rw [F.out]
    exact ⟨rfl, B1.out⟩
  | true =>
    obtain ⟨k1, k6⟩ := bd hm
    rw [hm] at MW F
    clear bd hm
    have go : ∀ r : Bool, (tick now && decide (k ≤ 3)) = r → Calls Tryz.prog 21 #[.agg #[.int .i64 k, .int .i64 b, .int .i64 u, .int .i64 c, .int .i64 m], .int .i64 now] w fun e w' => e = .returned (.bool r) ∧ Below w.heap.size w w' := by
      intro r hr
      have hr := Lib.hid hr
      by_cases t0 : now < 0
      · have er : Hid (r = false) := by
          have : tick now = false := by unfold tick; rw [decide_eq_false (by omega)]; rfl
          unfold Hid
          rw [← hr.out, this]; rfl
        go_enter Tryz.func21, Tryz.ntmps21
        go_wp2_with fail
        rw [← hW.out]
        go_wp2_with fail
        refine MW.out.mono ?_
        rintro e w1 ⟨rfl, h1⟩
        have B1 : Hid (Below w.heap.size w w1) := HB.out.trans (h1.mono HB.out.size)
        clear h1 MW z0 z1 z2 z3 z4
        go_wp2
        go_ret
        rw [er.out]
        exact ⟨rfl, B1.out⟩
      · by_cases t1 : 1099511627776 < now
        · have er : Hid (r = false) := by
            have : tick now = false := by unfold tick; rw [decide_eq_false (p := now ≤ 1099511627776) (by omega), Bool.and_false]
            unfold Hid
            rw [← hr.out, this]; rfl
          go_enter Tryz.func21, Tryz.ntmps21
          go_wp2_with fail
          rw [← hW.out]
          go_wp2_with fail
          refine MW.out.mono ?_
          rintro e w1 ⟨rfl, h1⟩
          have B1 : Hid (Below w.heap.size w w1) := HB.out.trans (h1.mono HB.out.size)
          clear h1 MW z0 z1 z2 z3 z4
          go_wp2
          go_ret
          rw [er.out]
          exact ⟨rfl, B1.out⟩
        · have ti : tick now = true := St.tick_iff.2 ⟨by omega, by omega⟩
          rw [ti, Bool.true_and] at hr
          clear ti
          rcases (by omega : k = 1 ∨ k = 2 ∨ k = 3 ∨ 3 < k) with h4 | h4 | h4 | h4
          · have er : Hid (r = true) := by unfold Hid; rw [← hr.out]; exact decide_eq_true (by omega)
            have n1 : (k == 1) = true := beq_iff_eq.2 h4
            clear k1 k6 h4
            go_enter Tryz.func21, Tryz.ntmps21
            go_wp2_with fail
            rw [← hW.out]
            go_wp2_with fail
            refine MW.out.mono ?_
            rintro e w1 ⟨rfl, h1⟩
            have B1 : Hid (Below w.heap.size w w1) := HB.out.trans (h1.mono HB.out.size)
            have y0 := one_at (i := 0) ((h1.block _ (lt_some N0.out)).trans N0.out)
            clear h1 MW z0 z1 z2 z3 z4
            go_wp2
            go_ret
            rw [er.out]
            exact ⟨rfl, B1.out⟩
          · have er : Hid (r = true) := by unfold Hid; rw [← hr.out]; exact decide_eq_true (by omega)
            have n1 : (k == 1) = false := beq_eq_false_iff_ne.2 (by omega)
            have n2 : (k == 2) = true := beq_iff_eq.2 h4
            clear k1 k6 h4
            go_enter Tryz.func21, Tryz.ntmps21
            go_wp2_with fail
            rw [← hW.out]
            go_wp2_with fail
            refine MW.out.mono ?_
            rintro e w1 ⟨rfl, h1⟩
            have B1 : Hid (Below w.heap.size w w1) := HB.out.trans (h1.mono HB.out.size)
            have y0 := one_at (i := 0) ((h1.block _ (lt_some N0.out)).trans N0.out)
            clear h1 MW z0 z1 z2 z3 z4
            go_wp2
            go_ret
            rw [er.out]
            exact ⟨rfl, B1.out⟩
          · have er : Hid (r = true) := by unfold Hid; rw [← hr.out]; exact decide_eq_true (by omega)
            have n1 : (k == 1) = false := beq_eq_false_iff_ne.2 (by omega)
            have n2 : (k == 2) = false := beq_eq_false_iff_ne.2 (by omega)
            have n3 : (k == 3) = true := beq_iff_eq.2 h4
            clear k1 k6 h4
            go_enter Tryz.func21, Tryz.ntmps21
            go_wp2_with fail
            rw [← hW.out]
            go_wp2_with fail
            refine MW.out.mono ?_
            rintro e w1 ⟨rfl, h1⟩
            have B1 : Hid (Below w.heap.size w w1) := HB.out.trans (h1.mono HB.out.size)
            have y0 := one_at (i := 0) ((h1.block _ (lt_some N0.out)).trans N0.out)
            clear h1 MW z0 z1 z2 z3 z4
            go_wp2
            go_ret
            rw [er.out]
            exact ⟨rfl, B1.out⟩
          · have er : Hid (r = false) := by unfold Hid; rw [← hr.out]; exact decide_eq_false (by omega)
            have n1 : (k == 1) = false := beq_eq_false_iff_ne.2 (by omega)
            have n2 : (k == 2) = false := beq_eq_false_iff_ne.2 (by omega)
            have n3 : (k == 3) = false := beq_eq_false_iff_ne.2 (by omega)
            clear k1 k6 h4
            go_enter Tryz.func21, Tryz.ntmps21
            go_wp2_with fail
            rw [← hW.out]
            go_wp2_with fail
            refine MW.out.mono ?_
            rintro e w1 ⟨rfl, h1⟩
            have B1 : Hid (Below w.heap.size w w1) := HB.out.trans (h1.mono HB.out.size)
            have y0 := one_at (i := 0) ((h1.block _ (lt_some N0.out)).trans N0.out)
            clear h1 MW z0 z1 z2 z3 z4
            go_wp2
            go_ret
            rw [er.out]
            exact ⟨rfl, B1.out⟩
    have := go _ rfl
    rw [Bool.true_and] at F
    rw [F.out]
    exact this
end Ho
end Go.Proofs.YtchlbkfkecpodaaGreat
