/- Part of the claim: HoC -/
import Derived.Deep.RegionWith
import Derived.Test.YtpkdigegkemogaaGreatDoorHoXaT
namespace Go.Proofs.YtpkdigegkemogaaGreatDoor
set_option maxRecDepth 100000
open Go.RowKit
open Go.Sort (grow)
open Go.Proofs.YtpkdigegkemogaaGreatDoor.Pk (one_at one_free one_set lt_some grown_set grown_trans grown_refl)
namespace Ho
open Wt (Opn mayOp)
open St (Kq grq Led Kt dstp tick)
open Tb (Tab Kz ne0)

structure Bxs (w : World) (p q r h : Nat) (o : Opn) (now : Int) : Prop where
  a : w.heap[p]? = some (.cells #[.pointer (some ⟨h, 0, none⟩)] 97 (0, 0))
  b : w.heap[q]? = some (.cells (opc o) 34 (0, 0))
  c : w.heap[r]? = some (.cells #[.int .i64 now] 3 (0, 0))
theorem Bxs.below {w w' : World} {p q r h : Nat} {o : Opn} {now : Int} (X : Bxs w p q r h o now) (hb : Below w.heap.size w w') : Bxs w' p q r h o now :=
  ⟨(hb.block _ (lt_some X.a)).trans X.a, (hb.block _ (lt_some X.b)).trans X.b, (hb.block _ (lt_some X.c)).trans X.c⟩
set_option maxHeartbeats 800000 in
theorem clo_any (w : World) (p q r h : Nat) (cap over : Int) (s : S) (fp : Nat → Prop) (o : Opn) (now : Int) (X : Bxs w p q r h o now) (H : Hst w h cap over s fp) :
    Calls Tryz.prog 90 #[.pointer (some ⟨p, 0, none⟩), .pointer (some ⟨q, 0, none⟩), .pointer (some ⟨r, 0, none⟩)] w fun e w' => e = .returned (.int .i64 (dstp cap over s.f o now).2) ∧ HTo w h cap over fp ⟨(dstp cap over s.f o now).1, s.g⟩ w' := by
  obtain ⟨fl, L, hf, GO⟩ := H.ledger
  have D : Hid (∀ W, W.heap.size = w.heap.size → Below w.heap.size w W → Calls Tryz.prog 59 #[.pointer (some ⟨h, 0, none⟩), .agg #[.int .i64 o.kind, .int .i64 o.book, .int .i64 o.units, .int .i64 o.cust, .int .i64 o.amount], .int .i64 now] W fun e w' => e = .returned (.int .i64 (dstp cap over s.f o now).2) ∧ HTo w h cap over fp ⟨(dstp cap over s.f o now).1, s.g⟩ w') := fun W _ hb => by
    refine (St.do_any W h cap over s.f fl (L.below hb) o now).mono ?_
    rintro e w' ⟨rfl, h1⟩
    exact ⟨rfl, GO _ _ (St.LTo.after L hb h1)⟩
  have DW := Lib.hid (D.out w.drew rfl ⟨rfl, rfl, rfl, Nat.le_refl _, fun _ _ => rfl⟩)
  have y0 := one_at (i := 0) X.a
  have x0 := one_at (i := 0) X.b
  have x1 := one_at (i := 1) X.b
  have x2 := one_at (i := 2) X.b
  have x3 := one_at (i := 3) X.b
  have x4 := one_at (i := 4) X.b
  have v0 := one_at (i := 0) X.c
  generalize (dstp cap over s.f o now).2 = a at *
  generalize (⟨(dstp cap over s.f o now).1, s.g⟩ : S) = s' at *
  clear X H L hf GO D
  obtain ⟨k, b, u, c, m⟩ := o
  simp only at *
  go_enter Tryz.func90, Tryz.ntmps90
  go_wp2_with fail
  go_region_with (first
    | (go_at_call 59; refine DW.out.mono ?_; rintro e w1 ⟨rfl, h1⟩; have E := Lib.hid h1; clear h1))
  all_goals
    go_wp2
    go_ret
    exact ⟨rfl, E.out⟩
set_option maxHeartbeats 1600000 in
theorem once_any (w : World) (p q r h : Nat) (cap over : Int) (s : S) (fp : Nat → Prop) (o : Opn) (now : Int) (X : Bxs w p q r h o now) (H : Hst w h cap over s fp) (hm : mayH o now = true) :
    Calls Tryz.prog 89 #[.pointer (some ⟨h, 3, none⟩), opv o, .func (.func 90) #[] #[.pointer (some ⟨p, 0, none⟩), .pointer (some ⟨q, 0, none⟩), .pointer (some ⟨r, 0, none⟩)]] w fun e w' => e = .returned (.tuple #[.int .i64 (ans cap over s o now), .bool (isNew s o now)]) ∧ HTo w h cap over fp (asked cap over s o now) w' := by
  obtain ⟨W, hW⟩ : ∃ W, W = w.alloc (.cells (opc o) 34) := ⟨_, rfl⟩
  have HB : Hid (Below w.heap.size w W) := by rw [hW]; exact (Below.refl _ _).alloc (Nat.le_refl _) _
  have N0 : Hid (W.heap[w.heap.size]? = some (.cells (opc o) 34 (0, 0))) := by rw [hW]; exact heap_alloc_new _ _
  have hbk := Tb.mayop_bds (mayh_iff.1 hm).1
  have FD : Hid (Calls Tryz.prog 121 #[.pointer (some ⟨h, 3, none⟩), .agg #[.int .i64 o.kind, .int .i64 o.book, .int .i64 o.units, .int .i64 o.cust, .int .i64 o.amount]] W.drew fun e w' => e = .returned (.tuple #[.int .i64 (s.g o.book o.kind), .bool (ne0 (s.g o.book o.kind))]) ∧ Below W.heap.size W w') := by
    obtain ⟨ft, T, _, _⟩ := (H.below HB.out).table
    refine (Tb.find_any W.drew h 3 s.g ft (T.keep (Nat.le_refl _) fun _ _ => rfl) o (Tb.bp_in hbk.1 hbk.2)).mono ?_
    rintro e w' ⟨he, hw⟩
    exact ⟨he, ⟨hw.os, hw.tape, hw.output, hw.size, hw.block⟩⟩
  have CL : Hid (∀ w1, Below w.heap.size w w1 → Calls Tryz.prog 90 #[.pointer (some ⟨p, 0, none⟩), .pointer (some ⟨q, 0, none⟩), .pointer (some ⟨r, 0, none⟩)] w1 fun e w' => e = .returned (.int .i64 (dstp cap over s.f o now).2) ∧ HTo w h cap over fp ⟨(dstp cap over s.f o now).1, s.g⟩ w' ∧ Kq fp w1 w') := fun w1 hb => by
    refine (clo_any w1 p q r h cap over s fp o now (X.below hb) (H.below hb)).mono ?_
    rintro e w' ⟨rfl, h1⟩
    exact ⟨rfl, HTo.after H hb h1, h1.2⟩
  have PU : Hid (∀ w1 a, s.g o.book o.kind = 0 → (dstp cap over s.f o now).2 = a → HTo w h cap over fp ⟨(dstp cap over s.f o now).1, s.g⟩ w1 → Calls Tryz.prog 122 #[.pointer (some ⟨h, 3, none⟩), .agg #[.int .i64 o.kind, .int .i64 o.book, .int .i64 o.units, .int .i64 o.cust, .int .i64 o.amount], .int .i64 a] w1.drew fun e w' => e = .returned (.bool true) ∧ HTo w h cap over fp (asked cap over s o now) w') := fun w1 a h0 ha hT0 => by
    have hT := hT0.trans (HTo.of_below hT0.1 (w' := w1.drew) ⟨rfl, rfl, rfl, Nat.le_refl _, fun _ _ => rfl⟩)
    obtain ⟨ft, T, _, GO⟩ := hT.1.table
    refine (Tb.put_any w1.drew h 3 s.g ft T o a).mono ?_
    rintro e w' ⟨rfl, h1⟩
    rw [← ha, put_is hm h0, asked_yes hm h0]
    rw [← ha] at h1
    exact ⟨rfl, hT.trans (GO _ _ h1)⟩
  have F0 : Hid (s.g o.book o.kind = 0 → ans cap over s o now = (dstp cap over s.f o now).2 ∧ isNew s o now = true) := fun h0 => ⟨ans_yes hm h0, new_yes hm h0⟩
  have F1 : Hid (s.g o.book o.kind ≠ 0 → ans cap over s o now = s.g o.book o.kind ∧ isNew s o now = false ∧ asked cap over s o now = s) := fun h0 => ⟨ans_old hm h0, new_old h0, asked_old h0⟩
  have EB : Hid (∀ w1, Below w.heap.size w w1 → HTo w h cap over fp s w1) := fun w1 hb => HTo.of_below H hb
  have pl : Hid (w.heap.size < W.heap.size ∧ ∀ x, fp x → x < w.heap.size) := ⟨lt_some N0.out, H.size⟩
  have z0 := one_at (i := 0) N0.out
  have z1 := one_at (i := 1) N0.out
  have z2 := one_at (i := 2) N0.out
  have z3 := one_at (i := 3) N0.out
  have z4 := one_at (i := 4) N0.out
  replace hW := Lib.hid hW
  generalize (dstp cap over s.f o now).2 = a at *
  generalize (⟨(dstp cap over s.f o now).1, s.g⟩ : S) = s1 at *
  generalize s.g o.book o.kind = g at *
  generalize asked cap over s o now = s' at *
  generalize ans cap over s o now = rr at *
  generalize isNew s o now = nn at *
  clear X H hm hbk
  obtain ⟨k, b, u, c, m⟩ := o
  simp only at *
  by_cases g0 : g = 0
  · obtain ⟨e1, e2⟩ := F0.out g0
    subst g0
    rw [show ne0 0 = false from rfl] at FD
    rw [e1, e2]
    clear F0 F1 EB e1 e2
    go_enter Tryz.func89, Tryz.ntmps89
    go_upto_region 1 with fail
    rw [← hW.out]
    go_region_with (first
      | (go_at_call 121; refine FD.out.mono ?_; rintro e w1 ⟨rfl, h1⟩; have B1 : Below w.heap.size w w1 := HB.out.trans (h1.mono HB.out.size); have N1 : Hid (w1.heap[w.heap.size]? = some (.cells (opc ⟨k, b, u, c, m⟩) 34 (0, 0))) := (h1.block _ (lt_some N0.out)).trans N0.out; have C1 := Lib.hid (CL.out w1 B1); clear h1 B1))
    all_goals
      clear FD z0 z1 z2 z3 z4 CL
      go_wp2_with fail
      refine C1.out.mono ?_
      rintro e w2 ⟨rfl, h2, h3⟩
      have N2 := (h3.block _ (lt_some N1.out) fun e => by have := pl.out.2 _ e; omega).trans N1.out
      have P2 := Lib.hid (PU.out w2 a (by first | trivial | rfl) (by first | trivial | rfl) h2)
      have y0 := one_at (i := 0) N2
      have y1 := one_at (i := 1) N2
      have y2 := one_at (i := 2) N2
      have y3 := one_at (i := 3) N2
      have y4 := one_at (i := 4) N2
      clear C1 h2 h3 PU N2
      go_upto_region 5 with fail
      go_region_with (first
        | (go_at_call 122; refine P2.out.mono ?_; rintro e w3 ⟨rfl, h4⟩; replace h4 := Lib.hid h4))
      all_goals
        clear P2 y0 y1 y2 y3 y4
        go_wp2
        go_ret2
        exact ⟨rfl, h4.out⟩
  · obtain ⟨e1, e2, e3⟩ := F1.out g0
    rw [Tb.ne0_iff.2 g0] at FD
    rw [e1, e2, e3]
    clear F0 F1 PU CL e1 e2 e3
    go_enter Tryz.func89, Tryz.ntmps89
    go_upto_region 1 with fail
    rw [← hW.out]
    go_region_with (first
      | (go_at_call 121; refine FD.out.mono ?_; rintro e w1 ⟨rfl, h1⟩; have E := Lib.hid (EB.out w1 (HB.out.trans (h1.mono HB.out.size))); clear h1))
    all_goals
      clear FD z0 z1 z2 z3 z4
      go_wp2
      go_ret2
      exact ⟨rfl, E.out⟩

set_option maxHeartbeats 1600000 in
theorem ask_any (w : World) (h : Nat) (cap over : Int) (s : S) (fp : Nat → Prop) (o : Opn) (now : Int) (H : Hst w h cap over s fp) :
    Calls Tryz.prog 60 #[.pointer (some ⟨h, 0, none⟩), opv o, .int .i64 now] w fun e w' => e = .returned (.tuple #[.int .i64 (ans cap over s o now), .bool (isNew s o now)]) ∧ HTo w h cap over fp (asked cap over s o now) w' := by
  obtain ⟨W, hW⟩ : ∃ W, W = ((w.alloc (.cells #[.pointer (some ⟨h, 0, none⟩)] 97)).alloc (.cells (opc o) 34)).alloc (.cells #[.int .i64 now] 3) := ⟨_, rfl⟩
  have HB : Hid (Below w.heap.size w W) := by rw [hW]; exact (((Below.refl _ _).alloc (Nat.le_refl _) _).alloc (by simp) _).alloc (by simp; omega) _
  have X : Hid (Bxs W w.heap.size (w.heap.size + 1) (w.heap.size + 2) h o now) := by
    rw [hW]
    refine ⟨?_, ?_, ?_⟩
    · rw [heap_alloc_old _ _ (by simp; omega), heap_alloc_old _ _ (by simp)]
      exact heap_alloc_new _ _
    · rw [heap_alloc_old _ _ (by simp)]
      have := heap_alloc_new (w.alloc (.cells #[.pointer (some ⟨h, 0, none⟩)] 97)) (.cells (opc o) 34)
      simpa using this
    · have := heap_alloc_new ((w.alloc (.cells #[.pointer (some ⟨h, 0, none⟩)] 97)).alloc (.cells (opc o) 34)) (.cells #[.int .i64 now] 3)
      simpa using this
  have MA := Lib.hid (mayask_any W o now)
  have x0 := one_at (i := 0) X.out.a
  have y0 := one_at (i := 0) X.out.b
  have y1 := one_at (i := 1) X.out.b
  have y2 := one_at (i := 2) X.out.b
  have y3 := one_at (i := 3) X.out.b
  have y4 := one_at (i := 4) X.out.b
  have v0 := one_at (i := 0) X.out.c
  have EB : Hid (∀ w1, Below w.heap.size w w1 → HTo w h cap over fp s w1) := fun w1 hb => HTo.of_below H hb
  have ON : Hid (∀ w1, mayH o now = true → Below W.heap.size W w1 → Calls Tryz.prog 89 #[.pointer (some ⟨h, 3, none⟩), .agg #[.int .i64 o.kind, .int .i64 o.book, .int .i64 o.units, .int .i64 o.cust, .int .i64 o.amount], .func (.func 90) #[] #[.pointer (some ⟨w.heap.size, 0, none⟩), .pointer (some ⟨w.heap.size + 1, 0, none⟩), .pointer (some ⟨w.heap.size + 2, 0, none⟩)]] w1 fun e w' => e = .returned (.tuple #[.int .i64 (ans cap over s o now), .bool (isNew s o now)]) ∧ HTo w h cap over fp (asked cap over s o now) w') := fun w1 hm hb => by
    have hb' := HB.out.trans (hb.mono HB.out.size)
    refine (once_any w1 _ _ _ h cap over s fp o now (X.out.below hb) (H.below hb') hm).mono ?_
    rintro e w' ⟨rfl, h1⟩
    exact ⟨rfl, HTo.after H hb' h1⟩
  have F0 : Hid (mayH o now = false → ans cap over s o now = 2 ∧ isNew s o now = false ∧ asked cap over s o now = s) := fun h0 => ⟨ans_no h0, new_no h0, asked_no h0⟩
  replace hW := Lib.hid hW
  generalize asked cap over s o now = s' at *
  generalize ans cap over s o now = rr at *
  generalize isNew s o now = nn at *
  cases hm : mayH o now with
  | false =>
    obtain ⟨e1, e2, e3⟩ := F0.out hm
    rw [hm] at MA
    rw [e1, e2, e3]
    clear F0 ON hm e1 e2 e3 H
    obtain ⟨k, b, u, c, m⟩ := o
    try simp only at *
    go_enter Tryz.func60, Tryz.ntmps60
    go_wp2_with fail
    rw [← hW.out]
    go_wp2_with fail
    refine MA.out.mono ?_
    rintro e w1 ⟨rfl, h1⟩
    have E := Lib.hid (EB.out w1 (HB.out.trans (h1.mono HB.out.size)))
    clear MA h1 x0 y0 y1 y2 y3 y4 v0
    go_wp2
    go_ret2
    exact ⟨rfl, E.out⟩
  | true =>
    rw [hm] at MA
    replace ON : Hid (∀ w1, Below W.heap.size W w1 → _) := fun w1 hb => ON.out w1 hm hb
    clear F0 EB hm H
    obtain ⟨k, b, u, c, m⟩ := o
    try simp only at *
    go_enter Tryz.func60, Tryz.ntmps60
    go_wp2_with fail
    rw [← hW.out]
    go_wp2_with fail
    refine MA.out.mono ?_
    rintro e w1 ⟨rfl, h1⟩
    have X1 := X.out.below h1
    have a0 := one_at (i := 0) X1.a
    have b0 := one_at (i := 0) X1.b
    have b1 := one_at (i := 1) X1.b
    have b2 := one_at (i := 2) X1.b
    have b3 := one_at (i := 3) X1.b
    have b4 := one_at (i := 4) X1.b
    have O1 := Lib.hid (ON.out w1.drew ⟨h1.os, h1.tape, h1.output, h1.size, h1.block⟩)
    clear MA h1 x0 y0 y1 y2 y3 y4 v0 X1 ON
    go_wp2_with fail
    go_region_with (first
      | (go_at_call 89; refine O1.out.mono ?_; rintro e w2 ⟨rfl, h2⟩; have E := Lib.hid h2; clear h2))
    all_goals
      go_wp2
      go_ret2
      exact ⟨rfl, E.out⟩
end Ho
end Go.Proofs.YtpkdigegkemogaaGreatDoor
