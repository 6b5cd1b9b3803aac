/- Parts of the claim: TiC, TiD -/
import Derived.Deep.RegionWith
import Derived.Test.YtpkdigegkemogaaGreatDoorTiXaT
import Derived.Test.YtpkdigegkemogaaGreatDoorNoXT
import Derived.Test.YtpkdigegkemogaaGreatDoorPuXdT
namespace Go.Proofs.YtpkdigegkemogaaGreatDoor
set_option maxRecDepth 100000
open Go.RowKit
open Go.Sort (grow)
open Go.Proofs.YtpkdigegkemogaaGreatDoor.Pk (one_at one_free one_set lt_some grown_set grown_trans grown_refl)
namespace Ti
open Wt (Opn mayOp)
open Pu (Kq grq Led Kt dstp)
open Tb (Tab Kz ne0)

structure Bxs (w : World) (p q h : Nat) (o : Opn) : Prop where
  a : w.heap[p]? = some (.cells #[.pointer (some ⟨h, 0, none⟩)] 99 (0, 0))
  b : w.heap[q]? = some (.cells (opc o) 34 (0, 0))
theorem Bxs.below {w w' : World} {p q h : Nat} {o : Opn} (X : Bxs w p q h o) (hb : Below w.heap.size w w') : Bxs w' p q h o :=
  ⟨(hb.block _ (lt_some X.a)).trans X.a, (hb.block _ (lt_some X.b)).trans X.b⟩
set_option maxHeartbeats 800000 in
theorem clo_any (w : World) (p q h : Nat) (s : S) (fp : Nat → Prop) (o : Opn) (X : Bxs w p q h o) (H : Til w h s fp) :
    Calls Tryz.prog 97 #[.pointer (some ⟨p, 0, none⟩), .pointer (some ⟨q, 0, none⟩)] w fun e w' => e = .returned (.int .i64 (dstp s.p o).2) ∧ TTo w h fp ⟨(dstp s.p o).1, s.g⟩ w' := by
  obtain ⟨fl, L, hf, GO⟩ := H.purse
  have D : Hid (∀ W, W.heap.size = w.heap.size → Below w.heap.size w W → Calls Tryz.prog 64 #[.pointer (some ⟨h, 0, none⟩), .agg #[.int .i64 o.kind, .int .i64 o.book, .int .i64 o.units, .int .i64 o.cust, .int .i64 o.amount]] W fun e w' => e = .returned (.int .i64 (dstp s.p o).2) ∧ TTo w h fp ⟨(dstp s.p o).1, s.g⟩ w') := fun W _ hb => by
    refine (Pu.do_any W h s.p fl (L.below hb) o).mono ?_
    rintro e w' ⟨rfl, h1⟩
    exact ⟨rfl, GO _ _ (Pu.LTo.after L.lt hb h1)⟩
  have DW := Lib.hid (D.out w.drew rfl ⟨rfl, rfl, rfl, Nat.le_refl _, fun _ _ => rfl⟩)
  have y0 := one_at (i := 0) X.a
  have x0 := one_at (i := 0) X.b
  have x1 := one_at (i := 1) X.b
  have x2 := one_at (i := 2) X.b
  have x3 := one_at (i := 3) X.b
  have x4 := one_at (i := 4) X.b
  generalize (dstp s.p o).2 = a at *
  generalize (⟨(dstp s.p o).1, s.g⟩ : S) = s' at *
  clear X H L hf GO D
  obtain ⟨k, b, u, c, m⟩ := o
  simp only at *
  go_enter Tryz.func97, Tryz.ntmps97
  go_wp2_with fail
  go_region_with (first
    | (go_at_call 64; refine DW.out.mono ?_; rintro e w1 ⟨rfl, h1⟩; have E := Lib.hid h1; clear h1))
  all_goals
    go_wp2
    go_ret
    exact ⟨rfl, E.out⟩
set_option maxHeartbeats 1600000 in
theorem once_any (w : World) (p q h : Nat) (s : S) (fp : Nat → Prop) (o : Opn) (X : Bxs w p q h o) (H : Til w h s fp) (hm : mayT o = true) :
    Calls Tryz.prog 89 #[.pointer (some ⟨h, 1012, none⟩), opv o, .func (.func 97) #[] #[.pointer (some ⟨p, 0, none⟩), .pointer (some ⟨q, 0, none⟩)]] w fun e w' => e = .returned (.tuple #[.int .i64 (ans s o), .bool (isNew s o)]) ∧ TTo w h fp (asked s o) w' := by
  obtain ⟨W, hW⟩ : ∃ W, W = w.alloc (.cells (opc o) 34) := ⟨_, rfl⟩
  have HB : Hid (Below w.heap.size w W) := by rw [hW]; exact (Below.refl _ _).alloc (Nat.le_refl _) _
  have N0 : Hid (W.heap[w.heap.size]? = some (.cells (opc o) 34 (0, 0))) := by rw [hW]; exact heap_alloc_new _ _
  have hbk := Tb.mayop_bds (mayt_iff.1 hm).1
  have FD : Hid (Calls Tryz.prog 121 #[.pointer (some ⟨h, 1012, none⟩), .agg #[.int .i64 o.kind, .int .i64 o.book, .int .i64 o.units, .int .i64 o.cust, .int .i64 o.amount]] W.drew fun e w' => e = .returned (.tuple #[.int .i64 (s.g o.book o.kind), .bool (ne0 (s.g o.book o.kind))]) ∧ Below W.heap.size W w') := by
    obtain ⟨ft, T, _, _⟩ := (H.below HB.out).table
    refine (Tb.find_any W.drew h 1012 s.g ft (T.keep (Nat.le_refl _) fun _ _ => rfl) o (Tb.bp_in hbk.1 hbk.2)).mono ?_
    rintro e w' ⟨he, hw⟩
    exact ⟨he, ⟨hw.os, hw.tape, hw.output, hw.size, hw.block⟩⟩
  have CL : Hid (∀ w1, Below w.heap.size w w1 → Calls Tryz.prog 97 #[.pointer (some ⟨p, 0, none⟩), .pointer (some ⟨q, 0, none⟩)] w1 fun e w' => e = .returned (.int .i64 (dstp s.p o).2) ∧ TTo w h fp ⟨(dstp s.p o).1, s.g⟩ w' ∧ Kq fp w1 w') := fun w1 hb => by
    refine (clo_any w1 p q h s fp o (X.below hb) (H.below hb)).mono ?_
    rintro e w' ⟨rfl, h1⟩
    exact ⟨rfl, TTo.after H hb h1, h1.2⟩
  have PU : Hid (∀ w1 a, s.g o.book o.kind = 0 → (dstp s.p o).2 = a → TTo w h fp ⟨(dstp s.p o).1, s.g⟩ w1 → Calls Tryz.prog 122 #[.pointer (some ⟨h, 1012, none⟩), .agg #[.int .i64 o.kind, .int .i64 o.book, .int .i64 o.units, .int .i64 o.cust, .int .i64 o.amount], .int .i64 a] w1.drew fun e w' => e = .returned (.bool true) ∧ TTo w h fp (asked s o) w') := fun w1 a h0 ha hT0 => by
    have hT := hT0.trans (TTo.of_below hT0.1 (w' := w1.drew) ⟨rfl, rfl, rfl, Nat.le_refl _, fun _ _ => rfl⟩)
    obtain ⟨ft, T, _, GO⟩ := hT.1.table
    refine (Tb.put_any w1.drew h 1012 s.g ft T o a).mono ?_
    rintro e w' ⟨rfl, h1⟩
    rw [← ha, put_is hm h0, asked_yes hm h0]
    rw [← ha] at h1
    exact ⟨rfl, hT.trans (GO _ _ h1)⟩
  have F0 : Hid (s.g o.book o.kind = 0 → ans s o = (dstp s.p o).2 ∧ isNew s o = true) := fun h0 => ⟨ans_yes hm h0, new_yes hm h0⟩
  have F1 : Hid (s.g o.book o.kind ≠ 0 → ans s o = s.g o.book o.kind ∧ isNew s o = false ∧ asked s o = s) := fun h0 => ⟨ans_old hm h0, new_old h0, asked_old h0⟩
  have EB : Hid (∀ w1, Below w.heap.size w w1 → TTo w h fp s w1) := fun w1 hb => TTo.of_below H hb
  have pl : Hid (w.heap.size < W.heap.size ∧ ∀ x, fp x → x < w.heap.size) := ⟨lt_some N0.out, H.size⟩
  have z0 := one_at (i := 0) N0.out
  have z1 := one_at (i := 1) N0.out
  have z2 := one_at (i := 2) N0.out
  have z3 := one_at (i := 3) N0.out
  have z4 := one_at (i := 4) N0.out
  replace hW := Lib.hid hW
  generalize (dstp s.p o).2 = a at *
  generalize (⟨(dstp s.p o).1, s.g⟩ : S) = s1 at *
  generalize s.g o.book o.kind = g at *
  generalize asked s o = s' at *
  generalize ans s o = rr at *
  generalize isNew s o = nn at *
  clear X H hm hbk
  obtain ⟨k, b, u, c, m⟩ := o
  simp only at *
  by_cases g0 : g = 0
  · obtain ⟨e1, e2⟩ := F0.out g0
    subst g0
    rw [show ne0 0 = false from rfl] at FD
    rw [e1, e2]
    clear F0 F1 EB e1 e2
    go_enter Tryz.func89, Tryz.ntmps89
    go_upto_region 1 with fail
    rw [← hW.out]
    go_region_with (first
      | (go_at_call 121; refine FD.out.mono ?_; rintro e w1 ⟨rfl, h1⟩; have B1 : Below w.heap.size w w1 := HB.out.trans (h1.mono HB.out.size); have N1 : Hid (w1.heap[w.heap.size]? = some (.cells (opc ⟨k, b, u, c, m⟩) 34 (0, 0))) := (h1.block _ (lt_some N0.out)).trans N0.out; have C1 := Lib.hid (CL.out w1 B1); clear h1 B1))
    all_goals
      clear FD z0 z1 z2 z3 z4 CL
      go_wp2_with fail
      refine C1.out.mono ?_
      rintro e w2 ⟨rfl, h2, h3⟩
      have N2 := (h3.block _ (lt_some N1.out) fun e => by have := pl.out.2 _ e; omega).trans N1.out
      have P2 := Lib.hid (PU.out w2 a (by first | trivial | rfl) (by first | trivial | rfl) h2)
      have y0 := one_at (i := 0) N2
      have y1 := one_at (i := 1) N2
      have y2 := one_at (i := 2) N2
      have y3 := one_at (i := 3) N2
      have y4 := one_at (i := 4) N2
      clear C1 h2 h3 PU N2
      go_upto_region 5 with fail
      go_region_with (first
        | (go_at_call 122; refine P2.out.mono ?_; rintro e w3 ⟨rfl, h4⟩; replace h4 := Lib.hid h4))
      all_goals
        clear P2 y0 y1 y2 y3 y4
        go_wp2
        go_ret2
        exact ⟨rfl, h4.out⟩
  · obtain ⟨e1, e2, e3⟩ := F1.out g0
    rw [Tb.ne0_iff.2 g0] at FD
    rw [e1, e2, e3]
    clear F0 F1 PU CL e1 e2 e3
    go_enter Tryz.func89, Tryz.ntmps89
    go_upto_region 1 with fail
    rw [← hW.out]
    go_region_with (first
      | (go_at_call 121; refine FD.out.mono ?_; rintro e w1 ⟨rfl, h1⟩; have E := Lib.hid (EB.out w1 (HB.out.trans (h1.mono HB.out.size))); clear h1))
    all_goals
      clear FD z0 z1 z2 z3 z4
      go_wp2
      go_ret2
      exact ⟨rfl, E.out⟩

set_option maxHeartbeats 1600000 in
theorem ask_any (w : World) (h : Nat) (s : S) (fp : Nat → Prop) (o : Opn) (H : Til w h s fp) :
    Calls Tryz.prog 65 #[.pointer (some ⟨h, 0, none⟩), opv o] w fun e w' => e = .returned (.tuple #[.int .i64 (ans s o), .bool (isNew s o)]) ∧ TTo w h fp (asked s o) w' := by
  obtain ⟨W, hW⟩ : ∃ W, W = (w.alloc (.cells #[.pointer (some ⟨h, 0, none⟩)] 99)).alloc (.cells (opc o) 34) := ⟨_, rfl⟩
  have HB : Hid (Below w.heap.size w W) := by rw [hW]; exact ((Below.refl _ _).alloc (Nat.le_refl _) _).alloc (by simp) _
  have X : Hid (Bxs W w.heap.size (w.heap.size + 1) h o) := by
    rw [hW]
    refine ⟨?_, ?_⟩
    · rw [heap_alloc_old _ _ (by simp)]
      exact heap_alloc_new _ _
    · have := heap_alloc_new (w.alloc (.cells #[.pointer (some ⟨h, 0, none⟩)] 99)) (.cells (opc o) 34)
      simpa using this
  have MA := Lib.hid (mayask_any W o)
  have x0 := one_at (i := 0) X.out.a
  have y0 := one_at (i := 0) X.out.b
  have y1 := one_at (i := 1) X.out.b
  have y2 := one_at (i := 2) X.out.b
  have y3 := one_at (i := 3) X.out.b
  have y4 := one_at (i := 4) X.out.b
  have EB : Hid (∀ w1, Below w.heap.size w w1 → TTo w h fp s w1) := fun w1 hb => TTo.of_below H hb
  have ON : Hid (∀ w1, mayT o = true → Below W.heap.size W w1 → Calls Tryz.prog 89 #[.pointer (some ⟨h, 1012, none⟩), .agg #[.int .i64 o.kind, .int .i64 o.book, .int .i64 o.units, .int .i64 o.cust, .int .i64 o.amount], .func (.func 97) #[] #[.pointer (some ⟨w.heap.size, 0, none⟩), .pointer (some ⟨w.heap.size + 1, 0, none⟩)]] w1 fun e w' => e = .returned (.tuple #[.int .i64 (ans s o), .bool (isNew s o)]) ∧ TTo w h fp (asked s o) w') := fun w1 hm hb => by
    have hb' := HB.out.trans (hb.mono HB.out.size)
    refine (once_any w1 _ _ h s fp o (X.out.below hb) (H.below hb') hm).mono ?_
    rintro e w' ⟨rfl, h1⟩
    exact ⟨rfl, TTo.after H hb' h1⟩
  have F0 : Hid (mayT o = false → ans s o = 2 ∧ isNew s o = false ∧ asked s o = s) := fun h0 => ⟨ans_no h0, new_no h0, asked_no h0⟩
  replace hW := Lib.hid hW
  generalize asked s o = s' at *
  generalize ans s o = rr at *
  generalize isNew s o = nn at *
  cases hm : mayT o with
  | false =>
    obtain ⟨e1, e2, e3⟩ := F0.out hm
    rw [hm] at MA
    rw [e1, e2, e3]
    clear F0 ON hm e1 e2 e3 H
    obtain ⟨k, b, u, c, m⟩ := o
    try simp only at *
    go_enter Tryz.func65, Tryz.ntmps65
    go_wp2_with fail
    rw [← hW.out]
    go_wp2_with fail
    refine MA.out.mono ?_
    rintro e w1 ⟨rfl, h1⟩
    have E := Lib.hid (EB.out w1 (HB.out.trans (h1.mono HB.out.size)))
    clear MA h1 x0 y0 y1 y2 y3 y4
    go_wp2
    go_ret2
    exact ⟨rfl, E.out⟩
  | true =>
    rw [hm] at MA
    replace ON : Hid (∀ w1, Below W.heap.size W w1 → _) := fun w1 hb => ON.out w1 hm hb
    clear F0 EB hm H
    obtain ⟨k, b, u, c, m⟩ := o
    try simp only at *
    go_enter Tryz.func65, Tryz.ntmps65
    go_wp2_with fail
    rw [← hW.out]
    go_wp2_with fail
    refine MA.out.mono ?_
    rintro e w1 ⟨rfl, h1⟩
    have X1 := X.out.below h1
    have a0 := one_at (i := 0) X1.a
    have b0 := one_at (i := 0) X1.b
    have b1 := one_at (i := 1) X1.b
    have b2 := one_at (i := 2) X1.b
    have b3 := one_at (i := 3) X1.b
    have b4 := one_at (i := 4) X1.b
    have O1 := Lib.hid (ON.out w1.drew ⟨h1.os, h1.tape, h1.output, h1.size, h1.block⟩)
    clear MA h1 x0 y0 y1 y2 y3 y4 X1 ON
    go_wp2_with fail
    go_region_with (first
      | (go_at_call 89; refine O1.out.mono ?_; rintro e w2 ⟨rfl, h2⟩; have E := Lib.hid h2; clear h2))
    all_goals
      go_wp2
      go_ret2
      exact ⟨rfl, E.out⟩
end Ti
end Go.Proofs.YtpkdigegkemogaaGreatDoor
namespace Go.Proofs.YtpkdigegkemogaaGreatDoor
set_option maxRecDepth 100000
open Go.RowKit
open Go.Sort (grow)
open Go.Proofs.YtpkdigegkemogaaGreatDoor.Pk (one_at one_free one_set lt_some grown_set grown_trans grown_refl)
namespace Ti
open Wt (Opn mayOp)
open Pu (Kq grq Led LedP dstp)
open St (Bs cat RowB Gu ByTo)
open Tb (Tab Kz ne0 cnt keys)
open Nd (kb)

theorem purse_any (w : World) (h : Nat) (s : S) (fp : Nat → Prop) (H : Til w h s fp) :
    Calls Tryz.prog 63 #[.pointer (some ⟨h, 0, none⟩)] w (Pu.CpTo w s.p fp) := by
  have CP : Hid (Calls Tryz.prog 92 #[.pointer (some ⟨h, 0, none⟩)] w (Pu.CpTo w s.p fp)) := by
    obtain ⟨fl, L, hf, _⟩ := H.purse
    refine (Pu.copy_any w h s.p fl L).mono ?_
    rintro e w' ⟨q', rfl, hq, L', hb⟩
    refine ⟨q', rfl, hq, L'.mono (fun g hg => ?_) fun g hg => ?_, hb⟩
    · rcases hg with hg | ⟨hg, hg'⟩
      · exact .inl hg
      · exact .inr ⟨hf g hg, hg'⟩
    · rcases hg with hg | ⟨_, hg⟩
      · exact L'.size g (.inl hg)
      · exact Nat.lt_of_lt_of_le hg hb.size
  generalize s.p = p at *
  clear H
  go_enter Tryz.func63, Tryz.ntmps63
  go_wp2_with fail
  refine CP.out.mono ?_
  rintro e w1 ⟨q, rfl, h1⟩
  have E : Hid (Pu.CpTo w p fp (.returned (.pointer (some ⟨q, 0, none⟩))) w1) := ⟨q, rfl, h1⟩
  clear CP h1
  go_wp2
  go_ret
  exact E.out
def tlbts (s : S) : Bs := Pu.bts s.p 200 ++ Pk.encI (cnt s.g : Nat) ++ kb s.g (keys s.g)
set_option maxHeartbeats 1600000 in
theorem bytes_any (w : World) (h : Nat) (s : S) (fp : Nat → Prop) (H : Til w h s fp) :
    Calls Tryz.prog 254 #[.pointer (some ⟨h, 0, none⟩)] w (ByTo w (tlbts s)) := by
  have hd : Below w.heap.size w w.drew := ⟨rfl, rfl, rfl, Nat.le_refl _, fun _ _ => rfl⟩
  have LB : Hid (Calls Tryz.prog 226 #[.pointer (some ⟨h, 0, none⟩)] w.drew fun e w' => ∃ v, e = .returned v ∧ RowB w' w.heap.size v (Pu.bts s.p 200) ∧ Below w.heap.size w w') := by
    obtain ⟨fl, L, _, _⟩ := (H.below hd).purse
    refine (Pu.bytes_any w.drew h s.p fl L).mono ?_
    rintro e w' ⟨v, rfl, h1, h2⟩
    exact ⟨v, rfl, h1, hd.trans h2⟩
  have AP : Hid (∀ w2 v2, RowB w2 w.heap.size v2 (Pu.bts s.p 200) → Below w.heap.size w w2 → Calls Tryz.prog 235 #[.pointer (some ⟨h, 1012, none⟩), v2] w2 (ByTo w (tlbts s))) := fun w2 v2 r2 b2 => by
    obtain ⟨ft, T, _, _⟩ := H.table
    have hl := Pu.bts_len H.ok.p (n := 200) (Nat.le_refl _)
    refine (Nd.append_any w2 w.heap.size h 1012 s.g ft (T.below b2) T.size v2 _ r2 b2.size (by omega)).mono ?_
    rintro e w' ⟨v, rfl, r3, g3, s3⟩
    exact ⟨v, rfl, r3, b2.trans (g3.below b2.size)⟩
  generalize Pu.bts s.p 200 = b0 at *
  generalize tlbts s = bf at *
  clear H hd
  go_enter Tryz.func254, Tryz.ntmps254
  go_upto_region 3 with fail
  go_region_with (first
    | (go_at_call 226; refine LB.out.mono ?_; rintro e w2 ⟨v2, rfl, r2, b2⟩; have AW := Lib.hid (AP.out w2 v2 r2 b2); clear r2 b2)
    | (go_at_call 235; refine AW.out.mono ?_; rintro e w3 ⟨v3, rfl, r3, b3⟩; have F : Hid (ByTo w bf (.returned v3) w3) := ⟨v3, rfl, r3, b3⟩; clear r3 b3))
  all_goals
    clear LB AP AW
    go_wp2
    go_ret
    exact F.out
end Ti
end Go.Proofs.YtpkdigegkemogaaGreatDoor
