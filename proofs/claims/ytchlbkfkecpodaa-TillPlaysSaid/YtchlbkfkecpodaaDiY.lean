/- A new till of the document's; a till and the document's, side by side. -/
import Derived.Test.YtchlbkfkecpodaaTiY
import Derived.Test.YtchlbkfkecpodaaPrY
import Derived.Test.YtchlbkfkecpodaaDtY
namespace Go.Proofs.Ytchlbkfkecpodaa
set_option maxRecDepth 100000
open Go.RowKit
open Go.Sort (grow)
open Go.Proofs.Ytchlbkfkecpodaa.Pk (one_at one_free one_set lt_some grown_set grown_trans below_grown grown_refl)
namespace Ti
open Wt (Opn mayOp)
open Pu (Kq grq Led Pm DLineT dstp RTo)
open Tb (Dm cnt ne0)

/-- The document's till lies at d: its purse's cells, then its table's; fp is what it has. -/
structure Dt (w : World) (d : Nat) (s : S) (fp : Nat → Prop) : Prop where
  pu : Led DLineT w d s.p fp
  tb : Dm w d 1012 s.g (cnt s.g : Nat)
section
variable {w w' w1 w2 : World} {d : Nat} {s s' : S} {p : Pu.S} {g : Tb.F} {n : Int} {fp fp' : Nat → Prop}
theorem Dt.keep (D : Dt w d s fp) (hs : w.heap.size ≤ w'.heap.size) (h : ∀ x, fp x → w'.heap[x]? = w.heap[x]?) : Dt w' d s fp := ⟨D.pu.keep hs h, D.tb.keep (h d D.pu.pin)⟩
theorem Dt.below (D : Dt w d s fp) (hb : Below w.heap.size w w') : Dt w' d s fp := ⟨D.pu.below hb, D.tb.below hb⟩
theorem Dt.mono (D : Dt w d s fp) (hf : ∀ x, fp x → fp' x) (hs : ∀ x, fp' x → x < w.heap.size) : Dt w d s fp' := ⟨D.pu.mono hf hs, D.tb⟩
theorem dm_tail (T : Dm w d 1012 g n) (K : ∀ i, 1012 ≤ i → w'.cell? ⟨d, i, none⟩ = w.cell? ⟨d, i, none⟩) (hd : d < w'.heap.size) (hf : ∀ i, w'.frozen? ⟨d, i, none⟩ = false) : Dm w' d 1012 g n :=
  ⟨hd, fun b k hb hk => (K _ (by omega)).trans (T.at_ b k hb hk), (K _ (by omega)).trans T.num, hf⟩
theorem dl_low (L : Led DLineT w d p fp) (K : Tb.Kr d 1012 w w') : Led DLineT w' d p fp := by
  obtain ⟨v, D, R, hne, hv⟩ := L.at_
  refine ⟨⟨L.pin, fun x hx => Nat.lt_of_lt_of_le (L.size x hx) K.size, v, ⟨Nat.lt_of_lt_of_le L.lt K.size, fun k hk => (K.low _ (by omega)).trans (D.acc k hk), fun k hk j u hj => ?_, (K.low _ (by omega)).trans D.lin, fun i => (K.free i).trans (D.free i)⟩, Pu.rt_same R fun x hx => K.block x (Pu.rt_lt R hx) (fun e => hne (by rw [hx, e])), hne, hv⟩, L.ok⟩
  have h5 : j < 5 := (List.getElem?_eq_some_iff.1 hj).1
  exact (K.low _ (by omega)).trans (D.ent k hk j u hj)
end
/-- What a call of the document's leaves. -/
def DtTo (w : World) (d : Nat) (fp : Nat → Prop) (s : S) (w' : World) : Prop := Dt w' d s (grq fp w w') ∧ Kq fp w w'
section
variable {w w' w1 w2 : World} {d : Nat} {s s' : S} {fp : Nat → Prop}
theorem DtTo.of_below (D : Dt w d s fp) (hb : Below w.heap.size w w') : DtTo w d fp s w' :=
  ⟨(D.below hb).mono (fun _ h => .inl h) fun x hx => by
    rcases hx with hx | ⟨_, hx⟩
    · exact Nat.lt_of_lt_of_le (D.pu.size x hx) hb.size
    · exact hx, .of_below hb⟩
theorem DtTo.trans (a : DtTo w d fp s w1) (b : DtTo w1 d (grq fp w w1) s' w2) : DtTo w d fp s' w2 := by
  obtain ⟨b1, b2⟩ := b
  rw [Pu.grq_grq a.2.size b2.size] at b1
  exact ⟨b1, a.2.trans b2⟩
theorem DtTo.drew (a : DtTo w d fp s w1) : DtTo w d fp s w1.drew := a.trans (DtTo.of_below a.1 ⟨rfl, rfl, rfl, Nat.le_refl _, fun _ _ => rfl⟩)
theorem DtTo.after (D : Dt w d s fp) (hb : Below w.heap.size w w1) (a : DtTo w1 d fp s' w2) : DtTo w d fp s' w2 := by
  obtain ⟨a1, a2⟩ := a
  refine ⟨a1.mono (fun x hx => ?_) fun x hx => ?_, (Kq.of_below hb).trans (a2.mono fun _ h => .inl h)⟩
  · rcases hx with hx | ⟨hx, hx'⟩
    · exact .inl hx
    · exact .inr ⟨Nat.le_trans hb.size hx, hx'⟩
  · rcases hx with hx | ⟨_, hx⟩
    · exact Nat.lt_of_lt_of_le (D.pu.size x hx) (Nat.le_trans hb.size a2.size)
    · exact hx
theorem kq_of {S : Nat → Prop} (K : Tb.Kq S w w') : Kq S w w' := ⟨K.os, K.tape, K.output, K.size, K.block⟩
end
set_option maxHeartbeats 3200000 in
theorem refask_any (w : World) (d : Nat) (s : S) (fp : Nat → Prop) (D : Dt w d s fp) (O : Ok s) (o : Opn) :
    Calls Try.prog 50 #[.pointer (some ⟨d, 0, none⟩), .agg #[.int .i64 o.kind, .int .i64 o.book, .int .i64 o.units, .int .i64 o.cust, .int .i64 o.amount]] w fun e w' => e = .returned (.tuple #[.int .i64 (ans s o), .bool (isNew s o)]) ∧ DtTo w d fp (asked s o) w' := by
  obtain ⟨W, hW⟩ : ∃ W, W = w.alloc (.cells #[.int .i64 o.kind, .int .i64 o.book, .int .i64 o.units, .int .i64 o.cust, .int .i64 o.amount] 30) := ⟨_, rfl⟩
  have HB : Hid (Below w.heap.size w W) := by rw [hW]; exact (Below.refl _ _).alloc (Nat.le_refl _) _
  have N0 : Hid (W.heap[w.heap.size]? = some (.cells #[.int .i64 o.kind, .int .i64 o.book, .int .i64 o.units, .int .i64 o.cust, .int .i64 o.amount] 30 (0, 0))) := by rw [hW]; exact heap_alloc_new _ _
  have plt : Hid (∀ x, fp x → x < w.heap.size) := D.pu.size
  have MO := Lib.hid (Wt.refmayop_any W o)
  have z0 := one_at (i := 0) N0.out
  have z1 := one_at (i := 1) N0.out
  have z2 := one_at (i := 2) N0.out
  have z3 := one_at (i := 3) N0.out
  have z4 := one_at (i := 4) N0.out
  have FD : Hid (∀ w1, Below w.heap.size w w1 → Calls Try.prog 90 #[.pointer (some ⟨d, 1012, none⟩), .agg #[.int .i64 o.kind, .int .i64 o.book, .int .i64 o.units, .int .i64 o.cust, .int .i64 o.amount]] w1 fun e w' => e = .returned (.tuple #[.int .i64 (s.g o.book o.kind), .bool (ne0 (s.g o.book o.kind))]) ∧ Below w1.heap.size w1 w') := fun w1 hb =>
    Tb.reffind_any w1 d 1012 s.g _ (D.below hb).tb O.g o
  have DO : Hid (∀ w1, Below w.heap.size w w1 → Calls Try.prog 31 #[.pointer (some ⟨d, 0, none⟩), .agg #[.int .i64 o.kind, .int .i64 o.book, .int .i64 o.units, .int .i64 o.cust, .int .i64 o.amount]] w1 fun e w' => e = .returned (.int .i64 (dstp s.p o).2) ∧ DtTo w d fp ⟨(dstp s.p o).1, s.g⟩ w' ∧ Kq fp w1 w') := fun w1 hb => by
    refine (Pu.refdo_any w1 d s.p fp (D.below hb).pu o).mono ?_
    rintro e w' ⟨rfl, h1, K⟩
    refine ⟨rfl, DtTo.after D hb ⟨⟨⟨h1, Pu.dstp_ok O.p o⟩, ?_⟩, K.toKq⟩, K.toKq⟩
    obtain ⟨v, P, -⟩ := h1.at_
    exact dm_tail (D.below hb).tb K.tail P.lt P.free
  have PU : Hid (∀ w1 a, mayT o = true → s.g o.book o.kind = 0 → (dstp s.p o).2 = a → DtTo w d fp ⟨(dstp s.p o).1, s.g⟩ w1 → Calls Try.prog 91 #[.pointer (some ⟨d, 1012, none⟩), .agg #[.int .i64 o.kind, .int .i64 o.book, .int .i64 o.units, .int .i64 o.cust, .int .i64 o.amount], .int .i64 a] w1 fun e w' => e = .returned (.bool true) ∧ DtTo w d fp (asked s o) w') := fun w1 a hm h0 ha hT => by
    refine (Tb.refput_any w1 d 1012 s.g hT.1.tb o a).mono ?_
    rintro e w' ⟨rfl, h1, K⟩
    rw [← ha, put_is hm h0, asked_yes hm h0]
    rw [← ha] at h1
    refine ⟨rfl, hT.trans ⟨⟨(dl_low hT.1.pu K).mono (fun _ h => .inl h) fun x hx => ?_, h1⟩, (kq_of K.toKq).mono fun x hx => by rw [hx]; exact hT.1.pu.pin⟩⟩
    rcases hx with hx | ⟨_, hx⟩
    · exact Nat.lt_of_lt_of_le (hT.1.pu.size x hx) K.size
    · exact hx
  have F0 : Hid (mayT o = true → s.g o.book o.kind = 0 → ans s o = (dstp s.p o).2 ∧ isNew s o = true) := fun hm h0 => ⟨ans_yes hm h0, new_yes hm h0⟩
  have F1 : Hid (mayT o = true → s.g o.book o.kind ≠ 0 → ans s o = s.g o.book o.kind ∧ isNew s o = false ∧ asked s o = s) := fun hm h0 => ⟨ans_old hm h0, new_old h0, asked_old h0⟩
  have F2 : Hid (mayT o = false → ans s o = 2 ∧ isNew s o = false ∧ asked s o = s) := fun h0 => ⟨ans_no h0, new_no h0, asked_no h0⟩
  have EB : Hid (∀ w1, Below w.heap.size w w1 → DtTo w d fp s w1) := fun w1 hb => .of_below D hb
  have HM : Hid (mayT o = (mayOp o && decide (4 ≤ o.kind))) := rfl
  replace hW := Lib.hid hW
  generalize (dstp s.p o).2 = a at *
  generalize (⟨(dstp s.p o).1, s.g⟩ : S) = s1 at *
  generalize s.g o.book o.kind = g at *
  generalize asked s o = s' at *
  generalize ans s o = rr at *
  generalize isNew s o = nn at *
  generalize mayT o = mh at *
  clear D O
  obtain ⟨k, b, u, c, m⟩ := o
  simp only at *
  generalize mayOp ⟨k, b, u, c, m⟩ = mo at *
  cases mo with
  | false =>
    obtain ⟨e1, e2, e3⟩ := F2.out (by rw [HM.out]; rfl)
    rw [e1, e2, e3]
    clear F0 F1 F2 FD DO PU e1 e2 e3 HM
    go_enter Try.func50, Try.ntmps50
    go_wp2_with fail
    rw [← hW.out]
    go_wp2_with fail
    refine MO.out.mono ?_
    rintro e w1 ⟨rfl, h1⟩
    have E := Lib.hid (EB.out w1 (HB.out.trans (h1.mono HB.out.size)))
    clear MO h1 z0 z1 z2 z3 z4
    go_wp2
    go_ret2
    exact ⟨rfl, E.out⟩
  | true =>
    rw [Bool.true_and] at HM
    by_cases h3 : 4 ≤ k
    · have g3 : decide (k < 4) = false := decide_eq_false (by omega)
      rw [decide_eq_true h3] at HM
      rw [HM.out] at F0 F1 F2 PU
      replace PU : Hid (∀ w1 a', g = 0 → a = a' → DtTo w d fp s1 w1 → _) := fun w1 a' h1 h2 h3 => PU.out w1 a' rfl h1 h2 h3
      by_cases g0 : g = 0
      · obtain ⟨e1, e2⟩ := F0.out rfl g0
        have PA : Hid (∀ w1, DtTo w d fp s1 w1 → _) := fun w1 h3 => PU.out w1 a g0 rfl h3
        subst g0
        rw [show ne0 0 = false from rfl] at FD
        rw [e1, e2]
        clear F0 F1 F2 EB e1 e2 HM PU
        go_enter Try.func50, Try.ntmps50
        go_wp2_with fail
        rw [← hW.out]
        go_wp2_with fail
        refine MO.out.mono ?_
        rintro e w1 ⟨rfl, h1⟩
        have B1 : Below w.heap.size w w1 := HB.out.trans (h1.mono HB.out.size)
        have N1 : Hid (w1.heap[w.heap.size]? = some (.cells #[.int .i64 k, .int .i64 b, .int .i64 u, .int .i64 c, .int .i64 m] 30 (0, 0))) := (h1.block _ (lt_some N0.out)).trans N0.out
        have y0 := one_at (i := 0) N1.out
        have y1 := one_at (i := 1) N1.out
        have y2 := one_at (i := 2) N1.out
        have y3 := one_at (i := 3) N1.out
        have y4 := one_at (i := 4) N1.out
        have FW := Lib.hid (FD.out w1.drew ⟨B1.os, B1.tape, B1.output, B1.size, B1.block⟩)
        replace B1 := Lib.hid B1
        clear MO h1 z0 z1 z2 z3 z4 FD N0
        go_upto_region 3 with fail
        go_region_with (first
          | (go_at_call 90; refine FW.out.mono ?_; rintro e w3 ⟨rfl, h3⟩; have B3 : Below w.heap.size w w3 := B1.out.trans (Below.mono ⟨h3.os, h3.tape, h3.output, h3.size, h3.block⟩ B1.out.size); have N3 : Hid (w3.heap[w.heap.size]? = some (.cells #[.int .i64 k, .int .i64 b, .int .i64 u, .int .i64 c, .int .i64 m] 30 (0, 0))) := (h3.block _ (lt_some N1.out)).trans N1.out; clear h3))
        all_goals
          clear y0 y1 y2 y3 y4 FW N1 B1
          have y0 := one_at (i := 0) N3.out
          have y1 := one_at (i := 1) N3.out
          have y2 := one_at (i := 2) N3.out
          have y3 := one_at (i := 3) N3.out
          have y4 := one_at (i := 4) N3.out
          have DW := Lib.hid (DO.out w3.drew ⟨B3.os, B3.tape, B3.output, B3.size, B3.block⟩)
          clear DO B3
          go_upto_region 6 with fail
          go_region_with (first
            | (go_at_call 31; refine DW.out.mono ?_; rintro e w4 ⟨rfl, h4, k4⟩; have N4 : Hid (w4.heap[w.heap.size]? = some (.cells #[.int .i64 k, .int .i64 b, .int .i64 u, .int .i64 c, .int .i64 m] 30 (0, 0))) := (k4.block _ (lt_some N3.out) (fun e => by have := plt.out _ e; omega)).trans N3.out; have P4 := Lib.hid (PA.out w4.drew h4.drew); clear h4 k4))
          all_goals
            clear y0 y1 y2 y3 y4 DW N3 PA
            have y0 := one_at (i := 0) N4.out
            have y1 := one_at (i := 1) N4.out
            have y2 := one_at (i := 2) N4.out
            have y3 := one_at (i := 3) N4.out
            have y4 := one_at (i := 4) N4.out
            go_upto_region 7 with fail
            go_region_with (first
              | (go_at_call 91; refine P4.out.mono ?_; rintro e w5 ⟨rfl, h5⟩; replace h5 := Lib.hid h5))
            all_goals
              clear y0 y1 y2 y3 y4 P4
              go_wp2
              go_ret2
              exact ⟨rfl, h5.out⟩
      · obtain ⟨e1, e2, e3⟩ := F1.out rfl g0
        rw [Tb.ne0_iff.2 g0] at FD
        rw [e1, e2, e3]
        clear F0 F1 F2 DO PU e1 e2 e3 HM
        go_enter Try.func50, Try.ntmps50
        go_wp2_with fail
        rw [← hW.out]
        go_wp2_with fail
        refine MO.out.mono ?_
        rintro e w1 ⟨rfl, h1⟩
        have B1 : Below w.heap.size w w1 := HB.out.trans (h1.mono HB.out.size)
        have N1 : Hid (w1.heap[w.heap.size]? = some (.cells #[.int .i64 k, .int .i64 b, .int .i64 u, .int .i64 c, .int .i64 m] 30 (0, 0))) := (h1.block _ (lt_some N0.out)).trans N0.out
        have y0 := one_at (i := 0) N1.out
        have y1 := one_at (i := 1) N1.out
        have y2 := one_at (i := 2) N1.out
        have y3 := one_at (i := 3) N1.out
        have y4 := one_at (i := 4) N1.out
        have FW := Lib.hid (FD.out w1.drew ⟨B1.os, B1.tape, B1.output, B1.size, B1.block⟩)
        replace B1 := Lib.hid B1
        clear MO h1 z0 z1 z2 z3 z4 FD N0
        go_upto_region 3 with fail
        go_region_with (first
          | (go_at_call 90; refine FW.out.mono ?_; rintro e w3 ⟨rfl, h3⟩; have B3 : Below w.heap.size w w3 := B1.out.trans (Below.mono ⟨h3.os, h3.tape, h3.output, h3.size, h3.block⟩ B1.out.size); have E := Lib.hid (EB.out w3 B3); clear h3 B3))
        all_goals
          clear y0 y1 y2 y3 y4 FW N1 B1 EB
          go_wp2
          go_ret2
          exact ⟨rfl, E.out⟩
    · have g3 : decide (k < 4) = true := decide_eq_true (by omega)
      obtain ⟨e1, e2, e3⟩ := F2.out (by rw [HM.out, decide_eq_false h3])
      rw [e1, e2, e3]
      clear F0 F1 F2 FD DO PU e1 e2 e3 HM
      go_enter Try.func50, Try.ntmps50
      go_wp2_with fail
      rw [← hW.out]
      go_wp2_with fail
      refine MO.out.mono ?_
      rintro e w1 ⟨rfl, h1⟩
      have y0 := one_at (i := 0) ((h1.block _ (lt_some N0.out)).trans N0.out)
      have E := Lib.hid (EB.out w1 (HB.out.trans (h1.mono HB.out.size)))
      clear MO h1 z0 z1 z2 z3 z4
      go_wp2
      go_ret2
      exact ⟨rfl, E.out⟩
end Ti
end Go.Proofs.Ytchlbkfkecpodaa

namespace Go.Proofs.Ytchlbkfkecpodaa
set_option maxRecDepth 100000
open Go.RowKit Go.Sort
open Go.Proofs.Ytchlbkfkecpodaa.Pk (one_at one_free one_set lt_some grown_set grown_trans below_grown grown_refl refint str str_add str_cat str_size encI_len)
namespace Ti
open Wt (Opn mayOp)
open St (Bs cat int_of size_add2)
open Tb (Dm cnt ne0 walk row keys)
open Nd (kb tbs tbs_len tbs_all reftbytes_any)

set_option maxHeartbeats 1600000 in
theorem refbytes_any (w : World) (d : Nat) (s : S) (fp : Nat → Prop) (D : Dt w d s fp) (O : Ok s) : Calls Try.prog 54 #[.pointer (some ⟨d, 0, none⟩)] w fun e w' => e = .returned (.string (str (tlbts s))) ∧ Below w.heap.size w w' := by
  have C1 : ∀ dr os, Calls Try.prog 55 #[.pointer (some ⟨d, 0, none⟩)] (grow (redrawn w dr) os) fun e w'' => e = .returned (.string (str (Pu.bts s.p 200))) ∧ ∃ q : Regrown, w'' = grow (redrawn w q.d) q.os := fun dr os => Calls.regrown_of (Pu.refbytes_any _ d s.p fp (D.below (below_regrown w dr os)).pu)
  have C2 : ∀ dr os, Calls Try.prog 92 #[.pointer (some ⟨d, 1012, none⟩)] (grow (redrawn w dr) os) fun e w'' => e = .returned (.string (str (tbs s.g 200 0))) ∧ ∃ q : Regrown, w'' = grow (redrawn w q.d) q.os := fun dr os => Calls.regrown_of (reftbytes_any _ d 1012 s.g (D.below (below_regrown w dr os)).tb O.g)
  have l1 := Pu.bts_len O.p (n := 200) (Nat.le_refl _)
  have l2 := tbs_len O.g (i := 200) (j := 0) (Nat.le_refl _) (by omega)
  have e : tlbts s = Pu.bts s.p 200 ++ tbs s.g 200 0 := by rw [tbs_all, ← List.append_assoc]; rfl
  generalize Pu.bts s.p 200 = b1 at *
  generalize tbs s.g 200 0 = b2 at *
  generalize tlbts s = b3 at *
  have a1 := str_add b1 b2 (by omega)
  have q1 := size_add2 (a := b1) (b := b2) (by omega)
  have t1 := str_cat b1 b2
  rw [← e] at a1 t1
  clear e l1 l2 D O
  go_enter Try.func54, Try.ntmps54
  go_upto_region 1 with fail
  refine wp_region_quiet_below (by kernel_rfl) (by kernel_rfl) ?_
  repeat (go_big_quiet_step (first | with_reducible exact C1 _ _ | with_reducible exact C2 _ _))
  refine wpQuiet_nil ?_
  intro w2 hw'
  obtain ⟨⟨dq, osq⟩, hw''⟩ := hw'
  have be2 : Hid (RowKit.Below w.heap.size w w2) := by rw [hw'']; exact below_regrown w dq osq
  clear hw'' C1 C2
  go_wp2
  go_ret
  exact ⟨rfl, be2.out⟩
end Ti
end Go.Proofs.Ytchlbkfkecpodaa

namespace Go.Proofs.Ytchlbkfkecpodaa
set_option maxRecDepth 100000
open Go.RowKit Go.Sort
open Go.Proofs.Ytchlbkfkecpodaa.Pk (one_at one_free one_set lt_some grown_set grown_trans below_grown grown_refl)
namespace Ti
open Wt (Opn mayOp)
open Pu (Kq grq Led Pm pcs pcs_len DLineT dstp zero)
open Tb (Dm cnt)

/-! ### a new one of the document's -/
def z1408 : List Value := List.replicate 1408 (.int .i64 0)
theorem z1408_at {i : Nat} (h : i < 1408) : z1408[i]? = some (.int .i64 0) := by
  unfold z1408
  rw [List.getElem?_replicate, if_pos h]
theorem dtill_built (parts : List (Nat × Value)) : Try.prog.built 90 parts = Instr.fill (#[(0, 1012), (1012, 1408)][·]?) (pcs zero (.slice none 0 0) ++ z1408).toArray parts := by kernel_rfl
theorem dtbuild_run (w : World) (p : Pu.S) (v : Value) : (Instr.build 90 #[(0, .agg (pcs p v).toArray)]).run Try.prog w = .ok (.agg (pcs p v ++ z1408).toArray) w := by
  refine run_build w _ _ _ ?_
  rw [dtill_built]
  have h := fill_head (#[(0, 1012), (1012, 1408)][·]?) (pcs zero (.slice none 0 0) ++ z1408).toArray (pcs p v).toArray (by rw [List.size_toArray, pcs_len]; rfl) (by rw [List.size_toArray, List.size_toArray, List.length_append, pcs_len, pcs_len]; exact Nat.le_add_right _ _)
  refine h.trans ?_
  rw [List.size_toArray, pcs_len]
  congr 3
theorem dtbox_run (w : World) (cs : Array Value) : (Instr.box 90 (.agg cs)).run Try.prog w = .ok (.pointer (some ⟨w.heap.size, 0, none⟩)) (w.alloc (.cells cs 90)) := by
  simp only [Instr.box, newVar, newRow, Sem.run_bind]
  kernel_rfl
section
variable {ops : Array Oper} {rest : List Oper} {o : Oper} {a : Act} {w : World} {Q : Exit → Act → World → Prop}
theorem wpList_dtbuild (hg : o.guard = none) (x : Operand) (ho : o.op = .build 90 #[(0, x)]) (p : Pu.S) (v : Value) (hx : a.eval x = .agg (pcs p v).toArray)
    (h : wpList Try.prog ops Q rest (a.put o.dst (.agg (pcs p v ++ z1408).toArray)) w) : wpList Try.prog ops Q (o :: rest) a w := by
  refine wpList_plain hg fun K hK => ?_
  unfold Oper.wp execOp
  simp only [ho, hx, Sem.run_bind, List.map_toArray, List.map_cons, List.map_nil, dtbuild_run, Sem.run_pure, Result.andThen_ok]
  exact hK _ _ h
theorem wpList_dtbox (hg : o.guard = none) (x : Operand) (ho : o.op = .box 90 x) (cs : Array Value) (hx : a.eval x = .agg cs)
    (h : wpList Try.prog ops Q rest (a.put o.dst (.pointer (some ⟨w.heap.size, 0, none⟩))) (w.alloc (.cells cs 90))) : wpList Try.prog ops Q (o :: rest) a w := by
  refine wpList_plain hg fun K hK => ?_
  unfold Oper.wp execOp
  simp only [ho, hx, Sem.run_bind, dtbox_run, Sem.run_pure, Result.andThen_ok]
  exact hK _ _ h
end
theorem dpur_under : ∃ d, Try.prog.underlying 84 = some d ∧ d.isRow = true := ⟨_, Try.underlying84, rfl⟩
theorem dpur_size : (Try.prog.info? 84).map (·.size) = some 1012 := by kernel_rfl
/-- The document's new till. -/
theorem Dt.start {w : World} {d : Nat} {ty : TypeId} {p : Pu.S} {v : Value} (O : Ok ⟨p, Tb.fz⟩) (R : Pu.RowT DLineT w 0 v p.l.length p.l) (hv : v.ownBlock = none) (e : w.heap[d]? = some (.cells (pcs p v ++ z1408).toArray ty (0, 0))) : Dt w d ⟨p, Tb.fz⟩ (fun x => x = d) := by
  have c : ∀ i, i < 1408 → w.cell? ⟨d, 1012 + i, none⟩ = some (.int .i64 0) := fun i hi => by
    rw [one_at (i := 1012 + i) e, List.getElem?_toArray, List.getElem?_append_right (by rw [pcs_len]; omega), pcs_len, Nat.add_sub_cancel_left, z1408_at hi]
  refine ⟨⟨⟨rfl, fun x hx => by rw [hx]; exact lt_some e, v, Pm.of_row e, R, by rw [hv]; simp, fun g hg => by rw [hv] at hg; cases hg⟩, O.p⟩, ⟨lt_some e, fun b k hb hk => ?_, ?_, fun i => one_free e⟩⟩
  · rw [Nat.add_assoc, c _ (by omega)]
    rfl
  · rw [c 1407 (by omega)]
    show _ = some (Value.int .i64 ((cnt Tb.fz : Nat) : Int))
    rw [Tb.cnt_z]
    rfl

/-! ### side by side -/
section
variable {B : Nat} {X : Nat → Prop} {w0 w w' : World} {q : Nat} {s : S}
/-- The other thing goes on. -/
theorem Ow.along (O : Ow B X w0 w q s) (K : Kq X w w') (hB : ∀ g, X g → B ≤ g) : Ow B (grq X w w') w0 w' q s := by
  obtain ⟨fp, L, hf⟩ := O.ex
  refine ⟨⟨fp, L.keep K.size fun g hg => K.block g (L.size g hg) (hf g hg).2, fun g hg => ⟨(hf g hg).1, fun hx => ?_⟩⟩, O.be.trans (K.below hB O.bs), Nat.le_trans O.bs K.size, fun g hg => ?_⟩
  · rcases hx with hx | ⟨hx, _⟩
    · exact (hf g hg).2 hx
    · have := L.size g hg
      omega
  · rcases hg with hg | ⟨_, hg⟩
    · exact Nat.lt_of_lt_of_le (O.xs g hg) K.size
    · exact hg
end
/-- The program's till at q, the document's at d. -/
structure P2 (B : World) (q d : Nat) (s1 s2 : S) (W : World) : Prop where
  ex : ∃ fp, Ow B.heap.size fp B W q s1 ∧ Dt W d s2 fp ∧ ∀ x, fp x → B.heap.size ≤ x
  ok2 : Ok s2
section
variable {B W W' : World} {q d : Nat} {s1 s2 : S}
theorem P2.below (P : P2 B q d s1 s2 W) (hb : Below W.heap.size W W') : P2 B q d s1 s2 W' := by
  obtain ⟨fp, O, D, h⟩ := P.ex
  exact ⟨⟨fp, O.below hb, D.below hb, h⟩, P.ok2⟩
theorem P2.drew (P : P2 B q d s1 s2 W) : P2 B q d s1 s2 W.drew := P.below ⟨rfl, rfl, rfl, Nat.le_refl _, fun _ _ => rfl⟩
theorem P2.be (P : P2 B q d s1 s2 W) : Below B.heap.size B W := by
  obtain ⟨fp, O, D, h⟩ := P.ex
  exact O.be
theorem P2.bs (P : P2 B q d s1 s2 W) : B.heap.size ≤ W.heap.size := P.be.size
theorem P2.ok1 (P : P2 B q d s1 s2 W) : Ok s1 := by
  obtain ⟨fp, O, D, h⟩ := P.ex
  exact O.ok
theorem P2.ow (P : P2 B q d s1 s2 W) : Ow B.heap.size (fun _ => False) B W q s1 := by
  obtain ⟨fp, O, D, h⟩ := P.ex
  exact O.less fun _ h => h.elim
theorem p2_ask (P : P2 B q d s1 s2 W) (p : Opn) : Calls Try.prog 49 #[.pointer (some ⟨q, 0, none⟩), opv p] W fun e w' => e = .returned (.tuple #[.int .i64 (ans s1 p), .bool (isNew s1 p)]) ∧ P2 B q d (asked s1 p) s2 w' := by
  obtain ⟨fp, O, D, h⟩ := P.ex
  refine (ow_ask O p).mono ?_
  rintro e w' ⟨rfl, h1, h2, h3⟩
  exact ⟨rfl, ⟨fp, h1, D.keep h2 h3, h⟩, P.ok2⟩
theorem px_ask (P : P2 B q d s1 s2 W) (p : Opn) : Calls Try.prog 50 #[.pointer (some ⟨d, 0, none⟩), opv p] W fun e w' => e = .returned (.tuple #[.int .i64 (ans s2 p), .bool (isNew s2 p)]) ∧ P2 B q d s1 (asked s2 p) w' := by
  obtain ⟨fp, O, D, h⟩ := P.ex
  refine (refask_any W d s2 fp D P.ok2 p).mono ?_
  rintro e w' ⟨rfl, h1, K⟩
  refine ⟨rfl, ⟨_, O.along K h, h1, fun x hx => ?_⟩, P.ok2.asked p⟩
  rcases hx with hx | ⟨hx, _⟩
  · exact h x hx
  · exact Nat.le_trans O.bs hx
theorem p2_answers (P : P2 B q d s1 s2 W) : Calls Try.prog 51 #[.pointer (some ⟨q, 0, none⟩)] W fun e w' => e = .returned (.int .i64 (cnt s1.g : Nat)) ∧ W = w' := by
  obtain ⟨fp, O, D, h⟩ := P.ex
  exact ow_answers O
theorem P2.num (P : P2 B q d s1 s2 W) : W.cell? ⟨d, 2419, none⟩ = some (.int .i64 (cnt s2.g : Nat)) := by
  obtain ⟨fp, O, D, h⟩ := P.ex
  exact D.tb.num
theorem P2.pm (P : P2 B q d s1 s2 W) : ∃ v, Pm W d s2.p v := by
  obtain ⟨fp, O, D, h⟩ := P.ex
  obtain ⟨v, h1, -⟩ := D.pu.at_
  exact ⟨v, h1⟩
/-- Both new. -/
theorem P2.start {X : Nat → Prop} {p : Pu.S} {v : Value} (O : Ow B.heap.size X B W q ⟨p, Tb.fz⟩) (R : Pu.RowT DLineT W 0 v p.l.length p.l) (hv : v.ownBlock = none) : P2 B q W.heap.size ⟨p, Tb.fz⟩ ⟨p, Tb.fz⟩ (W.alloc (.cells (pcs p v ++ z1408).toArray 90)) := by
  have hb : Below W.heap.size W (W.alloc (.cells (pcs p v ++ z1408).toArray 90)) := (Below.refl _ _).alloc (Nat.le_refl _) _
  have hn := heap_alloc_new W (.cells (pcs p v ++ z1408).toArray 90)
  exact ⟨⟨fun x => x = W.heap.size, (O.beside hb).less fun g hg => .inr ⟨by omega, by rw [hg]; exact lt_some hn⟩, .start O.ok (Pu.rt_below R hb) hv hn, fun x hx => by rw [hx]; exact O.bs⟩, O.ok⟩
end
end Ti
end Go.Proofs.Ytchlbkfkecpodaa
