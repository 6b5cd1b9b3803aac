/- A host and the document's, side by side, and a step's box. -/
import Derived.Test.YtchlbkfkecpodaaGreatHoM
import Derived.Test.YtchlbkfkecpodaaGreatDsX
import Derived.Test.YtchlbkfkecpodaaGreatDtX
import Derived.Test.YtchlbkfkecpodaaGreatHoF
import Derived.Test.YtchlbkfkecpodaaGreatHoK
namespace Go.Proofs.YtchlbkfkecpodaaGreat
set_option maxRecDepth 100000
open Go.RowKit
open Go.Sort (grow)
open Go.Proofs.YtchlbkfkecpodaaGreat.Pk (one_at one_free one_set lt_some grown_set grown_trans below_grown grown_refl)
namespace Ho
open Wt (Opn mayOp)
open St (Kq Ds dstp tick)
open Tb (Dm cnt ne0)

/-- The document's host lies at d: its inventory's cells, then its table's. -/
structure Dh (w : World) (d : Nat) (cap over : Int) (s : S) : Prop where
  st : Ds w d cap over s.f
  tb : Dm w d 1007 s.g (cnt s.g : Nat)
section
variable {w w' : World} {d : Nat} {cap over : Int} {s : S} {f : St.F} {g : Tb.F} {n : Int}
theorem Dh.keep (D : Dh w d cap over s) (h : w'.heap[d]? = w.heap[d]?) : Dh w' d cap over s := ⟨D.st.keep h, D.tb.keep h⟩
theorem Dh.below (D : Dh w d cap over s) (hb : Below w.heap.size w w') : Dh w' d cap over s := ⟨D.st.below hb, D.tb.below hb⟩
theorem dm_tail (T : Dm w d 1007 g n) (K : St.Tl d 1007 w w') (hd : d < w'.heap.size) (hf : ∀ i, w'.frozen? ⟨d, i, none⟩ = false) : Dm w' d 1007 g n :=
  ⟨hd, fun b k hb hk => (K _ (by omega)).trans (T.at_ b k hb hk), (K _ (by omega)).trans T.num, hf⟩
theorem ds_low (D : Ds w d cap over f) (K : Tb.Kr d 1007 w w') : Ds w' d cap over f := by
  refine ⟨Nat.lt_of_lt_of_le D.lt K.size, (K.low 0 (by omega)).trans D.c0, (K.low 1 (by omega)).trans D.c1, fun k hk j v hj => ?_, fun i => (K.free i).trans (D.free i)⟩
  have h5 : j < 5 := (List.getElem?_eq_some_iff.1 hj).1
  exact (K.low _ (by omega)).trans (D.ent k hk j v hj)
theorem kq_of {S : Nat → Prop} (K : Tb.Kq S w w') : Kq S w w' := ⟨K.os, K.tape, K.output, K.size, K.block⟩
end
/-- What a call of the document's leaves. -/
def DhTo (w : World) (d : Nat) (cap over : Int) (s : S) (w' : World) : Prop := Dh w' d cap over s ∧ Kq (fun g => g = d) w w'
theorem kq_self {d : Nat} {w w1 w2 : World} (h : Kq (fun g => g = d) w w1) (k : Kq (fun g => g = d) w1 w2) : Kq (fun g => g = d) w w2 := h.trans (k.mono fun _ e => .inl e)
theorem DhTo.drew {w w' : World} {d : Nat} {cap over : Int} {s : S} (h : DhTo w d cap over s w') : DhTo w d cap over s w'.drew := ⟨h.1.keep rfl, ⟨h.2.os, h.2.tape, h.2.output, h.2.size, h.2.block⟩⟩
abbrev opv' (o : Opn) : Value := .agg #[.int .i64 o.kind, .int .i64 o.book, .int .i64 o.units, .int .i64 o.cust, .int .i64 o.amount]
set_option maxHeartbeats 3200000 in
theorem refask_any (w : World) (d : Nat) (cap over : Int) (s : S) (D : Dh w d cap over s) (O : Ok cap over s) (o : Opn) (now : Int) :
    Calls Tryz.prog 10 #[.pointer (some ⟨d, 0, none⟩), opv' o, .int .i64 now] w fun e w' => e = .returned (.tuple #[.int .i64 (ans cap over s o now), .bool (isNew s o now)]) ∧ DhTo w d cap over (asked cap over s o now) w' := by
  obtain ⟨W, hW⟩ : ∃ W, W = w.alloc (.cells #[.int .i64 o.kind, .int .i64 o.book, .int .i64 o.units, .int .i64 o.cust, .int .i64 o.amount] 43) := ⟨_, rfl⟩
  have HB : Hid (Below w.heap.size w W) := by rw [hW]; exact (Below.refl _ _).alloc (Nat.le_refl _) _
  have N0 : Hid (W.heap[w.heap.size]? = some (.cells #[.int .i64 o.kind, .int .i64 o.book, .int .i64 o.units, .int .i64 o.cust, .int .i64 o.amount] 43 (0, 0))) := by rw [hW]; exact heap_alloc_new _ _
  have plt : Hid (d < w.heap.size) := D.st.lt
  have MO := Lib.hid (Wt.refmayop_any W o)
  have TM := Lib.hid (fun w => St.reftime_any w now)
  have z0 := one_at (i := 0) N0.out
  have z1 := one_at (i := 1) N0.out
  have z2 := one_at (i := 2) N0.out
  have z3 := one_at (i := 3) N0.out
  have z4 := one_at (i := 4) N0.out
  have FD : Hid (∀ w1, Below w.heap.size w w1 → Calls Tryz.prog 25 #[.pointer (some ⟨d, 1007, none⟩), .agg #[.int .i64 o.kind, .int .i64 o.book, .int .i64 o.units, .int .i64 o.cust, .int .i64 o.amount]] w1 fun e w' => e = .returned (.tuple #[.int .i64 (s.g o.book o.kind), .bool (ne0 (s.g o.book o.kind))]) ∧ Below w1.heap.size w1 w') := fun w1 hb =>
    Tb.reffind_any w1 d 1007 s.g _ (D.below hb).tb O.g o
  have DO : Hid (∀ w1, Below w.heap.size w w1 → Calls Tryz.prog 26 #[.pointer (some ⟨d, 0, none⟩), .agg #[.int .i64 o.kind, .int .i64 o.book, .int .i64 o.units, .int .i64 o.cust, .int .i64 o.amount], .int .i64 now] w1 fun e w' => e = .returned (.int .i64 (dstp cap over s.f o now).2) ∧ DhTo w d cap over ⟨(dstp cap over s.f o now).1, s.g⟩ w' ∧ Kq (fun g => g = d) w1 w') := fun w1 hb => by
    refine (St.refdo_any w1 d cap over now s.f (D.below hb).st O.f o).mono ?_
    rintro e w' ⟨rfl, h1, K⟩
    exact ⟨rfl, ⟨⟨h1, dm_tail (D.below hb).tb K.tail h1.lt h1.free⟩, (Kq.of_below hb).trans (K.toKq.mono fun _ e => .inl e)⟩, K.toKq⟩
  have PU : Hid (∀ w1 a, mayH o now = true → s.g o.book o.kind = 0 → (dstp cap over s.f o now).2 = a → DhTo w d cap over ⟨(dstp cap over s.f o now).1, s.g⟩ w1 → Calls Tryz.prog 27 #[.pointer (some ⟨d, 1007, none⟩), .agg #[.int .i64 o.kind, .int .i64 o.book, .int .i64 o.units, .int .i64 o.cust, .int .i64 o.amount], .int .i64 a] w1 fun e w' => e = .returned (.bool true) ∧ DhTo w d cap over (asked cap over s o now) w') := fun w1 a hm h0 ha hT => by
    refine (Tb.refput_any w1 d 1007 s.g hT.1.tb o a).mono ?_
    rintro e w' ⟨rfl, h1, K⟩
    rw [← ha, put_is hm h0, asked_yes hm h0]
    rw [← ha] at h1
    exact ⟨rfl, ⟨ds_low hT.1.st K, h1⟩, kq_self hT.2 (kq_of K.toKq)⟩
  have F0 : Hid (mayH o now = true → s.g o.book o.kind = 0 → ans cap over s o now = (dstp cap over s.f o now).2 ∧ isNew s o now = true) := fun hm h0 => ⟨ans_yes hm h0, new_yes hm h0⟩
  have F1 : Hid (mayH o now = true → s.g o.book o.kind ≠ 0 → ans cap over s o now = s.g o.book o.kind ∧ isNew s o now = false ∧ asked cap over s o now = s) := fun hm h0 => ⟨ans_old hm h0, new_old h0, asked_old h0⟩
  have F2 : Hid (mayH o now = false → ans cap over s o now = 2 ∧ isNew s o now = false ∧ asked cap over s o now = s) := fun h0 => ⟨ans_no h0, new_no h0, asked_no h0⟩
  have EB : Hid (∀ w1, Below w.heap.size w w1 → DhTo w d cap over s w1) := fun w1 hb => ⟨D.below hb, .of_below hb⟩
  have HM : Hid (mayH o now = (mayOp o && tick now && decide (o.kind ≤ 3))) := rfl
  have bd : Hid (mayOp o = true → 1 ≤ o.kind ∧ o.kind ≤ 6) := fun h => (Tb.mayop_bds h).2
  replace hW := Lib.hid hW
  generalize (dstp cap over s.f o now).2 = a at *
  generalize (⟨(dstp cap over s.f o now).1, s.g⟩ : S) = s1 at *
  generalize s.g o.book o.kind = g at *
  generalize asked cap over s o now = s' at *
  generalize ans cap over s o now = rr at *
  generalize isNew s o now = nn at *
  generalize mayH o now = mh at *
  clear D O
  obtain ⟨k, b, u, c, m⟩ := o
  simp only at *
  generalize mayOp ⟨k, b, u, c, m⟩ = mo at *
  cases mo with
  | false =>
    obtain ⟨e1, e2, e3⟩ := F2.out (by rw [HM.out]; rfl)
    rw [e1, e2, e3]
    clear F0 F1 F2 FD DO PU e1 e2 e3 bd HM
    go_enter Tryz.func10, Tryz.ntmps10
    go_wp2_with fail
    rw [← hW.out]
    go_wp2_with fail
    refine MO.out.mono ?_
    rintro e w1 ⟨rfl, h1⟩
    have E := Lib.hid (EB.out w1 (HB.out.trans (h1.mono HB.out.size)))
    clear MO h1 z0 z1 z2 z3 z4
    go_wp2
    go_ret2
    exact ⟨rfl, E.out⟩
  | true =>
    obtain ⟨k1, k6⟩ := bd.out rfl
    by_cases h3 : k ≤ 3
    · have g3 : decide (3 < k) = false := decide_eq_false (by omega)
      rw [decide_eq_true h3, Bool.true_and, Bool.and_true] at HM
      generalize tick now = tt at *
      rw [HM.out] at F0 F1 F2 PU
      cases tt with
      | false =>
        obtain ⟨e1, e2, e3⟩ := F2.out rfl
        rw [e1, e2, e3]
        clear F0 F1 F2 FD DO PU e1 e2 e3 bd HM
        go_enter Tryz.func10, Tryz.ntmps10
        go_wp2_with fail
        rw [← hW.out]
        go_wp2_with fail
        refine MO.out.mono ?_
        rintro e w1 ⟨rfl, h1⟩
        have y0 := one_at (i := 0) ((h1.block _ (lt_some N0.out)).trans N0.out)
        have E := Lib.hid (EB.out w1 (HB.out.trans (h1.mono HB.out.size)))
        clear MO h1 z0 z1 z2 z3 z4
        go_wp2_with fail
        refine (TM.out _).mono ?_
        rintro e w2 ⟨rfl, rfl⟩
        clear TM
        go_wp2
        go_ret2
        exact ⟨rfl, E.out⟩
      | true =>
        replace PU : Hid (∀ w1 a', g = 0 → a = a' → DhTo w d cap over s1 w1 → _) := fun w1 a' h1 h2 h3 => PU.out w1 a' rfl h1 h2 h3
        by_cases g0 : g = 0
        · obtain ⟨e1, e2⟩ := F0.out rfl g0
          have PA : Hid (∀ w1, DhTo w d cap over s1 w1 → _) := fun w1 h3 => PU.out w1 a g0 rfl h3
          subst g0
          rw [show ne0 0 = false from rfl] at FD
          rw [e1, e2]
          clear F0 F1 F2 EB e1 e2 bd HM PU
          go_enter Tryz.func10, Tryz.ntmps10
          go_wp2_with fail
          rw [← hW.out]
          go_wp2_with fail
          refine MO.out.mono ?_
          rintro e w1 ⟨rfl, h1⟩
          have B1 : Below w.heap.size w w1 := HB.out.trans (h1.mono HB.out.size)
          have N1 : Hid (w1.heap[w.heap.size]? = some (.cells #[.int .i64 k, .int .i64 b, .int .i64 u, .int .i64 c, .int .i64 m] 43 (0, 0))) := (h1.block _ (lt_some N0.out)).trans N0.out
          have y0 := one_at (i := 0) N1.out
          have y1 := one_at (i := 1) N1.out
          have y2 := one_at (i := 2) N1.out
          have y3 := one_at (i := 3) N1.out
          have y4 := one_at (i := 4) N1.out
          have FW := Lib.hid (FD.out w1.drew ⟨B1.os, B1.tape, B1.output, B1.size, B1.block⟩)
          replace B1 := Lib.hid B1
          clear MO h1 z0 z1 z2 z3 z4 FD N0
          go_wp2_with fail
          refine (TM.out _).mono ?_
          rintro e w2 ⟨rfl, rfl⟩
          clear TM
          go_upto_region 3 with fail
          go_region_with (first
            | (go_at_call 25; refine FW.out.mono ?_; rintro e w3 ⟨rfl, h3⟩; have B3 : Below w.heap.size w w3 := B1.out.trans (Below.mono ⟨h3.os, h3.tape, h3.output, h3.size, h3.block⟩ B1.out.size); have N3 : Hid (w3.heap[w.heap.size]? = some (.cells #[.int .i64 k, .int .i64 b, .int .i64 u, .int .i64 c, .int .i64 m] 43 (0, 0))) := (h3.block _ (lt_some N1.out)).trans N1.out; clear h3))
          all_goals
            clear y0 y1 y2 y3 y4 FW N1 B1
            have y0 := one_at (i := 0) N3.out
            have y1 := one_at (i := 1) N3.out
            have y2 := one_at (i := 2) N3.out
            have y3 := one_at (i := 3) N3.out
            have y4 := one_at (i := 4) N3.out
            have DW := Lib.hid (DO.out w3.drew ⟨B3.os, B3.tape, B3.output, B3.size, B3.block⟩)
            clear DO B3
            go_upto_region 6 with fail
            go_region_with (first
              | (go_at_call 26; refine DW.out.mono ?_; rintro e w4 ⟨rfl, h4, k4⟩; have N4 : Hid (w4.heap[w.heap.size]? = some (.cells #[.int .i64 k, .int .i64 b, .int .i64 u, .int .i64 c, .int .i64 m] 43 (0, 0))) := (k4.block _ (lt_some N3.out) (by have := plt.out; omega)).trans N3.out; have P4 := Lib.hid (PA.out w4.drew h4.drew); clear h4 k4))
            all_goals
              clear y0 y1 y2 y3 y4 DW N3 PA
              have y0 := one_at (i := 0) N4.out
              have y1 := one_at (i := 1) N4.out
              have y2 := one_at (i := 2) N4.out
              have y3 := one_at (i := 3) N4.out
              have y4 := one_at (i := 4) N4.out
              go_upto_region 7 with fail
              go_region_with (first
                | (go_at_call 27; refine P4.out.mono ?_; rintro e w5 ⟨rfl, h5⟩; replace h5 := Lib.hid h5))
              all_goals
                clear y0 y1 y2 y3 y4 P4
                go_wp2
                go_ret2
                exact ⟨rfl, h5.out⟩
        · obtain ⟨e1, e2, e3⟩ := F1.out rfl g0
          rw [Tb.ne0_iff.2 g0] at FD
          rw [e1, e2, e3]
          clear F0 F1 F2 DO PU e1 e2 e3 bd HM
          go_enter Tryz.func10, Tryz.ntmps10
          go_wp2_with fail
          rw [← hW.out]
          go_wp2_with fail
          refine MO.out.mono ?_
          rintro e w1 ⟨rfl, h1⟩
          have B1 : Below w.heap.size w w1 := HB.out.trans (h1.mono HB.out.size)
          have N1 : Hid (w1.heap[w.heap.size]? = some (.cells #[.int .i64 k, .int .i64 b, .int .i64 u, .int .i64 c, .int .i64 m] 43 (0, 0))) := (h1.block _ (lt_some N0.out)).trans N0.out
          have y0 := one_at (i := 0) N1.out
          have y1 := one_at (i := 1) N1.out
          have y2 := one_at (i := 2) N1.out
          have y3 := one_at (i := 3) N1.out
          have y4 := one_at (i := 4) N1.out
          have FW := Lib.hid (FD.out w1.drew ⟨B1.os, B1.tape, B1.output, B1.size, B1.block⟩)
          replace B1 := Lib.hid B1
          clear MO h1 z0 z1 z2 z3 z4 FD N0
          go_wp2_with fail
          refine (TM.out _).mono ?_
          rintro e w2 ⟨rfl, rfl⟩
          clear TM
          go_upto_region 3 with fail
          go_region_with (first
            | (go_at_call 25; refine FW.out.mono ?_; rintro e w3 ⟨rfl, h3⟩; have B3 : Below w.heap.size w w3 := B1.out.trans (Below.mono ⟨h3.os, h3.tape, h3.output, h3.size, h3.block⟩ B1.out.size); have E := Lib.hid (EB.out w3 B3); clear h3 B3))
          all_goals
            clear y0 y1 y2 y3 y4 FW N1 B1 EB
            go_wp2
            go_ret2
            exact ⟨rfl, E.out⟩
    · have g3 : decide (3 < k) = true := decide_eq_true (by omega)
      obtain ⟨e1, e2, e3⟩ := F2.out (by rw [HM.out, decide_eq_false h3, Bool.and_false])
      rw [e1, e2, e3]
      clear F0 F1 F2 FD DO PU e1 e2 e3 bd HM
      go_enter Tryz.func10, Tryz.ntmps10
      go_wp2_with fail
      rw [← hW.out]
      go_wp2_with fail
      refine MO.out.mono ?_
      rintro e w1 ⟨rfl, h1⟩
      have y0 := one_at (i := 0) ((h1.block _ (lt_some N0.out)).trans N0.out)
      have E := Lib.hid (EB.out w1 (HB.out.trans (h1.mono HB.out.size)))
      clear MO h1 z0 z1 z2 z3 z4
      go_wp2
      go_ret2
      exact ⟨rfl, E.out⟩
end Ho
end Go.Proofs.YtchlbkfkecpodaaGreat

namespace Go.Proofs.YtchlbkfkecpodaaGreat
set_option maxRecDepth 100000
open Go.RowKit Go.Sort
open Go.Proofs.YtchlbkfkecpodaaGreat.Pk (one_at one_free one_set lt_some grown_set grown_trans below_grown grown_refl refint str str_add str_cat str_size encI_len)
namespace Ho
open Wt (Opn mayOp)
open St (Ds Bs cat int_of size_add2)
open Tb (Dm cnt ne0 walk row keys)
open Nd (kb tbs tbs_len tbs_all reftbytes_any)

set_option maxHeartbeats 1600000 in
theorem refbytes_any (w : World) (d : Nat) (cap over : Int) (s : S) (D : Dh w d cap over s) (O : Ok cap over s) : Calls Tryz.prog 14 #[.pointer (some ⟨d, 0, none⟩)] w fun e w' => e = .returned (.string (str (hbts cap over s))) ∧ Below w.heap.size w w' := by
  have C1 : ∀ dr os, Calls Tryz.prog 32 #[.pointer (some ⟨d, 0, none⟩)] (grow (redrawn w dr) os) fun e w'' => e = .returned (.string (str (St.bts cap over s.f 200))) ∧ ∃ q : Regrown, w'' = grow (redrawn w q.d) q.os := fun dr os => Calls.regrown_of (St.refbytes_any _ d cap over s.f (D.below (below_regrown w dr os)).st O.f)
  have C2 : ∀ dr os, Calls Tryz.prog 33 #[.pointer (some ⟨d, 1007, none⟩)] (grow (redrawn w dr) os) fun e w'' => e = .returned (.string (str (tbs s.g 200 0))) ∧ ∃ q : Regrown, w'' = grow (redrawn w q.d) q.os := fun dr os => Calls.regrown_of (reftbytes_any _ d 1007 s.g (D.below (below_regrown w dr os)).tb O.g)
  have l1 := St.bts_len O.f (n := 200) (Nat.le_refl _)
  have l2 := tbs_len O.g (i := 200) (j := 0) (Nat.le_refl _) (by omega)
  have e : hbts cap over s = St.bts cap over s.f 200 ++ tbs s.g 200 0 := by rw [tbs_all, ← List.append_assoc]; rfl
  generalize St.bts cap over s.f 200 = b1 at *
  generalize tbs s.g 200 0 = b2 at *
  generalize hbts cap over s = b3 at *
  have a1 := str_add b1 b2 (by omega)
  have q1 := size_add2 (a := b1) (b := b2) (by omega)
  have t1 := str_cat b1 b2
  rw [← e] at a1 t1
  clear e l1 l2 D O
  go_enter Tryz.func14, Tryz.ntmps14
  go_upto_region 1 with fail
  refine wp_region_quiet_below (by kernel_rfl) (by kernel_rfl) ?_
  repeat (go_big_quiet_step (first | with_reducible exact C1 _ _ | with_reducible exact C2 _ _))
  refine wpQuiet_nil ?_
  intro w2 hw'
  obtain ⟨⟨dq, osq⟩, hw''⟩ := hw'
  have be2 : Hid (RowKit.Below w.heap.size w w2) := by rw [hw'']; exact below_regrown w dq osq
  clear hw'' C1 C2
  go_wp2
  go_ret
  exact ⟨rfl, be2.out⟩
end Ho
end Go.Proofs.YtchlbkfkecpodaaGreat

namespace Go.Proofs.YtchlbkfkecpodaaGreat
set_option maxRecDepth 100000
open Go.RowKit Go.Sort
open Go.Proofs.YtchlbkfkecpodaaGreat.Pk (one_at one_free one_set lt_some grown_set grown_trans below_grown grown_refl)
namespace Ho
open Wt (Opn mayOp)
open St (Kq grq dstp tick swF swL RowI ivs ByTo Stp stc entc)
open Tb (cnt)

/-! ### a new one of the document's -/
def zeros12 : Array Value := Array.replicate 2415 (.int .i64 0)
theorem build_run (w : World) : (Instr.build 41 #[]).run Tryz.prog w = .ok (.agg zeros12) w := by kernel_rfl
theorem box_run (w : World) (cs : Array Value) : (Instr.box 41 (.agg cs)).run Tryz.prog w = .ok (.pointer (some ⟨w.heap.size, 0, none⟩)) (w.alloc (.cells cs 41)) := by
  simp only [Instr.box, newVar, newRow, Sem.run_bind]
  kernel_rfl
section
variable {ops : Array Oper} {rest : List Oper} {o : Oper} {a : Act} {w : World} {Q : Exit → Act → World → Prop}
theorem wpList_build12 (hg : o.guard = none) (ho : o.op = .build 41 #[])
    (h : wpList Tryz.prog ops Q rest (a.put o.dst (.agg zeros12)) w) : wpList Tryz.prog ops Q (o :: rest) a w := by
  refine wpList_plain hg fun K hK => ?_
  unfold Oper.wp execOp
  simp only [ho, Sem.run_bind, List.map_toArray, List.map_nil, build_run, Sem.run_pure, Result.andThen_ok]
  exact hK _ _ h
theorem wpList_box12 (hg : o.guard = none) (x : Operand) (ho : o.op = .box 41 x) (cs : Array Value) (hx : a.eval x = .agg cs)
    (h : wpList Tryz.prog ops Q rest (a.put o.dst (.pointer (some ⟨w.heap.size, 0, none⟩))) (w.alloc (.cells cs 41))) : wpList Tryz.prog ops Q (o :: rest) a w := by
  refine wpList_plain hg fun K hK => ?_
  unfold Oper.wp execOp
  simp only [ho, hx, Sem.run_bind, box_run, Sem.run_pure, Result.andThen_ok]
  exact hK _ _ h
end
theorem stock_size : (Tryz.prog.info? 23).map (·.size) = some 2 := by kernel_rfl
def stv (cap over : Int) : Array Value := #[.int .i64 cap, .int .i64 over]
theorem stv_one (cap over : Int) : (stv cap over).all (·.oneCell') = true := by simp [stv, Value.oneCell']
theorem zeros_at {i : Nat} (h : i < 2415) : zeros12[i]? = some (.int .i64 0) := by
  unfold zeros12
  rw [Array.getElem?_replicate, if_pos h]
theorem new_there (w : World) : (w.alloc (.cells zeros12 41)).there w.heap.size 0 2 := fun j hj => by
  have h := heap_alloc_new w (.cells zeros12 41)
  refine ⟨?_, one_free h⟩
  rw [Nat.zero_add, one_at h, zeros_at (by omega)]
  rfl
/-- The document's new host, its inventory's numbers put. -/
theorem dh_new (w : World) (cap over : Int) : Dh ((w.alloc (.cells zeros12 41)).setCells w.heap.size 0 (stv cap over).toList) w.heap.size cap over sz := by
  have h := heap_alloc_new w (.cells zeros12 41)
  have c : ∀ i, 2 ≤ i → i < 2415 → ((w.alloc (.cells zeros12 41)).setCells w.heap.size 0 (stv cap over).toList).cell? ⟨w.heap.size, i, none⟩ = some (.int .i64 0) := fun i h2 hi => by
    rw [World.cell?_setCells_out w.heap.size _ _ _ ⟨w.heap.size, i, none⟩ (fun _ _ => .inr (by show 0 + 2 ≤ i; omega)), one_at h, zeros_at hi]
  have b : ∀ j, j < 2 → ((w.alloc (.cells zeros12 41)).setCells w.heap.size 0 (stv cap over).toList).cell? ⟨w.heap.size, j, none⟩ = (stv cap over).toList[j]? := fun j hj => by
    have := World.rangeAt_setCells_same (w.alloc (.cells zeros12 41)) w.heap.size 0 (stv cap over).toList (new_there w)
    have hv : (stv cap over).toList[j]? = some (stv cap over).toList[j] := List.getElem?_eq_getElem (by show j < 2; exact hj)
    have e := this j _ hv
    rw [Nat.zero_add] at e
    rw [e, hv]
  have fr : ∀ i, ((w.alloc (.cells zeros12 41)).setCells w.heap.size 0 (stv cap over).toList).frozen? ⟨w.heap.size, i, none⟩ = false := fun i => by
    rw [World.frozen?_setCells]
    exact one_free h
  have lt : w.heap.size < ((w.alloc (.cells zeros12 41)).setCells w.heap.size 0 (stv cap over).toList).heap.size := by
    rw [(St.setCells_block _ _ _ _).1]
    exact lt_some h
  refine ⟨⟨lt, b 0 (by omega), b 1 (by omega), fun k hk j v hj => ?_, fr⟩, ⟨lt, fun x y hx hy => ?_, ?_, fr⟩⟩
  · have h5 : j < 5 := (List.getElem?_eq_some_iff.1 hj).1
    rw [c _ (by omega) (by omega)]
    match j, hj with
    | 0, hj => exact hj
    | 1, hj => exact hj
    | 2, hj => exact hj
    | 3, hj => exact hj
    | 4, hj => exact hj
    | j + 5, hj => simp [entc] at hj
  · rw [c _ (by omega) (by omega)]
    rfl
  · rw [c _ (by omega) (by omega)]
    show _ = some (Value.int .i64 ((cnt Tb.fz : Nat) : Int))
    rw [Tb.cnt_z]
    rfl

/-! ### side by side -/
/-- The program's host at q, the document's at d, the step's box at ob. -/
structure Md (B : World) (q d ob : Nat) (cap over : Int) (s1 s2 : S) (o : Stp) (W : World) : Prop where
  ow : Ow B.heap.size (fun g => g = ob ∨ g = d) B W q cap over s1
  dh : Dh W d cap over s2
  box : W.heap[ob]? = some (.cells (stc o) 45 (0, 0))
  dlt : B.heap.size ≤ d
  obd : ob ≠ d
  ok2 : Ok cap over s2
/-- The two, between rounds. -/
structure Pd (B : World) (q d : Nat) (cap over : Int) (s : S) (W : World) : Prop where
  ow : Ow B.heap.size (fun g => g = d) B W q cap over s
  dh : Dh W d cap over s
  dlt : B.heap.size ≤ d
section
variable {B W W' : World} {q d ob : Nat} {X : Nat → Prop} {cap over : Int} {s s1 s2 : S} {o : Stp}
theorem Pd.below (P : Pd B q d cap over s W) (hb : Below W.heap.size W W') : Pd B q d cap over s W' := ⟨P.ow.below hb, P.dh.below hb, P.dlt⟩
theorem Pd.drew (P : Pd B q d cap over s W) : Pd B q d cap over s W.drew := P.below ⟨rfl, rfl, rfl, Nat.le_refl _, fun _ _ => rfl⟩
theorem Md.drew (M : Md B q d ob cap over s1 s2 o W) : Md B q d ob cap over s1 s2 o W.drew :=
  ⟨M.ow.below ⟨rfl, rfl, rfl, Nat.le_refl _, fun _ _ => rfl⟩, M.dh.keep rfl, M.box, M.dlt, M.obd, M.ok2⟩
theorem Md.below (M : Md B q d ob cap over s1 s2 o W) (hb : Below W.heap.size W W') : Md B q d ob cap over s1 s2 o W' :=
  ⟨M.ow.below hb, M.dh.below hb, (hb.block _ (lt_some M.box)).trans M.box, M.dlt, M.obd, M.ok2⟩
theorem Pd.box (P : Pd B q d cap over s W) (o : Stp) : Md B q d W.heap.size cap over s s o (W.alloc (.cells (stc o) 45)) := by
  have hb : Below W.heap.size W (W.alloc (.cells (stc o) 45)) := (Below.refl _ _).alloc (Nat.le_refl _) _
  have hl := P.dh.st.lt
  refine ⟨(P.ow.beside hb).less fun g hg => ?_, P.dh.below hb, heap_alloc_new _ _, P.dlt, by omega, P.ow.ok⟩
  rcases hg with hg | hg
  · exact .inr ⟨by omega, by rw [hg]; exact lt_some (heap_alloc_new W (.cells (stc o) 45))⟩
  · exact .inl hg
theorem pd_start (O : Ow B.heap.size X B W q cap over sz) : Pd B q W.heap.size cap over sz ((W.alloc (.cells zeros12 41)).setCells W.heap.size 0 (stv cap over).toList) := by
  have hb : Below W.heap.size W (W.alloc (.cells zeros12 41)) := (Below.refl _ _).alloc (Nat.le_refl _) _
  have O1 : Ow B.heap.size (fun g => g = W.heap.size) B (W.alloc (.cells zeros12 41)) q cap over sz := (O.beside hb).less fun g hg => .inr ⟨by omega, by rw [hg]; exact lt_some (heap_alloc_new W (.cells zeros12 41))⟩
  exact ⟨O1.side (.of_cells _ _ _ _) rfl O.bs, dh_new W cap over, O.bs⟩
theorem Md.pair (M : Md B q d ob cap over s s o W) : Pd B q d cap over s W := ⟨M.ow.less fun _ h => .inr h, M.dh, M.dlt⟩
theorem Md.cells (M : Md B q d ob cap over s1 s2 o W) : W.cell? ⟨ob, 0, none⟩ = some (.int .i64 o.kind) ∧ W.cell? ⟨ob, 1, none⟩ = some (.int .i64 o.o.kind) ∧ W.cell? ⟨ob, 2, none⟩ = some (.int .i64 o.o.book) ∧ W.cell? ⟨ob, 3, none⟩ = some (.int .i64 o.o.units) ∧ W.cell? ⟨ob, 4, none⟩ = some (.int .i64 o.o.cust) ∧ W.cell? ⟨ob, 5, none⟩ = some (.int .i64 o.o.amount) ∧ W.cell? ⟨ob, 6, none⟩ = some (.int .i64 o.d) ∧ W.cell? ⟨ob, 7, none⟩ = some (.int .i64 o.now) ∧ W.cell? ⟨ob, 8, none⟩ = some (.bool o.raw) :=
  ⟨one_at (i := 0) M.box, one_at (i := 1) M.box, one_at (i := 2) M.box, one_at (i := 3) M.box, one_at (i := 4) M.box, one_at (i := 5) M.box, one_at (i := 6) M.box, one_at (i := 7) M.box, one_at (i := 8) M.box⟩
theorem Md.be (M : Md B q d ob cap over s1 s2 o W) : Below B.heap.size B W := M.ow.be
theorem md_ask (M : Md B q d ob cap over s1 s2 o W) (p : Opn) (now : Int) : Calls Tryz.prog 9 #[.pointer (some ⟨q, 0, none⟩), opv p, .int .i64 now] W fun e w' => e = .returned (.tuple #[.int .i64 (ans cap over s1 p now), .bool (isNew s1 p now)]) ∧ Md B q d ob cap over (asked cap over s1 p now) s2 o w' := by
  refine (ow_ask M.ow p now).mono ?_
  rintro e w' ⟨rfl, h1, h2, h3⟩
  exact ⟨rfl, h1, M.dh.keep (h3 d (.inr rfl)), (h3 ob (.inl rfl)).trans M.box, M.dlt, M.obd, M.ok2⟩
theorem mx_ask (M : Md B q d ob cap over s1 s2 o W) (p : Opn) (now : Int) : Calls Tryz.prog 10 #[.pointer (some ⟨d, 0, none⟩), opv p, .int .i64 now] W fun e w' => e = .returned (.tuple #[.int .i64 (ans cap over s2 p now), .bool (isNew s2 p now)]) ∧ Md B q d ob cap over s1 (asked cap over s2 p now) o w' := by
  refine (refask_any W d cap over s2 M.dh M.ok2 p now).mono ?_
  rintro e w' ⟨rfl, h1, K⟩
  exact ⟨rfl, M.ow.side K (.inr rfl) M.dlt, h1, (K.block ob (lt_some M.box) M.obd).trans M.box, M.dlt, M.obd, M.ok2.asked p now⟩
theorem md_sweep (M : Md B q d ob cap over s1 s2 o W) (now : Int) : Calls Tryz.prog 7 #[.pointer (some ⟨q, 0, none⟩), .int .i64 now] W fun e w' => ∃ A c, e = .returned (.slice A (swL s1.f now).length c) ∧ RowI w' W.heap.size (.slice A (swL s1.f now).length c) (swL s1.f now).length (ivs (swL s1.f now)) ∧ W.heap.size ≤ w'.heap.size ∧ Md B q d ob cap over ⟨swF s1.f now, s1.g⟩ s2 o w' := by
  refine (ow_sweep M.ow now).mono ?_
  rintro e w' ⟨v, rfl, hr, h1, h2, h3⟩
  obtain ⟨A, c, rfl, _⟩ := St.ri_form hr
  exact ⟨A, c, rfl, hr, h2, h1, M.dh.keep (h3 d (.inr rfl)), (h3 ob (.inl rfl)).trans M.box, M.dlt, M.obd, M.ok2⟩
theorem mx_sweep {base n : Nat} {v : Value} {xs : List Value} (M : Md B q d ob cap over s1 s2 o W) (now : Int) (hr : RowI W base v n xs) (hb : d < base) : Calls Tryz.prog 8 #[.pointer (some ⟨d, 0, none⟩), .int .i64 now] W fun e w' => ∃ A c, e = .returned (.slice A (swL s2.f now).length c) ∧ RowI w' W.heap.size (.slice A (swL s2.f now).length c) (swL s2.f now).length (ivs (swL s2.f now)) ∧ RowI w' base v n xs ∧ Md B q d ob cap over s1 ⟨swF s2.f now, s2.g⟩ o w' := by
  refine (St.refsweep_any W d cap over now s2.f M.dh.st M.ok2.f).mono ?_
  rintro e w' ⟨v2, rfl, h1, h2, K⟩
  obtain ⟨A, c, rfl, _⟩ := St.ri_form h1
  exact ⟨A, c, rfl, h1, St.row_off hr K fun g hg => by have := (St.ri_block hr hg).1; omega, M.ow.side K.toKq (.inr rfl) M.dlt, ⟨h2, dm_tail M.dh.tb K.tail h2.lt h2.free⟩, (K.block ob (lt_some M.box) M.obd).trans M.box, M.dlt, M.obd, M.ok2.swept now⟩
theorem md_answers (M : Md B q d ob cap over s1 s2 o W) : Calls Tryz.prog 11 #[.pointer (some ⟨q, 0, none⟩)] W fun e w' => e = .returned (.int .i64 (cnt s1.g : Nat)) ∧ W = w' := ow_answers M.ow
theorem Md.num (M : Md B q d ob cap over s1 s2 o W) : W.cell? ⟨d, 2414, none⟩ = some (.int .i64 (cnt s2.g : Nat)) := M.dh.tb.num
end
end Ho
end Go.Proofs.YtchlbkfkecpodaaGreat
