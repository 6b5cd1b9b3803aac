/- Do of a purse. -/
import Derived.Test.YtchlbkfkecpodaaPuG
import Derived.Test.YtchlbkfkecpodaaWtC
namespace Go.Proofs.Ytchlbkfkecpodaa
set_option maxRecDepth 100000
open Go.RowKit
open Go.Sort (grow)
open Go.Proofs.Ytchlbkfkecpodaa.Pk (one_at one_free one_set lt_some grown_set grown_trans below_grown grown_refl)
namespace Pu
open Wt (Opn mayOp mayop_any inR)

abbrev opv (o : Opn) : Value := .agg #[.int .i64 o.kind, .int .i64 o.book, .int .i64 o.units, .int .i64 o.cust, .int .i64 o.amount]
def dstp (p : S) (o : Opn) : S × Int := stp p (mayOp o) o.kind o.book o.cust o.amount
theorem mayop_bds {o : Opn} (h : mayOp o = true) : (1 ≤ o.book ∧ o.book ≤ 200) ∧ (1 ≤ o.kind ∧ o.kind ≤ 6) ∧ (o.kind = 4 → (0 ≤ o.cust ∧ o.cust ≤ 3) ∧ 0 ≤ o.amount ∧ o.amount ≤ 1099511627776) := by
  refine ⟨?_, ?_, fun hk => ?_⟩
  · refine Decidable.byContradiction fun hn => ?_
    rw [Wt.mayop_out (by omega)] at h
    cases h
  · refine Decidable.byContradiction fun hn => ?_
    rw [Wt.mayop_out (by omega)] at h
    cases h
  · unfold mayOp at h
    rw [Bool.and_eq_true, if_neg (by omega), if_pos hk, Bool.and_eq_true, Bool.and_eq_true] at h
    obtain ⟨-, ⟨-, h1⟩, h2⟩ := h
    unfold inR at h1 h2
    simp at h1 h2
    exact ⟨h1, h2⟩
theorem dstp_ok {p : S} (h : Ok p) (o : Opn) : Ok (dstp p o).1 := by
  unfold dstp
  exact ok_stp h (fun hh => (mayop_bds hh).1) (fun hh => (mayop_bds hh).2.2)
theorem do_nil (w : World) (o : Opn) : Calls Try.prog 30 #[.pointer none, opv o] w fun e w' => e = .returned (.int .i64 2) ∧ Below w.heap.size w w' := by
  have HB : Hid (Below w.heap.size w (w.alloc (.cells #[.int .i64 o.kind, .int .i64 o.book, .int .i64 o.units, .int .i64 o.cust, .int .i64 o.amount] 30))) := (Below.refl _ _).alloc (Nat.le_refl _) _
  unfold opv
  go_enter Try.func30, Try.ntmps30
  go_wp2
  go_ret
  exact ⟨rfl, HB.out⟩
/-- What an operation answers, and leaves. -/
def DoTo (w : World) (q : Nat) (fp : Nat → Prop) (r : S × Int) (e : Ending) (w' : World) : Prop := e = .returned (.int .i64 r.2) ∧ LTo LineT (fun g => g = q) w q fp r.1 w'
set_option maxHeartbeats 3200000 in
theorem do_any (w : World) (q : Nat) (p : S) (fp : Nat → Prop) (L : LedP w q p fp) (o : Opn) :
    Calls Try.prog 30 #[.pointer (some ⟨q, 0, none⟩), opv o] w (DoTo w q fp (dstp p o)) := by
  obtain ⟨W, hW⟩ : ∃ W, W = w.alloc (.cells #[.int .i64 o.kind, .int .i64 o.book, .int .i64 o.units, .int .i64 o.cust, .int .i64 o.amount] 30) := ⟨_, rfl⟩
  have HB : Hid (Below w.heap.size w W) := by rw [hW]; exact (Below.refl _ _).alloc (Nat.le_refl _) _
  have hE : Hid (W.heap[w.heap.size]? = some (.cells #[.int .i64 o.kind, .int .i64 o.book, .int .i64 o.units, .int .i64 o.cust, .int .i64 o.amount] 30 (0, 0))) := by rw [hW]; exact heap_alloc_new _ _
  have MW : Hid (Calls Try.prog 57 #[.agg #[.int .i64 o.kind, .int .i64 o.book, .int .i64 o.units, .int .i64 o.cust, .int .i64 o.amount]] W _) := mayop_any W o
  have h0 : W.cell? ⟨w.heap.size, 0, none⟩ = some (.int .i64 o.kind) := one_at (i := 0) hE.out
  have h1 : W.cell? ⟨w.heap.size, 1, none⟩ = some (.int .i64 o.book) := one_at (i := 1) hE.out
  have h2 : W.cell? ⟨w.heap.size, 2, none⟩ = some (.int .i64 o.units) := one_at (i := 2) hE.out
  have h3 : W.cell? ⟨w.heap.size, 3, none⟩ = some (.int .i64 o.cust) := one_at (i := 3) hE.out
  have h4 : W.cell? ⟨w.heap.size, 4, none⟩ = some (.int .i64 o.amount) := one_at (i := 4) hE.out
  unfold opv dstp
  replace hW := Lib.hid hW
  cases hm : mayOp o with
  | false =>
    rw [hm] at MW
    have hL := Lib.hid L
    clear hm L
    go_enter Try.func30, Try.ntmps30
    go_wp2_with fail
    rw [← hW.out]
    refine MW.out.mono ?_
    rintro e w1 ⟨rfl, hh⟩
    have E : Hid (LTo LineT (fun g => g = q) w q fp p w1) := LTo.of_below hL.out (HB.out.trans (hh.mono HB.out.size))
    clear MW hh hL
    go_wp2
    go_ret
    exact ⟨rfl, E.out⟩
  | true =>
    obtain ⟨⟨b1, b2⟩, ⟨k1, k6⟩, hu⟩ := mayop_bds hm
    rw [hm] at MW
    have H1 : Hid (∀ W', Below w.heap.size w W' → o.kind = 4 → Calls Try.prog 76 #[.pointer (some ⟨q, 0, none⟩), .agg #[.int .i64 o.kind, .int .i64 o.book, .int .i64 o.units, .int .i64 o.cust, .int .i64 o.amount]] W' (DoTo w q fp (stp p true o.kind o.book o.cust o.amount))) := fun W' hb hk => by
      obtain ⟨⟨c0, c3⟩, m0, m1⟩ := hu hk
      obtain ⟨b, hb'⟩ := Int.eq_ofNat_of_zero_le (a := o.book) (by omega)
      obtain ⟨c, hc'⟩ := Int.eq_ofNat_of_zero_le (a := o.cust) c0
      rw [hb', hc']
      refine (auth_any W' q p fp (L.below hb) o.kind o.units o.amount b c (by omega) (by omega) (by omega) m0 m1).mono ?_
      rintro e w' ⟨rfl, h⟩
      have e1 : stp p true o.kind (b : Int) (c : Int) o.amount = auth p (b : Int) (c : Int) o.amount := by unfold stp; rw [if_neg (by simp), if_pos hk]
      rw [e1]
      exact ⟨rfl, LTo.after L.lt hb h⟩
    have H2 : Hid (∀ W', Below w.heap.size w W' → o.kind = 5 → Calls Try.prog 77 #[.pointer (some ⟨q, 0, none⟩), .int .i64 o.book] W' (DoTo w q fp (stp p true o.kind o.book o.cust o.amount))) := fun W' hb hk => by
      obtain ⟨b, hb'⟩ := Int.eq_ofNat_of_zero_le (a := o.book) (by omega)
      rw [hb']
      refine (capt_any W' q p fp (L.below hb) b (by omega) (by omega)).mono ?_
      rintro e w' ⟨rfl, h⟩
      have e1 : stp p true o.kind (b : Int) o.cust o.amount = capt p (b : Int) := by unfold stp; rw [if_neg (by simp), if_neg (by omega), if_pos hk]
      rw [e1]
      exact ⟨rfl, LTo.after L.lt hb h⟩
    have H3 : Hid (∀ W', Below w.heap.size w W' → o.kind = 6 → Calls Try.prog 78 #[.pointer (some ⟨q, 0, none⟩), .int .i64 o.book] W' (DoTo w q fp (stp p true o.kind o.book o.cust o.amount))) := fun W' hb hk => by
      obtain ⟨b, hb'⟩ := Int.eq_ofNat_of_zero_le (a := o.book) (by omega)
      rw [hb']
      refine (void_any W' q p fp (L.below hb) b (by omega) (by omega)).mono ?_
      rintro e w' ⟨rfl, h⟩
      have e1 : stp p true o.kind (b : Int) o.cust o.amount = (void p (b : Int), 1) := by unfold stp; rw [if_neg (by simp), if_neg (by omega), if_neg (by omega), if_pos hk]
      rw [e1]
      exact ⟨rfl, LTo.after L.lt hb h⟩
    have H4 : Hid (∀ W', Below w.heap.size w W' → ¬ o.kind = 4 → ¬ o.kind = 5 → ¬ o.kind = 6 → DoTo w q fp (stp p true o.kind o.book o.cust o.amount) (.returned (.int .i64 2)) W') := fun W' hb h1 h2 h3 => by
      have e : stp p true o.kind o.book o.cust o.amount = (p, 2) := by unfold stp; rw [if_neg (by simp), if_neg h1, if_neg h2, if_neg h3]
      rw [e]
      exact ⟨rfl, LTo.of_below L hb⟩
    clear L b1 b2 hu hm k1 k6
    obtain ⟨r, hr⟩ : ∃ r, r = stp p true o.kind o.book o.cust o.amount := ⟨_, rfl⟩
    rw [← hr] at H1 H2 H3 H4 ⊢
    clear hr
    obtain ⟨k, b, u, c, m⟩ := o
    simp only at *
    go_enter Try.func30, Try.ntmps30
    go_wp2_with fail
    rw [← hW.out]
    refine MW.out.mono ?_
    rintro e w1 ⟨rfl, hh⟩
    have B1 : Hid (Below w.heap.size w w1) := HB.out.trans (hh.mono HB.out.size)
    have hE1 := (hh.block _ (lt_some hE.out)).trans hE.out
    have e0 : w1.cell? ⟨w.heap.size, 0, none⟩ = some (.int .i64 k) := one_at (i := 0) hE1
    have e1 : w1.cell? ⟨w.heap.size, 1, none⟩ = some (.int .i64 b) := one_at (i := 1) hE1
    have e2 : w1.cell? ⟨w.heap.size, 2, none⟩ = some (.int .i64 u) := one_at (i := 2) hE1
    have e3 : w1.cell? ⟨w.heap.size, 3, none⟩ = some (.int .i64 c) := one_at (i := 3) hE1
    have e4 : w1.cell? ⟨w.heap.size, 4, none⟩ = some (.int .i64 m) := one_at (i := 4) hE1
    clear MW hh hE1 hE hW h0 h1 h2 h3 h4
    by_cases h1 : k = 4
    · have C := H1.out w1 B1.out h1
      have hb1 : (k == 4) = true := by simpa using h1
      clear H1 H2 H3 H4 h1
      go_wp2_with fail
      refine C.mono ?_
      rintro e w2 ⟨rfl, hl⟩
      replace hl := Lib.hid hl
      clear C
      go_wp2
      go_ret
      exact ⟨rfl, hl.out⟩
    · have hb1 : (k == 4) = false := by simpa using h1
      by_cases h2 : k = 5
      · have C := H2.out w1 B1.out h2
        have hb2 : (k == 5) = true := by simpa using h2
        clear H1 H2 H3 H4 h1 h2
        go_wp2_with fail
        refine C.mono ?_
        rintro e w2 ⟨rfl, hl⟩
        replace hl := Lib.hid hl
        clear C
        go_wp2
        go_ret
        exact ⟨rfl, hl.out⟩
      · have hb2 : (k == 5) = false := by simpa using h2
        by_cases h3 : k = 6
        · have C := H3.out w1 B1.out h3
          have hb3 : (k == 6) = true := by simpa using h3
          clear H1 H2 H3 H4 h1 h2 h3
          go_wp2_with fail
          refine C.mono ?_
          rintro e w2 ⟨rfl, hl⟩
          replace hl := Lib.hid hl
          clear C
          go_wp2
          go_ret
          exact ⟨rfl, hl.out⟩
        · have hb3 : (k == 6) = false := by simpa using h3
          have E := Lib.hid (H4.out w1 B1.out h1 h2 h3)
          clear H1 H2 H3 H4 h1 h2 h3
          go_wp2
          go_ret
          exact E.out
end Pu
end Go.Proofs.Ytchlbkfkecpodaa
