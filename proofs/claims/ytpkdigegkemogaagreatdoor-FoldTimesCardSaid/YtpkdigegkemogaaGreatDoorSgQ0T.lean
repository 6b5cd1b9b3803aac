/- Part of the claim: SgQ0 -/
import Derived.Test.YtpkdigegkemogaaGreatDoorSgXaT
namespace Go.Proofs.YtpkdigegkemogaaGreatDoor
set_option maxRecDepth 100000
open Go.RowKit
open Go.Proofs.YtpkdigegkemogaaGreatDoor.Pk (one_at one_free one_set lt_some grown_set grown_trans grown_refl)
namespace Sg
open Wt (Wan may Opn mayOp inR inR_at inR_no)
open Pl (Stp fwd bck cap z0 wanv spv spc fls RowT rt_form rt_mono fwd_any bck_any cap_any)

def behind (p : Int) : Int := if p = 1 then 2 else if p = 2 then 4 else if p = 3 then 5 else 0
structure Tab (w : World) : Prop where
  c0 : w.cell? ⟨0, 3, none⟩ = some (.int .i64 2)
  c1 : w.cell? ⟨0, 4, none⟩ = some (.int .i64 2)
  c2 : w.cell? ⟨0, 5, none⟩ = some (.bool false)
  d0 : w.cell? ⟨0, 6, none⟩ = some (.int .i64 4)
  d1 : w.cell? ⟨0, 7, none⟩ = some (.int .i64 2)
  d2 : w.cell? ⟨0, 8, none⟩ = some (.bool false)
  e0 : w.cell? ⟨0, 9, none⟩ = some (.int .i64 5)
  e1 : w.cell? ⟨0, 10, none⟩ = some (.int .i64 2)
  e2 : w.cell? ⟨0, 11, none⟩ = some (.bool true)
  f0 : w.cell? ⟨0, 12, none⟩ = some (.int .i64 0)
  f1 : w.cell? ⟨0, 13, none⟩ = some (.int .i64 3)
  f2 : w.cell? ⟨0, 14, none⟩ = some (.bool false)
  g0 : w.cell? ⟨0, 15, none⟩ = some (.int .i64 0)
  g1 : w.cell? ⟨0, 16, none⟩ = some (.int .i64 4)
  g2 : w.cell? ⟨0, 17, none⟩ = some (.bool true)
section
variable {w w' : World}
theorem Tab.lt (h : Tab w) : 0 < w.heap.size := block_lt_of_cell h.c0
theorem Tab.below (h : Tab w) (hb : Below w.heap.size w w') : Tab w' := by
  have hc : ∀ i, w'.cell? ⟨0, i, none⟩ = w.cell? ⟨0, i, none⟩ := fun i => World.cell?_of_block (hb.block 0 h.lt)
  obtain ⟨c0, c1, c2, d0, d1, d2, e0, e1, e2, f0, f1, f2, g0, g1, g2⟩ := h
  exact ⟨(hc _).trans c0, (hc _).trans c1, (hc _).trans c2, (hc _).trans d0, (hc _).trans d1, (hc _).trans d2, (hc _).trans e0, (hc _).trans e1, (hc _).trans e2, (hc _).trans f0, (hc _).trans f1, (hc _).trans f2, (hc _).trans g0, (hc _).trans g1, (hc _).trans g2⟩
theorem Tab.sub {B : Nat} (h : Tab w) (hb : Below B w w') (hB : 0 < B) : Tab w' := by
  have hc : ∀ i, w'.cell? ⟨0, i, none⟩ = w.cell? ⟨0, i, none⟩ := fun i => World.cell?_of_block (hb.block 0 hB)
  obtain ⟨c0, c1, c2, d0, d1, d2, e0, e1, e2, f0, f1, f2, g0, g1, g2⟩ := h
  exact ⟨(hc _).trans c0, (hc _).trans c1, (hc _).trans c2, (hc _).trans d0, (hc _).trans d1, (hc _).trans d2, (hc _).trans e0, (hc _).trans e1, (hc _).trans e2, (hc _).trans f0, (hc _).trans f1, (hc _).trans f2, (hc _).trans g0, (hc _).trans g1, (hc _).trans g2⟩
end

theorem swithin_any (w : World) (v lo hi : Int) :
    Calls Tryz.prog 106 #[.int .i64 v, .int .i64 lo, .int .i64 hi] w fun e w' => e = .returned (.bool (inR v lo hi)) ∧ w = w' := by
  by_cases h : lo ≤ v
  · have E := Lib.hid (inR_at (hi := hi) h)
    go_enter Tryz.func106, Tryz.ntmps106
    go_wp2
    go_ret
    rw [← E.out]
    exact ⟨rfl, rfl⟩
  · have E := Lib.hid (inR_no (hi := hi) (Int.not_le.1 h))
    go_enter Tryz.func106, Tryz.ntmps106
    go_wp2
    go_ret
    rw [E.out]
    exact ⟨rfl, rfl⟩
theorem stick_any (w : World) (v : Int) :
    Calls Tryz.prog 108 #[.int .i64 v] w fun e w' => e = .returned (.bool (inR v 0 1099511627776)) ∧ w = w' := by
  have K := fun w => swithin_any w v 0 1099511627776
  generalize inR v 0 1099511627776 = r at *
  replace K := Lib.hid K
  go_enter Tryz.func108, Tryz.ntmps108
  go_wp2_with fail
  refine (K.out _).mono ?_
  rintro e w' ⟨rfl, rfl⟩
  go_wp2_with fail
  go_ret
  exact ⟨rfl, rfl⟩

def mre (s : Sag) : Bool := if s.ph = 3 ∨ s.ph = 5 then (if s.rs = 3 then decide (0 < s.w.dead) else inR s.rs 1 4) else s.rs == 0
theorem why_mre {s : Sag} (h : s.ph = 3 ∨ s.ph = 5) : mre s = why s := by
  unfold mre why
  rw [if_pos h]
  by_cases e : s.rs = 3
  · rw [if_pos e, e]; simp
  · rw [if_neg e]
    have e2 : (s.rs == 3) = false := beq_eq_false_iff_ne.2 e
    rw [e2]
    unfold inR
    rw [Bool.decide_and]
    simp
set_option maxHeartbeats 3200000 in
theorem mre_any (w : World) (t : Tab w) (s : Sag) (h1 : 1 ≤ s.ph) (h2 : s.ph ≤ 5) : Calls Tryz.prog 109 #[sgv s] w fun e w' => e = .returned (.bool (mre s)) ∧ Below w.heap.size w w' := by
  obtain ⟨x, ph, st, rs, si⟩ := s
  simp only at h1 h2
  have m1 : ph = 3 ∨ ph = 5 → rs = 3 → mre ⟨x, ph, st, rs, si⟩ = decide (0 < x.dead) := fun a b => by simp only [mre]; rw [if_pos a, if_pos b]
  have m2 : ph = 3 ∨ ph = 5 → ¬ rs = 3 → mre ⟨x, ph, st, rs, si⟩ = inR rs 1 4 := fun a b => by simp only [mre]; rw [if_pos a, if_neg b]
  have m3 : ¬ (ph = 3 ∨ ph = 5) → mre ⟨x, ph, st, rs, si⟩ = (rs == 0) := fun a => by simp only [mre]; rw [if_neg a]
  have K := fun w => swithin_any w rs 1 4
  generalize inR rs 1 4 = r at *
  generalize mre ⟨x, ph, st, rs, si⟩ = m at *
  have be : Hid (Below w.heap.size w (w.alloc (.cells #[.int .i64 x.book, .int .i64 x.cust, .int .i64 x.dead, .int .i64 x.u0, .int .i64 x.u1, .int .i64 x.u2, .int .i64 x.price, .int .i64 ph, .int .i64 st, .int .i64 rs, .int .i64 si] 57))) := (Below.refl _ w).alloc (Nat.le_refl _) _
  have t2 := t.below be.out
  obtain ⟨c0, c1, c2, d0, d1, d2, e0, e1, e2, f0, f1, f2, g0, g1, g2⟩ := t2
  clear t c0 c1 d0 d1 e0 e1 f0 f1 g0 g1
  unfold sgv sgc
  simp only
  replace K := Lib.hid K
  rcases (by omega : ph = 1 ∨ ph = 2 ∨ ph = 3 ∨ ph = 4 ∨ ph = 5) with rfl | rfl | rfl | rfl | rfl
  · have E := Lib.hid (m3 (by omega)); clear m1 m2 m3
    go_enter Tryz.func109, Tryz.ntmps109
    go_wp2_with fail
    go_ret
    rw [E.out]
    exact ⟨rfl, be.out⟩
  · have E := Lib.hid (m3 (by omega)); clear m1 m2 m3
    go_enter Tryz.func109, Tryz.ntmps109
    go_wp2_with fail
    go_ret
    rw [E.out]
    exact ⟨rfl, be.out⟩
  · by_cases h : rs = 3
    · have E := Lib.hid (m1 (by omega) h); clear m1 m2 m3
      subst h
      go_enter Tryz.func109, Tryz.ntmps109
      go_wp2_with fail
      go_ret
      rw [E.out]
      exact ⟨rfl, be.out⟩
    · have E := Lib.hid (m2 (by omega) h); clear m1 m2 m3
      have q : (rs == 3) = false := beq_eq_false_iff_ne.2 h
      clear h
      go_enter Tryz.func109, Tryz.ntmps109
      go_wp2_with fail
      refine (K.out _).mono ?_
      rintro e w' ⟨rfl, rfl⟩
      go_wp2_with fail
      go_ret
      rw [E.out]
      exact ⟨rfl, be.out⟩
  · have E := Lib.hid (m3 (by omega)); clear m1 m2 m3
    go_enter Tryz.func109, Tryz.ntmps109
    go_wp2_with fail
    go_ret
    rw [E.out]
    exact ⟨rfl, be.out⟩
  · by_cases h : rs = 3
    · have E := Lib.hid (m1 (by omega) h); clear m1 m2 m3
      subst h
      go_enter Tryz.func109, Tryz.ntmps109
      go_wp2_with fail
      go_ret
      rw [E.out]
      exact ⟨rfl, be.out⟩
    · have E := Lib.hid (m2 (by omega) h); clear m1 m2 m3
      have q : (rs == 3) = false := beq_eq_false_iff_ne.2 h
      clear h
      go_enter Tryz.func109, Tryz.ntmps109
      go_wp2_with fail
      refine (K.out _).mono ?_
      rintro e w' ⟨rfl, rfl⟩
      go_wp2_with fail
      go_ret
      rw [E.out]
      exact ⟨rfl, be.out⟩

def pst (s : Sag) : List Stp := if s.ph = 1 then fwd s.w else if s.ph = 2 then [cap s.w] else if s.ph = 3 then bck s.w else []
def SgTo (w : World) (l : List Stp) (e : Ending) (w' : World) : Prop := ∃ A c, e = .returned (.slice A l.length c) ∧ RowT 181 w' w.heap.size (.slice A l.length c) l.length l ∧ Below w.heap.size w w'
theorem rt_new1 {w : World} (x : Stp) (base : Nat) (hb : base ≤ w.heap.size) : RowT 181 (w.alloc (.cells #[.int .i64 x.node, .int .i64 x.op.kind, .int .i64 x.op.book, .int .i64 x.op.units, .int .i64 x.op.cust, .int .i64 x.op.amount] 181)) base (.slice (some ⟨w.heap.size, 0, none⟩) 1 1) 1 [x] :=
  ⟨rfl, .inr ⟨w.heap.size, _, _, rfl, hb, heap_alloc_new _ _, by omega, by decide, rfl, rfl⟩⟩
set_option maxHeartbeats 3200000 in
theorem steps_any (w : World) (s : Sag) : Calls Tryz.prog 110 #[sgv s] w (SgTo w (pst s)) := by
  obtain ⟨x, ph, st, rs, si⟩ := s
  obtain ⟨W, hW⟩ : ∃ W, W = w.alloc (.cells #[.int .i64 x.book, .int .i64 x.cust, .int .i64 x.dead, .int .i64 x.u0, .int .i64 x.u1, .int .i64 x.u2, .int .i64 x.price, .int .i64 ph, .int .i64 st, .int .i64 rs, .int .i64 si] 57) := ⟨_, rfl⟩
  have be : Hid (Below w.heap.size w W) := by rw [hW]; exact (Below.refl _ w).alloc (Nat.le_refl _) _
  have B : BoxS W w.heap.size ⟨x, ph, st, rs, si⟩ := by rw [hW]; exact heap_alloc_new _ _
  obtain ⟨c0, c1, c2, c3, c4, c5, c6, c7, c8, c9, ca⟩ := B.cells
  simp only at c0 c1 c2 c3 c4 c5 c6 c7 c8 c9 ca
  have FF := fwd_any W x
  have BB := bck_any W x
  have CC := cap_any W x
  have p1 : ph = 1 → pst ⟨x, ph, st, rs, si⟩ = fwd x := fun h => by simp only [pst]; rw [if_pos h]
  have p2 : ph = 2 → pst ⟨x, ph, st, rs, si⟩ = [cap x] := fun h => by simp only [pst]; rw [if_neg (by omega), if_pos h]
  have p3 : ph = 3 → pst ⟨x, ph, st, rs, si⟩ = bck x := fun h => by simp only [pst]; rw [if_neg (by omega), if_neg (by omega), if_pos h]
  have p4 : ph ≠ 1 → ph ≠ 2 → ph ≠ 3 → pst ⟨x, ph, st, rs, si⟩ = [] := fun h h2 h3 => by simp only [pst]; rw [if_neg h, if_neg h2, if_neg h3]
  generalize pst ⟨x, ph, st, rs, si⟩ = l at *
  have hwl : w.heap.size < W.heap.size := B.lt
  clear B
  unfold wanv at FF BB CC
  unfold sgv sgc
  simp only
  replace FF := Lib.hid FF
  replace BB := Lib.hid BB
  replace CC := Lib.hid CC
  replace hW := Lib.hid hW
  by_cases h1 : ph = 1
  · have E := Lib.hid (p1 h1); clear p1 p2 p3 p4; subst h1
    go_enter Tryz.func110, Tryz.ntmps110
    go_wp2_with fail
    rw [← hW.out]
    go_wp2_with fail
    refine FF.out.mono ?_
    rintro e w1 ⟨v, rfl, hr, hb⟩
    obtain ⟨A, c, rfl, -⟩ := rt_form hr
    have HR := Lib.hid (And.intro hr hb)
    clear hr hb
    go_wp2_with fail
    go_ret
    obtain ⟨hr, hb⟩ := HR.out
    rw [E.out]
    exact ⟨A, c, rfl, rt_mono hr be.out.size, be.out.trans (hb.mono be.out.size)⟩
  by_cases h2 : ph = 2
  · have E := Lib.hid (p2 h2); clear p1 p2 p3 p4; subst h2
    clear h1
    go_enter Tryz.func110, Tryz.ntmps110
    go_wp2_with fail
    rw [← hW.out]
    go_wp2_with fail
    refine CC.out.mono ?_
    rintro e w1 ⟨rfl, hb⟩
    have b1 : Hid (Below w.heap.size w w1) := be.out.trans (hb.mono be.out.size)
    replace E := E.out
    generalize cap x = y at *
    replace E := Lib.hid E
    unfold spv
    clear hb
    go_wp2_with fail
    go_ret
    rw [E.out]
    exact ⟨_, _, rfl, rt_new1 y _ b1.out.size, b1.out.alloc b1.out.size _⟩
  by_cases h3 : ph = 3
  · have E := Lib.hid (p3 h3); clear p1 p2 p3 p4; subst h3
    clear h1 h2
    go_enter Tryz.func110, Tryz.ntmps110
    go_wp2_with fail
    rw [← hW.out]
    go_wp2_with fail
    refine BB.out.mono ?_
    rintro e w1 ⟨v, rfl, hr, hb⟩
    obtain ⟨A, c, rfl, -⟩ := rt_form hr
    have HR := Lib.hid (And.intro hr hb)
    clear hr hb
    go_wp2_with fail
    go_ret
    obtain ⟨hr, hb⟩ := HR.out
    rw [E.out]
    exact ⟨A, c, rfl, rt_mono hr be.out.size, be.out.trans (hb.mono be.out.size)⟩
  · have E := Lib.hid (p4 h1 h2 h3); clear p1 p2 p3 p4
    have q1 : (ph == 1) = false := beq_eq_false_iff_ne.2 h1
    have q2 : (ph == 2) = false := beq_eq_false_iff_ne.2 h2
    have q3 : (ph == 3) = false := beq_eq_false_iff_ne.2 h3
    clear h1 h2 h3
    go_enter Tryz.func110, Tryz.ntmps110
    go_wp2_with fail
    rw [← hW.out]
    go_wp2_with fail
    go_ret
    rw [E.out]
    exact ⟨_, _, rfl, ⟨rfl, .inl ⟨rfl, rfl⟩⟩, be.out⟩
end Sg
end Go.Proofs.YtpkdigegkemogaaGreatDoor
