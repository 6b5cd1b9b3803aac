/- Parts of the claim: FnH, FnA, FnB -/
import Derived.Test.YtpkdigegkemogaaGreatDoorTkT
import Derived.Laws.CopyRow
import Derived.Test.YtpkdigegkemogaaGreatDoorHoXaT
import Derived.Test.YtpkdigegkemogaaGreatDoorReXaT
import Derived.Test.YtpkdigegkemogaaGreatDoorHoXbT
import Derived.Test.YtpkdigegkemogaaGreatDoorTiXbT
import Derived.Test.YtpkdigegkemogaaGreatDoorPlXcT
import Derived.Test.YtpkdigegkemogaaGreatDoorTiXaT
import Derived.Test.YtpkdigegkemogaaGreatDoorSgXaT
namespace Go.Proofs.YtpkdigegkemogaaGreatDoor
namespace Fo
open Ho (isNew ans asked dstp_ans new_no new_old new_yes)
open St (swF dstp)
open Re (Rec rmay)

def apH (cap over : Int) (s : Ho.S) (r : Rec) : Bool × Ho.S :=
  if rmay r = true then
    if r.kd = 1 then (if isNew s r.op r.now = true ∧ ans cap over s r.op r.now = r.an then (true, asked cap over s r.op r.now) else (false, s))
    else if r.kd = 2 then (true, ⟨swF s.f r.now, s.g⟩)
    else (false, s)
  else (false, s)
section
variable {cap over : Int} {s : Ho.S} {r : Rec}
theorem aph_no (h : rmay r = false) : apH cap over s r = (false, s) := by unfold apH; rw [if_neg (by rw [h]; decide)]
theorem aph_1 (h : rmay r = true) (k : r.kd = 1) : apH cap over s r = if isNew s r.op r.now = true ∧ ans cap over s r.op r.now = r.an then (true, asked cap over s r.op r.now) else (false, s) := by unfold apH; rw [if_pos h, if_pos k]
theorem aph_2 (h : rmay r = true) (k : r.kd = 2) : apH cap over s r = (true, ⟨swF s.f r.now, s.g⟩) := by unfold apH; rw [if_pos h, if_neg (by omega), if_pos k]
theorem aph_3 (h : rmay r = true) (k1 : r.kd ≠ 1) (k2 : r.kd ≠ 2) : apH cap over s r = (false, s) := by unfold apH; rw [if_pos h, if_neg k1, if_neg k2]
end
section
variable {cap over : Int} {s : Ho.S} {r : Rec}
theorem aph_ask (h : rmay r = true) (k : r.kd = 1) : apH cap over s r = if (dstp cap over s.f r.op r.now).2 = r.an then (isNew s r.op r.now, asked cap over s r.op r.now) else (false, s) := by
  rw [aph_1 h k]
  by_cases hm : Ho.mayH r.op r.now = true
  · by_cases hg : s.g r.op.book r.op.kind = 0
    · rw [new_yes hm hg, Ho.ans_yes hm hg]
      split
      · rename_i e; rw [if_pos e.2]
      · rename_i e; rw [if_neg fun e' => e ⟨rfl, e'⟩]
    · rw [new_old hg, Ho.asked_old hg, if_neg (fun e => absurd e.1 (by decide))]
      split <;> rfl
  · have hm' : Ho.mayH r.op r.now = false := by simpa using hm
    rw [new_no hm', Ho.asked_no hm', if_neg (fun e => absurd e.1 (by decide))]
    split <;> rfl
theorem aph_no2 (h : (apH cap over s r).1 = false) : (apH cap over s r).2 = s := by
  unfold apH at h ⊢
  split
  · rename_i h1
    rw [if_pos h1] at h
    split
    · rename_i h2
      rw [if_pos h2] at h
      split
      · rename_i h3; rw [if_pos h3] at h; cases h
      · rfl
    · rename_i h2
      rw [if_neg h2] at h
      split
      · rename_i h3; rw [if_pos h3] at h; cases h
      · rfl
  · rfl
end
end Fo
end Go.Proofs.YtpkdigegkemogaaGreatDoor
namespace Go.Proofs.YtpkdigegkemogaaGreatDoor
set_option maxRecDepth 100000
open Go.RowKit
open Go.Proofs.YtpkdigegkemogaaGreatDoor.Pk (one_at one_free one_set lt_some)
namespace Fo
open Re (Rec rcc rcv BoxR rmay rmay_cases)
open St (Kq grq)
open Pl (regionAt)

noncomputable def ht_3 : Code := (Tryz.f33.body.bind (regionAt 3)).getD .skip
set_option maxHeartbeats 12800000 in
theorem ht3 (z1 z2 z4 z5 z6 z7 z8 z9 z10 z11 z12 z13 z14 z15 z16 z17 z18 z19 z20 z21 z22 z23 z24 z25 z26 z27 z28 z29 z30 z31 z32 z33 z34 z35 z36 : Value) (W : World) (h p : Nat) (a : Int) (r : Rec) (Rdy : World → Nat → Prop)
    (B0 : BoxR W p r)
    (F1 : Hid (∀ w', Below W.heap.size W w' → Calls Tryz.prog 58 #[.pointer (some ⟨h, 0, none⟩)] w' fun e w'' => ∃ q, e = .returned (.pointer (some ⟨q, 0, none⟩)) ∧ Rdy w'' q ∧ Below W.heap.size W w''))
    (F2 : Hid (∀ w' q, Below W.heap.size W w' → Rdy w' q → Calls Tryz.prog 59 #[.pointer (some ⟨q, 0, none⟩), .agg #[.int .i64 r.op.kind, .int .i64 r.op.book, .int .i64 r.op.units, .int .i64 r.op.cust, .int .i64 r.op.amount], .int .i64 r.now] w' fun e w'' => e = .returned (.int .i64 a) ∧ Below W.heap.size W w''))
    (Q : Exit → Act → World → Prop)
    (hP : ∀ c a d v w, Q (.panic c) (Act.put a d v) w → Q (.panic c) a w)
    (hQ : ∀ (y11 y12 y13 y14 y15 y16 y17 y18 y19 : Value)  (W3 : World), Below W.heap.size W W3 → Q .normal ⟨#[.pointer (some ⟨h, 0, none⟩), z1, z2, .pointer (some ⟨p, 0, none⟩), z4, z5, z6, z7, z8, z9, z10, y11, y12, y13, y14, y15, y16, y17, y18, y19, .bool (a != r.an), z21, z22, z23, z24, z25, z26, z27, z28, z29, z30, z31, z32, z33, z34, z35, z36], []⟩ W3) :
    Code.wp Tryz.prog ht_3 Q ⟨#[.pointer (some ⟨h, 0, none⟩), z1, z2, .pointer (some ⟨p, 0, none⟩), z4, z5, z6, z7, z8, z9, z10, z11, z12, z13, z14, z15, z16, z17, z18, z19, z20, z21, z22, z23, z24, z25, z26, z27, z28, z29, z30, z31, z32, z33, z34, z35, z36], []⟩ W := by
  conv => arg 2; whnf
  have b0 : Below W.heap.size W W.drew := ⟨rfl, rfl, rfl, Nat.le_refl _, fun _ _ => rfl⟩
  refine wp_region_held_drew (S := fun w => Below W.heap.size W w) (by kernel_rfl) b0 (fun hHeld => ?_)
  replace hQ := Lib.hid hQ
  clear b0
  obtain ⟨v0, hv⟩ : ∃ v, v = W.drew := ⟨_, rfl⟩
  rw [← hv] at hHeld ⊢
  clear hv
  refine' tkY 0 hP ?c hHeld ?_
  case c => intro w _; go_simp; try with_reducible rfl
  simp only [Act.put, sQa, sQb, sQc]
  refine' tkY 2 hP ?c hHeld ?_
  case c => intro w _; go_simp; try with_reducible rfl
  simp only [Act.put, sQa, sQb, sQc]
  refine' tkY 3 hP ?c hHeld ?_
  case c => intro w hSw; obtain ⟨c0, c1, c2, c3, c4, c5, c6, c7, -⟩ := (B0.below (hSw.mono (Nat.le_refl _))).cells; have lk := lt_some (B0.below (hSw.mono (Nat.le_refl _))); go_simp; try with_reducible rfl
  simp only [Act.put, sQa, sQb, sQc]
  refine' tkY 4 hP ?c hHeld ?_
  case c => intro w _; go_simp; try with_reducible rfl
  simp only [Act.put, sQa, sQb, sQc]
  refine' tkY 5 hP ?c hHeld ?_
  case c => intro w hSw; obtain ⟨c0, c1, c2, c3, c4, c5, c6, c7, -⟩ := (B0.below (hSw.mono (Nat.le_refl _))).cells; have lk := lt_some (B0.below (hSw.mono (Nat.le_refl _))); go_simp; try with_reducible rfl
  simp only [Act.put, sQa, sQb, sQc]
  refine' tkY 7 hP ?c hHeld ?_
  case c => intro w _; go_simp; try with_reducible rfl
  simp only [Act.put, sQa, sQb, sQc]
  refine' tkY 8 hP ?c hHeld ?_
  case c => intro w hSw; obtain ⟨c0, c1, c2, c3, c4, c5, c6, c7, -⟩ := (B0.below (hSw.mono (Nat.le_refl _))).cells; have lk := lt_some (B0.below (hSw.mono (Nat.le_refl _))); go_simp; try with_reducible rfl
  simp only [Act.put, sQa, sQb, sQc]
  refine wpAnyH_ready (rs := [1]) (by kernel_rfl) (by simp) ?_
  refine' tkC 1 (fun K hK => ?st8) ?mo8
  case st8 =>
    go_simp
    refine (F1.out _ hHeld).mono ?_
    rintro e v1 ⟨q, rfl, rd, h6⟩
    clear hHeld
    go_simp
    refine hK.out _ _ h6 (fun hHeld => ?_)
    clear hK K h6
    try simp only [Act.put, sQa, sQb, sQc]
    refine wpAnyH_ready (rs := [6]) (by kernel_rfl) (by simp) ?_
    refine' tkC 6 (fun K hK => ?st9) ?mo9
    case st9 =>
      go_simp
      refine (F2.out _ q hHeld rd).mono ?_
      rintro e v2 ⟨rfl, h6⟩
      clear hHeld rd
      go_simp
      refine hK.out _ _ h6 (fun hHeld => ?_)
      clear hK K h6
      try simp only [Act.put, sQa, sQb, sQc]
      refine' tkY 9 hP ?c hHeld ?_
      case c => intro w _; go_simp; try with_reducible rfl
      simp only [Act.put, sQa, sQb, sQc]
      refine wpAnyH_done (by kernel_rfl) ?_ _
      exact hQ.out _ _ _ _ _ _ _ _ _ _  hHeld
    case mo9 => exact AllReadyH.nil
  case mo8 => exact AllReadyH.nil

set_option maxHeartbeats 6400000 in
theorem htake_any (w : World) (h : Nat) (cap over : Int) (s : Ho.S) (fp : Nat → Prop) (H : Ho.Hst w h cap over s fp) (r : Rec) (hr : rmay r = true) : Calls Tryz.prog 33 #[.pointer (some ⟨h, 0, none⟩), rcv r] w fun e w' => e = .returned (.bool (apH cap over s r).1) ∧ Ho.HTo w h cap over fp (apH cap over s r).2 w' := by
  obtain ⟨w0, e0⟩ : ∃ z, z = w.alloc (.cells (rcc r) 64) := ⟨_, rfl⟩
  have be0 : Hid (Below w.heap.size w w0) := by rw [e0]; exact (Below.refl _ w).alloc (Nat.le_refl _) _
  have B0 : Hid (BoxR w0 w.heap.size r) := by rw [e0]; exact heap_alloc_new _ _
  have H0 := Lib.hid (H.below be0.out)
  have H' := Lib.hid H
  replace e0 := Lib.hid e0
  clear H
  by_cases k1 : r.kd = 1
  · have F := Lib.hid (aph_ask (cap := cap) (over := over) (s := s) hr k1)
    have F1 : Hid (∀ w', Below w0.heap.size w0 w' → Calls Tryz.prog 58 #[.pointer (some ⟨h, 0, none⟩)] w' fun e w'' => ∃ q, e = .returned (.pointer (some ⟨q, 0, none⟩)) ∧ (∃ fq, (∀ g, fq g → w0.heap.size ≤ g) ∧ St.Led w'' q cap over s.f fq) ∧ Below w0.heap.size w0 w'') := fun w' hb => (Ho.stock_any w' h cap over s fp (H0.out.below hb)).mono fun e w'' ⟨q, fq, h1, h2, h3, h4⟩ => ⟨q, h1, ⟨fq, fun g hg => Nat.le_trans hb.size (h2 g hg), h3⟩, hb.trans (h4.mono hb.size)⟩
    have F2 : Hid (∀ w' q, Below w0.heap.size w0 w' → (∃ fq, (∀ g, fq g → w0.heap.size ≤ g) ∧ St.Led w' q cap over s.f fq) → Calls Tryz.prog 59 #[.pointer (some ⟨q, 0, none⟩), .agg #[.int .i64 r.op.kind, .int .i64 r.op.book, .int .i64 r.op.units, .int .i64 r.op.cust, .int .i64 r.op.amount], .int .i64 r.now] w' fun e w'' => e = .returned (.int .i64 (St.dstp cap over s.f r.op r.now).2) ∧ Below w0.heap.size w0 w'') := fun w' q hb ⟨fq, h1, L⟩ => (St.do_any w' q cap over s.f fq L r.op r.now).mono fun e w'' ⟨h2, h3⟩ => ⟨h2, hb.trans (h3.2.toKq.below h1 hb.size)⟩
    unfold rcv
    go_enter Tryz.func33, Tryz.ntmps33
    go_upto_region 1 with fail
    have e0' := e0.out
    unfold rcc at e0'
    rw [← e0']
    clear e0' e0
    have c0 := B0.out.cells.c0
    rw [k1] at c0
    have lk := lt_some B0.out
    clear k1
    go_upto_region 3 with fail
    refine ht3 _ _ _ _ _ _ _ _ _ _ _ _ _ _ _ _ _ _ _ _ _ _ _ _ _ _ _ _ _ _ _ _ _ _ _ w0 h w.heap.size (St.dstp cap over s.f r.op r.now).2 r _ B0.out F1 F2 _ (fun _ _ d _ _ h => by cases d <;> exact h) (fun _ _ _ _ _ _ _ _ _ w3 b3 => ?_)
    have be3 : Hid (Below w.heap.size w w3) := be0.out.trans (b3.mono be0.out.size)
    have B3 := Lib.hid (B0.out.below b3)
    have H3 := Lib.hid (H0.out.below b3)
    clear F1 F2 b3 B0 H0 c0 lk be0
    generalize (St.dstp cap over s.f r.op r.now).2 = a at *
    by_cases ha : a = r.an
    · rw [if_pos ha] at F
      have gb : (a != r.an) = false := by simp [ha]
      have AK := Lib.hid (Ho.ask_any w3 h cap over s fp r.op r.now H3.out)
      clear ha
      generalize Ho.asked cap over s r.op r.now = s' at *
      generalize Ho.isNew s r.op r.now = nw at *
      generalize Ho.ans cap over s r.op r.now = an at *
      obtain ⟨-, c1, -, c3, c4, c5, c6, c7, -⟩ := B3.out.cells
      have lk := lt_some B3.out
      go_wp2_with fail
      refine AK.out.mono ?_
      rintro e w4 ⟨rfl, h4⟩
      replace h4 := Lib.hid h4
      clear AK c1 c3 c4 c5 c6 c7 lk
      go_wp2
      go_ret
      rw [F.out]
      exact ⟨rfl, Ho.HTo.after H'.out be3.out h4.out⟩
    · rw [if_neg ha] at F
      have gb : (a != r.an) = true := by simp [ha]
      clear ha
      go_wp2
      go_ret
      rw [F.out]
      exact ⟨rfl, Ho.HTo.of_below H'.out be3.out⟩
  · by_cases k2 : r.kd = 2
    · have F := Lib.hid (aph_2 (cap := cap) (over := over) (s := s) hr k2)
      rw [F.out]
      clear F
      have SW := Lib.hid (Ho.sweep_any w0 h cap over s fp r.now H0.out)
      unfold rcv
      go_enter Tryz.func33, Tryz.ntmps33
      go_upto_region 1 with fail
      have e0' := e0.out
      unfold rcc at e0'
      rw [← e0']
      clear e0' e0
      have c0 := B0.out.cells.c0
      have c1 := B0.out.cells.c1
      rw [k2] at c0
      have lk := lt_some B0.out
      clear k1 k2
      go_wp2_with fail
      refine SW.out.mono ?_
      rintro e w1 ⟨v, rfl, -, h1⟩
      replace h1 := Lib.hid h1
      clear SW c0 c1 lk
      go_wp2
      go_ret
      exact ⟨rfl, Ho.HTo.after H'.out be0.out h1.out⟩
    · have F := Lib.hid (aph_3 (cap := cap) (over := over) (s := s) hr k1 k2)
      rw [F.out]
      clear F
      have g1 : (r.kd == 1) = false := by simp [k1]
      have g2 : (r.kd == 2) = false := by simp [k2]
      unfold rcv
      go_enter Tryz.func33, Tryz.ntmps33
      go_upto_region 1 with fail
      have e0' := e0.out
      unfold rcc at e0'
      rw [← e0']
      clear e0' e0
      have c0 := B0.out.cells.c0
      have lk := lt_some B0.out
      clear k1 k2
      go_wp2
      go_ret
      exact ⟨rfl, Ho.HTo.of_below H'.out be0.out⟩

noncomputable def tt_1 : Code := (Tryz.f35.body.bind (regionAt 1)).getD .skip
set_option maxHeartbeats 12800000 in
theorem tt1 (z1 z2 z4 z5 z6 z7 z8 z9 z10 z11 z12 z13 z14 z15 z16 z17 z18 z19 z20 z21 z22 z23 z24 z25 z26 z27 : Value) (W : World) (h p : Nat) (a : Int) (r : Rec) (k1 : r.kd = 1) (Rdy : World → Nat → Prop)
    (B0 : BoxR W p r)
    (F1 : Hid (∀ w', Below W.heap.size W w' → Calls Tryz.prog 63 #[.pointer (some ⟨h, 0, none⟩)] w' fun e w'' => ∃ q, e = .returned (.pointer (some ⟨q, 0, none⟩)) ∧ Rdy w'' q ∧ Below W.heap.size W w''))
    (F2 : Hid (∀ w' q, Below W.heap.size W w' → Rdy w' q → Calls Tryz.prog 64 #[.pointer (some ⟨q, 0, none⟩), .agg #[.int .i64 r.op.kind, .int .i64 r.op.book, .int .i64 r.op.units, .int .i64 r.op.cust, .int .i64 r.op.amount]] w' fun e w'' => e = .returned (.int .i64 a) ∧ Below W.heap.size W w''))
    (Q : Exit → Act → World → Prop)
    (hP : ∀ c a d v w, Q (.panic c) (Act.put a d v) w → Q (.panic c) a w)
    (hQ : ∀ (y7 y8 y9 y10 y11 y12 y13 y14 y15 y16 y17 y18 : Value)  (W3 : World), Below W.heap.size W W3 → Q .normal ⟨#[.pointer (some ⟨h, 0, none⟩), z1, z2, .pointer (some ⟨p, 0, none⟩), z4, z5, z6, y7, y8, y9, y10, y11, y12, y13, y14, y15, y16, y17, y18, .bool (a != r.an), z20, z21, z22, z23, z24, z25, z26, z27], []⟩ W3) :
    Code.wp Tryz.prog tt_1 Q ⟨#[.pointer (some ⟨h, 0, none⟩), z1, z2, .pointer (some ⟨p, 0, none⟩), z4, z5, z6, z7, z8, z9, z10, z11, z12, z13, z14, z15, z16, z17, z18, z19, z20, z21, z22, z23, z24, z25, z26, z27], []⟩ W := by
  conv => arg 2; whnf
  have b0 : Below W.heap.size W W.drew := ⟨rfl, rfl, rfl, Nat.le_refl _, fun _ _ => rfl⟩
  refine wp_region_held_drew (S := fun w => Below W.heap.size W w) (by kernel_rfl) b0 (fun hHeld => ?_)
  replace hQ := Lib.hid hQ
  clear b0
  obtain ⟨v0, hv⟩ : ∃ v, v = W.drew := ⟨_, rfl⟩
  rw [← hv] at hHeld ⊢
  clear hv
  refine' tkY 0 hP ?c hHeld ?_
  case c => intro w _; go_simp; try with_reducible rfl
  simp only [Act.put, sQa, sQb, sQc]
  refine' tkY 1 hP ?c hHeld ?_
  case c => intro w hSw; obtain ⟨c0, c1, c2, c3, c4, c5, c6, c7, -⟩ := (B0.below (hSw.mono (Nat.le_refl _))).cells; have lk := lt_some (B0.below (hSw.mono (Nat.le_refl _))); rw [k1] at c0; go_simp; try with_reducible rfl
  simp only [Act.put, sQa, sQb, sQc]
  refine' tkY 2 hP ?c hHeld ?_
  case c => intro w _; go_simp; try with_reducible rfl
  simp only [Act.put, sQa, sQb, sQc]
  refine' tkY 3 hP ?c hHeld ?_
  case c => intro w _; go_simp; try with_reducible rfl
  simp only [Act.put, sQa, sQb, sQc]
  refine' tkY 4 hP ?c hHeld ?_
  case c => intro w _; go_simp; try with_reducible rfl
  simp only [Act.put, sQa, sQb, sQc]
  refine' tkY 6 hP ?c hHeld ?_
  case c => intro w _; go_simp; try with_reducible rfl
  simp only [Act.put, sQa, sQb, sQc]
  refine' tkY 7 hP ?c hHeld ?_
  case c => intro w hSw; obtain ⟨c0, c1, c2, c3, c4, c5, c6, c7, -⟩ := (B0.below (hSw.mono (Nat.le_refl _))).cells; have lk := lt_some (B0.below (hSw.mono (Nat.le_refl _))); go_simp; try with_reducible rfl
  simp only [Act.put, sQa, sQb, sQc]
  refine' tkY 9 hP ?c hHeld ?_
  case c => intro w _; go_simp; try with_reducible rfl
  simp only [Act.put, sQa, sQb, sQc]
  refine' tkY 10 hP ?c hHeld ?_
  case c => intro w hSw; obtain ⟨c0, c1, c2, c3, c4, c5, c6, c7, -⟩ := (B0.below (hSw.mono (Nat.le_refl _))).cells; have lk := lt_some (B0.below (hSw.mono (Nat.le_refl _))); go_simp; try with_reducible rfl
  simp only [Act.put, sQa, sQb, sQc]
  refine wpAnyH_ready (rs := [5]) (by kernel_rfl) (by simp) ?_
  refine' tkC 5 (fun K hK => ?st10) ?mo10
  case st10 =>
    go_simp
    refine (F1.out _ hHeld).mono ?_
    rintro e v1 ⟨q, rfl, rd, h6⟩
    clear hHeld
    go_simp
    refine hK.out _ _ h6 (fun hHeld => ?_)
    clear hK K h6
    try simp only [Act.put, sQa, sQb, sQc]
    refine wpAnyH_ready (rs := [8]) (by kernel_rfl) (by simp) ?_
    refine' tkC 8 (fun K hK => ?st11) ?mo11
    case st11 =>
      go_simp
      refine (F2.out _ q hHeld rd).mono ?_
      rintro e v2 ⟨rfl, h6⟩
      clear hHeld rd
      go_simp
      refine hK.out _ _ h6 (fun hHeld => ?_)
      clear hK K h6
      try simp only [Act.put, sQa, sQb, sQc]
      refine' tkY 11 hP ?c hHeld ?_
      case c => intro w _; go_simp; try with_reducible rfl
      simp only [Act.put, sQa, sQb, sQc]
      refine' tkY 12 hP ?c hHeld ?_
      case c => intro w _; go_simp; try with_reducible rfl
      simp only [Act.put, sQa, sQb, sQc]
      refine wpAnyH_done (by kernel_rfl) ?_ _
      exact hQ.out _ _ _ _ _ _ _ _ _ _ _ _ _  hHeld
    case mo11 => exact AllReadyH.nil
  case mo10 => exact AllReadyH.nil

set_option maxHeartbeats 12800000 in
theorem tt1n (z1 z2 z4 z5 z6 z7 z8 z9 z10 z11 z12 z13 z14 z15 z16 z17 z18 z19 z20 z21 z22 z23 z24 z25 z26 z27 : Value) (W : World) (h p : Nat) (r : Rec) (k1 : (r.kd != 1) = true)
    (B0 : BoxR W p r)
    (Q : Exit → Act → World → Prop)
    (hP : ∀ c a d v w, Q (.panic c) (Act.put a d v) w → Q (.panic c) a w)
    (hQ : ∀ (y7 y8 y9 y10 y11 y12 y13 y14 y15 y16 y17 y18 : Value)  (W3 : World), Below W.heap.size W W3 → Q .normal ⟨#[.pointer (some ⟨h, 0, none⟩), z1, z2, .pointer (some ⟨p, 0, none⟩), z4, z5, z6, y7, y8, y9, y10, y11, y12, y13, y14, y15, y16, y17, y18, .bool true, z20, z21, z22, z23, z24, z25, z26, z27], []⟩ W3) :
    Code.wp Tryz.prog tt_1 Q ⟨#[.pointer (some ⟨h, 0, none⟩), z1, z2, .pointer (some ⟨p, 0, none⟩), z4, z5, z6, z7, z8, z9, z10, z11, z12, z13, z14, z15, z16, z17, z18, z19, z20, z21, z22, z23, z24, z25, z26, z27], []⟩ W := by
  conv => arg 2; whnf
  have b0 : Below W.heap.size W W.drew := ⟨rfl, rfl, rfl, Nat.le_refl _, fun _ _ => rfl⟩
  refine wp_region_held_drew (S := fun w => Below W.heap.size W w) (by kernel_rfl) b0 (fun hHeld => ?_)
  replace hQ := Lib.hid hQ
  clear b0
  obtain ⟨v0, hv⟩ : ∃ v, v = W.drew := ⟨_, rfl⟩
  rw [← hv] at hHeld ⊢
  clear hv
  refine' tkY 0 hP ?c hHeld ?_
  case c => intro w _; go_simp; try with_reducible rfl
  simp only [Act.put, sQa, sQb, sQc]
  refine' tkY 1 hP ?c hHeld ?_
  case c => intro w hSw; obtain ⟨c0, c1, c2, c3, c4, c5, c6, c7, -⟩ := (B0.below (hSw.mono (Nat.le_refl _))).cells; have lk := lt_some (B0.below (hSw.mono (Nat.le_refl _))); go_simp; try with_reducible rfl
  simp only [Act.put, sQa, sQb, sQc]
  refine' tkY 2 hP ?c hHeld ?_
  case c => intro w _; go_simp; try with_reducible rfl
  simp only [Act.put, sQa, sQb, sQc]
  refine' tkY 3 hP ?c hHeld ?_
  case c => intro w _; go_simp; try with_reducible rfl
  simp only [Act.put, sQa, sQb, sQc]
  refine' tkN 4 hP hHeld ?_
  simp only [Act.put, sQa, sQb, sQc]
  refine' tkN 5 hP hHeld ?_
  simp only [Act.put, sQa, sQb, sQc]
  refine' tkN 6 hP hHeld ?_
  simp only [Act.put, sQa, sQb, sQc]
  refine' tkN 7 hP hHeld ?_
  simp only [Act.put, sQa, sQb, sQc]
  refine' tkN 8 hP hHeld ?_
  simp only [Act.put, sQa, sQb, sQc]
  refine' tkN 9 hP hHeld ?_
  simp only [Act.put, sQa, sQb, sQc]
  refine' tkN 10 hP hHeld ?_
  simp only [Act.put, sQa, sQb, sQc]
  refine' tkN 11 hP hHeld ?_
  simp only [Act.put, sQa, sQb, sQc]
  refine' tkY 12 hP ?c hHeld ?_
  case c => intro w _; go_simp; try with_reducible rfl
  simp only [Act.put, sQa, sQb, sQc]
  refine wpAnyH_done (by kernel_rfl) ?_ _
  exact hQ.out _ _ _ _ _ _ _ _ _ _ _ _ _  hHeld

def apT (s : Ti.S) (r : Rec) : Bool × Ti.S :=
  if rmay r = true ∧ r.kd = 1 then (if (Pu.dstp s.p r.op).2 = r.an then (Ti.isNew s r.op, Ti.asked s r.op) else (false, s)) else (false, s)
theorem apt_1 {s : Ti.S} {r : Rec} (hr : rmay r = true) (k : r.kd = 1) : apT s r = if (Pu.dstp s.p r.op).2 = r.an then (Ti.isNew s r.op, Ti.asked s r.op) else (false, s) := by unfold apT; rw [if_pos ⟨hr, k⟩]
theorem apt_no {s : Ti.S} {r : Rec} (k : r.kd ≠ 1) : apT s r = (false, s) := by unfold apT; rw [if_neg fun e => k e.2]
theorem apt_bad {s : Ti.S} {r : Rec} (k : rmay r = false) : apT s r = (false, s) := by unfold apT; rw [if_neg fun e => by rw [k] at e; cases e.1]
theorem apt_no2 {s : Ti.S} {r : Rec} (h : (apT s r).1 = false) : (apT s r).2 = s := by
  unfold apT at h ⊢
  split
  · rename_i h1
    rw [if_pos h1] at h
    split
    · rename_i h2
      rw [if_pos h2] at h
      by_cases hm : Ti.mayT r.op = true
      · by_cases hg : s.g r.op.book r.op.kind = 0
        · rw [Ti.new_yes hm hg] at h; cases h
        · exact Ti.asked_old hg
      · exact Ti.asked_no (by simpa using hm)
    · rfl
  · rfl
set_option maxHeartbeats 6400000 in
theorem ttake_any (w : World) (h : Nat) (s : Ti.S) (fp : Nat → Prop) (H : Ti.Til w h s fp) (r : Rec) (hr : rmay r = true) : Calls Tryz.prog 35 #[.pointer (some ⟨h, 0, none⟩), rcv r] w fun e w' => e = .returned (.bool (apT s r).1) ∧ Ti.TTo w h fp (apT s r).2 w' := by
  obtain ⟨w0, e0⟩ : ∃ z, z = w.alloc (.cells (rcc r) 64) := ⟨_, rfl⟩
  have be0 : Hid (Below w.heap.size w w0) := by rw [e0]; exact (Below.refl _ w).alloc (Nat.le_refl _) _
  have B0 : Hid (BoxR w0 w.heap.size r) := by rw [e0]; exact heap_alloc_new _ _
  have H0 := Lib.hid (H.below be0.out)
  have H' := Lib.hid H
  replace e0 := Lib.hid e0
  clear H
  by_cases k1 : r.kd = 1
  · have F := Lib.hid (apt_1 (s := s) hr k1)
    have F1 : Hid (∀ w', Below w0.heap.size w0 w' → Calls Tryz.prog 63 #[.pointer (some ⟨h, 0, none⟩)] w' fun e w'' => ∃ q, e = .returned (.pointer (some ⟨q, 0, none⟩)) ∧ (w0.heap.size ≤ q ∧ ∃ fq, Pu.LedP w'' q s.p fq) ∧ Below w0.heap.size w0 w'') := fun w' hb => (Ti.purse_any w' h s fp (H0.out.below hb)).mono fun e w'' ⟨q, h1, h2, h3, h4⟩ => ⟨q, h1, ⟨Nat.le_trans hb.size h2, _, h3⟩, hb.trans (h4.mono hb.size)⟩
    have F2 : Hid (∀ w' q, Below w0.heap.size w0 w' → (w0.heap.size ≤ q ∧ ∃ fq, Pu.LedP w' q s.p fq) → Calls Tryz.prog 64 #[.pointer (some ⟨q, 0, none⟩), .agg #[.int .i64 r.op.kind, .int .i64 r.op.book, .int .i64 r.op.units, .int .i64 r.op.cust, .int .i64 r.op.amount]] w' fun e w'' => e = .returned (.int .i64 (Pu.dstp s.p r.op).2) ∧ Below w0.heap.size w0 w'') := fun w' q hb ⟨h1, fq, L⟩ => (Pu.do_any w' q s.p fq L r.op).mono fun e w'' ⟨h2, h3⟩ => ⟨h2, hb.trans (h3.2.toKq.below (fun g e => by rw [e]; exact h1) hb.size)⟩
    unfold rcv
    go_enter Tryz.func35, Tryz.ntmps35
    go_upto_region 1 with fail
    have e0' := e0.out
    unfold rcc at e0'
    rw [← e0']
    clear e0' e0
    refine tt1 _ _ _ _ _ _ _ _ _ _ _ _ _ _ _ _ _ _ _ _ _ _ _ _ _ _ w0 h w.heap.size (Pu.dstp s.p r.op).2 r k1 _ B0.out F1 F2 _ (fun _ _ d _ _ h => by cases d <;> exact h) (fun _ _ _ _ _ _ _ _ _ _ _ _ w3 b3 => ?_)
    have be3 : Hid (Below w.heap.size w w3) := be0.out.trans (b3.mono be0.out.size)
    have B3 := Lib.hid (B0.out.below b3)
    have H3 := Lib.hid (H0.out.below b3)
    clear F1 F2 b3 B0 H0 be0 k1
    generalize (Pu.dstp s.p r.op).2 = a at *
    by_cases ha : a = r.an
    · rw [if_pos ha] at F
      have gb : (a != r.an) = false := by simp [ha]
      have AK := Lib.hid (Ti.ask_any w3 h s fp r.op H3.out)
      clear ha
      generalize Ti.asked s r.op = s' at *
      generalize Ti.isNew s r.op = nw at *
      generalize Ti.ans s r.op = an at *
      obtain ⟨-, -, -, c3, c4, c5, c6, c7, -⟩ := B3.out.cells
      have lk := lt_some B3.out
      go_wp2_with fail
      refine AK.out.mono ?_
      rintro e w4 ⟨rfl, h4⟩
      replace h4 := Lib.hid h4
      clear AK c3 c4 c5 c6 c7 lk
      go_wp2
      go_ret
      rw [F.out]
      exact ⟨rfl, Ti.TTo.after H'.out be3.out h4.out⟩
    · rw [if_neg ha] at F
      have gb : (a != r.an) = true := by simp [ha]
      clear ha
      go_wp2
      go_ret
      rw [F.out]
      exact ⟨rfl, Ti.TTo.of_below H'.out be3.out⟩
  · have F := Lib.hid (apt_no (s := s) k1)
    rw [F.out]
    clear F
    have g1 : (r.kd != 1) = true := by simp [k1]
    unfold rcv
    go_enter Tryz.func35, Tryz.ntmps35
    go_upto_region 1 with fail
    have e0' := e0.out
    unfold rcc at e0'
    rw [← e0']
    clear e0' e0
    refine tt1n _ _ _ _ _ _ _ _ _ _ _ _ _ _ _ _ _ _ _ _ _ _ _ _ _ _ w0 h w.heap.size r g1 B0.out _ (fun _ _ d _ _ h => by cases d <;> exact h) (fun _ _ _ _ _ _ _ _ _ _ _ _ w3 b3 => ?_)
    have be3 : Hid (Below w.heap.size w w3) := be0.out.trans (b3.mono be0.out.size)
    clear b3
    go_wp2
    go_ret
    exact ⟨rfl, Ti.TTo.of_below H'.out be3.out⟩
end Fo
end Go.Proofs.YtpkdigegkemogaaGreatDoor
namespace Go.Proofs.YtpkdigegkemogaaGreatDoor
set_option maxRecDepth 100000
open Go.RowKit
open Go.Proofs.YtpkdigegkemogaaGreatDoor.Pk (one_at one_free one_set lt_some)
namespace Fo
open St (mayS)
open Pu (mayF)
open Ho (Hst hnew_yes)
open Ti (Til tnew_yes)

abbrev cfg (a b c d e f g h i j : Int) : Array Value := #[.int .i64 a, .int .i64 b, .int .i64 c, .int .i64 d, .int .i64 e, .int .i64 f, .int .i64 g, .int .i64 h, .int .i64 i, .int .i64 j]
abbrev ptr (q : Nat) : Value := .pointer (some ⟨q, 0, none⟩)
theorem part_results : Tryz.f32.results = #[.cell 2 98, .tmp 3, .tmp 4] := by kernel_rfl
theorem results_cell_tmp2 {P : Program} {fn : Func} {p u v : Tmp} {ty : TypeId} (h : fn.results = #[.cell p ty, .tmp u, .tmp v]) (tmps : Array Value) (w : World) :
    (results fn tmps).run P w = ((asAddr (tmps.getD p undef)).run P w).andThen fun a w₁ => ((loadVar ty a).run P w₁).andThen fun x w₂ => .ok (.tuple #[x, tmps.getD u undef, tmps.getD v undef]) w₂ := by
  simp only [results, h]
  simp [Sem.run_bind, Result.andThen]
theorem res_row2 {P : Program} {fn : Func} {p u v : Tmp} {ty : TypeId} (h : fn.results = #[.cell p ty, .tmp u, .tmp v]) (tmps : Array Value) (w : World) (g : Nat) (t : TypeId) (cs : Array Value) (fr : Nat × Nat) (d : TypeDesc) (hp : tmps.getD p undef = .pointer (some ⟨g, 0, none⟩)) (hg : w.heap[g]? = some (.cells cs t fr))
    (hu : P.underlying ty = some d) (hd : (match d with | .struct _ | .array _ _ => true | _ => false) = true) (hi : (P.info? ty).map (·.size) = some cs.size) :
    (results fn tmps).run P w = .ok (.tuple #[.agg cs, tmps.getD u undef, tmps.getD v undef]) w := by
  rw [results_cell_tmp2 h, hp]
  simp [asAddr, run_loadVar_row w g t ty cs fr d hg hu hd hi]
theorem hosts_size : (Tryz.prog.info? 98).map (·.size) = some 3 := by kernel_rfl
theorem ix0 (w : World) (a b c d e f : Int) : (Instr.index 26 (.agg #[.int .i64 a, .int .i64 b, .int .i64 c, .int .i64 d, .int .i64 e, .int .i64 f]) (.int .i64 0)).run Tryz.prog w = .ok (.agg #[.int .i64 a, .int .i64 b]) w := by kernel_rfl
theorem ix1 (w : World) (a b c d e f : Int) : (Instr.index 26 (.agg #[.int .i64 a, .int .i64 b, .int .i64 c, .int .i64 d, .int .i64 e, .int .i64 f]) (.int .i64 1)).run Tryz.prog w = .ok (.agg #[.int .i64 c, .int .i64 d]) w := by kernel_rfl
theorem ix2 (w : World) (a b c d e f : Int) : (Instr.index 26 (.agg #[.int .i64 a, .int .i64 b, .int .i64 c, .int .i64 d, .int .i64 e, .int .i64 f]) (.int .i64 2)).run Tryz.prog w = .ok (.agg #[.int .i64 e, .int .i64 f]) w := by kernel_rfl
structure Pt (w wr : World) (k r : Nat) (cs vs : Array Value) : Prop where
  be : Below w.heap.size w wr
  cf : wr.heap[k]? = some (.cells cs 29 (0, 0))
  ar : wr.heap[r]? = some (.cells vs 98 (0, 0))
  kl : w.heap.size ≤ k
  rl : w.heap.size ≤ r
  kr : k ≠ r
section
variable {w wr w' : World} {k r : Nat} {cs vs : Array Value}
theorem Pt.below (P : Pt w wr k r cs vs) (h : Below wr.heap.size wr w') : Pt w w' k r cs vs :=
  ⟨P.be.trans (h.mono P.be.size), (h.block _ (lt_some P.cf)).trans P.cf, (h.block _ (lt_some P.ar)).trans P.ar, P.kl, P.rl, P.kr⟩
theorem set_other {w : World} {g q : Nat} {i : Nat} {v : Value} (h : g ≠ q) : (w.setCell ⟨g, i, none⟩ v).heap[q]? = w.heap[q]? := RowKit.Below.heap_setCell _ _ _ _ (Ne.symm h)
theorem Pt.set (P : Pt w wr k r cs vs) (i : Nat) (v : Value) : Pt w (wr.setCell ⟨r, i, none⟩ v) k r cs (vs.setIfInBounds i v) :=
  ⟨P.be.setCell (p := ⟨r, i, none⟩) P.rl v, (set_other (Ne.symm P.kr)).trans P.cf, Pk.one_set P.ar v, P.kl, P.rl, P.kr⟩
theorem hst_set {cap over : Int} {q : Nat} (H : Hst wr q cap over Ho.sz (fun x => x = q)) (h : q ≠ r) (i : Nat) (v : Value) : Hst (wr.setCell ⟨r, i, none⟩ v) q cap over Ho.sz (fun x => x = q) :=
  H.keep (by simp) fun x hx => set_other (by rw [hx]; exact Ne.symm h)
end
def PtTo (w : World) (a b c d e f g h i j : Int) (en : Ending) (w' : World) : Prop :=
  ∃ q0 q1 q2 q3, en = .returned (.tuple #[.agg #[ptr q0, ptr q1, ptr q2], ptr q3, .bool true]) ∧ (Hst w' q0 a b Ho.sz (fun x => x = q0) ∧ Hst w' q1 c d Ho.sz (fun x => x = q1) ∧ Hst w' q2 e f Ho.sz (fun x => x = q2)) ∧
    Til w' q3 ⟨Pu.new g h i j, Tb.fz⟩ (fun x => x = q3) ∧ (w.heap.size ≤ q0 ∧ w.heap.size ≤ q1 ∧ w.heap.size ≤ q2 ∧ w.heap.size ≤ q3) ∧ Below w.heap.size w w'
set_option maxHeartbeats 6400000 in
theorem part_any (w : World) (a b c d e f g h i j : Int) (m0 : mayS a b = true) (m1 : mayS c d = true) (m2 : mayS e f = true) (hI : ∀ z ∈ [g, h, i, j], Cs.I z) (hF : mayF g h i j = true) :
    Calls Tryz.prog 32 #[.agg (cfg a b c d e f g h i j)] w (PtTo w a b c d e f g h i j) := by
  obtain ⟨w0, e0⟩ : ∃ z, z = (w.alloc (.cells (cfg a b c d e f g h i j) 29)).alloc (.cells #[.pointer none, .pointer none, .pointer none] 98) := ⟨_, rfl⟩
  obtain ⟨r, hr⟩ : ∃ r, r = w.heap.size + 1 := ⟨_, rfl⟩
  obtain ⟨k, hk⟩ : ∃ r, r = w.heap.size := ⟨_, rfl⟩
  have P0 : Hid (Pt w w0 k r (cfg a b c d e f g h i j) #[.pointer none, .pointer none, .pointer none]) := ⟨by rw [e0]; exact ((Below.refl _ w).alloc (Nat.le_refl _) _).alloc (by simp) _, by rw [e0, hk]; exact heap_alloc2_old _ _ _, by
    have := heap_alloc_new (w.alloc (.cells (cfg a b c d e f g h i j) 29)) (.cells #[.pointer none, .pointer none, .pointer none] 98)
    rw [show (w.alloc (.cells (cfg a b c d e f g h i j) 29)).heap.size = w.heap.size + 1 by simp] at this
    rw [e0, hr]
    exact this, by omega, by omega, by omega⟩
  have N0 := Lib.hid (fun W => hnew_yes W a b m0)
  have N1 := Lib.hid (fun W => hnew_yes W c d m1)
  have N2 := Lib.hid (fun W => hnew_yes W e f m2)
  have N3 := Lib.hid (fun W => tnew_yes W g h i j hI hF)
  replace e0 := Lib.hid e0
  replace hr := Lib.hid hr
  replace hk := Lib.hid hk
  clear m0 m1 m2 hI hF
  go_enter Tryz.func32, Tryz.ntmps32
  go_upto_region 1 with fail
  rw [← e0.out, ← hr.out, ← hk.out]
  clear e0 hr hk
  obtain ⟨c0, c1, c2, c3, c4, c5⟩ : w0.cell? ⟨k, 0, none⟩ = some (.int .i64 a) ∧ w0.cell? ⟨k, 1, none⟩ = some (.int .i64 b) ∧ w0.cell? ⟨k, 2, none⟩ = some (.int .i64 c) ∧ w0.cell? ⟨k, 3, none⟩ = some (.int .i64 d) ∧ w0.cell? ⟨k, 4, none⟩ = some (.int .i64 e) ∧ w0.cell? ⟨k, 5, none⟩ = some (.int .i64 f) := ⟨one_at P0.out.cf, one_at P0.out.cf, one_at P0.out.cf, one_at P0.out.cf, one_at P0.out.cf, one_at P0.out.cf⟩
  have lk := lt_some P0.out.cf
  go_wp2_with fail
  refine wp_loop_rounds 4 ?_
  rw [rounds_succ]
  have ix := ix0 w0 a b c d e f
  go_upto_region 4 with fail
  obtain ⟨u0, eu⟩ : ∃ z, z = w0.alloc (.cells #[.int .i64 a, .int .i64 b] 25) := ⟨_, rfl⟩
  rw [← eu]
  have al : Below w0.heap.size w0 u0 := by rw [eu]; exact (Below.refl _ _).alloc (Nat.le_refl _) _
  have bx : u0.heap[w0.heap.size]? = some (.cells #[.int .i64 a, .int .i64 b] 25 (0, 0)) := by rw [eu]; exact heap_alloc_new _ _
  have d0 := one_at (i := 0) bx
  have d1 := one_at (i := 1) bx
  have lb := lt_some bx
  have Pu0 := Lib.hid (P0.out.below al)
  clear ix eu al bx P0 c0 c1 c2 c3 c4 c5 lk
  go_wp2_with fail
  refine (N0.out _).mono ?_
  rintro en v0 ⟨q0, rfl, hq0, H0, hb⟩
  have Pv := Lib.hid (Pu0.out.below hb)
  replace H0 := Lib.hid H0
  have nr : Hid (q0 ≠ r) := by have := lt_some Pu0.out.ar; unfold Hid; omega
  have nq0 : Hid (w.heap.size ≤ q0) := by have := Pu0.out.be.size; unfold Hid; omega
  have cc := one_at (i := 0) Pv.out.ar
  have cf : v0.frozen? ⟨r, 0, none⟩ = false := one_free Pv.out.ar
  have lr := lt_some Pv.out.ar
  clear hb hq0 N0 Pu0 d0 d1 lb
  go_upto_region 8 with fail
  obtain ⟨w1, ew⟩ : ∃ z, z = v0.setCell ⟨r, 0, none⟩ (ptr q0) := ⟨_, rfl⟩
  have P1 : Hid (Pt w w1 k r (cfg a b c d e f g h i j) #[ptr q0, .pointer none, .pointer none]) := by rw [ew]; exact Pv.out.set 0 (ptr q0)
  have K0 : Hid (Hst w1 q0 a b Ho.sz (fun x => x = q0)) := by rw [ew]; exact hst_set H0.out nr.out 0 _
  rw [← ew]
  clear ew Pv cc cf lr H0
  have H0 := K0
  clear K0
  have nr0 := nr
  clear nr
  go_wp2_with fail
  rw [rounds_succ]
  have ix := ix1 w1 a b c d e f
  go_upto_region 4 with fail
  obtain ⟨u1, eu⟩ : ∃ z, z = w1.alloc (.cells #[.int .i64 c, .int .i64 d] 25) := ⟨_, rfl⟩
  rw [← eu]
  have al : Below w1.heap.size w1 u1 := by rw [eu]; exact (Below.refl _ _).alloc (Nat.le_refl _) _
  have bx : u1.heap[w1.heap.size]? = some (.cells #[.int .i64 c, .int .i64 d] 25 (0, 0)) := by rw [eu]; exact heap_alloc_new _ _
  have d0 := one_at (i := 0) bx
  have d1 := one_at (i := 1) bx
  have lb := lt_some bx
  have Pu1 := Lib.hid (P1.out.below al)
  have Hu0 := Lib.hid (H0.out.below al)
  clear ix eu al bx P1 H0
  go_wp2_with fail
  refine (N1.out _).mono ?_
  rintro en v1 ⟨q1, rfl, hq1, H1, hb⟩
  have Pv := Lib.hid (Pu1.out.below hb)
  have H0 := Lib.hid (Hu0.out.below hb)
  replace H1 := Lib.hid H1
  have nr : Hid (q1 ≠ r) := by have := lt_some Pu1.out.ar; unfold Hid; omega
  have nq1 : Hid (w.heap.size ≤ q1) := by have := Pu1.out.be.size; unfold Hid; omega
  have cc := one_at (i := 1) Pv.out.ar
  have cf : v1.frozen? ⟨r, 1, none⟩ = false := one_free Pv.out.ar
  have lr := lt_some Pv.out.ar
  clear hb hq1 N1 Pu1 d0 d1 lb Hu0
  go_upto_region 8 with fail
  obtain ⟨w2, ew⟩ : ∃ z, z = v1.setCell ⟨r, 1, none⟩ (ptr q1) := ⟨_, rfl⟩
  have P2 : Hid (Pt w w2 k r (cfg a b c d e f g h i j) #[ptr q0, ptr q1, .pointer none]) := by rw [ew]; exact Pv.out.set 1 (ptr q1)
  have K0 : Hid (Hst w2 q0 a b Ho.sz (fun x => x = q0)) := by rw [ew]; exact hst_set H0.out nr0.out 1 _
  have K1 : Hid (Hst w2 q1 c d Ho.sz (fun x => x = q1)) := by rw [ew]; exact hst_set H1.out nr.out 1 _
  rw [← ew]
  clear ew Pv cc cf lr H0 H1
  have H0 := K0
  have H1 := K1
  clear K0 K1
  have nr1 := nr
  clear nr
  go_wp2_with fail
  rw [rounds_succ]
  have ix := ix2 w2 a b c d e f
  go_upto_region 4 with fail
  obtain ⟨u2, eu⟩ : ∃ z, z = w2.alloc (.cells #[.int .i64 e, .int .i64 f] 25) := ⟨_, rfl⟩
  rw [← eu]
  have al : Below w2.heap.size w2 u2 := by rw [eu]; exact (Below.refl _ _).alloc (Nat.le_refl _) _
  have bx : u2.heap[w2.heap.size]? = some (.cells #[.int .i64 e, .int .i64 f] 25 (0, 0)) := by rw [eu]; exact heap_alloc_new _ _
  have d0 := one_at (i := 0) bx
  have d1 := one_at (i := 1) bx
  have lb := lt_some bx
  have Pu2 := Lib.hid (P2.out.below al)
  have Hu0 := Lib.hid (H0.out.below al)
  have Hu1 := Lib.hid (H1.out.below al)
  clear ix eu al bx P2 H0 H1
  go_wp2_with fail
  refine (N2.out _).mono ?_
  rintro en v2 ⟨q2, rfl, hq2, H2, hb⟩
  have Pv := Lib.hid (Pu2.out.below hb)
  have H0 := Lib.hid (Hu0.out.below hb)
  have H1 := Lib.hid (Hu1.out.below hb)
  replace H2 := Lib.hid H2
  have nr : Hid (q2 ≠ r) := by have := lt_some Pu2.out.ar; unfold Hid; omega
  have nq2 : Hid (w.heap.size ≤ q2) := by have := Pu2.out.be.size; unfold Hid; omega
  have cc := one_at (i := 2) Pv.out.ar
  have cf : v2.frozen? ⟨r, 2, none⟩ = false := one_free Pv.out.ar
  have lr := lt_some Pv.out.ar
  clear hb hq2 N2 Pu2 d0 d1 lb Hu0 Hu1
  go_upto_region 8 with fail
  obtain ⟨w3, ew⟩ : ∃ z, z = v2.setCell ⟨r, 2, none⟩ (ptr q2) := ⟨_, rfl⟩
  have P3 : Hid (Pt w w3 k r (cfg a b c d e f g h i j) #[ptr q0, ptr q1, ptr q2]) := by rw [ew]; exact Pv.out.set 2 (ptr q2)
  have K0 : Hid (Hst w3 q0 a b Ho.sz (fun x => x = q0)) := by rw [ew]; exact hst_set H0.out nr0.out 2 _
  have K1 : Hid (Hst w3 q1 c d Ho.sz (fun x => x = q1)) := by rw [ew]; exact hst_set H1.out nr1.out 2 _
  have K2 : Hid (Hst w3 q2 e f Ho.sz (fun x => x = q2)) := by rw [ew]; exact hst_set H2.out nr.out 2 _
  rw [← ew]
  clear ew Pv cc cf lr H0 H1 H2
  have H0 := K0
  have H1 := K1
  have H2 := K2
  clear K0 K1 K2
  have nr2 := nr
  clear nr
  go_wp2_with fail
  rw [rounds_succ]
  obtain ⟨c6, c7, c8, c9⟩ : w3.cell? ⟨k, 6, none⟩ = some (.int .i64 g) ∧ w3.cell? ⟨k, 7, none⟩ = some (.int .i64 h) ∧ w3.cell? ⟨k, 8, none⟩ = some (.int .i64 i) ∧ w3.cell? ⟨k, 9, none⟩ = some (.int .i64 j) := ⟨one_at P3.out.cf, one_at P3.out.cf, one_at P3.out.cf, one_at P3.out.cf⟩
  have lk := lt_some P3.out.cf
  go_wp2_with fail
  refine (N3.out _).mono ?_
  rintro en w4 ⟨q3, rfl, hq3, T4, hb⟩
  have P4 := Lib.hid (P3.out.below hb)
  have J0 := Lib.hid (H0.out.below hb)
  have J1 := Lib.hid (H1.out.below hb)
  have J2 := Lib.hid (H2.out.below hb)
  have nq3 : Hid (w.heap.size ≤ q3) := by have := P3.out.be.size; unfold Hid; omega
  replace T4 := Lib.hid T4
  have cc0 := one_at (i := 0) P4.out.ar
  have cc1 := one_at (i := 1) P4.out.ar
  have cc2 := one_at (i := 2) P4.out.ar
  have lr := lt_some P4.out.ar
  clear hb hq3 N3 P3 H0 H1 H2 c6 c7 c8 c9 lk nr0 nr1 nr2
  go_wp2_with (refine Pl.wpList_store_row rfl 98 (.tmp 2) (.tmp 34) rfl r #[ptr q0, ptr q1, ptr q2] rfl rfl 98 _ P4.out.ar hosts_size rfl (by simp [Value.oneCell']) ?_)
  have sr : w4.setRow r #[ptr q0, ptr q1, ptr q2] = w4 := setRow_self w4 r _ _ _ P4.out.ar
  rw [sr]
  refine bodyPost_ret (res_row2 part_results _ _ r 98 _ (0, 0) _ rfl P4.out.ar Tryz.underlying98 rfl hosts_size) rfl ?_
  exact ⟨q0, q1, q2, q3, rfl, ⟨J0.out, J1.out, J2.out⟩, T4.out, ⟨nq0.out, nq1.out, nq2.out, nq3.out⟩, P4.out.be⟩
end Fo
end Go.Proofs.YtpkdigegkemogaaGreatDoor
