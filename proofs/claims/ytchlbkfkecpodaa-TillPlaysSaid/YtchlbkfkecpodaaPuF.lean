/- What a purse does: end, void, capture. -/
import Derived.Test.YtchlbkfkecpodaaPuE
namespace Go.Proofs.Ytchlbkfkecpodaa
set_option maxRecDepth 100000
open Go.RowKit
open Go.Sort (grow)
open Go.Proofs.Ytchlbkfkecpodaa.Pk (one_at one_free one_set lt_some grown_set grown_trans below_grown grown_refl)
namespace Pu

set_option maxHeartbeats 800000 in
theorem end_lax (w : World) (q : Nat) (p : S) (fp : Nat → Prop) (L : Lax LineT w q p fp) (b : Nat) (hb : b ≤ 200) : Calls Try.prog 101 #[.pointer (some ⟨q, 0, none⟩), .int .i64 (b : Int)] w fun e w' => e = .returned (.tuple #[]) ∧ MvTo LineT (fun g => g = q) w q fp (put p (b : Int) eg) w' := by
  have b0 : (0 : Int) ≤ (b : Int) := by omega
  have b1 : (b : Int) < 201 := by omega
  have F : Hid (MvTo LineT (fun g => g = q) w q fp (put p (b : Int) eg) (w.setCells q (6 + b * 5) (entc eg).toArray.toList)) := MvTo.of_same (L.put hb eg) (Kt.of_cells _ _ _ _ (by show 6 + b * 5 + 5 ≤ 1012; omega))
  obtain ⟨v, D, -, -, -⟩ := L.at_
  have th := Lib.hid (D.there hb)
  clear D L
  go_enter Try.func101, Try.ntmps101
  go_wp2_with (refine wpList_store_mid rfl 41 (.tmp 9) (.tmp 6) rfl q (6 + b * 5) (entc eg).toArray rfl rfl th.out entry_size (entc_one _) ?_)
  go_end0
  exact ⟨rfl, F.out⟩
set_option maxHeartbeats 800000 in
theorem mov_mk (w : World) (q : Nat) (b am : Int) (hq : q < w.heap.size) : Calls Try.prog 100 #[.pointer (some ⟨q, 0, none⟩), .int .i64 b, .int .i64 am] w fun e w' => ∃ lb ab bb, e = .returned (.func (.func 108) #[] #[.pointer (some ⟨lb, 0, none⟩), .pointer (some ⟨ab, 0, none⟩), .pointer (some ⟨bb, 0, none⟩)]) ∧ Cap w' q lb ab bb b am ∧ Below w.heap.size w w' := by
  obtain ⟨w1, h1⟩ : ∃ x, x = w.alloc (.cells #[.pointer (some ⟨q, 0, none⟩)] 56) := ⟨_, rfl⟩
  obtain ⟨w2, h2⟩ : ∃ x, x = w1.alloc (.cells #[.int .i64 b] 3) := ⟨_, rfl⟩
  obtain ⟨w3, h3⟩ : ∃ x, x = w2.alloc (.cells #[.int .i64 am] 2) := ⟨_, rfl⟩
  have b1 : Below w.heap.size w w1 := by rw [h1]; exact (Below.refl _ _).alloc (Nat.le_refl _) _
  have b2 : Below w1.heap.size w1 w2 := by rw [h2]; exact (Below.refl _ _).alloc (Nat.le_refl _) _
  have b3 : Below w2.heap.size w2 w3 := by rw [h3]; exact (Below.refl _ _).alloc (Nat.le_refl _) _
  have g1 : w1.heap[w.heap.size]? = some (.cells #[.pointer (some ⟨q, 0, none⟩)] 56 (0, 0)) := by rw [h1]; exact heap_alloc_new _ _
  have g2 : w2.heap[w1.heap.size]? = some (.cells #[.int .i64 b] 3 (0, 0)) := by rw [h2]; exact heap_alloc_new _ _
  have g3 : w3.heap[w2.heap.size]? = some (.cells #[.int .i64 am] 2 (0, 0)) := by rw [h3]; exact heap_alloc_new _ _
  have s1 := b1.size
  have s2 := b2.size
  have F : Hid (Cap w3 q w.heap.size w2.heap.size w1.heap.size b am ∧ Below w.heap.size w w3) :=
    ⟨⟨one_at (i := 0) ((b3.block _ (Nat.lt_of_lt_of_le (lt_some g1) s2)).trans ((b2.block _ (lt_some g1)).trans g1)), one_at (i := 0) g3, one_at (i := 0) ((b3.block _ (lt_some g2)).trans g2), by omega, by omega, by omega⟩, (b1.trans (b2.mono s1)).trans (b3.mono (by omega))⟩
  replace h1 := Lib.hid h1
  replace h2 := Lib.hid h2
  replace h3 := Lib.hid h3
  clear b1 b2 b3 g1 g2 g3 s1 s2
  go_enter Try.func100, Try.ntmps100
  go_wp2
  go_ret
  rw [← h1.out, ← h2.out, ← h3.out]
  refine ⟨w.heap.size, w2.heap.size, w1.heap.size, ?_, F.out.1, F.out.2⟩
  rw [h2.out, h1.out]
  simp
/-- A booking's own amount moves. -/
theorem mover_own (w : World) (q : Nat) (p : S) (fp : Nat → Prop) (L : LedP w q p fp) (lb ab bb s tg b : Nat) (C : Cap w q lb ab bb (b : Int) (p.f (b : Int)).am) (hs : s = 4 ∨ s = 5) (hst : (p.f (b : Int)).st = (s : Int)) (ht : tg ≤ 5) (hft : s ≠ tg) :
    Calls Try.prog 108 #[.int .i64 (s : Int), .int .i64 (tg : Int), .pointer (some ⟨lb, 0, none⟩), .pointer (some ⟨ab, 0, none⟩), .pointer (some ⟨bb, 0, none⟩)] w fun e w' => e = .returned (.bool true) ∧ MvTo LineT (fun g => g = q) w q fp (mv p b s tg (p.f (b : Int)).am) w' := by
  have hb := (L.ok.shp (b : Int)).bds
  have hle := L.ok.at_st (b := (b : Int)) (s := (s : Int)) (by omega) hst
  refine (mover_any w q p fp L lb ab bb s tg (b : Int) (p.f (b : Int)).am C (by omega) ht hft (by omega)).mono ?_
  rintro e w' (⟨h, _⟩ | ⟨_, rfl, h⟩)
  · omega
  · exact ⟨rfl, h⟩
set_option maxHeartbeats 3200000 in
theorem void_any (w : World) (q : Nat) (p : S) (fp : Nat → Prop) (L : LedP w q p fp) (b : Nat) (h1 : 1 ≤ b) (h2 : b ≤ 200) :
    Calls Try.prog 78 #[.pointer (some ⟨q, 0, none⟩), .int .i64 (b : Int)] w fun e w' => e = .returned (.int .i64 1) ∧ LTo LineT (fun g => g = q) w q fp (void p (b : Int)) w' := by
  have hO := Lib.hid L.ok
  have hq := L.lt
  have hsh := (L.ok.shp (b : Int)).bds
  have b0 : (0 : Int) ≤ (b : Int) := by omega
  have b1 : (b : Int) < 201 := by omega
  have hv : Hid (void p (b : Int) = if (p.f (b : Int)).st = 4 then put (mv p b 4 (p.f (b : Int)).cu (p.f (b : Int)).am) b eg else if (p.f (b : Int)).st = 5 then put (mv p b 5 (p.f (b : Int)).cu (p.f (b : Int)).am) b eg else put p b eg) := rfl
  obtain ⟨c, hc⟩ : ∃ c : Nat, (p.f (b : Int)).cu = (c : Int) := ⟨(p.f (b : Int)).cu.toNat, by omega⟩
  have c3 : Hid (c ≤ 3) := by show c ≤ 3; omega
  obtain ⟨st, hst⟩ : ∃ x, x = (p.f (b : Int)).st := ⟨_, rfl⟩
  obtain ⟨am, ham⟩ : ∃ x, x = (p.f (b : Int)).am := ⟨_, rfl⟩
  obtain ⟨w1, hw1⟩ : ∃ x, x = w.alloc (.cells #[.int .i64 st, .int .i64 0, .int .i64 0, .int .i64 (c : Int), .int .i64 am] 41) := ⟨_, rfl⟩
  have B1 : Hid (Below w.heap.size w w1) := by rw [hw1]; exact (Below.refl _ _).alloc (Nat.le_refl _) _
  have G1 : Hid (w1.heap[w.heap.size]? = some (.cells #[.int .i64 st, .int .i64 0, .int .i64 0, .int .i64 (c : Int), .int .i64 am] 41 (0, 0))) := by rw [hw1]; exact heap_alloc_new _ _
  have OW : Hid (∀ w3 (s : Nat), Below w.heap.size w w3 → s = 4 ∨ s = 5 → st = (s : Int) → ∀ lb ab bb, Cap w3 q lb ab bb (b : Int) am →
      Calls Try.prog 108 #[.int .i64 (s : Int), .int .i64 (c : Int), .pointer (some ⟨lb, 0, none⟩), .pointer (some ⟨ab, 0, none⟩), .pointer (some ⟨bb, 0, none⟩)] w3 fun e w' => e = .returned (.bool true) ∧ MvTo LineT (fun g => g = q) w q fp (mv p b s c am) w') := fun w3 s hb hs hst' lb ab bb C => by
    rw [ham] at C ⊢
    refine (mover_own w3 q p fp (L.below hb) lb ab bb s c b C hs (by rw [← hst]; exact hst') (by have := c3.out; omega) (by have := c3.out; omega)).mono ?_
    rintro e w' ⟨rfl, h⟩
    exact ⟨rfl, MvTo.after hq hb h⟩
  have EN : Hid (∀ w3 p3, MvTo LineT (fun g => g = q) w q fp p3 w3 → Ok (put p3 (b : Int) eg) → Calls Try.prog 101 #[.pointer (some ⟨q, 0, none⟩), .int .i64 (b : Int)] w3 fun e w' => e = .returned (.tuple #[]) ∧ LTo LineT (fun g => g = q) w q fp (put p3 (b : Int) eg) w') := fun w3 p3 h ho => by
    refine (end_lax w3 q p3 _ h.1 b h2).mono ?_
    rintro e w' ⟨rfl, h'⟩
    exact ⟨rfl, (h.then h').led ho⟩
  have hst' := Lib.hid hst
  rw [hc, ← hst, ← ham] at hv
  obtain ⟨v, D, -, -, -⟩ := L.at_
  have d0 := D.st h2
  have d1 := D.z1 h2
  have d2 := D.z2 h2
  have d3 := D.cu h2
  have d4 := D.am h2
  rw [← hst] at d0
  rw [hc] at d3
  rw [← ham] at d4
  replace hw1 := Lib.hid hw1
  replace hc := Lib.hid hc
  replace L := Lib.hid L
  replace ham := Lib.hid ham
  replace h1 := Lib.hid h1
  clear hst hsh D
  go_enter Try.func78, Try.ntmps78
  go_wp2_with fail
  rw [← hw1.out]
  refine (mov_mk w1 q (b : Int) am (Nat.lt_of_lt_of_le hq B1.out.size)).mono ?_
  rintro e w2 ⟨lb, ab, bb, rfl, C, hb2⟩
  have B2 : Hid (Below w.heap.size w w2) := B1.out.trans (hb2.mono B1.out.size)
  have G2 : w2.heap[w.heap.size]? = some (.cells #[.int .i64 st, .int .i64 0, .int .i64 0, .int .i64 (c : Int), .int .i64 am] 41 (0, 0)) := (hb2.block _ (lt_some G1.out)).trans G1.out
  have e0 : w2.cell? ⟨w.heap.size, 0, none⟩ = some (.int .i64 st) := one_at (i := 0) G2
  have e3 : w2.cell? ⟨w.heap.size, 3, none⟩ = some (.int .i64 (c : Int)) := one_at (i := 3) G2
  have e4 : w2.cell? ⟨w.heap.size, 4, none⟩ = some (.int .i64 am) := one_at (i := 4) G2
  replace C := Lib.hid C
  clear hw1 G1 B1 hb2 G2 d0 d1 d2 d3 d4
  by_cases s4 : st = 4
  · have MV := Lib.hid (OW.out w2 4 B2.out (.inl rfl) s4 lb ab bb C.out)
    have OK := Lib.hid (ok_void hO.out (.inl rfl) (hst'.out.symm.trans s4))
    rw [hc.out, ← ham.out] at OK
    rw [if_pos s4] at hv
    clear OW
    subst s4
    go_wp2_with fail
    refine MV.out.mono ?_
    rintro e w3 ⟨rfl, h3⟩
    have EX := Lib.hid (EN.out w3 _ h3 OK.out)
    clear MV EN h3 OK C e0 e3 e4
    go_wp2_with fail
    refine EX.out.mono ?_
    rintro e w4 ⟨rfl, h4⟩
    have F : Hid (LTo LineT (fun g => g = q) w q fp (void p (b : Int)) w4) := by unfold Hid; rw [hv.out]; exact h4
    clear EX h4 hv
    go_wp2
    go_ret
    exact ⟨rfl, F.out⟩
  · by_cases s5 : st = 5
    · have MV := Lib.hid (OW.out w2 5 B2.out (.inr rfl) s5 lb ab bb C.out)
      have OK := Lib.hid (ok_void hO.out (.inr rfl) (hst'.out.symm.trans s5))
      rw [hc.out, ← ham.out] at OK
      rw [if_neg s4, if_pos s5] at hv
      clear OW s4
      subst s5
      go_wp2_with fail
      refine MV.out.mono ?_
      rintro e w3 ⟨rfl, h3⟩
      have EX := Lib.hid (EN.out w3 _ h3 OK.out)
      clear MV EN h3 OK C e0 e3 e4
      go_wp2_with fail
      refine EX.out.mono ?_
      rintro e w4 ⟨rfl, h4⟩
      have F : Hid (LTo LineT (fun g => g = q) w q fp (void p (b : Int)) w4) := by unfold Hid; rw [hv.out]; exact h4
      clear EX h4 hv
      go_wp2
      go_ret
      exact ⟨rfl, F.out⟩
    · have g4 : (st == 4) = false := by simpa using s4
      have g5 : (st == 5) = false := by simpa using s5
      have OK := Lib.hid (ok_end (b := (b : Int)) hO.out (by have := h1.out; omega) (by omega) (by rw [← hst'.out]; exact s4) (by rw [← hst'.out]; exact s5))
      have EX := Lib.hid (EN.out w2 p (MvTo.of_below L.out.toLax B2.out) OK.out)
      rw [if_neg s4, if_neg s5] at hv
      clear OW s4 s5 OK EN C
      go_wp2_with fail
      refine EX.out.mono ?_
      rintro e w4 ⟨rfl, h4⟩
      have F : Hid (LTo LineT (fun g => g = q) w q fp (void p (b : Int)) w4) := by unfold Hid; rw [hv.out]; exact h4
      clear EX h4 hv
      go_wp2
      go_ret
      exact ⟨rfl, F.out⟩
set_option maxHeartbeats 3200000 in
theorem capt_any (w : World) (q : Nat) (p : S) (fp : Nat → Prop) (L : LedP w q p fp) (b : Nat) (h1 : 1 ≤ b) (h2 : b ≤ 200) :
    Calls Try.prog 77 #[.pointer (some ⟨q, 0, none⟩), .int .i64 (b : Int)] w fun e w' => e = .returned (.int .i64 (capt p (b : Int)).2) ∧ LTo LineT (fun g => g = q) w q fp (capt p (b : Int)).1 w' := by
  have hO := Lib.hid L.ok
  have hq := L.lt
  have hsh := (L.ok.shp (b : Int)).bds
  have b0 : (0 : Int) ≤ (b : Int) := by omega
  have b1 : (b : Int) < 201 := by omega
  have hv : Hid (capt p (b : Int) = if (p.f (b : Int)).st = 5 then (p, 1) else if (p.f (b : Int)).st = 4 then (put (mv p b 4 5 (p.f (b : Int)).am) b ⟨5, (p.f (b : Int)).cu, (p.f (b : Int)).am⟩, 1) else (put p b eg, 2)) := rfl
  obtain ⟨c, hc⟩ : ∃ c : Nat, (p.f (b : Int)).cu = (c : Int) := ⟨(p.f (b : Int)).cu.toNat, by omega⟩
  have c3 : Hid (c ≤ 3) := by show c ≤ 3; omega
  obtain ⟨st, hst⟩ : ∃ x, x = (p.f (b : Int)).st := ⟨_, rfl⟩
  obtain ⟨am, ham⟩ : ∃ x, x = (p.f (b : Int)).am := ⟨_, rfl⟩
  obtain ⟨w1, hw1⟩ : ∃ x, x = w.alloc (.cells #[.int .i64 st, .int .i64 0, .int .i64 0, .int .i64 (c : Int), .int .i64 am] 41) := ⟨_, rfl⟩
  have B1 : Hid (Below w.heap.size w w1) := by rw [hw1]; exact (Below.refl _ _).alloc (Nat.le_refl _) _
  have G1 : Hid (w1.heap[w.heap.size]? = some (.cells #[.int .i64 st, .int .i64 0, .int .i64 0, .int .i64 (c : Int), .int .i64 am] 41 (0, 0))) := by rw [hw1]; exact heap_alloc_new _ _
  have OW : Hid (∀ w3, Below w.heap.size w w3 → st = 4 → ∀ lb ab bb, Cap w3 q lb ab bb (b : Int) am →
      Calls Try.prog 108 #[.int .i64 4, .int .i64 5, .pointer (some ⟨lb, 0, none⟩), .pointer (some ⟨ab, 0, none⟩), .pointer (some ⟨bb, 0, none⟩)] w3 fun e w' => e = .returned (.bool true) ∧ MvTo LineT (fun g => g = q) w q fp (mv p b 4 5 am) w') := fun w3 hb hst' lb ab bb C => by
    rw [ham] at C ⊢
    refine (mover_own w3 q p fp (L.below hb) lb ab bb 4 5 b C (.inl rfl) (by rw [← hst]; exact hst') (by omega) (by omega)).mono ?_
    rintro e w' ⟨rfl, h⟩
    exact ⟨rfl, MvTo.after hq hb h⟩
  have EN : Hid (∀ w3 p3, MvTo LineT (fun g => g = q) w q fp p3 w3 → Ok (put p3 (b : Int) eg) → Calls Try.prog 101 #[.pointer (some ⟨q, 0, none⟩), .int .i64 (b : Int)] w3 fun e w' => e = .returned (.tuple #[]) ∧ LTo LineT (fun g => g = q) w q fp (put p3 (b : Int) eg) w') := fun w3 p3 h ho => by
    refine (end_lax w3 q p3 _ h.1 b h2).mono ?_
    rintro e w' ⟨rfl, h'⟩
    exact ⟨rfl, (h.then h').led ho⟩
  have hst' := Lib.hid hst
  rw [hc, ← hst, ← ham] at hv
  obtain ⟨v, D, -, -, -⟩ := L.at_
  have d0 := D.st h2
  have d1 := D.z1 h2
  have d2 := D.z2 h2
  have d3 := D.cu h2
  have d4 := D.am h2
  rw [← hst] at d0
  rw [hc] at d3
  rw [← ham] at d4
  replace hw1 := Lib.hid hw1
  replace hc := Lib.hid hc
  replace L := Lib.hid L
  replace ham := Lib.hid ham
  replace h1 := Lib.hid h1
  clear hst hsh D
  go_enter Try.func77, Try.ntmps77
  go_wp2_with fail
  rw [← hw1.out]
  refine (mov_mk w1 q (b : Int) am (Nat.lt_of_lt_of_le hq B1.out.size)).mono ?_
  rintro e w2 ⟨lb, ab, bb, rfl, C, hb2⟩
  have B2 : Hid (Below w.heap.size w w2) := B1.out.trans (hb2.mono B1.out.size)
  have G2 : w2.heap[w.heap.size]? = some (.cells #[.int .i64 st, .int .i64 0, .int .i64 0, .int .i64 (c : Int), .int .i64 am] 41 (0, 0)) := (hb2.block _ (lt_some G1.out)).trans G1.out
  have e0 : w2.cell? ⟨w.heap.size, 0, none⟩ = some (.int .i64 st) := one_at (i := 0) G2
  have e3 : w2.cell? ⟨w.heap.size, 3, none⟩ = some (.int .i64 (c : Int)) := one_at (i := 3) G2
  have e4 : w2.cell? ⟨w.heap.size, 4, none⟩ = some (.int .i64 am) := one_at (i := 4) G2
  replace C := Lib.hid C
  clear hw1 G1 B1 hb2 G2 d0 d1 d2 d3 d4
  by_cases s5 : st = 5
  · have F : Hid ((capt p (b : Int)).2 = 1 ∧ LTo LineT (fun g => g = q) w q fp (capt p (b : Int)).1 w2) := by
      unfold Hid
      rw [hv.out, if_pos s5]
      exact ⟨rfl, LTo.of_below L.out B2.out⟩
    clear OW EN hv C
    subst s5
    go_wp2
    go_ret
    rw [F.out.1]
    exact ⟨rfl, F.out.2⟩
  · have g5 : (st == 5) = false := by simpa using s5
    rw [if_neg s5] at hv
    by_cases s4 : st = 4
    · have MV := Lib.hid (OW.out w2 B2.out s4 lb ab bb C.out)
      have OK := Lib.hid (ok_capt hO.out (hst'.out.symm.trans s4))
      rw [hc.out, ← ham.out] at OK
      rw [if_pos s4] at hv
      clear OW EN s5 g5
      subst s4
      go_wp2_with fail
      refine MV.out.mono ?_
      rintro e w3 ⟨rfl, h3⟩
      have L5 := (h3.1.state h2 5)
      obtain ⟨v3, D3, -, -, -⟩ := h3.1.at_
      have c3 := D3.st h2
      have f3 := D3.free (6 + b * 5)
      have F : Hid ((capt p (b : Int)).2 = 1 ∧ LTo LineT (fun g => g = q) w q fp (capt p (b : Int)).1 (w3.setCell ⟨q, 6 + b * 5, none⟩ (.int .i64 5))) := by
        unfold Hid
        rw [hv.out]
        refine ⟨rfl, MvTo.led ?_ OK.out⟩
        have e5 : (⟨5, ((mv p b 4 5 am).f (b : Int)).cu, ((mv p b 4 5 am).f (b : Int)).am⟩ : E) = ⟨5, (c : Int), am⟩ := by rw [← hc.out, ham.out]; rfl
        rw [e5] at L5
        exact h3.then (MvTo.of_same L5 (by rw [set1]; exact Kt.of_cells _ _ _ _ (by show 6 + b * 5 + 1 ≤ 1012; omega)))
      clear MV h3 OK C e0 e3 e4 L5 D3
      go_wp2
      go_ret
      rw [F.out.1]
      exact ⟨rfl, F.out.2⟩
    · have g4 : (st == 4) = false := by simpa using s4
      have g4' : (st != 4) = true := by simpa using s4
      have OK := Lib.hid (ok_end (b := (b : Int)) hO.out (by have := h1.out; omega) (by omega) (by rw [← hst'.out]; exact s4) (by rw [← hst'.out]; exact s5))
      have EX := Lib.hid (EN.out w2 p (MvTo.of_below L.out.toLax B2.out) OK.out)
      rw [if_neg s4] at hv
      clear OW s4 s5 OK EN C
      go_wp2_with fail
      refine EX.out.mono ?_
      rintro e w4 ⟨rfl, h4⟩
      have F : Hid ((capt p (b : Int)).2 = 2 ∧ LTo LineT (fun g => g = q) w q fp (capt p (b : Int)).1 w4) := by unfold Hid; rw [hv.out]; exact ⟨rfl, h4⟩
      clear EX h4 hv
      go_wp2
      go_ret
      rw [F.out.1]
      exact ⟨rfl, F.out.2⟩
end Pu
end Go.Proofs.Ytchlbkfkecpodaa
