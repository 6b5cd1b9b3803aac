/- A purse is read: its accounts, its entries, its moves; it is copied. Rows of moves grow. -/
import Derived.Test.YtchlbkfkecpodaaPuA
namespace Go.Proofs.Ytchlbkfkecpodaa
set_option maxRecDepth 100000
open Go.RowKit
open Go.Sort (grow)
open Go.Proofs.Ytchlbkfkecpodaa.Pk (one_at one_free one_set lt_some grown_set grown_trans below_grown grown_refl)
namespace Pu

theorem below_drew {B : Nat} {w w' : World} (h : Below B w w') : Below B w w'.drew := ⟨h.os, h.tape, h.output, h.size, h.block⟩
def cell (e : E) : Value := .agg #[.int .i64 e.st, .int .i64 0, .int .i64 0, .int .i64 e.cu, .int .i64 e.am]
abbrev LineT : TypeId := 115
abbrev LedP (w : World) (q : Nat) (p : S) (fp : Nat → Prop) : Prop := Led LineT w q p fp

/-! ### accounts -/
set_option maxHeartbeats 400000 in
theorem in_nil (w : World) (k : Int) : Calls Try.prog 80 #[.pointer none, .int .i64 k] w fun e w' => e = .returned (.int .i64 0) ∧ w = w' := by
  go_enter Try.func80, Try.ntmps80
  go_wp2
  go_ret
  exact ⟨rfl, rfl⟩
set_option maxHeartbeats 400000 in
theorem in_pm (w : World) (q : Nat) (p : S) (v : Value) (D : Pm w q p v) (k : Nat) (hk : k ≤ 5) : Calls Try.prog 80 #[.pointer (some ⟨q, 0, none⟩), .int .i64 (k : Int)] w fun e w' => e = .returned (.int .i64 (p.a (k : Int))) ∧ w = w' := by
  have c := D.acc k hk
  have h0 : (0 : Int) ≤ (k : Int) := by omega
  have h1 : (k : Int) < 6 := by omega
  generalize p.a (k : Int) = x at *
  clear D
  go_enter Try.func80, Try.ntmps80
  go_wp2
  go_ret
  exact ⟨rfl, rfl⟩
/-- What a customer has; 0 of none. -/
def bal (p : S) (c : Int) : Int := if 0 ≤ c ∧ c ≤ 3 then p.a c else 0
set_option maxHeartbeats 400000 in
theorem bal_nil (w : World) (c : Int) : Calls Try.prog 35 #[.pointer none, .int .i64 c] w fun e w' => e = .returned (.int .i64 0) ∧ w = w' := by
  have I := in_nil w c
  by_cases h0 : c < 0
  · go_enter Try.func35, Try.ntmps35
    go_wp2
    go_ret
    exact ⟨rfl, rfl⟩
  · by_cases h4 : 4 ≤ c
    · go_enter Try.func35, Try.ntmps35
      go_wp2
      go_ret
      exact ⟨rfl, rfl⟩
    · go_enter Try.func35, Try.ntmps35
      go_wp2_with fail
      refine I.mono ?_
      rintro e w' ⟨rfl, rfl⟩
      go_wp2
      go_ret
      exact ⟨rfl, rfl⟩
set_option maxHeartbeats 400000 in
theorem bal_pm (w : World) (q : Nat) (p : S) (v : Value) (D : Pm w q p v) (c : Int) : Calls Try.prog 35 #[.pointer (some ⟨q, 0, none⟩), .int .i64 c] w fun e w' => e = .returned (.int .i64 (bal p c)) ∧ w = w' := by
  by_cases h0 : c < 0
  · have e : Hid (bal p c = 0) := if_neg (by omega)
    go_enter Try.func35, Try.ntmps35
    go_wp2
    go_ret
    rw [e.out]
    exact ⟨rfl, rfl⟩
  · by_cases h4 : 4 ≤ c
    · have e : Hid (bal p c = 0) := if_neg (by omega)
      go_enter Try.func35, Try.ntmps35
      go_wp2
      go_ret
      rw [e.out]
      exact ⟨rfl, rfl⟩
    · obtain ⟨k, rfl⟩ := Int.eq_ofNat_of_zero_le (a := c) (by omega)
      have e : Hid (bal p (k : Int) = p.a (k : Int)) := if_pos (by omega)
      have I := in_pm w q p v D k (by omega)
      clear D
      go_enter Try.func35, Try.ntmps35
      go_wp2_with fail
      refine I.mono ?_
      rintro e w' ⟨rfl, rfl⟩
      clear I
      go_wp2
      go_ret
      rw [e.out]
      exact ⟨rfl, rfl⟩
set_option maxHeartbeats 400000 in
theorem res_nil (w : World) : Calls Try.prog 36 #[.pointer none] w fun e w' => e = .returned (.int .i64 0) ∧ w = w' := by
  have I := in_nil w 4
  go_enter Try.func36, Try.ntmps36
  go_wp2_with fail
  refine I.mono ?_
  rintro e w' ⟨rfl, rfl⟩
  go_wp2
  go_ret
  exact ⟨rfl, rfl⟩
set_option maxHeartbeats 400000 in
theorem tak_nil (w : World) : Calls Try.prog 37 #[.pointer none] w fun e w' => e = .returned (.int .i64 0) ∧ w = w' := by
  have I := in_nil w 5
  go_enter Try.func37, Try.ntmps37
  go_wp2_with fail
  refine I.mono ?_
  rintro e w' ⟨rfl, rfl⟩
  go_wp2
  go_ret
  exact ⟨rfl, rfl⟩
set_option maxHeartbeats 400000 in
theorem res_pm (w : World) (q : Nat) (p : S) (v : Value) (D : Pm w q p v) : Calls Try.prog 36 #[.pointer (some ⟨q, 0, none⟩)] w fun e w' => e = .returned (.int .i64 (p.a 4)) ∧ w = w' := by
  have I : Calls Try.prog 80 #[.pointer (some ⟨q, 0, none⟩), .int .i64 4] w fun e w' => e = .returned (.int .i64 (p.a 4)) ∧ w = w' := in_pm w q p v D 4 (by omega)
  generalize p.a 4 = x at *
  clear D
  go_enter Try.func36, Try.ntmps36
  go_wp2_with fail
  refine I.mono ?_
  rintro e w' ⟨rfl, rfl⟩
  clear I
  go_wp2
  go_ret
  exact ⟨rfl, rfl⟩
set_option maxHeartbeats 400000 in
theorem tak_pm (w : World) (q : Nat) (p : S) (v : Value) (D : Pm w q p v) : Calls Try.prog 37 #[.pointer (some ⟨q, 0, none⟩)] w fun e w' => e = .returned (.int .i64 (p.a 5)) ∧ w = w' := by
  have I : Calls Try.prog 80 #[.pointer (some ⟨q, 0, none⟩), .int .i64 5] w fun e w' => e = .returned (.int .i64 (p.a 5)) ∧ w = w' := in_pm w q p v D 5 (by omega)
  generalize p.a 5 = x at *
  clear D
  go_enter Try.func37, Try.ntmps37
  go_wp2_with fail
  refine I.mono ?_
  rintro e w' ⟨rfl, rfl⟩
  clear I
  go_wp2
  go_ret
  exact ⟨rfl, rfl⟩

/-! ### entries -/
theorem entry_results : Try.f34.results = #[.cell 4 41] := by kernel_rfl
set_option maxHeartbeats 400000 in
theorem entry_nil (w : World) (k : Int) : Calls Try.prog 34 #[.pointer none, .int .i64 k] w fun e w' => e = .returned (cell ez) ∧ Below w.heap.size w w' := by
  have HB : ∀ cs t, Hid (Below w.heap.size w (w.alloc (.cells cs t))) := fun cs t => (Below.refl _ _).alloc (Nat.le_refl _) _
  go_enter Try.func34, Try.ntmps34
  go_wp2
  refine bodyPost_ret (results_cell_row entry_results _ _ w.heap.size 41 #[.int .i64 0, .int .i64 0, .int .i64 0, .int .i64 0, .int .i64 0] (0, 0) _ rfl (heap_alloc_new _ _) Try.underlying41 rfl entry_size) rfl ?_
  exact ⟨rfl, (HB _ _).out⟩
set_option maxHeartbeats 400000 in
theorem entry_out (w : World) (q : Nat) (k : Int) (hk : k < 0 ∨ 201 ≤ k) : Calls Try.prog 34 #[.pointer (some ⟨q, 0, none⟩), .int .i64 k] w fun e w' => e = .returned (cell ez) ∧ Below w.heap.size w w' := by
  have HB : ∀ cs t, Hid (Below w.heap.size w (w.alloc (.cells cs t))) := fun cs t => (Below.refl _ _).alloc (Nat.le_refl _) _
  rcases Bool.eq_false_or_eq_true (decide (k < 0)) with h | h
  · go_enter Try.func34, Try.ntmps34
    go_wp2
    refine bodyPost_ret (results_cell_row entry_results _ _ w.heap.size 41 #[.int .i64 0, .int .i64 0, .int .i64 0, .int .i64 0, .int .i64 0] (0, 0) _ rfl (heap_alloc_new _ _) Try.underlying41 rfl entry_size) rfl ?_
    exact ⟨rfl, (HB _ _).out⟩
  · have h0 : ¬ k < 0 := by simpa using h
    have h1 : 201 ≤ k := by omega
    go_enter Try.func34, Try.ntmps34
    go_wp2
    refine bodyPost_ret (results_cell_row entry_results _ _ w.heap.size 41 #[.int .i64 0, .int .i64 0, .int .i64 0, .int .i64 0, .int .i64 0] (0, 0) _ rfl (heap_alloc_new _ _) Try.underlying41 rfl entry_size) rfl ?_
    exact ⟨rfl, (HB _ _).out⟩
set_option maxHeartbeats 400000 in
theorem entry_in (w : World) (q : Nat) (p : S) (v : Value) (D : Pm w q p v) (k : Nat) (hk : k ≤ 200) : Calls Try.prog 34 #[.pointer (some ⟨q, 0, none⟩), .int .i64 (k : Int)] w fun e w' => e = .returned (cell (p.f (k : Int))) ∧ Below w.heap.size w w' := by
  have HB : ∀ cs t, Hid (Below w.heap.size w (w.alloc (.cells cs t))) := fun cs t => (Below.refl _ _).alloc (Nat.le_refl _) _
  have D2 := D.below (HB #[.int .i64 0, .int .i64 0, .int .i64 0, .int .i64 0, .int .i64 0] 41).out
  have c0 := D2.st hk
  have c1 := D2.z1 hk
  have c2 := D2.z2 hk
  have c3 := D2.cu hk
  have c4 := D2.am hk
  have h0 : (0 : Int) ≤ (k : Int) := by omega
  have h1 : (k : Int) < 201 := by omega
  unfold cell
  generalize (p.f (k : Int)).st = a at *
  generalize (p.f (k : Int)).cu = u at *
  generalize (p.f (k : Int)).am = t at *
  clear D D2
  go_enter Try.func34, Try.ntmps34
  go_wp2
  refine bodyPost_ret (results_cell_row entry_results _ _ w.heap.size 41 #[.int .i64 a, .int .i64 0, .int .i64 0, .int .i64 u, .int .i64 t] (0, 0) _ rfl (heap_alloc_new _ _) Try.underlying41 rfl entry_size) rfl ?_
  exact ⟨rfl, (HB _ _).out⟩
theorem entry_any (w : World) (q : Nat) (p : S) (fp : Nat → Prop) (L : LedP w q p fp) (k : Int) : Calls Try.prog 34 #[.pointer (some ⟨q, 0, none⟩), .int .i64 k] w fun e w' => e = .returned (cell (p.f k)) ∧ Below w.heap.size w w' := by
  obtain ⟨v, D, -, -, -⟩ := L.at_
  by_cases h : k < 0 ∨ 201 ≤ k
  · have e : p.f k = ez := by
      have hs := L.ok.shp k
      refine hs.zero (Decidable.byContradiction fun h0 => ?_)
      have := hs.inn h0
      omega
    rw [e]
    exact entry_out w q k h
  · obtain ⟨j, rfl⟩ := Int.eq_ofNat_of_zero_le (a := k) (by omega)
    exact entry_in w q p v D j (by omega)

/-! ### rows grow -/
theorem line_info : (Try.prog.info? 115).map (fun i => (i.zero, i.size, i.bytes)) = some (some (.agg #[.int .i64 0, .int .i64 0, .int .i64 0, .int .i64 0]), 4, 32) := by kernel_rfl
theorem dline_info : (Try.prog.info? 117).map (fun i => (i.zero, i.size, i.bytes)) = some (some (.agg #[.int .i64 0, .int .i64 0, .int .i64 0, .int .i64 0]), 4, 32) := by kernel_rfl
section
variable {ts t : TypeId} (ht : Try.prog.underlying ts = some (.slice t)) (hi : (Try.prog.info? t).map (fun i => (i.zero, i.size, i.bytes)) = some (some (.agg #[.int .i64 0, .int .i64 0, .int .i64 0, .int .i64 0]), 4, 32))
include ht hi
theorem row_append (w : World) (base : Nat) (v : Value) (n : Nat) (l : List Ln) (hown : RowT t w base v n l) (ad : Addr) (m c : Nat) (Y : List Ln) (hl : Y.length = m) (hnews : ∀ j u, (fll Y)[j]? = some u → w.cell? (ad.add j) = some u) (hb : n + m ≤ 1000000) (hbase : base ≤ w.heap.size) :
    ∃ A' c' w', (Builtin.append_ #[ts, ts] ts #[v, .slice (some ad) m c]).run Try.prog w = .ok (.slice A' (n + m) c') w' ∧ RowT t w' base (.slice A' (n + m) c') (n + m) (l ++ Y) ∧ w.grownBy w' v.ownBlock ∧ ((Value.slice A' (n + m) c').ownBlock = v.ownBlock ∨ (Value.slice A' (n + m) c').ownBlock = some w.heap.size) := by
  obtain ⟨i0, hi, hz0, hz1, hz2⟩ := info_parts hi
  obtain ⟨v', w', h1, h2, h3, _, h5⟩ := run_append_own_at (P := Try.prog) w base ts ts t i0 _ 4 32 ht hi hz0 hz1 hz2 rfl (by decide) v n (fll l) hown ad m c (fll Y) (by rw [fll_len, hl]) hnews (fll_one Y) (by unfold maxLen; omega) (by omega) hbase
  rw [← fll_app] at h2
  obtain ⟨A', c', rfl, _⟩ := rt_form h2
  exact ⟨A', c', w', h1, h2, h3, h5⟩
omit ht hi in
theorem news_1 {w : World} {g : Nat} {x : Ln} (hg : w.heap[g]? = some (.cells (lnc x).toArray t (0, 0))) : ∀ j u, (fll [x])[j]? = some u → w.cell? ((⟨g, 0, none⟩ : Addr).add j) = some u := fun j u hu => by
  rw [Addr.add_lit, Nat.zero_add, one_at hg, List.getElem?_toArray]
  simpa [fll] using hu
/-- One move put behind a row: it lies in a block of its own. -/
theorem row_app1 (w : World) (base : Nat) (v : Value) (n : Nat) (l : List Ln) (hown : RowT t w base v n l) (x : Ln) (g : Nat) (hg : w.heap[g]? = some (.cells (lnc x).toArray t (0, 0))) (hb : n + 1 ≤ 1000000) (hbase : base ≤ w.heap.size) :
    ∃ A' c' w', (Builtin.append_ #[ts, ts] ts #[v, .slice (some ⟨g, 0, none⟩) 1 1]).run Try.prog w = .ok (.slice A' (n + 1) c') w' ∧ RowT t w' base (.slice A' (n + 1) c') (n + 1) (l ++ [x]) ∧ w.grownBy w' v.ownBlock ∧ ((Value.slice A' (n + 1) c').ownBlock = v.ownBlock ∨ (Value.slice A' (n + 1) c').ownBlock = some w.heap.size) :=
  row_append ht hi w base v n l hown ⟨g, 0, none⟩ 1 1 [x] rfl (news_1 hg) hb hbase
/-- One move put behind a row that is clipped: a new row. -/
theorem row_clip (w : World) (A : Option Addr) (n c : Nat) (l : List Ln) (hown : RowT t w 0 (.slice A n c) n l) (x : Ln) (g : Nat) (hg : w.heap[g]? = some (.cells (lnc x).toArray t (0, 0))) (hb : n + 1 ≤ 1000000) :
    ∃ c' w', (Builtin.append_ #[ts, ts] ts #[.slice A n n, .slice (some ⟨g, 0, none⟩) 1 1]).run Try.prog w = .ok (.slice (some ⟨w.heap.size, 0, none⟩) (n + 1) c') w' ∧ RowT t w' w.heap.size (.slice (some ⟨w.heap.size, 0, none⟩) (n + 1) c') (n + 1) (l ++ [x]) ∧ Below w.heap.size w w' := by
  obtain ⟨i0, hi, hz0, hz1, hz2⟩ := info_parts hi
  have hll := rt_len hown
  rcases hown.2 with ⟨e, e0⟩ | ⟨b, cap, cur, e, h1, h2, h3, h4, h5, h6⟩
  · injection e with eA en ec
    subst eA e0
    obtain rfl := List.eq_nil_of_length_eq_zero hll
    obtain ⟨v', w', k1, k2, k3, _, k5⟩ := run_append_own_at (P := Try.prog) w w.heap.size ts ts t i0 _ 4 32 ht hi hz0 hz1 hz2 rfl (by decide) (.slice none 0 0) 0 [] (World.ownsRow_nil _ _ _ _) ⟨g, 0, none⟩ 1 1 (fll [x]) (by rw [fll_len]; rfl) (news_1 hg) (fll_one _) (by unfold maxLen; omega) (by omega) (Nat.le_refl _)
    rw [Nat.zero_add, List.nil_append] at k2
    obtain ⟨A', c', rfl, hc, _⟩ := rt_form (l := [x]) k2
    have hb' : Below w.heap.size w w' := (Below.refl _ _).grown k3 (Nat.le_refl _) (fun k hk => by simp [Value.ownBlock] at hk)
    rcases k2.2 with ⟨e, e0⟩ | ⟨b, cap, cur, e, h1, h2, h3, h4, h5, h6⟩
    · cases e0
    · injection e with eA _ _
      subst eA
      have : b = w.heap.size := by
        rcases k5 with h | h
        · simp [Value.ownBlock] at h
        · simpa [Value.ownBlock] using h
      subst this
      exact ⟨c', w', k1, k2, hb'⟩
  · injection e with eA en ec
    subst eA ec
    have hr := run_append_grow (P := Try.prog) w ts ts t i0 _ ht hi hz0 ⟨b, 0, none⟩ n n (fll l) (by rw [fll_len, hll, hz1]) (fun j u hj => (World.ownsRow.cells hown (g := b) rfl) j u hj) ⟨g, 0, none⟩ 1 1 (fll [x]) (by rw [fll_len, hz1]; rfl) (news_1 hg) (by omega) (by omega) (growslice_fits (by omega) (by rw [hz2]; omega))
    have hge := grownCap_ge w (n + 1) n t
    have hcm : grownCap w (n + 1) n t ≤ maxLen := grownCap_le_maxLen w (n + 1) n t (by unfold maxLen; omega)
    refine ⟨_, _, hr, ⟨by rw [fll_len, List.length_append, hll]; rfl, .inr ⟨w.heap.size, _, _, rfl, Nat.le_refl _, heap_alloc_new w.drew _, hge, hcm, ?_, ?_⟩⟩, ⟨rfl, rfl, rfl, by simp, fun k hk => heap_alloc_old w.drew _ hk⟩⟩
    · simp only [Array.size_append, List.size_toArray, size_zeroCells, fll_len, hll]
      show n * 4 + 1 * 4 + (grownCap w (n + 1) n t - (n + 1)) * 4 = _
      omega
    · rw [fll_app]
      simp only [Array.toList_append]
      rw [List.take_left' (by simp [fll_len, hll]; omega)]
end
end Pu
end Go.Proofs.Ytchlbkfkecpodaa
