/- The document's inventory in memory: its cells; Units. -/
import Derived.Test.YtchlbkfkecpodaaStC
import Derived.Deep.QuietTactic
import Derived.BigQuiet
import Derived.Deep.MidRow
import Derived.StillTailTactics
namespace Go.Proofs.Ytchlbkfkecpodaa
set_option maxRecDepth 100000
open Go.RowKit
open Go.Proofs.Ytchlbkfkecpodaa.Pk (one_at one_free one_set lt_some grown_set grown_trans below_grown grown_refl)
namespace St

/-! ### its cells -/
def entc (e : E) : List Value := [.int .i64 e.st, .int .i64 e.un, .int .i64 e.ut, .int .i64 0, .int .i64 0]
def ents (f : F) : Nat → List Value
  | 0 => []
  | n + 1 => ents f n ++ entc (f (n : Int))
theorem ents_len (f : F) (n : Nat) : (ents f n).length = 5 * n := by
  induction n with
  | zero => rfl
  | succ n ih => unfold ents; rw [List.length_append, ih]; show 5 * n + 5 = _; omega
theorem ents_at (f : F) {n k j : Nat} (hk : k < n) (hj : j < 5) : (ents f n)[5 * k + j]? = (entc (f (k : Int)))[j]? := by
  induction n with
  | zero => omega
  | succ n ih =>
    unfold ents
    by_cases e : k = n
    · subst e
      rw [List.getElem?_append_right (by rw [ents_len]; omega), ents_len]
      congr 1
      omega
    · rw [List.getElem?_append_left (by rw [ents_len]; omega), ih (by omega)]
def stcs (cap over : Int) (f : F) : Array Value := (.int .i64 cap :: .int .i64 over :: ents f 201).toArray
theorem stcs_size (cap over : Int) (f : F) : (stcs cap over f).size = 1007 := by simp [stcs, ents_len]
theorem stcs_at (cap over : Int) (f : F) {k j : Nat} (hk : k ≤ 200) (hj : j < 5) : (stcs cap over f)[2 + k * 5 + j]? = (entc (f (k : Int)))[j]? := by
  rw [← ents_at f (n := 201) (by omega) hj]
  have e : 2 + k * 5 + j = (5 * k + j) + 1 + 1 := by omega
  rw [e]
  simp [stcs]
/-- The document's inventory. -/
structure Ds (w : World) (p : Nat) (cap over : Int) (f : F) : Prop where
  lt : p < w.heap.size
  c0 : w.cell? ⟨p, 0, none⟩ = some (.int .i64 cap)
  c1 : w.cell? ⟨p, 1, none⟩ = some (.int .i64 over)
  ent : ∀ k : Nat, k ≤ 200 → w.rangeAt p (2 + k * 5) (entc (f (k : Int)))
  free : ∀ i, w.frozen? ⟨p, i, none⟩ = false
section
variable {w w' : World} {p : Nat} {cap over : Int} {f : F}
theorem Ds.of_block (h : w.heap[p]? = some (.cells (stcs cap over f) 48 (0, 0))) : Ds w p cap over f :=
  ⟨lt_some h, (one_at (i := 0) h).trans rfl, (one_at (i := 1) h).trans rfl, fun k hk j v hj => by
    have h5 : j < 5 := (List.getElem?_eq_some_iff.1 hj).1
    rw [one_at (i := 2 + k * 5 + j) h, stcs_at cap over f hk h5, hj], fun i => one_free h⟩
theorem Ds.keep (D : Ds w p cap over f) (h : w'.heap[p]? = w.heap[p]?) : Ds w' p cap over f := by
  have e : ∀ i, w'.cell? ⟨p, i, none⟩ = w.cell? ⟨p, i, none⟩ := fun i => World.cell?_of_block h
  refine ⟨?_, (e 0).trans D.c0, (e 1).trans D.c1, fun k hk j v hj => (e _).trans (D.ent k hk j v hj), fun i => ?_⟩
  · have := Array.getElem?_eq_getElem D.lt
    rw [← h] at this
    exact lt_some this
  · have := D.free i
    unfold World.frozen? at this ⊢
    simp only [h]
    exact this
theorem Ds.below (D : Ds w p cap over f) (hb : Below w.heap.size w w') : Ds w' p cap over f := D.keep (hb.block _ D.lt)
theorem Ds.st (D : Ds w p cap over f) {k : Nat} (hk : k ≤ 200) : w.cell? ⟨p, 2 + k * 5, none⟩ = some (.int .i64 (f k).st) := D.ent k hk 0 _ rfl
theorem Ds.un (D : Ds w p cap over f) {k : Nat} (hk : k ≤ 200) : w.cell? ⟨p, 2 + k * 5 + 1, none⟩ = some (.int .i64 (f k).un) := D.ent k hk 1 _ rfl
theorem Ds.ut (D : Ds w p cap over f) {k : Nat} (hk : k ≤ 200) : w.cell? ⟨p, 2 + k * 5 + 2, none⟩ = some (.int .i64 (f k).ut) := D.ent k hk 2 _ rfl
theorem Ds.z3 (D : Ds w p cap over f) {k : Nat} (hk : k ≤ 200) : w.cell? ⟨p, 2 + k * 5 + 3, none⟩ = some (.int .i64 0) := D.ent k hk 3 _ rfl
theorem Ds.z4 (D : Ds w p cap over f) {k : Nat} (hk : k ≤ 200) : w.cell? ⟨p, 2 + k * 5 + 4, none⟩ = some (.int .i64 0) := D.ent k hk 4 _ rfl
theorem Ds.there (D : Ds w p cap over f) {k : Nat} (hk : k ≤ 200) : w.there p (2 + k * 5) 5 := fun j hj => ⟨(D.ent k hk).isSome j hj, D.free _⟩
theorem setCells_block (p : Nat) : ∀ (vs : List Value) (o : Nat) (w : World), (w.setCells p o vs).heap.size = w.heap.size ∧ (w.setCells p o vs).os = w.os ∧ (w.setCells p o vs).tape = w.tape ∧ (w.setCells p o vs).output = w.output ∧ ∀ g, g ≠ p → (w.setCells p o vs).heap[g]? = w.heap[g]?
  | [], _, _ => ⟨rfl, rfl, rfl, rfl, fun _ _ => rfl⟩
  | v :: r, o, w => by
    obtain ⟨h1, h2, h3, h4, h5⟩ := setCells_block p r (o + 1) (w.setCell ⟨p, o, none⟩ v)
    rw [World.setCells]
    exact ⟨h1.trans (by simp [World.setCell]), h2, h3, h4, fun g hg => (h5 g hg).trans (Below.heap_setCell _ _ _ _ (fun e => hg e))⟩
theorem Kq.of_cells (w : World) (p o : Nat) (vs : List Value) : Kq (fun g => g = p) w (w.setCells p o vs) := by
  obtain ⟨h1, h2, h3, h4, h5⟩ := setCells_block p vs o w
  exact ⟨h2, h3, h4, by omega, fun g _ hn => h5 g hn⟩
theorem Kt.of_cells {n : Nat} (w : World) (p o : Nat) (vs : List Value) (h : o + vs.length ≤ n) : Kt p n (fun g => g = p) w (w.setCells p o vs) :=
  ⟨.of_cells w p o vs, fun i hi => World.cell?_setCells_out p _ _ w ⟨p, i, none⟩ (fun _ _ => .inr (by show o + vs.length ≤ i; omega))⟩
theorem Kt.of_ent (w : World) (p : Nat) {k : Nat} (hk : k ≤ 200) (e : E) : Kt p 1007 (fun g => g = p) w (w.setCells p (2 + k * 5) (entc e)) := .of_cells w p _ _ (by show 2 + k * 5 + 5 ≤ 1007; omega)
theorem Ds.put (D : Ds w p cap over f) {k : Nat} (hk : k ≤ 200) (e : E) : Ds (w.setCells p (2 + k * 5) (entc e)) p cap over (upd f (k : Int) e) := by
  refine ⟨by rw [(setCells_block p _ _ w).1]; exact D.lt, ?_, ?_, fun j hj => ?_, fun i => ?_⟩
  · rw [World.cell?_setCells_out p _ _ w ⟨p, 0, none⟩ (fun _ _ => .inl (by show 0 < 2 + k * 5; omega))]
    exact D.c0
  · rw [World.cell?_setCells_out p _ _ w ⟨p, 1, none⟩ (fun _ _ => .inl (by show 1 < 2 + k * 5; omega))]
    exact D.c1
  · by_cases h : j = k
    · subst h
      rw [upd_same]
      exact World.rangeAt_setCells_same w p _ _ (D.there hk)
    · rw [upd_other (by omega)]
      exact World.rangeAt_setCells_apart (D.ent j hj) p _ _ (.inr (by show 2 + j * 5 + 5 ≤ _ ∨ _ + 5 ≤ _; omega))
  · rw [World.frozen?_setCells]
    exact D.free i
end
theorem entry_size : (Try.prog.info? 41).map (·.size) = some 5 := by kernel_rfl
theorem entc_one (e : E) : (entc e).toArray.all (·.oneCell') = true := by simp [entc, Value.oneCell']
/-! ### Units -/
def UnsAt (w : World) (f : F) (h c i : Value) (wr : World) : Prop := ∃ k : Nat, i = .int .i64 ((k : Int) + 1) ∧ k ≤ 200 ∧ h = .int .i64 (part (fun x => hu 1 (f x)) k) ∧ c = .int .i64 (part (fun x => hu 2 (f x)) k) ∧ wr = w
set_option maxHeartbeats 3200000 in
theorem refunits_any (w : World) (p : Nat) (cap over : Int) (f : F) (D : Ds w p cap over f) (O : Ok cap over f) : Calls Try.prog 71 #[.pointer (some ⟨p, 0, none⟩)] w fun e w' => e = .returned (.tuple #[.int .i64 (uni 1 f), .int .i64 (uni 2 f)]) ∧ w = w' := by
  have st : Hid (UnsAt w f (.int .i64 0) (.int .i64 0) (.int .i64 1) w) := ⟨0, rfl, by omega, rfl, rfl, rfl⟩
  replace D := Lib.hid D
  have P1 : Hid (∀ k, k ≤ 200 → 0 ≤ part (fun x => hu 1 (f x)) k ∧ part (fun x => hu 1 (f x)) k ≤ 2000000) := fun k hk => by
    have h0 : ∀ x, 0 ≤ hu 1 (f x) := fun x => ((O.shp x).hu0 (s := 1)).1
    have := part_nonneg h0 k
    have := part_mono h0 hk
    have := O.bds
    unfold uni at this
    omega
  have P2 : Hid (∀ k, k ≤ 200 → 0 ≤ part (fun x => hu 2 (f x)) k ∧ part (fun x => hu 2 (f x)) k ≤ 2000000) := fun k hk => by
    have h0 : ∀ x, 0 ≤ hu 2 (f x) := fun x => ((O.shp x).hu0 (s := 2)).1
    have := part_nonneg h0 k
    have := part_mono h0 hk
    have := O.bds
    unfold uni at this
    omega
  replace O := Lib.hid O
  go_enter Try.func71, Try.ntmps71
  go_wp2_with fail
  go_loopw [4, 5, 6] (fun h c i wr => UnsAt w f h c i wr) (fun _ _ i _ => 201 - (intOf i).toNat)
  case atStart => exact st.out
  case round =>
    clear st
    obtain ⟨k, rfl, hk, rfl, rfl, rfl⟩ := hrel
    obtain ⟨A1, hA1⟩ : ∃ x, x = part (fun x => hu 1 (f x)) k := ⟨_, rfl⟩
    obtain ⟨A2, hA2⟩ : ∃ x, x = part (fun x => hu 2 (f x)) k := ⟨_, rfl⟩
    have p1 := P1.out k hk
    have p2 := P2.out k hk
    rw [← hA1] at p1
    rw [← hA2] at p2
    by_cases hk2 : k < 200
    · have i1 : (k : Int) + 1 ≤ 200 := by omega
      have c1 := D.out.st (k := k + 1) (by omega)
      have c2 := D.out.un (k := k + 1) (by omega)
      have e1 : ((k + 1 : Nat) : Int) = (k : Int) + 1 := by omega
      have bd := (O.out.shp ((k : Int) + 1)).bds
      rw [e1] at c1 c2
      obtain ⟨s, hs⟩ : ∃ x, x = (f ((k : Int) + 1)).st := ⟨_, rfl⟩
      obtain ⟨u, hu_⟩ : ∃ x, x = (f ((k : Int) + 1)).un := ⟨_, rfl⟩
      rw [← hs] at c1
      rw [← hu_] at c2 bd
      obtain ⟨-, -, u0, u1, -, -⟩ := bd
      have s1 : Hid (part (fun x => hu 1 (f x)) (k + 1) = A1 + if s = 1 then u else 0) := by show _ = _; rw [hA1, hs, hu_]; rfl
      have s2 : Hid (part (fun x => hu 2 (f x)) (k + 1) = A2 + if s = 2 then u else 0) := by show _ = _; rw [hA2, hs, hu_]; rfl
      rw [← hA1, ← hA2]
      clear hA1 hA2 hs hu_ e1
      by_cases g1 : s = 1
      · have nx : Hid (UnsAt wr f (.int .i64 (A1 + u)) (.int .i64 A2) (.int .i64 ((k : Int) + 1 + 1)) wr) := ⟨k + 1, by simp, by omega, by rw [s1.out, if_pos g1], by rw [s2.out, if_neg (by omega), Int.add_zero], rfl⟩
        subst g1
        go_wp2
        exact ⟨nx.out, by simp [intOf]; omega⟩
      · have gb1 : (s == 1) = false := by simpa using g1
        by_cases g2 : s = 2
        · have nx : Hid (UnsAt wr f (.int .i64 A1) (.int .i64 (A2 + u)) (.int .i64 ((k : Int) + 1 + 1)) wr) := ⟨k + 1, by simp, by omega, by rw [s1.out, if_neg g1, Int.add_zero], by rw [s2.out, if_pos g2], rfl⟩
          subst g2
          clear gb1 g1
          go_wp2
          exact ⟨nx.out, by simp [intOf]; omega⟩
        · have gb2 : (s == 2) = false := by simpa using g2
          have nx : Hid (UnsAt wr f (.int .i64 A1) (.int .i64 A2) (.int .i64 ((k : Int) + 1 + 1)) wr) := ⟨k + 1, by simp, by omega, by rw [s1.out, if_neg g1, Int.add_zero], by rw [s2.out, if_neg g2, Int.add_zero], rfl⟩
          clear g1 g2
          go_wp2
          exact ⟨nx.out, by simp [intOf]; omega⟩
    · have hr : Hid (uni 1 f = A1 ∧ uni 2 f = A2) := by
        obtain rfl : k = 200 := by omega
        exact ⟨hA1.symm, hA2.symm⟩
      have i1 : ¬ (k : Int) + 1 ≤ 200 := by omega
      rw [← hA1, ← hA2]
      clear hA1 hA2
      go_wp2
      go_ret2
      exact ⟨by rw [hr.out.1, hr.out.2]; rfl, rfl⟩
set_option maxHeartbeats 800000 in
theorem reffree_any (w : World) (p : Nat) (cap over : Int) (f : F) (D : Ds w p cap over f) (O : Ok cap over f) : Calls Try.prog 70 #[.pointer (some ⟨p, 0, none⟩)] w fun e w' => e = .returned (.int .i64 (room cap over f)) ∧ ∃ m, w' = w.drewN m := by
  have U := Lib.hid (refunits_any w p cap over f D O)
  have b := O.bds
  have hr : Hid (room cap over f = cap + over - uni 1 f - uni 2 f) := rfl
  have b2 : 0 ≤ cap + over ∧ cap + over ≤ 2000000 := by have := O.c0; have := O.c1; have := O.o0; have := O.o1; omega
  have c0 := D.c0
  have c1 := D.c1
  generalize uni 1 f = h at *
  generalize uni 2 f = c at *
  obtain ⟨b0, b1, b3, b4, b5, b6⟩ := b
  obtain ⟨b7, b8⟩ := b2
  obtain ⟨x1, h1⟩ : ∃ x, x = cap + over := ⟨_, rfl⟩
  have e1 : IntKind.i64.wrap (cap + over) = x1 := by rw [IntKind.wrap_i64]; omega
  obtain ⟨x2, h2⟩ : ∃ x, x = x1 - h := ⟨_, rfl⟩
  have e2 : IntKind.i64.wrap (x1 - h) = x2 := by rw [IntKind.wrap_i64]; omega
  obtain ⟨x3, h3⟩ : ∃ x, x = x2 - c := ⟨_, rfl⟩
  have e3 : IntKind.i64.wrap (x2 - c) = x3 := by have := hr.out; rw [IntKind.wrap_i64]; omega
  have hr2 : Hid (room cap over f = x3) := by have := hr.out; unfold Hid; omega
  clear h1 h2 h3 hr
  go_enter Try.func70, Try.ntmps70
  go_wp2_with fail
  refine U.out.mono ?_
  rintro e w1 ⟨rfl, rfl⟩
  clear U
  go_wp2
  go_quiet (fail)
  go_wp2
  go_ret
  rw [hr2.out]
  exact ⟨rfl, _, rfl⟩
set_option maxHeartbeats 400000 in
theorem reftime_any (w : World) (n : Int) : Calls Try.prog 69 #[.int .i64 n] w fun e w' => e = .returned (.bool (tick n)) ∧ w = w' := by
  have F : Hid (tick n = (decide (0 ≤ n) && decide (n ≤ 1099511627776))) := rfl
  obtain ⟨c1, h1⟩ : ∃ c, c = decide (0 ≤ n) := ⟨_, rfl⟩
  obtain ⟨c2, h2⟩ : ∃ c, c = decide (n ≤ 1099511627776) := ⟨_, rfl⟩
  rw [← h1, ← h2] at F
  have g1 := h1.symm
  have g2 := h2.symm
  clear h1 h2
  cases c1
  all_goals
    go_enter Try.func69, Try.ntmps69
    go_wp2
    go_ret
    rw [F.out]
    exact ⟨rfl, rfl⟩
end St
end Go.Proofs.Ytchlbkfkecpodaa
