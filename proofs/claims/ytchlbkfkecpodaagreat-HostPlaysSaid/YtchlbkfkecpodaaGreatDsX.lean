/- For StockPlays: an inventory and the document's, side by side, and a step's box. -/
import Derived.Test.YtchlbkfkecpodaaGreatStC
import Derived.Deep.QuietTactic
import Derived.BigQuiet
import Derived.Deep.MidRow
import Derived.StillTailTactics
import Derived.Test.YtchlbkfkecpodaaGreatStD
import Derived.Test.YtchlbkfkecpodaaGreatStE
import Derived.Lib.QuietBelow
import Derived.Test.YtchlbkfkecpodaaGreatStH
import Derived.Test.YtchlbkfkecpodaaGreatSxX
namespace Go.Proofs.YtchlbkfkecpodaaGreat
set_option maxRecDepth 100000
open Go.RowKit
open Go.Proofs.YtchlbkfkecpodaaGreat.Pk (one_at one_free one_set lt_some grown_set grown_trans below_grown grown_refl)
namespace St

/-! ### its cells -/
def entc (e : E) : List Value := [.int .i64 e.st, .int .i64 e.un, .int .i64 e.ut, .int .i64 0, .int .i64 0]
def ents (f : F) : Nat → List Value
  | 0 => []
  | n + 1 => ents f n ++ entc (f (n : Int))
theorem ents_len (f : F) (n : Nat) : (ents f n).length = 5 * n := by
  induction n with
  | zero => rfl
  | succ n ih => unfold ents; rw [List.length_append, ih]; show 5 * n + 5 = _; omega
theorem ents_at (f : F) {n k j : Nat} (hk : k < n) (hj : j < 5) : (ents f n)[5 * k + j]? = (entc (f (k : Int)))[j]? := by
  induction n with
  | zero => omega
  | succ n ih =>
    unfold ents
    by_cases e : k = n
    · subst e
      rw [List.getElem?_append_right (by rw [ents_len]; omega), ents_len]
      congr 1
      omega
    · rw [List.getElem?_append_left (by rw [ents_len]; omega), ih (by omega)]
def stcs (cap over : Int) (f : F) : Array Value := (.int .i64 cap :: .int .i64 over :: ents f 201).toArray
theorem stcs_size (cap over : Int) (f : F) : (stcs cap over f).size = 1007 := by simp [stcs, ents_len]
theorem stcs_at (cap over : Int) (f : F) {k j : Nat} (hk : k ≤ 200) (hj : j < 5) : (stcs cap over f)[2 + k * 5 + j]? = (entc (f (k : Int)))[j]? := by
  rw [← ents_at f (n := 201) (by omega) hj]
  have e : 2 + k * 5 + j = (5 * k + j) + 1 + 1 := by omega
  rw [e]
  simp [stcs]
/-- The document's inventory. -/
structure Ds (w : World) (p : Nat) (cap over : Int) (f : F) : Prop where
  lt : p < w.heap.size
  c0 : w.cell? ⟨p, 0, none⟩ = some (.int .i64 cap)
  c1 : w.cell? ⟨p, 1, none⟩ = some (.int .i64 over)
  ent : ∀ k : Nat, k ≤ 200 → w.rangeAt p (2 + k * 5) (entc (f (k : Int)))
  free : ∀ i, w.frozen? ⟨p, i, none⟩ = false
section
variable {w w' : World} {p : Nat} {cap over : Int} {f : F}
theorem Ds.of_block (h : w.heap[p]? = some (.cells (stcs cap over f) 35 (0, 0))) : Ds w p cap over f :=
  ⟨lt_some h, (one_at (i := 0) h).trans rfl, (one_at (i := 1) h).trans rfl, fun k hk j v hj => by
    have h5 : j < 5 := (List.getElem?_eq_some_iff.1 hj).1
    rw [one_at (i := 2 + k * 5 + j) h, stcs_at cap over f hk h5, hj], fun i => one_free h⟩
theorem Ds.keep (D : Ds w p cap over f) (h : w'.heap[p]? = w.heap[p]?) : Ds w' p cap over f := by
  have e : ∀ i, w'.cell? ⟨p, i, none⟩ = w.cell? ⟨p, i, none⟩ := fun i => World.cell?_of_block h
  refine ⟨?_, (e 0).trans D.c0, (e 1).trans D.c1, fun k hk j v hj => (e _).trans (D.ent k hk j v hj), fun i => ?_⟩
  · have := Array.getElem?_eq_getElem D.lt
    rw [← h] at this
    exact lt_some this
  · have := D.free i
    unfold World.frozen? at this ⊢
    simp only [h]
    exact this
theorem Ds.below (D : Ds w p cap over f) (hb : Below w.heap.size w w') : Ds w' p cap over f := D.keep (hb.block _ D.lt)
theorem Ds.st (D : Ds w p cap over f) {k : Nat} (hk : k ≤ 200) : w.cell? ⟨p, 2 + k * 5, none⟩ = some (.int .i64 (f k).st) := D.ent k hk 0 _ rfl
theorem Ds.un (D : Ds w p cap over f) {k : Nat} (hk : k ≤ 200) : w.cell? ⟨p, 2 + k * 5 + 1, none⟩ = some (.int .i64 (f k).un) := D.ent k hk 1 _ rfl
theorem Ds.ut (D : Ds w p cap over f) {k : Nat} (hk : k ≤ 200) : w.cell? ⟨p, 2 + k * 5 + 2, none⟩ = some (.int .i64 (f k).ut) := D.ent k hk 2 _ rfl
theorem Ds.z3 (D : Ds w p cap over f) {k : Nat} (hk : k ≤ 200) : w.cell? ⟨p, 2 + k * 5 + 3, none⟩ = some (.int .i64 0) := D.ent k hk 3 _ rfl
theorem Ds.z4 (D : Ds w p cap over f) {k : Nat} (hk : k ≤ 200) : w.cell? ⟨p, 2 + k * 5 + 4, none⟩ = some (.int .i64 0) := D.ent k hk 4 _ rfl
theorem Ds.there (D : Ds w p cap over f) {k : Nat} (hk : k ≤ 200) : w.there p (2 + k * 5) 5 := fun j hj => ⟨(D.ent k hk).isSome j hj, D.free _⟩
theorem setCells_block (p : Nat) : ∀ (vs : List Value) (o : Nat) (w : World), (w.setCells p o vs).heap.size = w.heap.size ∧ (w.setCells p o vs).os = w.os ∧ (w.setCells p o vs).tape = w.tape ∧ (w.setCells p o vs).output = w.output ∧ ∀ g, g ≠ p → (w.setCells p o vs).heap[g]? = w.heap[g]?
  | [], _, _ => ⟨rfl, rfl, rfl, rfl, fun _ _ => rfl⟩
  | v :: r, o, w => by
    obtain ⟨h1, h2, h3, h4, h5⟩ := setCells_block p r (o + 1) (w.setCell ⟨p, o, none⟩ v)
    rw [World.setCells]
    exact ⟨h1.trans (by simp [World.setCell]), h2, h3, h4, fun g hg => (h5 g hg).trans (Below.heap_setCell _ _ _ _ (fun e => hg e))⟩
theorem Kq.of_cells (w : World) (p o : Nat) (vs : List Value) : Kq (fun g => g = p) w (w.setCells p o vs) := by
  obtain ⟨h1, h2, h3, h4, h5⟩ := setCells_block p vs o w
  exact ⟨h2, h3, h4, by omega, fun g _ hn => h5 g hn⟩
theorem Kt.of_cells {n : Nat} (w : World) (p o : Nat) (vs : List Value) (h : o + vs.length ≤ n) : Kt p n (fun g => g = p) w (w.setCells p o vs) :=
  ⟨.of_cells w p o vs, fun i hi => World.cell?_setCells_out p _ _ w ⟨p, i, none⟩ (fun _ _ => .inr (by show o + vs.length ≤ i; omega))⟩
theorem Kt.of_ent (w : World) (p : Nat) {k : Nat} (hk : k ≤ 200) (e : E) : Kt p 1007 (fun g => g = p) w (w.setCells p (2 + k * 5) (entc e)) := .of_cells w p _ _ (by show 2 + k * 5 + 5 ≤ 1007; omega)
theorem Ds.put (D : Ds w p cap over f) {k : Nat} (hk : k ≤ 200) (e : E) : Ds (w.setCells p (2 + k * 5) (entc e)) p cap over (upd f (k : Int) e) := by
  refine ⟨by rw [(setCells_block p _ _ w).1]; exact D.lt, ?_, ?_, fun j hj => ?_, fun i => ?_⟩
  · rw [World.cell?_setCells_out p _ _ w ⟨p, 0, none⟩ (fun _ _ => .inl (by show 0 < 2 + k * 5; omega))]
    exact D.c0
  · rw [World.cell?_setCells_out p _ _ w ⟨p, 1, none⟩ (fun _ _ => .inl (by show 1 < 2 + k * 5; omega))]
    exact D.c1
  · by_cases h : j = k
    · subst h
      rw [upd_same]
      exact World.rangeAt_setCells_same w p _ _ (D.there hk)
    · rw [upd_other (by omega)]
      exact World.rangeAt_setCells_apart (D.ent j hj) p _ _ (.inr (by show 2 + j * 5 + 5 ≤ _ ∨ _ + 5 ≤ _; omega))
  · rw [World.frozen?_setCells]
    exact D.free i
end
theorem entry_size : (Tryz.prog.info? 32).map (·.size) = some 5 := by kernel_rfl
theorem entc_one (e : E) : (entc e).toArray.all (·.oneCell') = true := by simp [entc, Value.oneCell']
/-! ### Units -/
def UnsAt (w : World) (f : F) (h c i : Value) (wr : World) : Prop := ∃ k : Nat, i = .int .i64 ((k : Int) + 1) ∧ k ≤ 200 ∧ h = .int .i64 (part (fun x => hu 1 (f x)) k) ∧ c = .int .i64 (part (fun x => hu 2 (f x)) k) ∧ wr = w
set_option maxHeartbeats 3200000 in
theorem refunits_any (w : World) (p : Nat) (cap over : Int) (f : F) (D : Ds w p cap over f) (O : Ok cap over f) : Calls Tryz.prog 34 #[.pointer (some ⟨p, 0, none⟩)] w fun e w' => e = .returned (.tuple #[.int .i64 (uni 1 f), .int .i64 (uni 2 f)]) ∧ w = w' := by
  have st : Hid (UnsAt w f (.int .i64 0) (.int .i64 0) (.int .i64 1) w) := ⟨0, rfl, by omega, rfl, rfl, rfl⟩
  replace D := Lib.hid D
  have P1 : Hid (∀ k, k ≤ 200 → 0 ≤ part (fun x => hu 1 (f x)) k ∧ part (fun x => hu 1 (f x)) k ≤ 2000000) := fun k hk => by
    have h0 : ∀ x, 0 ≤ hu 1 (f x) := fun x => ((O.shp x).hu0 (s := 1)).1
    have := part_nonneg h0 k
    have := part_mono h0 hk
    have := O.bds
    unfold uni at this
    omega
  have P2 : Hid (∀ k, k ≤ 200 → 0 ≤ part (fun x => hu 2 (f x)) k ∧ part (fun x => hu 2 (f x)) k ≤ 2000000) := fun k hk => by
    have h0 : ∀ x, 0 ≤ hu 2 (f x) := fun x => ((O.shp x).hu0 (s := 2)).1
    have := part_nonneg h0 k
    have := part_mono h0 hk
    have := O.bds
    unfold uni at this
    omega
  replace O := Lib.hid O
  go_enter Tryz.func34, Tryz.ntmps34
  go_wp2_with fail
  go_loopw [4, 5, 6] (fun h c i wr => UnsAt w f h c i wr) (fun _ _ i _ => 201 - (intOf i).toNat)
  case atStart => exact st.out
  case round =>
    clear st
    obtain ⟨k, rfl, hk, rfl, rfl, rfl⟩ := hrel
    obtain ⟨A1, hA1⟩ : ∃ x, x = part (fun x => hu 1 (f x)) k := ⟨_, rfl⟩
    obtain ⟨A2, hA2⟩ : ∃ x, x = part (fun x => hu 2 (f x)) k := ⟨_, rfl⟩
    have p1 := P1.out k hk
    have p2 := P2.out k hk
    rw [← hA1] at p1
    rw [← hA2] at p2
    by_cases hk2 : k < 200
    · have i1 : (k : Int) + 1 ≤ 200 := by omega
      have c1 := D.out.st (k := k + 1) (by omega)
      have c2 := D.out.un (k := k + 1) (by omega)
      have e1 : ((k + 1 : Nat) : Int) = (k : Int) + 1 := by omega
      have bd := (O.out.shp ((k : Int) + 1)).bds
      rw [e1] at c1 c2
      obtain ⟨s, hs⟩ : ∃ x, x = (f ((k : Int) + 1)).st := ⟨_, rfl⟩
      obtain ⟨u, hu_⟩ : ∃ x, x = (f ((k : Int) + 1)).un := ⟨_, rfl⟩
      rw [← hs] at c1
      rw [← hu_] at c2 bd
      obtain ⟨-, -, u0, u1, -, -⟩ := bd
      have s1 : Hid (part (fun x => hu 1 (f x)) (k + 1) = A1 + if s = 1 then u else 0) := by show _ = _; rw [hA1, hs, hu_]; rfl
      have s2 : Hid (part (fun x => hu 2 (f x)) (k + 1) = A2 + if s = 2 then u else 0) := by show _ = _; rw [hA2, hs, hu_]; rfl
      rw [← hA1, ← hA2]
      clear hA1 hA2 hs hu_ e1
      by_cases g1 : s = 1
      · have nx : Hid (UnsAt wr f (.int .i64 (A1 + u)) (.int .i64 A2) (.int .i64 ((k : Int) + 1 + 1)) wr) := ⟨k + 1, by simp, by omega, by rw [s1.out, if_pos g1], by rw [s2.out, if_neg (by omega), Int.add_zero], rfl⟩
        subst g1
        go_wp2
        exact ⟨nx.out, by simp [intOf]; omega⟩
      · have gb1 : (s == 1) = false := by simpa using g1
        by_cases g2 : s = 2
        · have nx : Hid (UnsAt wr f (.int .i64 A1) (.int .i64 (A2 + u)) (.int .i64 ((k : Int) + 1 + 1)) wr) := ⟨k + 1, by simp, by omega, by rw [s1.out, if_neg g1, Int.add_zero], by rw [s2.out, if_pos g2], rfl⟩
          subst g2
          clear gb1 g1
          go_wp2
          exact ⟨nx.out, by simp [intOf]; omega⟩
        · have gb2 : (s == 2) = false := by simpa using g2
          have nx : Hid (UnsAt wr f (.int .i64 A1) (.int .i64 A2) (.int .i64 ((k : Int) + 1 + 1)) wr) := ⟨k + 1, by simp, by omega, by rw [s1.out, if_neg g1, Int.add_zero], by rw [s2.out, if_neg g2, Int.add_zero], rfl⟩
          clear g1 g2
          go_wp2
          exact ⟨nx.out, by simp [intOf]; omega⟩
    · have hr : Hid (uni 1 f = A1 ∧ uni 2 f = A2) := by
        obtain rfl : k = 200 := by omega
        exact ⟨hA1.symm, hA2.symm⟩
      have i1 : ¬ (k : Int) + 1 ≤ 200 := by omega
      rw [← hA1, ← hA2]
      clear hA1 hA2
      go_wp2
      go_ret2
      exact ⟨by rw [hr.out.1, hr.out.2]; rfl, rfl⟩
set_option maxHeartbeats 800000 in
theorem reffree_any (w : World) (p : Nat) (cap over : Int) (f : F) (D : Ds w p cap over f) (O : Ok cap over f) : Calls Tryz.prog 35 #[.pointer (some ⟨p, 0, none⟩)] w fun e w' => e = .returned (.int .i64 (room cap over f)) ∧ ∃ m, w' = w.drewN m := by
  have U := Lib.hid (refunits_any w p cap over f D O)
  have b := O.bds
  have hr : Hid (room cap over f = cap + over - uni 1 f - uni 2 f) := rfl
  have b2 : 0 ≤ cap + over ∧ cap + over ≤ 2000000 := by have := O.c0; have := O.c1; have := O.o0; have := O.o1; omega
  have c0 := D.c0
  have c1 := D.c1
  generalize uni 1 f = h at *
  generalize uni 2 f = c at *
  obtain ⟨b0, b1, b3, b4, b5, b6⟩ := b
  obtain ⟨b7, b8⟩ := b2
  obtain ⟨x1, h1⟩ : ∃ x, x = cap + over := ⟨_, rfl⟩
  have e1 : IntKind.i64.wrap (cap + over) = x1 := by rw [IntKind.wrap_i64]; omega
  obtain ⟨x2, h2⟩ : ∃ x, x = x1 - h := ⟨_, rfl⟩
  have e2 : IntKind.i64.wrap (x1 - h) = x2 := by rw [IntKind.wrap_i64]; omega
  obtain ⟨x3, h3⟩ : ∃ x, x = x2 - c := ⟨_, rfl⟩
  have e3 : IntKind.i64.wrap (x2 - c) = x3 := by have := hr.out; rw [IntKind.wrap_i64]; omega
  have hr2 : Hid (room cap over f = x3) := by have := hr.out; unfold Hid; omega
  clear h1 h2 h3 hr
  go_enter Tryz.func35, Tryz.ntmps35
  go_wp2_with fail
  refine U.out.mono ?_
  rintro e w1 ⟨rfl, rfl⟩
  clear U
  go_wp2
  go_quiet (fail)
  go_wp2
  go_ret
  rw [hr2.out]
  exact ⟨rfl, _, rfl⟩
set_option maxHeartbeats 400000 in
theorem reftime_any (w : World) (n : Int) : Calls Tryz.prog 20 #[.int .i64 n] w fun e w' => e = .returned (.bool (tick n)) ∧ w = w' := by
  have F : Hid (tick n = (decide (0 ≤ n) && decide (n ≤ 1099511627776))) := rfl
  obtain ⟨c1, h1⟩ : ∃ c, c = decide (0 ≤ n) := ⟨_, rfl⟩
  obtain ⟨c2, h2⟩ : ∃ c, c = decide (n ≤ 1099511627776) := ⟨_, rfl⟩
  rw [← h1, ← h2] at F
  have g1 := h1.symm
  have g2 := h2.symm
  clear h1 h2
  cases c1
  all_goals
    go_enter Tryz.func20, Tryz.ntmps20
    go_wp2
    go_ret
    rw [F.out]
    exact ⟨rfl, rfl⟩
end St
end Go.Proofs.YtchlbkfkecpodaaGreat

namespace Go.Proofs.YtchlbkfkecpodaaGreat
set_option maxRecDepth 100000
open Go.RowKit
open Go.Sort (grow)
open Go.Proofs.YtchlbkfkecpodaaGreat.Pk (one_at one_free one_set lt_some grown_set grown_trans below_grown grown_refl)
namespace St

def RsAt (w : World) (p : Nat) (cap over now : Int) (f : F) (v i : Value) (wr : World) : Prop := ∃ (k : Nat) (A : Option Addr) (c : Nat), v = .slice A (sel (ovr now) f k).length c ∧ i = .int .i64 ((k : Int) + 1) ∧ k ≤ 200 ∧ RowI wr w.heap.size v (sel (ovr now) f k).length (ivs (sel (ovr now) f k)) ∧ Ds wr p cap over (swn f now k) ∧ Kt p 1007 (fun g => g = p) w wr
theorem row_off {w w' : World} {p base n : Nat} {v : Value} {xs : List Value} (h : RowI w base v n xs) (K : Kt p 1007 (fun g => g = p) w w') (ne : ∀ g, v.ownBlock = some g → g ≠ p) : RowI w' base v n xs := ri_same h fun g hg => K.block g (by
  obtain ⟨_, cur, hc⟩ := ri_block h hg
  exact lt_some hc) (ne g hg)
/-- What the document's sweep leaves. -/
def RSw (w : World) (p : Nat) (cap over now : Int) (f : F) (e : Ending) (w' : World) : Prop := ∃ v, e = .returned v ∧ RowI w' w.heap.size v (swL f now).length (ivs (swL f now)) ∧ Ds w' p cap over (swF f now) ∧ Kt p 1007 (fun g => g = p) w w'
set_option maxHeartbeats 3200000 in
theorem refsweep_any (w : World) (p : Nat) (cap over now : Int) (f : F) (D : Ds w p cap over f) (O : Ok cap over f) : Calls Tryz.prog 8 #[.pointer (some ⟨p, 0, none⟩), .int .i64 now] w (RSw w p cap over now f) := by
  have TM := Lib.hid (fun w => reftime_any w now)
  have plt : Hid (p < w.heap.size) := D.lt
  obtain ⟨i0, hi0, hii⟩ : ∃ i, Tryz.prog.info? 3 = some i ∧ (i.zero, i.size, i.bytes) = (some (.int .i64 0), 1, 8) := by
    have := int_info
    cases hq : Tryz.prog.info? 3 with
    | none => rw [hq] at this; cases this
    | some i => rw [hq] at this; exact ⟨i, rfl, by simpa using this⟩
  simp only [Prod.mk.injEq] at hii
  obtain ⟨hz0, hz1, hz2⟩ := hii
  replace hi := Lib.hid hi0
  replace hz0 := Lib.hid hz0
  replace hz1 := Lib.hid hz1
  replace hz2 := Lib.hid hz2
  clear hi0
  cases hk : tick now with
  | false =>
    have EX : Hid (RSw w p cap over now f (.returned (.slice none 0 0)) w) := by
      have h1 : swL f now = [] := by unfold swL; rw [hk]; rfl
      have h2 : swF f now = f := by unfold swF; rw [hk]; rfl
      refine ⟨_, rfl, ?_, ?_, Kt.refl _ _ _ _⟩
      · rw [h1]; exact World.ownsRow_nil _ _ _ _
      · rw [h2]; exact D
    rw [hk] at TM
    clear D hk
    go_enter Tryz.func8, Tryz.ntmps8
    go_wp2_with fail
    refine wp_loop_rounds 1 ?_
    rw [rounds_succ]
    go_wp2_with fail
    refine (TM.out _).mono ?_
    rintro e w1 ⟨rfl, rfl⟩
    clear TM
    go_wp2
    go_ret
    exact EX.out
  | true =>
    have EX : Hid (∀ v w', RowI w' w.heap.size v (sel (ovr now) f 200).length (ivs (sel (ovr now) f 200)) → Ds w' p cap over (swn f now 200) → Kt p 1007 (fun g => g = p) w w' → RSw w p cap over now f (.returned v) w') := by
      intro v w' h1 h2 h3
      have e1 : swL f now = sel (ovr now) f 200 := by unfold swL; rw [hk]; rfl
      have e2 : swF f now = swn f now 200 := by unfold swF; rw [hk, if_pos rfl]; exact (swl_ovs O now).symm
      exact ⟨v, rfl, by rw [e1]; exact h1, by rw [e2]; exact h2, h3⟩
    rw [hk] at TM
    have st : Hid (RsAt w p cap over now f (.slice none 0 0) (.int .i64 1) w) := ⟨0, none, 0, rfl, rfl, by omega, World.ownsRow_nil _ _ _ _, by
      have : swn f now 0 = f := swl_nil f
      rw [this]; exact D, Kt.refl _ _ _ _⟩
    clear D hk O
    go_enter Tryz.func8, Tryz.ntmps8
    go_wp2_with fail
    go_loopw [5, 6] (fun v i wr => RsAt w p cap over now f v i wr) (fun _ i _ => 201 - (intOf i).toNat)
    case atStart => exact st.out
    case round =>
      clear st
      obtain ⟨k, A, c, rfl, rfl, hk, hrow, D, K⟩ := hrel
      by_cases hk2 : k < 200
      · have i1 : (k : Int) + 1 ≤ 200 := by omega
        have c1 := D.st (k := k + 1) (by omega)
        have c2 := D.ut (k := k + 1) (by omega)
        have e1 : ((k + 1 : Nat) : Int) = (k : Int) + 1 := by omega
        have th : Hid (wr.there p (2 + (k + 1) * 5) 5) := D.there (by omega)
        rw [e1, swn_at] at c1 c2
        have hs := sel_succ (ovr now) f k
        have hw := swn_succ f now k
        have hps : Hid (∀ e, Ds (wr.setCells p (2 + (k + 1) * 5) (entc e)) p cap over (upd (swn f now k) ((k : Int) + 1) e)) := fun e => by
          have := D.put (k := k + 1) (by omega) e
          rw [e1] at this
          exact this
        obtain ⟨E, hE⟩ : ∃ E, E = f ((k : Int) + 1) := ⟨_, rfl⟩
        rw [← hE] at c1 c2 hs hw
        have ho : ovr now E = (decide (E.st = 1) && decide (E.ut ≤ now)) := rfl
        replace K := Lib.hid K
        clear e1 hE
        by_cases g1 : E.st = 1 ∧ E.ut ≤ now
        · obtain ⟨g1, g2⟩ := g1
          rw [ho, g1] at hs hw
          simp only [decide_true, decide_eq_true g2, Bool.and_self, if_true] at hs hw
          rw [g1] at c1
          have hc1 : (sel (ovr now) f k).length ≤ c := by
            obtain ⟨A', c', e, h, _⟩ := ri_form hrow
            injection e with _ _ e
            rw [e]; exact h
          have hs := Lib.hid hs
          have hw := Lib.hid hw
          have few : Hid ((sel (ovr now) f k).length ≤ 200) := Nat.le_trans (sel_len _ _ _) (by omega)
          obtain ⟨n, hn⟩ : ∃ n, n = (sel (ovr now) f k).length := ⟨_, rfl⟩
          rw [← hn] at hrow few hc1 ⊢
          have few' := few.out
          have o1 : Hid (RowI wr w.heap.size (.slice A n c) n (ivs (sel (ovr now) f k))) := hrow
          have zs : Hid (w.heap.size ≤ wr.heap.size) := K.out.size
          have ne : Hid (∀ g, (Value.slice A n c).ownBlock = some g → g ≠ p) := fun g hg => by
            have := (ri_block hrow hg).1
            have := plt.out
            omega
          have hn1 := hn
          replace hn := Lib.hid hn
          clear ho D few hrow hn1
          go_wp2_with fail
          refine (TM.out _).mono ?_
          rintro e w1 ⟨rfl, rfl⟩
          go_wp2_with (first | (refine wpList_store_mid rfl 32 (.tmp 39) (.tmp 36) rfl p (2 + (k + 1) * 5) (entc eg).toArray rfl rfl th.out entry_size (entc_one _) ?_; have D2 : Hid (Ds (wr.setCells p (2 + (k + 1) * 5) (entc eg).toArray.toList) p cap over (upd (swn f now k) ((k : Int) + 1) eg)) := hps.out eg; have K2 : Hid (Kt p 1007 (fun g => g = p) wr (wr.setCells p (2 + (k + 1) * 5) (entc eg).toArray.toList)) := Kt.of_ent _ _ (k := k + 1) (by omega) eg; have o2 : Hid (RowI (wr.setCells p (2 + (k + 1) * 5) (entc eg).toArray.toList) w.heap.size (.slice A n c) n (ivs (sel (ovr now) f k))) := row_off o1.out K2.out ne.out; have z2 : Hid (w.heap.size ≤ (wr.setCells p (2 + (k + 1) * 5) (entc eg).toArray.toList).heap.size) := Nat.le_trans zs.out K2.out.size; clear hps o1 zs; generalize wr.setCells p (2 + (k + 1) * 5) (entc eg).toArray.toList = w2 at D2 K2 o2 z2 ⊢) | (at_builtin; go_loud (refine wpList_app1 w2 rfl (.tmp 40) (.tmp 42) 47 rfl w.heap.size 3 i0 (.int .i64 0) 8 Tryz.underlying47 hi.out hz0.out hz1.out hz2.out rfl _ n (ivs (sel (ovr now) f k)) (.int .i64 ((k : Int) + 1)) rfl o2.out rfl rfl (by unfold maxLen; omega) (by omega) z2.out ?_); intro v6 w6 h6 g6; have G6 : Hid (w2.grownBy w6 (Value.slice A n c).ownBlock) := (World.grownBy_alloc w2 (.cells #[.int .i64 ((k : Int) + 1)] 3) (Value.slice A n c).ownBlock).trans g6; have O6 := Lib.hid h6; clear h6 g6))
          have D6 : Hid (Ds w6 p cap over (swn f now (k + 1))) := by
            unfold Hid
            rw [hw.out]
            exact D2.out.keep (G6.out.block _ D2.out.lt fun e => ne.out p e.symm rfl)
          have K6 : Hid (Kt p 1007 (fun g => g = p) w w6) := (K.out.self K2.out).trans ⟨⟨G6.out.os, G6.out.tape, G6.out.output, G6.out.size, fun g hg hn => G6.out.block g hg fun e => hn (by
            have h1 := (ri_block o2.out e.symm).1
            exact .inr ⟨h1, hg⟩)⟩, fun _ _ => World.cell?_of_block (G6.out.block p D2.out.lt fun e => ne.out p e.symm rfl)⟩
          have nx : Hid (RsAt w p cap over now f v6 (.int .i64 ((k : Int) + 1 + 1)) w6) := by
            have h6 : RowI w6 w.heap.size v6 (sel (ovr now) f (k + 1)).length (ivs (sel (ovr now) f (k + 1))) := by rw [hs.out, ivs_snoc, List.length_append, ← hn.out]; exact O6.out
            obtain ⟨A', c', e, _⟩ := ri_form h6
            exact ⟨k + 1, A', c', e, by simp, by omega, h6, D6.out, K6.out⟩
          clear O6 D6 K6 G6 o2 z2 D2 K2
          go_wp2
          exact ⟨nx.out, by simp [intOf]; omega⟩
        · have ho2 : ovr now E = false := by
            rw [ho]
            by_cases g2 : E.st = 1
            · rw [decide_eq_true g2, decide_eq_false (fun h => g1 ⟨g2, h⟩)]; rfl
            · rw [decide_eq_false g2]; rfl
          rw [ho2] at hs hw
          simp only [Bool.false_eq_true, if_false] at hs hw
          have nx : Hid (RsAt w p cap over now f (.slice A (sel (ovr now) f k).length c) (.int .i64 ((k : Int) + 1 + 1)) wr) := ⟨k + 1, A, c, by rw [hs], by simp, by omega, by rw [hs]; exact hrow, by rw [hw]; exact D, K.out⟩
          clear ho ho2 hs hw D hrow hps th
          by_cases g2 : E.st = 1
          · have q2 : decide (E.ut ≤ now) = false := decide_eq_false (fun h => g1 ⟨g2, h⟩)
            rw [g2] at c1
            clear g1 g2
            go_wp2_with fail
            refine (TM.out _).mono ?_
            rintro e w1 ⟨rfl, rfl⟩
            go_wp2
            exact ⟨nx.out, by simp [intOf]; omega⟩
          · have q2 : (E.st == 1) = false := by simpa using g2
            clear g1 g2
            go_wp2_with fail
            refine (TM.out _).mono ?_
            rintro e w1 ⟨rfl, rfl⟩
            go_wp2
            exact ⟨nx.out, by simp [intOf]; omega⟩
      · have i1 : ¬ (k : Int) + 1 ≤ 200 := by omega
        have F : Hid (RSw w p cap over now f (.returned (.slice A (sel (ovr now) f k).length c)) wr) := by
          obtain rfl : k = 200 := by omega
          exact EX.out _ _ hrow D K
        clear hrow D K EX
        go_wp2
        go_ret
        exact F.out
end St
end Go.Proofs.YtchlbkfkecpodaaGreat

namespace Go.Proofs.YtchlbkfkecpodaaGreat
set_option maxRecDepth 100000
open Go.RowKit Go.Sort
open Go.Proofs.YtchlbkfkecpodaaGreat.Pk (one_at one_free one_set lt_some grown_set grown_trans below_grown grown_refl refint str str_add str_cat str_size)
namespace St

theorem size_add2 {a b : List UInt8} (h : a.length + b.length ≤ 100000) : ¬ (str a).size + (str b).size > 9223372036854775807 := by rw [str_size, str_size]; omega
theorem int_of (v : Int) (bs : Bs) (hv : Bd v) (hb : bs = Pk.encI v) (w0 : World) : ∀ d os, Calls Tryz.prog 55 #[.int .i64 v] (grow (redrawn w0 d) os) fun e w'' => e = .returned (.string (str bs)) ∧ ∃ q : Regrown, w'' = grow (redrawn w0 q.d) q.os := fun d os => Calls.regrown_of (by rw [hb]; exact refint _ v hv.1 hv.2)
theorem bd_of {v a b : Int} (h1 : a ≤ v) (h2 : v ≤ b) (ha : -9223372036854775808 ≤ a) (hb : b ≤ 9223372036854775807) : Bd v := ⟨by omega, by omega⟩
def ByAt (w : World) (cap over : Int) (f : F) (s i : Value) (wr : World) : Prop := ∃ k : Nat, s = .string (str (bts cap over f k)) ∧ i = .int .i64 ((k : Int) + 1) ∧ k ≤ 200 ∧ Below w.heap.size w wr
set_option maxHeartbeats 6400000 in
theorem refbytes_any (w : World) (p : Nat) (cap over : Int) (f : F) (D : Ds w p cap over f) (O : Ok cap over f) : Calls Tryz.prog 32 #[.pointer (some ⟨p, 0, none⟩)] w fun e w' => e = .returned (.string (str (bts cap over f 200))) ∧ Below w.heap.size w w' := by
  have bc : Bd cap := bd_of O.c0 O.c1 (by decide) (by decide)
  have bo : Bd over := bd_of O.o0 O.o1 (by decide) (by decide)
  have k0 := cell_regrown D.c0
  have k1 := cell_regrown D.c1
  obtain ⟨b0, e0⟩ : ∃ b, b = Pk.encI cap := ⟨_, rfl⟩
  obtain ⟨b1, e1⟩ : ∃ b, b = Pk.encI over := ⟨_, rfl⟩
  have l0 : b0.length ≤ 10 := by rw [e0]; exact Pk.encI_len _ bc.1 bc.2
  have l1 : b1.length ≤ 10 := by rw [e1]; exact Pk.encI_len _ bo.1 bo.2
  have C0 := int_of cap b0 bc e0 w
  have C1 := int_of over b1 bo e1 w
  obtain ⟨s1, f1⟩ : ∃ s, s = b0 ++ b1 := ⟨_, rfl⟩
  have a1 := str_add b0 b1 (by omega)
  have q1 := size_add2 (a := b0) (b := b1) (by omega)
  have t1 := str_cat b0 b1
  rw [← f1] at a1 t1
  have F0 : Hid (s1 = bts cap over f 0) := by
    unfold Hid
    rw [f1, e0, e1]
    simp [bts, sel, rn, many]
  replace D := Lib.hid D
  replace O := Lib.hid O
  clear f1 e0 e1 l0 l1 bc bo
  go_enter Tryz.func32, Tryz.ntmps32
  go_upto_region 1 with fail
  refine wp_region_quiet_below (by kernel_rfl) (by kernel_rfl) ?_
  repeat (go_big_quiet_step (first | with_reducible exact C0 _ _ | with_reducible exact C1 _ _))
  refine wpQuiet_nil ?_
  intro w2 hw'
  obtain ⟨⟨dq, osq⟩, hw''⟩ := hw'
  have be2 : Hid (RowKit.Below w.heap.size w w2) := by rw [hw'']; exact below_regrown w dq osq
  have st : Hid (ByAt w cap over f (.string (str s1)) (.int .i64 1) w2) := ⟨0, by rw [F0.out], rfl, by omega, be2.out⟩
  clear hw'' k0 k1 C0 C1 a1 q1 t1 F0 be2
  go_wp2_with fail
  go_loopw [3, 4] (fun s i wr => ByAt w cap over f s i wr) (fun _ i _ => 201 - (intOf i).toNat)
  case atStart => exact st.out
  case round =>
    clear st
    obtain ⟨k, rfl, rfl, hk, be⟩ := hrel
    have D2 := D.out.below be
    obtain ⟨s, hs⟩ : ∃ s, s = bts cap over f k := ⟨_, rfl⟩
    have ls : s.length ≤ 8020 := by rw [hs]; exact bts_len O.out hk
    rw [← hs]
    by_cases hk2 : k < 200
    · have i1 : (k : Int) + 1 ≤ 200 := by omega
      have c0 := D2.st (k := k + 1) (by omega)
      have c1 := D2.un (k := k + 1) (by omega)
      have c2 := D2.ut (k := k + 1) (by omega)
      have c3 := D2.z3 (k := k + 1) (by omega)
      have c4 := D2.z4 (k := k + 1) (by omega)
      have e1 : ((k + 1 : Nat) : Int) = (k : Int) + 1 := by omega
      have bd := (O.out.shp ((k : Int) + 1)).bds
      rw [e1] at c0 c1 c2
      have hb := bts_succ cap over f k
      unfold one at hb
      rw [← hs] at hb
      obtain ⟨⟨st, un, ut⟩, hE⟩ : ∃ E, E = f ((k : Int) + 1) := ⟨_, rfl⟩
      rw [← hE] at c0 c1 c2 hb bd
      have hp : pre ⟨st, un, ut⟩ = !decide (st = 0) := rfl
      simp only at c0 c1 c2 hb bd
      obtain ⟨W, hW⟩ : ∃ W, W = wr.alloc (.cells #[.int .i64 st, .int .i64 un, .int .i64 ut, .int .i64 0, .int .i64 0] 32) := ⟨_, rfl⟩
      have bW : Hid (Below w.heap.size w W) := by rw [hW]; exact be.alloc be.size _
      have hB : Hid (W.heap[wr.heap.size]? = some (.cells #[.int .i64 st, .int .i64 un, .int .i64 ut, .int .i64 0, .int .i64 0] 32 (0, 0))) := by rw [hW]; exact heap_alloc_new _ _
      replace hW := Lib.hid hW
      clear D2 be hE e1
      go_upto_region 6 with fail
      rw [← hW.out]
      by_cases g : st = 0
      · have gb : (st == 0) = true := by simpa using g
        have x0 : W.cell? ⟨wr.heap.size, 0, none⟩ = some (.int .i64 st) := one_at hB.out
        rw [hp, decide_eq_true g] at hb
        simp only [Bool.not_true, Bool.false_eq_true, if_false] at hb
        have nx : Hid (ByAt w cap over f (.string (str s)) (.int .i64 ((k : Int) + 1 + 1)) W) := ⟨k + 1, by rw [hb], by simp, by omega, bW.out⟩
        clear hb hs hp g
        go_wp2
        exact ⟨nx.out, by simp [intOf]; omega⟩
      · have gb : (st == 0) = false := by simpa using g
        rw [hp, decide_eq_false g] at hb
        simp only [Bool.not_false, if_true] at hb
        obtain ⟨d0, d1, d2, d3, d4, d5⟩ := bd
        have B1 : Bd ((k : Int) + 1) := ⟨by omega, by omega⟩
        have B2 : Bd st := ⟨by omega, by omega⟩
        have B3 : Bd un := ⟨by omega, by omega⟩
        have B4 : Bd ut := ⟨by omega, by omega⟩
        obtain ⟨b1, e1⟩ : ∃ b, b = Pk.encI ((k : Int) + 1) := ⟨_, rfl⟩
        obtain ⟨b2, e2⟩ : ∃ b, b = Pk.encI st := ⟨_, rfl⟩
        obtain ⟨b3, e3⟩ : ∃ b, b = Pk.encI un := ⟨_, rfl⟩
        obtain ⟨b4, e4⟩ : ∃ b, b = Pk.encI ut := ⟨_, rfl⟩
        have l1 : b1.length ≤ 10 := by rw [e1]; exact Pk.encI_len _ B1.1 B1.2
        have l2 : b2.length ≤ 10 := by rw [e2]; exact Pk.encI_len _ B2.1 B2.2
        have l3 : b3.length ≤ 10 := by rw [e3]; exact Pk.encI_len _ B3.1 B3.2
        have l4 : b4.length ≤ 10 := by rw [e4]; exact Pk.encI_len _ B4.1 B4.2
        have C1 := int_of _ b1 B1 e1 W
        have C2 := int_of _ b2 B2 e2 W
        have C3 := int_of _ b3 B3 e3 W
        have C4 := int_of _ b4 B4 e4 W
        rw [← e1, ← e2, ← e3, ← e4] at hb
        clear e1 e2 e3 e4 B1 B2 B3 B4 d0 d1 d2 d3 d4 d5
        obtain ⟨s1, f1⟩ : ∃ x, x = s ++ b1 := ⟨_, rfl⟩
        obtain ⟨s2, f2⟩ : ∃ x, x = s1 ++ b2 := ⟨_, rfl⟩
        obtain ⟨s3, f3⟩ : ∃ x, x = s2 ++ b3 := ⟨_, rfl⟩
        obtain ⟨s4, f4⟩ : ∃ x, x = s3 ++ b4 := ⟨_, rfl⟩
        have F : Hid (bts cap over f (k + 1) = s4) := by unfold Hid; rw [hb, f4, f3, f2, f1]; simp
        have m1 : s1.length ≤ 8030 := by rw [f1, List.length_append]; omega
        have m2 : s2.length ≤ 8040 := by rw [f2, List.length_append]; omega
        have m3 : s3.length ≤ 8050 := by rw [f3, List.length_append]; omega
        have a1 := str_add s b1 (by omega)
        have a2 := str_add s1 b2 (by omega)
        have a3 := str_add s2 b3 (by omega)
        have a4 := str_add s3 b4 (by omega)
        have q1 := size_add2 (a := s) (b := b1) (by omega)
        have q2 := size_add2 (a := s1) (b := b2) (by omega)
        have q3 := size_add2 (a := s2) (b := b3) (by omega)
        have q4 := size_add2 (a := s3) (b := b4) (by omega)
        have t1 := str_cat s b1
        have t2 := str_cat s1 b2
        have t3 := str_cat s2 b3
        have t4 := str_cat s3 b4
        rw [← f1] at a1 t1
        rw [← f2] at a2 t2
        rw [← f3] at a3 t3
        rw [← f4] at a4 t4
        have x0 : W.cell? ⟨wr.heap.size, 0, none⟩ = some (.int .i64 st) := one_at hB.out
        have z0 := cell_regrown x0
        have z1 := cell_regrown (show W.cell? ⟨wr.heap.size, 1, none⟩ = some (.int .i64 un) from one_at hB.out)
        have z2 := cell_regrown (show W.cell? ⟨wr.heap.size, 2, none⟩ = some (.int .i64 ut) from one_at hB.out)
        have hk3 : Hid (k + 1 ≤ 200) := by unfold Hid; omega
        clear f1 f2 f3 f4 m1 m2 m3 l1 l2 l3 l4 ls hb hs hp g c0 c1 c2 c3 c4 hk hk2
        go_upto_region 7 with fail
        refine wp_region_quiet_below (by kernel_rfl) (by kernel_rfl) ?_
        repeat (go_big_quiet_step (first | with_reducible exact C1 _ _ | with_reducible exact C2 _ _ | with_reducible exact C3 _ _ | with_reducible exact C4 _ _))
        refine wpQuiet_nil ?_
        intro w2 hw'
        obtain ⟨⟨dq, osq⟩, hw''⟩ := hw'
        have be2 : Hid (RowKit.Below w.heap.size w w2) := by rw [hw'']; exact bW.out.trans ((below_regrown W dq osq).mono bW.out.size)
        have nx : Hid (ByAt w cap over f (.string (str s4)) (.int .i64 ((k : Int) + 1 + 1)) w2) := ⟨k + 1, by rw [F.out], by simp, hk3.out, be2.out⟩
        clear hw'' z0 z1 z2 C1 C2 C3 C4 x0
        go_wp2_with fail
        exact ⟨nx.out, by
          have h3 : k + 1 ≤ 200 := hk3.out
          simp [intOf]
          omega⟩
    · have i1 : ¬ (k : Int) + 1 ≤ 200 := by omega
      have EX : Hid (bts cap over f 200 = s ∧ Below w.heap.size w wr) := by
        obtain rfl : k = 200 := by omega
        exact ⟨hs.symm, be⟩
      clear hs ls D2 be
      go_wp2
      go_ret
      rw [EX.out.1]
      exact ⟨rfl, EX.out.2⟩
end St
end Go.Proofs.YtchlbkfkecpodaaGreat

namespace Go.Proofs.YtchlbkfkecpodaaGreat
set_option maxRecDepth 100000
open Go.RowKit Go.Sort
open Go.Proofs.YtchlbkfkecpodaaGreat.Pk (one_at one_free one_set lt_some grown_set grown_trans below_grown grown_refl)
namespace St
open Wt (Opn mayOp refmayop_any)

theorem mayop_bds {o : Opn} (h : mayOp o = true) : 1 ≤ o.kind ∧ o.kind ≤ 6 ∧ 1 ≤ o.book ∧ o.book ≤ 200 := by
  refine Decidable.byContradiction fun hn => ?_
  rw [Wt.mayop_out (by omega)] at h
  cases h
/-- What the document's Do leaves. -/
def RDo (w : World) (p : Nat) (cap over now : Int) (f : F) (o : Opn) (e : Ending) (w' : World) : Prop := e = .returned (.int .i64 (dstp cap over f o now).2) ∧ Ds w' p cap over (dstp cap over f o now).1 ∧ Kt p 1007 (fun g => g = p) w w'
set_option maxHeartbeats 6400000 in
theorem refdo_any (w : World) (p : Nat) (cap over now : Int) (f : F) (D : Ds w p cap over f) (O : Ok cap over f) (o : Opn) : Calls Tryz.prog 26 #[.pointer (some ⟨p, 0, none⟩), opv o, .int .i64 now] w (RDo w p cap over now f o) := by
  obtain ⟨W0, hW0⟩ : ∃ W, W = w.alloc (.cells #[.int .i64 o.kind, .int .i64 o.book, .int .i64 o.units, .int .i64 o.cust, .int .i64 o.amount] 43) := ⟨_, rfl⟩
  have B0 : Hid (Below w.heap.size w W0) := by rw [hW0]; exact (Below.refl _ _).alloc (Nat.le_refl _) _
  have h0 : Hid (W0.heap[w.heap.size]? = some (.cells #[.int .i64 o.kind, .int .i64 o.book, .int .i64 o.units, .int .i64 o.cust, .int .i64 o.amount] 43 (0, 0))) := by rw [hW0]; exact heap_alloc_new _ _
  have MO := Lib.hid (refmayop_any W0 o)
  have TM := Lib.hid (fun w => reftime_any w now)
  have plt : Hid (p < w.heap.size) := D.lt
  replace hW0 := Lib.hid hW0
  have NO : Hid (mayOp o = false ∨ 3 < o.kind ∨ tick now = false → ∀ w', Below w.heap.size w w' → RDo w p cap over now f o (.returned (.int .i64 2)) w') := by
    intro h w' hb
    have e : dstp cap over f o now = (f, 2) := by
      unfold dstp stp
      rcases h with h | h | h
      · rw [h]; rfl
      · cases hc : (mayOp o && tick now) with
        | false => rfl
        | true => rw [if_neg (by decide), if_neg (by omega), if_neg (by omega), if_neg (by omega)]
      · rw [h, Bool.and_false]; rfl
    unfold RDo
    rw [e]
    exact ⟨rfl, D.below hb, .of_below D.lt hb⟩
  cases hm : mayOp o with
  | false =>
    rw [hm] at MO
    have N := Lib.hid (NO.out (.inl hm))
    clear NO hm D
    unfold opv
    have x0 : W0.cell? ⟨w.heap.size, 0, none⟩ = some (.int .i64 o.kind) := one_at h0.out
    have x1 : W0.cell? ⟨w.heap.size, 1, none⟩ = some (.int .i64 o.book) := one_at h0.out
    have x2 : W0.cell? ⟨w.heap.size, 2, none⟩ = some (.int .i64 o.units) := one_at h0.out
    have x3 : W0.cell? ⟨w.heap.size, 3, none⟩ = some (.int .i64 o.cust) := one_at h0.out
    have x4 : W0.cell? ⟨w.heap.size, 4, none⟩ = some (.int .i64 o.amount) := one_at h0.out
    go_enter Tryz.func26, Tryz.ntmps26
    go_wp2_with fail
    rw [← hW0.out]
    go_wp2_with fail
    refine MO.out.mono ?_
    rintro e w1 ⟨rfl, h1⟩
    have F := Lib.hid (N.out w1 (B0.out.trans (h1.mono B0.out.size)))
    clear x0 x1 x2 x3 x4 h1 MO h0 B0 hW0 N
    go_wp2_with fail
    go_ret
    exact F.out
  | true =>
    rw [hm] at MO
    obtain ⟨k1, k6, b1, b2⟩ := mayop_bds hm
    by_cases h3 : o.kind ≤ 3
    · cases ht : tick now with
      | false =>
        rw [ht] at TM
        have N := Lib.hid (NO.out (.inr (.inr ht)))
        have g3 : decide (3 < o.kind) = false := decide_eq_false (by omega)
        clear NO hm D ht
        unfold opv
        have x0 : W0.cell? ⟨w.heap.size, 0, none⟩ = some (.int .i64 o.kind) := one_at h0.out
        have x1 : W0.cell? ⟨w.heap.size, 1, none⟩ = some (.int .i64 o.book) := one_at h0.out
        have x2 : W0.cell? ⟨w.heap.size, 2, none⟩ = some (.int .i64 o.units) := one_at h0.out
        have x3 : W0.cell? ⟨w.heap.size, 3, none⟩ = some (.int .i64 o.cust) := one_at h0.out
        have x4 : W0.cell? ⟨w.heap.size, 4, none⟩ = some (.int .i64 o.amount) := one_at h0.out
        go_enter Tryz.func26, Tryz.ntmps26
        go_wp2_with fail
        rw [← hW0.out]
        go_wp2_with fail
        refine MO.out.mono ?_
        rintro e w1 ⟨rfl, h1⟩
        have y0 : w1.cell? ⟨w.heap.size, 0, none⟩ = some (.int .i64 o.kind) := one_at ((h1.block _ (lt_some h0.out)).trans h0.out)
        have F := Lib.hid (N.out w1 (B0.out.trans (h1.mono B0.out.size)))
        clear x0 x1 x2 x3 x4 h1 MO h0 B0 hW0 N
        go_wp2_with fail
        refine (TM.out _).mono ?_
        rintro e w2 ⟨rfl, rfl⟩
        go_wp2_with fail
        go_ret
        exact F.out
      | true =>
        rw [ht] at TM
        have EQ : Hid (dstp cap over f o now = stp cap over f true o.kind o.book o.units now) := by unfold Hid dstp; rw [hm, ht]; rfl
        obtain ⟨t0, t1⟩ := tick_iff.1 ht
        clear NO
        obtain ⟨kd, bk, un, cu, am⟩ := o
        unfold opv
        dsimp only at *
        obtain ⟨kb, rfl⟩ : ∃ k : Nat, bk = (k : Int) := ⟨bk.toNat, by omega⟩
        have k200 : kb ≤ 200 := by omega
        have g3 : decide (3 < kd) = false := decide_eq_false (by omega)
        have x0 : W0.cell? ⟨w.heap.size, 0, none⟩ = some (.int .i64 kd) := one_at h0.out
        have x1 : W0.cell? ⟨w.heap.size, 1, none⟩ = some (.int .i64 (kb : Int)) := one_at h0.out
        have x2 : W0.cell? ⟨w.heap.size, 2, none⟩ = some (.int .i64 un) := one_at h0.out
        have x3 : W0.cell? ⟨w.heap.size, 3, none⟩ = some (.int .i64 cu) := one_at h0.out
        have x4 : W0.cell? ⟨w.heap.size, 4, none⟩ = some (.int .i64 am) := one_at h0.out
        obtain ⟨⟨st, eu, et⟩, hE⟩ : ∃ E, E = f (kb : Int) := ⟨_, rfl⟩
        have SH : Shp (kb : Int) ⟨st, eu, et⟩ := by rw [hE]; exact O.shp _
        have EX : Hid (∀ (f' : F) (r : Int) (w' : World), stp cap over f true kd kb un now = (f', r) → Ds w' p cap over f' → Kt p 1007 (fun g => g = p) w w' → RDo w p cap over now f ⟨kd, kb, un, cu, am⟩ (.returned (.int .i64 r)) w') := by
          intro f' r w' h1 h2 h3
          unfold RDo
          rw [EQ.out, h1]
          exact ⟨rfl, h2, h3⟩
        have b200 : (kb : Int) < 201 := by omega
        have b0 : (0 : Int) ≤ (kb : Int) := by omega
        go_enter Tryz.func26, Tryz.ntmps26
        go_wp2_with fail
        rw [← hW0.out]
        go_wp2_with fail
        refine MO.out.mono ?_
        rintro e w1 ⟨rfl, h1⟩
        have B1 : Hid (Below w.heap.size w w1) := B0.out.trans (h1.mono B0.out.size)
        have H1 : Hid (w1.heap[w.heap.size]? = some (.cells #[.int .i64 kd, .int .i64 kb, .int .i64 un, .int .i64 cu, .int .i64 am] 43 (0, 0))) := (h1.block _ (lt_some h0.out)).trans h0.out
        have D1 := D.below B1.out
        have y0 : w1.cell? ⟨w.heap.size, 0, none⟩ = some (.int .i64 kd) := one_at H1.out
        have y1 : w1.cell? ⟨w.heap.size, 1, none⟩ = some (.int .i64 (kb : Int)) := one_at H1.out
        have y2 : w1.cell? ⟨w.heap.size, 2, none⟩ = some (.int .i64 un) := one_at H1.out
        have c0 := D1.st k200
        have c1 := D1.un k200
        have c2 := D1.ut k200
        have c3 := D1.z3 k200
        have c4 := D1.z4 k200
        rw [← hE] at c0 c1 c2
        clear x0 x1 x2 x3 x4 h1 MO h0 B0 hW0
        go_wp2_with fail
        refine (TM.out _).mono ?_
        rintro e w2 ⟨rfl, rfl⟩
        have BZ : Below w1.heap.size w1 (w1.alloc (.cells #[.int .i64 0, .int .i64 0, .int .i64 0, .int .i64 0, .int .i64 0] 32)) := (Below.refl _ _).alloc (Nat.le_refl _) _
        have DZ := D1.below BZ
        have yz : (w1.alloc (.cells #[.int .i64 0, .int .i64 0, .int .i64 0, .int .i64 0, .int .i64 0] 32)).cell? ⟨w.heap.size, 1, none⟩ = some (.int .i64 (kb : Int)) := one_at ((BZ.block _ (lt_some H1.out)).trans H1.out)
        have d0 := DZ.st k200
        have d1 := DZ.un k200
        have d2 := DZ.ut k200
        have d3 := DZ.z3 k200
        have d4 := DZ.z4 k200
        rw [← hE] at d0 d1 d2
        clear BZ DZ
        go_wp2_with fail
        go_region
        obtain ⟨w3, hw3⟩ : ∃ X, X = (w1.alloc (.cells #[.int .i64 st, .int .i64 eu, .int .i64 et, .int .i64 0, .int .i64 0] 32)).drew := ⟨_, rfl⟩
        rw [← hw3]
        have B3 : Below w1.heap.size w1 w3 := by
          have h := (Below.refl w1.heap.size w1).alloc (Nat.le_refl _) (.cells #[.int .i64 st, .int .i64 eu, .int .i64 et, .int .i64 0, .int .i64 0] 32)
          rw [hw3]
          exact ⟨h.os, h.tape, h.output, h.size, h.block⟩
        have E3 : w3.heap[w1.heap.size]? = some (.cells #[.int .i64 st, .int .i64 eu, .int .i64 et, .int .i64 0, .int .i64 0] 32 (0, 0)) := by rw [hw3]; show (w1.alloc (.cells #[.int .i64 st, .int .i64 eu, .int .i64 et, .int .i64 0, .int .i64 0] 32)).heap[w1.heap.size]? = _; exact heap_alloc_new _ _
        have H3 : w3.heap[w.heap.size]? = some (.cells #[.int .i64 kd, .int .i64 kb, .int .i64 un, .int .i64 cu, .int .i64 am] 43 (0, 0)) := (B3.block _ (lt_some H1.out)).trans H1.out
        obtain ⟨W4, hW4⟩ : ∃ X, X = w3.alloc (.cells #[.int .i64 3, .int .i64 0, .int .i64 0, .int .i64 0, .int .i64 0] 32) := ⟨_, rfl⟩
        have B4 : Below w3.heap.size w3 W4 := by rw [hW4]; exact (Below.refl _ _).alloc (Nat.le_refl _) _
        have G4 : Hid (W4.heap[w3.heap.size]? = some (.cells #[.int .i64 3, .int .i64 0, .int .i64 0, .int .i64 0, .int .i64 0] 32 (0, 0))) := by rw [hW4]; exact heap_alloc_new _ _
        have E4 : Hid (W4.heap[w1.heap.size]? = some (.cells #[.int .i64 st, .int .i64 eu, .int .i64 et, .int .i64 0, .int .i64 0] 32 (0, 0))) := (B4.block _ (lt_some E3)).trans E3
        have H4 : Hid (W4.heap[w.heap.size]? = some (.cells #[.int .i64 kd, .int .i64 kb, .int .i64 un, .int .i64 cu, .int .i64 am] 43 (0, 0))) := (B4.block _ (lt_some H3)).trans H3
        have BW : Hid (Below w.heap.size w W4) := (B1.out.trans (B3.mono B1.out.size)).trans (B4.mono (Nat.le_trans B1.out.size B3.size))
        have D4 : Hid (Ds W4 p cap over f) := D.below BW.out
        have K4 : Hid (Kt p 1007 (fun g => g = p) w W4) := .of_below plt.out BW.out
        have DR : Hid (Ds W4.drew p cap over f) := D4.out.keep rfl
        have KR : Hid (Kt p 1007 (fun g => g = p) w W4.drew) := K4.out.heap rfl rfl rfl rfl
        have th : Hid (W4.drew.there p (2 + kb * 5) 5) := DR.out.there k200
        have y0 : W4.cell? ⟨w.heap.size, 0, none⟩ = some (.int .i64 kd) := one_at H4.out
        have y1 : W4.cell? ⟨w.heap.size, 1, none⟩ = some (.int .i64 (kb : Int)) := one_at H4.out
        have y2 : W4.cell? ⟨w.heap.size, 2, none⟩ = some (.int .i64 un) := one_at H4.out
        have e0 : W4.cell? ⟨w1.heap.size, 0, none⟩ = some (.int .i64 st) := one_at E4.out
        have e1 : W4.cell? ⟨w1.heap.size, 1, none⟩ = some (.int .i64 eu) := one_at E4.out
        have e2 : W4.cell? ⟨w1.heap.size, 2, none⟩ = some (.int .i64 et) := one_at E4.out
        have v0 : W4.cell? ⟨w3.heap.size, 0, none⟩ = some (.int .i64 3) := one_at G4.out
        have v1 : W4.cell? ⟨w3.heap.size, 1, none⟩ = some (.int .i64 0) := one_at G4.out
        have v2 : W4.cell? ⟨w3.heap.size, 2, none⟩ = some (.int .i64 0) := one_at G4.out
        have v3 : W4.cell? ⟨w3.heap.size, 3, none⟩ = some (.int .i64 0) := one_at G4.out
        have v4 : W4.cell? ⟨w3.heap.size, 4, none⟩ = some (.int .i64 0) := one_at G4.out
        replace k200 := Lib.hid k200
        replace hE := Lib.hid hE.symm
        replace SH := Lib.hid SH
        have FR := Lib.hid (fun n => reffree_any (W4.drewN n) p cap over f (D4.out.keep rfl) O)
        replace hW4 := Lib.hid hW4
        replace O := Lib.hid O
        clear d0 d1 d2 d3 d4 c0 c1 c2 c3 c4 yz hw3 B3 E3 H3 B4 D D1 EQ plt hm ht TM
        go_upto_region 5 with fail
        rw [← hW4.out]
        clear hW4
        by_cases q3 : kd = 3
        · subst q3
          go_upto_region 6 with fail
          go_still_tail 7, (by kernel_rfl)
          change wpList _ _ _ _ _ W4.drew
          go_wp2_with (refine wpList_store_mid rfl 32 (.tmp 40) (.tmp 37) rfl p (2 + kb * 5) (entc eg).toArray rfl rfl th.out entry_size (entc_one _) ?_; have D5 : Hid (Ds (W4.drew.setCells p (2 + kb * 5) (entc eg).toArray.toList) p cap over (upd f (kb : Int) eg)) := DR.out.put k200.out eg; have K5 : Hid (Kt p 1007 (fun g => g = p) w (W4.drew.setCells p (2 + kb * 5) (entc eg).toArray.toList)) := KR.out.self (Kt.of_ent _ _ k200.out _); generalize W4.drew.setCells p (2 + kb * 5) (entc eg).toArray.toList = w5 at D5 K5 ⊢)
          go_ret
          exact EX.out _ _ _ (by unfold stp; rfl) D5.out K5.out
        · have n3 : (kd == 3) = false := by simpa using q3
          by_cases s3 : st = 3
          · subst s3
            have P : Hid (stp cap over f true kd kb un now = (f, 2)) := by
              have hg : f (kb : Int) = eg := SH.out.gone rfl ▸ hE.out
              unfold Hid stp
              rw [if_neg (by decide), hg]
              by_cases h1 : kd = 1
              · rw [if_pos h1, if_neg (by decide), if_neg (fun h => h.1 rfl)]
              · rw [if_neg h1, if_pos (by omega), if_neg (by decide), if_neg (fun h => by have := h.1; revert this; decide), upd_id hg]
            go_wp2
            go_ret
            exact EX.out _ _ _ (P.out) D4.out K4.out
          · have n4 : (st == 3) = false := by simpa using s3
            by_cases q1 : kd = 1
            · subst q1
              by_cases s0 : st = 0
              · subst s0
                by_cases hr : un ≤ room cap over f
                · have P : Hid (stp cap over f true 1 kb un now = (upd f kb ⟨1, un, now + 60⟩, 1)) := by unfold Hid stp; rw [if_neg (by decide), if_pos rfl, if_pos (by rw [hE.out]), if_pos hr]
                  have hd : decide (room cap over f < un) = false := decide_eq_false (by omega)
                  obtain ⟨r, hr2⟩ : ∃ r, r = room cap over f := ⟨_, rfl⟩
                  rw [← hr2] at FR hd
                  obtain ⟨n6, hn6⟩ : ∃ x, x = now + 60 := ⟨_, rfl⟩
                  have ad : IntKind.i64.wrap (now + 60) = n6 := by rw [hn6, IntKind.wrap_i64]; omega
                  rw [← hn6] at P
                  clear hr2 hr hn6
                  go_upto_region 11 with fail
                  go_quiet ((go_at_call 35; exact Calls.quiet_of (FR.out _)))
                  generalize hW6 : World.drewN _ _ = W6
                  have D6 : Hid (Ds W6.drew p cap over f) := by rw [← hW6]; exact D4.out.keep rfl
                  have K6 : Hid (Kt p 1007 (fun g => g = p) w W6.drew) := by rw [← hW6]; exact K4.out.heap rfl rfl rfl rfl
                  have th6 : Hid (W6.drew.there p (2 + kb * 5) 5) := D6.out.there k200.out
                  have z1 : W6.cell? ⟨w.heap.size, 1, none⟩ = some (.int .i64 (kb : Int)) := by rw [← hW6]; exact y1
                  have z2 : W6.cell? ⟨w.heap.size, 2, none⟩ = some (.int .i64 un) := by rw [← hW6]; exact y2
                  have j0 : W6.cell? ⟨w3.heap.size, 0, none⟩ = some (.int .i64 3) := by rw [← hW6]; exact v0
                  have j1 : W6.cell? ⟨w3.heap.size, 1, none⟩ = some (.int .i64 0) := by rw [← hW6]; exact v1
                  have j2 : W6.cell? ⟨w3.heap.size, 2, none⟩ = some (.int .i64 0) := by rw [← hW6]; exact v2
                  have j3 : W6.cell? ⟨w3.heap.size, 3, none⟩ = some (.int .i64 0) := by rw [← hW6]; exact v3
                  have j4 : W6.cell? ⟨w3.heap.size, 4, none⟩ = some (.int .i64 0) := by rw [← hW6]; exact v4
                  clear hW6 y0 y1 y2 v0 v1 v2 v3 v4 e0 e1 e2 FR DR KR th
                  go_upto_region 14 with fail
                  go_still_tail 11, (by kernel_rfl)
                  change wpList _ _ _ _ _ W6.drew
                  go_wp2_with (refine wpList_store_mid rfl 32 (.tmp 76) (.tmp 73) rfl p (2 + kb * 5) (entc ⟨1, un, n6⟩).toArray rfl rfl th6.out entry_size (entc_one _) ?_; have D5 : Hid (Ds (W6.drew.setCells p (2 + kb * 5) (entc ⟨1, un, n6⟩).toArray.toList) p cap over (upd f (kb : Int) ⟨1, un, n6⟩)) := D6.out.put k200.out ⟨1, un, n6⟩; have K5 : Hid (Kt p 1007 (fun g => g = p) w (W6.drew.setCells p (2 + kb * 5) (entc ⟨1, un, n6⟩).toArray.toList)) := K6.out.self (Kt.of_ent _ _ k200.out _); generalize W6.drew.setCells p (2 + kb * 5) (entc ⟨1, un, n6⟩).toArray.toList = w5 at D5 K5 ⊢)
                  go_ret
                  exact EX.out _ _ _ (P.out) D5.out K5.out
                · have P : Hid (stp cap over f true 1 kb un now = (upd f kb eg, 2)) := by unfold Hid stp; rw [if_neg (by decide), if_pos rfl, if_pos (by rw [hE.out]), if_neg hr]
                  have hd : decide (room cap over f < un) = true := decide_eq_true (by omega)
                  obtain ⟨r, hr2⟩ : ∃ r, r = room cap over f := ⟨_, rfl⟩
                  rw [← hr2] at FR hd
                  clear hr2 hr
                  go_upto_region 11 with fail
                  go_quiet ((go_at_call 35; exact Calls.quiet_of (FR.out _)))
                  generalize hW6 : World.drewN _ _ = W6
                  have D6 : Hid (Ds W6.drew p cap over f) := by rw [← hW6]; exact D4.out.keep rfl
                  have K6 : Hid (Kt p 1007 (fun g => g = p) w W6.drew) := by rw [← hW6]; exact K4.out.heap rfl rfl rfl rfl
                  have th6 : Hid (W6.drew.there p (2 + kb * 5) 5) := D6.out.there k200.out
                  have z1 : W6.cell? ⟨w.heap.size, 1, none⟩ = some (.int .i64 (kb : Int)) := by rw [← hW6]; exact y1
                  have z2 : W6.cell? ⟨w.heap.size, 2, none⟩ = some (.int .i64 un) := by rw [← hW6]; exact y2
                  have j0 : W6.cell? ⟨w3.heap.size, 0, none⟩ = some (.int .i64 3) := by rw [← hW6]; exact v0
                  have j1 : W6.cell? ⟨w3.heap.size, 1, none⟩ = some (.int .i64 0) := by rw [← hW6]; exact v1
                  have j2 : W6.cell? ⟨w3.heap.size, 2, none⟩ = some (.int .i64 0) := by rw [← hW6]; exact v2
                  have j3 : W6.cell? ⟨w3.heap.size, 3, none⟩ = some (.int .i64 0) := by rw [← hW6]; exact v3
                  have j4 : W6.cell? ⟨w3.heap.size, 4, none⟩ = some (.int .i64 0) := by rw [← hW6]; exact v4
                  clear hW6 y0 y1 y2 v0 v1 v2 v3 v4 e0 e1 e2 FR DR KR th
                  go_upto_region 12 with fail
                  go_still_tail 7, (by kernel_rfl)
                  change wpList _ _ _ _ _ W6.drew
                  go_wp2_with (refine wpList_store_mid rfl 32 (.tmp 65) (.tmp 62) rfl p (2 + kb * 5) (entc eg).toArray rfl rfl th6.out entry_size (entc_one _) ?_; have D5 : Hid (Ds (W6.drew.setCells p (2 + kb * 5) (entc eg).toArray.toList) p cap over (upd f (kb : Int) eg)) := D6.out.put k200.out eg; have K5 : Hid (Kt p 1007 (fun g => g = p) w (W6.drew.setCells p (2 + kb * 5) (entc eg).toArray.toList)) := K6.out.self (Kt.of_ent _ _ k200.out _); generalize W6.drew.setCells p (2 + kb * 5) (entc eg).toArray.toList = w5 at D5 K5 ⊢)
                  go_ret
                  exact EX.out _ _ _ (P.out) D5.out K5.out
              · have n0 : (st == 0) = false := by simpa using s0
                by_cases hu : eu = un
                · have P : Hid (stp cap over f true 1 kb un now = (f, 1)) := by unfold Hid stp; rw [if_neg (by decide), if_pos rfl, if_neg (by rw [hE.out]; exact s0), if_pos (by rw [hE.out]; exact ⟨s3, hu⟩)]
                  have n1 : (eu == un) = true := by simpa using hu
                  clear hu s0 s3
                  go_wp2
                  go_ret
                  exact EX.out _ _ _ (P.out) D4.out K4.out
                · have P : Hid (stp cap over f true 1 kb un now = (f, 2)) := by unfold Hid stp; rw [if_neg (by decide), if_pos rfl, if_neg (by rw [hE.out]; exact s0), if_neg (by rw [hE.out]; exact fun h => hu h.2)]
                  have n1 : (eu == un) = false := by simpa using hu
                  clear hu s0 s3
                  go_wp2
                  go_ret
                  exact EX.out _ _ _ (P.out) D4.out K4.out
            · obtain rfl : kd = 2 := by omega
              by_cases s0 : st = 0 ∨ (st = 1 ∧ et ≤ now)
              · have P : Hid (stp cap over f true 2 kb un now = (upd f kb eg, 2)) := by
                  unfold Hid stp
                  rw [if_neg (by decide), if_neg (by decide), if_pos rfl, if_neg (by rw [hE.out]; show ¬ st = 2; omega), if_neg (by rw [hE.out]; show ¬ (st = 1 ∧ now < et); omega)]
                by_cases z : st = 0
                · subst z
                  clear s0 s3
                  go_upto_region 21 with fail
                  go_still_tail 7, (by kernel_rfl)
                  change wpList _ _ _ _ _ W4.drew
                  go_wp2_with (refine wpList_store_mid rfl 32 (.tmp 113) (.tmp 110) rfl p (2 + kb * 5) (entc eg).toArray rfl rfl th.out entry_size (entc_one _) ?_; have D5 : Hid (Ds (W4.drew.setCells p (2 + kb * 5) (entc eg).toArray.toList) p cap over (upd f (kb : Int) eg)) := DR.out.put k200.out eg; have K5 : Hid (Kt p 1007 (fun g => g = p) w (W4.drew.setCells p (2 + kb * 5) (entc eg).toArray.toList)) := KR.out.self (Kt.of_ent _ _ k200.out _); generalize W4.drew.setCells p (2 + kb * 5) (entc eg).toArray.toList = w5 at D5 K5 ⊢)
                  go_ret
                  exact EX.out _ _ _ (P.out) D5.out K5.out
                · obtain ⟨rfl, h2⟩ : st = 1 ∧ et ≤ now := by omega
                  have n1 : decide (et ≤ now) = true := decide_eq_true h2
                  clear s0 s3 z
                  go_upto_region 21 with fail
                  go_still_tail 7, (by kernel_rfl)
                  change wpList _ _ _ _ _ W4.drew
                  go_wp2_with (refine wpList_store_mid rfl 32 (.tmp 113) (.tmp 110) rfl p (2 + kb * 5) (entc eg).toArray rfl rfl th.out entry_size (entc_one _) ?_; have D5 : Hid (Ds (W4.drew.setCells p (2 + kb * 5) (entc eg).toArray.toList) p cap over (upd f (kb : Int) eg)) := DR.out.put k200.out eg; have K5 : Hid (Kt p 1007 (fun g => g = p) w (W4.drew.setCells p (2 + kb * 5) (entc eg).toArray.toList)) := KR.out.self (Kt.of_ent _ _ k200.out _); generalize W4.drew.setCells p (2 + kb * 5) (entc eg).toArray.toList = w5 at D5 K5 ⊢)
                  go_ret
                  exact EX.out _ _ _ (P.out) D5.out K5.out
              · have P : Hid (stp cap over f true 2 kb un now = (upd f kb ⟨2, eu, 0⟩, 1)) := by
                  unfold Hid stp
                  rw [if_neg (by decide), if_neg (by decide), if_pos rfl]
                  by_cases h2 : st = 2
                  · have ht : et = 0 := by
                      rcases SH.out with h | ⟨_, _, h | h | h⟩
                      · have : st = 0 := h.1
                        omega
                      · have : st = 1 := h.1
                        omega
                      · exact h.2.2.2
                      · have : st = 3 := h.1
                        omega
                    rw [if_pos (by rw [hE.out]; exact h2), upd_id (by rw [hE.out, h2, ht])]
                  · rw [if_neg (by rw [hE.out]; exact h2), if_pos (by
                      rw [hE.out]
                      have := SH.out.bds
                      have h4 : (⟨st, eu, et⟩ : E).st = st := rfl
                      exact ⟨by show st = 1; omega, by show now < et; omega⟩), hE.out]
                have n0 : (st == 0) = false := by simpa using fun h => s0 (.inl h)
                by_cases z : st = 1
                · subst z
                  have n1 : decide (et ≤ now) = false := decide_eq_false (fun h => s0 (.inr ⟨rfl, h⟩))
                  clear s0 s3
                  go_upto_region 23 with fail
                  go_still_tail 9, (by kernel_rfl)
                  change wpList _ _ _ _ _ W4.drew
                  go_wp2_with (refine wpList_store_mid rfl 32 (.tmp 122) (.tmp 119) rfl p (2 + kb * 5) (entc ⟨2, eu, 0⟩).toArray rfl rfl th.out entry_size (entc_one _) ?_; have D5 : Hid (Ds (W4.drew.setCells p (2 + kb * 5) (entc ⟨2, eu, 0⟩).toArray.toList) p cap over (upd f (kb : Int) ⟨2, eu, 0⟩)) := DR.out.put k200.out ⟨2, eu, 0⟩; have K5 : Hid (Kt p 1007 (fun g => g = p) w (W4.drew.setCells p (2 + kb * 5) (entc ⟨2, eu, 0⟩).toArray.toList)) := KR.out.self (Kt.of_ent _ _ k200.out _); generalize W4.drew.setCells p (2 + kb * 5) (entc ⟨2, eu, 0⟩).toArray.toList = w5 at D5 K5 ⊢)
                  go_ret
                  exact EX.out _ _ _ (P.out) D5.out K5.out
                · have n1 : (st == 1) = false := by simpa using z
                  clear s0 s3 z
                  go_upto_region 23 with fail
                  go_still_tail 9, (by kernel_rfl)
                  change wpList _ _ _ _ _ W4.drew
                  go_wp2_with (refine wpList_store_mid rfl 32 (.tmp 122) (.tmp 119) rfl p (2 + kb * 5) (entc ⟨2, eu, 0⟩).toArray rfl rfl th.out entry_size (entc_one _) ?_; have D5 : Hid (Ds (W4.drew.setCells p (2 + kb * 5) (entc ⟨2, eu, 0⟩).toArray.toList) p cap over (upd f (kb : Int) ⟨2, eu, 0⟩)) := DR.out.put k200.out ⟨2, eu, 0⟩; have K5 : Hid (Kt p 1007 (fun g => g = p) w (W4.drew.setCells p (2 + kb * 5) (entc ⟨2, eu, 0⟩).toArray.toList)) := KR.out.self (Kt.of_ent _ _ k200.out _); generalize W4.drew.setCells p (2 + kb * 5) (entc ⟨2, eu, 0⟩).toArray.toList = w5 at D5 K5 ⊢)
                  go_ret
                  exact EX.out _ _ _ (P.out) D5.out K5.out
    · have N := Lib.hid (NO.out (.inr (.inl (by omega))))
      have g3 : decide (3 < o.kind) = true := decide_eq_true (by omega)
      clear NO hm D
      unfold opv
      have x0 : W0.cell? ⟨w.heap.size, 0, none⟩ = some (.int .i64 o.kind) := one_at h0.out
      have x1 : W0.cell? ⟨w.heap.size, 1, none⟩ = some (.int .i64 o.book) := one_at h0.out
      have x2 : W0.cell? ⟨w.heap.size, 2, none⟩ = some (.int .i64 o.units) := one_at h0.out
      have x3 : W0.cell? ⟨w.heap.size, 3, none⟩ = some (.int .i64 o.cust) := one_at h0.out
      have x4 : W0.cell? ⟨w.heap.size, 4, none⟩ = some (.int .i64 o.amount) := one_at h0.out
      go_enter Tryz.func26, Tryz.ntmps26
      go_wp2_with fail
      rw [← hW0.out]
      go_wp2_with fail
      refine MO.out.mono ?_
      rintro e w1 ⟨rfl, h1⟩
      have y0 : w1.cell? ⟨w.heap.size, 0, none⟩ = some (.int .i64 o.kind) := one_at ((h1.block _ (lt_some h0.out)).trans h0.out)
      have F := Lib.hid (N.out w1 (B0.out.trans (h1.mono B0.out.size)))
      clear x0 x1 x2 x3 x4 h1 MO h0 B0 hW0 N
      go_wp2_with fail
      go_ret
      exact F.out
end St
end Go.Proofs.YtchlbkfkecpodaaGreat

namespace Go.Proofs.YtchlbkfkecpodaaGreat
set_option maxRecDepth 100000
open Go.RowKit Go.Sort
open Go.Proofs.YtchlbkfkecpodaaGreat.Pk (one_at one_free one_set lt_some grown_set grown_trans below_grown grown_refl)
namespace St
open Wt (Opn mayOp)

def InsAt (w : World) (n : Nat) (i : Value) (wr : World) : Prop := ∃ k : Nat, i = .int .i64 k ∧ k ≤ n ∧ Below w.heap.size w wr
/-! ### the same -/
def SmAt2 (w : World) (i : Value) (wr : World) : Prop := ∃ b : Int, i = .int .i64 b ∧ -1 ≤ b ∧ b ≤ 202 ∧ Below w.heap.size w wr
set_option maxHeartbeats 6400000 in
theorem same_any (w : World) (B : Nat) (X : Nat → Prop) (w0 : World) (q p : Nat) (cap over : Int) (f : F) (V : Ow B X w0 w q cap over f) (D : Ds w p cap over f) :
    Calls Tryz.prog 15 #[.pointer (some ⟨q, 0, none⟩), .pointer (some ⟨p, 0, none⟩)] w fun e w' => e = .returned (.bool true) ∧ Below w.heap.size w w' := by
  have O := V.ok
  have OK := Lib.hid O
  have UN := Lib.hid (refunits_any w p cap over f D O)
  have VB : ∀ w', Below w.heap.size w w' → Ow B X w0 w' q cap over f := fun w' hb => V.below hb
  have DB : ∀ w', Below w.heap.size w w' → Ds w' p cap over f := fun w' hb => D.below hb
  have F1 : Hid (∀ w', Below w.heap.size w w' → Calls Tryz.prog 18 #[.pointer (some ⟨q, 0, none⟩)] w' fun e w'' => e = .returned (.int .i64 (room cap over f)) ∧ Below w.heap.size w w'') := fun w' hb => (ow_free (VB w' hb)).mono fun _ _ ⟨h1, h2⟩ => ⟨h1, hb.trans (h2.mono hb.size)⟩
  have F2 : Hid (∀ w', Below w.heap.size w w' → Calls Tryz.prog 35 #[.pointer (some ⟨p, 0, none⟩)] w' fun e w'' => e = .returned (.int .i64 (room cap over f)) ∧ Below w.heap.size w w'') := fun w' hb => (reffree_any w' p cap over f (DB w' hb) O).mono fun _ _ ⟨h1, m, h2⟩ => ⟨h1, by rw [h2]; exact hb.trans (below_drewN _ _)⟩
  have F3 : Hid (∀ w', Below w.heap.size w w' → Calls Tryz.prog 36 #[.pointer (some ⟨q, 0, none⟩)] w' fun e w'' => e = .returned (.int .i64 (uni 1 f)) ∧ Below w.heap.size w w'') := fun w' hb => (ow_held (VB w' hb)).mono fun _ _ ⟨h1, h2⟩ => ⟨h1, hb.trans (h2.mono hb.size)⟩
  have F4 : Hid (∀ w', Below w.heap.size w w' → Calls Tryz.prog 37 #[.pointer (some ⟨q, 0, none⟩)] w' fun e w'' => e = .returned (.int .i64 (uni 2 f)) ∧ Below w.heap.size w w'') := fun w' hb => (ow_conf (VB w' hb)).mono fun _ _ ⟨h1, h2⟩ => ⟨h1, hb.trans (h2.mono hb.size)⟩
  have F5 : Hid (∀ w', Below w.heap.size w w' → Calls Tryz.prog 31 #[.pointer (some ⟨q, 0, none⟩)] w' fun e w'' => ∃ A n c, e = .returned (.slice A n c) ∧ (∀ w3, Below w''.heap.size w'' w3 → (convert 54 9 (.slice A n c)).run Tryz.prog w3 = .ok (.string (Pk.str (bts cap over f 200))) w3) ∧ Below w.heap.size w w'') := fun w' hb => (ow_bytes (VB w' hb)).mono fun e w'' h => by
    obtain ⟨v, rfl, hr, h2⟩ := h
    obtain ⟨A, c, rfl⟩ := Pk.own_form hr
    exact ⟨A, _, c, rfl, fun w3 h3 => Pk.str_run (Pk.Rb.of_own (rb_below hr h3)), hb.trans (h2.mono hb.size)⟩
  have F6 : Hid (∀ w', Below w.heap.size w w' → Calls Tryz.prog 32 #[.pointer (some ⟨p, 0, none⟩)] w' fun e w'' => e = .returned (.string (Pk.str (bts cap over f 200))) ∧ Below w.heap.size w w'' ∧ Below w'.heap.size w' w'') := fun w' hb => (refbytes_any w' p cap over f (DB w' hb) O).mono fun _ _ ⟨h1, h2⟩ => ⟨h1, hb.trans (h2.mono hb.size), h2⟩
  replace VB := Lib.hid VB
  replace DB := Lib.hid DB
  generalize uni 1 f = u1 at *
  generalize uni 2 f = u2 at *
  generalize room cap over f = rm at *
  have p1 : (rm != rm) = false := by simp
  have p2 : (u1 != u1) = false := by simp
  have p3 : (u2 != u2) = false := by simp
  generalize Pk.str (bts cap over f 200) = bs at *
  have b0 : Below w.heap.size w w.drew := ⟨rfl, rfl, rfl, Nat.le_refl _, fun _ _ => rfl⟩
  clear V D O
  go_enter Tryz.func15, Tryz.ntmps15
  go_wp2_with fail
  refine UN.out.mono ?_
  rintro e w1 ⟨rfl, rfl⟩
  clear UN
  go_upto_region 2 with fail
  go_cut [38] from 14 to 38 (fun s38 wx => s38 = .bool false ∧ Below w.heap.size w wx)
  case first =>
    go_region_with ((first | (go_at_call 18; refine (F1.out _ (by assumption)).mono ?_; rintro e w6 ⟨rfl, h6⟩) | (go_at_call 35; refine (F2.out _ (by assumption)).mono ?_; rintro e w6 ⟨rfl, h6⟩) | (go_at_call 36; refine (F3.out _ (by assumption)).mono ?_; rintro e w6 ⟨rfl, h6⟩) | (go_at_call 37; refine (F4.out _ (by assumption)).mono ?_; rintro e w6 ⟨rfl, h6⟩) | (go_at_call 31; refine (F5.out _ (by assumption)).mono ?_; rintro e w6 ⟨A, n, c, rfl, hcv, h6⟩; have z6 := hcv _ (Below.refl _ _); replace hcv := Lib.hid hcv) | (go_at_call 32; refine (F6.out _ (by assumption)).mono ?_; rintro e w6 ⟨rfl, h6, h7⟩; (try have z6 := hcv.out _ h7); clear h7)))
    all_goals
      go_wp2
      go_meet
      case rel => exact ⟨by simp, by assumption⟩
  case rest =>
    obtain ⟨rfl, hb⟩ := hcut
    clear F1 F2 F3 F4 F5 F6 p1 p2 p3 b0
    have st : Hid (SmAt2 w (.int .i64 (-1)) wc) := ⟨-1, rfl, by omega, by omega, hb⟩
    clear hb
    go_wp2_with fail
    go_loopw [7] (fun i wr => SmAt2 w i wr) (fun i _ => (202 - intOf i).toNat)
    case atStart => exact st.out
    case round =>
      clear st
      obtain ⟨b, rfl, b0, b1, hb⟩ := hrel
      by_cases hk2 : b ≤ 201
      · by_cases hin : 1 ≤ b ∧ b ≤ 200
        · obtain ⟨j, rfl⟩ : ∃ j : Nat, b = (j : Int) := ⟨b.toNat, by omega⟩
          obtain ⟨h1, h2⟩ := hin
          have D := DB.out (wr.alloc (.cells #[.int .i64 0, .int .i64 0, .int .i64 0, .int .i64 0, .int .i64 0] 32)) (hb.alloc hb.size _)
          have c0 := D.st (k := j) (by omega)
          have c1 := D.un (k := j) (by omega)
          have c2 := D.ut (k := j) (by omega)
          have c3 := D.z3 (k := j) (by omega)
          have c4 := D.z4 (k := j) (by omega)
          have i1 : (j : Int) < 201 := by omega
          have i2 : (0 : Int) ≤ (j : Int) := by omega
          obtain ⟨⟨st, un, ut⟩, hE⟩ : ∃ E, E = f (j : Int) := ⟨_, rfl⟩
          rw [← hE] at c0 c1 c2
          have EQ := fun w => eq_ent_run w st un ut st un ut
          rw [decide_eq_true (rfl : (⟨st, un, ut⟩ : E) = ⟨st, un, ut⟩)] at EQ
          obtain ⟨W, hW⟩ : ∃ W, W = wr.alloc (.cells #[.int .i64 st, .int .i64 un, .int .i64 ut, .int .i64 0, .int .i64 0] 32) := ⟨_, rfl⟩
          have bW : Hid (Below w.heap.size w W) := by rw [hW]; exact hb.alloc hb.size _
          have hB : Hid (W.heap[wr.heap.size]? = some (.cells #[.int .i64 st, .int .i64 un, .int .i64 ut, .int .i64 0, .int .i64 0] 32 (0, 0))) := by rw [hW]; exact heap_alloc_new _ _
          have bD : Below W.heap.size W W.drew := ⟨rfl, rfl, rfl, Nat.le_refl _, fun _ _ => rfl⟩
          have x0 : W.cell? ⟨wr.heap.size, 0, none⟩ = _ := one_at (i := 0) hB.out
          have x1 : W.cell? ⟨wr.heap.size, 1, none⟩ = _ := one_at (i := 1) hB.out
          have x2 : W.cell? ⟨wr.heap.size, 2, none⟩ = _ := one_at (i := 2) hB.out
          have x3 : W.cell? ⟨wr.heap.size, 3, none⟩ = _ := one_at (i := 3) hB.out
          have x4 : W.cell? ⟨wr.heap.size, 4, none⟩ = _ := one_at (i := 4) hB.out
          replace hW := Lib.hid hW
          have EN : Hid (∀ w', Below W.heap.size W w' → Calls Tryz.prog 38 #[.pointer (some ⟨q, 0, none⟩), .int .i64 (j : Int)] w' fun e w'' => e = .returned (.agg #[.int .i64 st, .int .i64 un, .int .i64 ut, .int .i64 0, .int .i64 0]) ∧ Below W.heap.size W w'') := fun w' h => by
            have := ow_entry (VB.out w' (bW.out.trans (h.mono bW.out.size))) (j : Int) ⟨by omega, by omega⟩
            rw [← hE] at this
            exact this.mono fun _ _ ⟨e1, e2⟩ => ⟨e1, h.trans (e2.mono h.size)⟩
          clear D hb hE
          go_upto_region 10 with fail
          rw [← hW.out]
          clear hW
          go_cut [59] from 55 to 59 (fun s59 wx => s59 = .bool false ∧ Below w.heap.size w wx)
          case first =>
            go_region_with ((go_at_call 38; refine (EN.out _ (by assumption)).mono ?_; rintro e w6 ⟨rfl, h6⟩; have H6 := (h6.block _ (lt_some hB.out)).trans hB.out; have a0 : w6.cell? ⟨wr.heap.size, 0, none⟩ = _ := one_at (i := 0) H6; have a1 : w6.cell? ⟨wr.heap.size, 1, none⟩ = _ := one_at (i := 1) H6; have a2 : w6.cell? ⟨wr.heap.size, 2, none⟩ = _ := one_at (i := 2) H6; have a3 : w6.cell? ⟨wr.heap.size, 3, none⟩ = _ := one_at (i := 3) H6; have a4 : w6.cell? ⟨wr.heap.size, 4, none⟩ = _ := one_at (i := 4) H6; have b6 : Below w.heap.size w w6 := bW.out.trans (h6.mono bW.out.size)))
            all_goals
              go_wp2
              go_meet
              case rel => exact ⟨by simp, by assumption⟩
          case rest =>
            obtain ⟨rfl, hb⟩ := hcut
            have nx : Hid (SmAt2 w (.int .i64 ((j : Int) + 1)) wc) := ⟨(j : Int) + 1, rfl, by omega, by omega, hb⟩
            clear hb
            go_wp2
            exact ⟨nx.out, by simp [intOf]; omega⟩
        · have sc : b < 1 ∨ 200 < b := by omega
          have hz : f b = ez := by
            have hs := OK.out.shp b
            refine hs.zero ?_
            refine Decidable.byContradiction fun hn => ?_
            have := hs.inn hn
            omega
          have EQ := fun w => eq_ent_run w 0 0 0 0 0 0
          rw [decide_eq_true (rfl : (⟨0, 0, 0⟩ : E) = ⟨0, 0, 0⟩)] at EQ
          obtain ⟨W, hW⟩ : ∃ W, W = wr.alloc (.cells #[.int .i64 0, .int .i64 0, .int .i64 0, .int .i64 0, .int .i64 0] 32) := ⟨_, rfl⟩
          have bW : Hid (Below w.heap.size w W) := by rw [hW]; exact hb.alloc hb.size _
          have hB : Hid (W.heap[wr.heap.size]? = some (.cells #[.int .i64 0, .int .i64 0, .int .i64 0, .int .i64 0, .int .i64 0] 32 (0, 0))) := by rw [hW]; exact heap_alloc_new _ _
          have bD : Below W.heap.size W W.drew := ⟨rfl, rfl, rfl, Nat.le_refl _, fun _ _ => rfl⟩
          have x0 : W.cell? ⟨wr.heap.size, 0, none⟩ = _ := one_at (i := 0) hB.out
          have x1 : W.cell? ⟨wr.heap.size, 1, none⟩ = _ := one_at (i := 1) hB.out
          have x2 : W.cell? ⟨wr.heap.size, 2, none⟩ = _ := one_at (i := 2) hB.out
          have x3 : W.cell? ⟨wr.heap.size, 3, none⟩ = _ := one_at (i := 3) hB.out
          have x4 : W.cell? ⟨wr.heap.size, 4, none⟩ = _ := one_at (i := 4) hB.out
          replace hW := Lib.hid hW
          have EN : Hid (∀ w', Below W.heap.size W w' → Calls Tryz.prog 38 #[.pointer (some ⟨q, 0, none⟩), .int .i64 b] w' fun e w'' => e = .returned (.agg #[.int .i64 0, .int .i64 0, .int .i64 0, .int .i64 0, .int .i64 0]) ∧ Below W.heap.size W w'') := fun w' h => by
            have := ow_entry (VB.out w' (bW.out.trans (h.mono bW.out.size))) b ⟨by omega, by omega⟩
            rw [hz] at this
            exact this.mono fun _ _ ⟨e1, e2⟩ => ⟨e1, h.trans (e2.mono h.size)⟩
          clear hz hb hin
          by_cases h1 : 1 ≤ b
          · have h2 : ¬ b ≤ 200 := by omega
            clear sc
            go_upto_region 10 with fail
            rw [← hW.out]
            clear hW
            go_cut [59] from 55 to 59 (fun s59 wx => s59 = .bool false ∧ Below w.heap.size w wx)
            case first =>
              go_region_with ((go_at_call 38; refine (EN.out _ (by assumption)).mono ?_; rintro e w6 ⟨rfl, h6⟩; have H6 := (h6.block _ (lt_some hB.out)).trans hB.out; have a0 : w6.cell? ⟨wr.heap.size, 0, none⟩ = _ := one_at (i := 0) H6; have a1 : w6.cell? ⟨wr.heap.size, 1, none⟩ = _ := one_at (i := 1) H6; have a2 : w6.cell? ⟨wr.heap.size, 2, none⟩ = _ := one_at (i := 2) H6; have a3 : w6.cell? ⟨wr.heap.size, 3, none⟩ = _ := one_at (i := 3) H6; have a4 : w6.cell? ⟨wr.heap.size, 4, none⟩ = _ := one_at (i := 4) H6; have b6 : Below w.heap.size w w6 := bW.out.trans (h6.mono bW.out.size)))
              all_goals
                go_wp2
                go_meet
                case rel => exact ⟨by simp, by assumption⟩
            case rest =>
              obtain ⟨rfl, hb⟩ := hcut
              have nx : Hid (SmAt2 w (.int .i64 (b + 1)) wc) := ⟨b + 1, rfl, by omega, by omega, hb⟩
              clear hb
              go_wp2
              exact ⟨nx.out, by simp [intOf]; omega⟩
          · clear sc
            go_upto_region 10 with fail
            rw [← hW.out]
            clear hW
            go_cut [59] from 55 to 59 (fun s59 wx => s59 = .bool false ∧ Below w.heap.size w wx)
            case first =>
              go_region_with ((go_at_call 38; refine (EN.out _ (by assumption)).mono ?_; rintro e w6 ⟨rfl, h6⟩; have H6 := (h6.block _ (lt_some hB.out)).trans hB.out; have a0 : w6.cell? ⟨wr.heap.size, 0, none⟩ = _ := one_at (i := 0) H6; have a1 : w6.cell? ⟨wr.heap.size, 1, none⟩ = _ := one_at (i := 1) H6; have a2 : w6.cell? ⟨wr.heap.size, 2, none⟩ = _ := one_at (i := 2) H6; have a3 : w6.cell? ⟨wr.heap.size, 3, none⟩ = _ := one_at (i := 3) H6; have a4 : w6.cell? ⟨wr.heap.size, 4, none⟩ = _ := one_at (i := 4) H6; have b6 : Below w.heap.size w w6 := bW.out.trans (h6.mono bW.out.size)))
              all_goals
                go_wp2
                go_meet
                case rel => exact ⟨by simp, by assumption⟩
            case rest =>
              obtain ⟨rfl, hb⟩ := hcut
              have nx : Hid (SmAt2 w (.int .i64 (b + 1)) wc) := ⟨b + 1, rfl, by omega, by omega, hb⟩
              clear hb
              go_wp2
              exact ⟨nx.out, by simp [intOf]; omega⟩
      · have E := Lib.hid hb
        clear hb
        go_wp2
        go_ret
        exact ⟨rfl, E.out⟩
end St
end Go.Proofs.YtchlbkfkecpodaaGreat

namespace Go.Proofs.YtchlbkfkecpodaaGreat
set_option maxRecDepth 100000
open Go.RowKit Go.Sort
open Go.Proofs.YtchlbkfkecpodaaGreat.Pk (one_at one_free one_set lt_some grown_set grown_trans below_grown grown_refl)
namespace St
open Wt (Opn mayOp)

def stc (o : Stp) : Array Value := #[.int .i64 o.kind, .int .i64 o.o.kind, .int .i64 o.o.book, .int .i64 o.o.units, .int .i64 o.o.cust, .int .i64 o.o.amount, .int .i64 o.d, .int .i64 o.now, .bool o.raw]
theorem dstp_ok {cap over : Int} {f : F} (h : Ok cap over f) (o : Opn) (now : Int) : Ok cap over (dstp cap over f o now).1 := by
  unfold dstp
  refine ok_stp h (fun hh => ?_) (fun hh hk => ?_) (fun hh => ?_)
  · rw [Bool.and_eq_true] at hh
    exact (mayop_bds hh.1).2.2
  · rw [Bool.and_eq_true] at hh
    have h1 := hh.1
    unfold mayOp at h1
    rw [if_pos hk, Bool.and_eq_true, Bool.and_eq_true] at h1
    have h2 := h1.2.1
    unfold Wt.inR at h2
    simpa using h2
  · rw [Bool.and_eq_true] at hh
    exact hh.2
section
variable {B d q : Nat} {X : Nat → Prop} {w0 w w' : World} {cap over : Int} {f : F}
/-- The document's is written beside a ledger. -/
theorem Ow.side (O : Ow B X w0 w q cap over f) (K : Kq (fun g => g = d) w w') (hX : X d) (hB : B ≤ d) : Ow B X w0 w' q cap over f := by
  obtain ⟨fp, L, hf⟩ := O.ex
  refine ⟨⟨fp, L.keep K.size fun g hg => K.block g (L.size g hg) fun e => (hf g hg).2 (by rw [e]; exact hX), hf⟩, O.be.trans (K.below (fun g hg => by rw [hg]; exact hB) O.bs), Nat.le_trans O.bs K.size, fun g hg => Nat.lt_of_lt_of_le (O.xs g hg) K.size⟩
/-- What a copy leaves, and another one behind it. -/
theorem ow_copy2 (O : Ow B X w0 w q cap over f) : Calls Tryz.prog 29 #[.pointer (some ⟨q, 0, none⟩)] w fun e w' => ∃ q' fp', e = .returned (.pointer (some ⟨q', 0, none⟩)) ∧ (∀ g, fp' g → B ≤ g ∧ ¬ X g) ∧ Led w' q' cap over f fp' ∧ Ow B (fun g => X g ∨ fp' g) w0 w' q cap over f ∧ Below w.heap.size w w' := by
  obtain ⟨fp, L, hf⟩ := O.ex
  refine (copy_any w q cap over f fp L).mono ?_
  rintro e w' ⟨q', fp', rfl, hn, L', hb⟩
  refine ⟨q', fp', rfl, fun g hg => ⟨Nat.le_trans O.bs (hn g hg), fun hx => ?_⟩, L', (O.add hb).less fun g hg => ?_, hb⟩
  · have := O.xs g hx
    have := hn g hg
    omega
  · rcases hg with hg | hg
    · exact .inl hg
    · exact .inr ⟨hn g hg, L'.size g hg⟩
theorem Ow.of_copy {q' : Nat} {f' : F} {fp' : Nat → Prop} (L' : Led w q' cap over f fp') (hf : ∀ g, fp' g → B ≤ g ∧ ¬ X g) (h : OwTo B (fun g => X g ∨ fp' g) w0 w q cap over f' w') : Ow B X w0 w' q' cap over f :=
  ⟨⟨fp', L'.keep h.2.1 fun g hg => h.2.2 g (.inr hg), hf⟩, h.1.be, h.1.bs, fun g hg => h.1.xs g (.inl hg)⟩
end
/-- The program's ledger at q, the document's at d, the step's box at ob. -/
structure Md (B : World) (q d ob : Nat) (cap over : Int) (f1 f2 : F) (o : Stp) (W : World) : Prop where
  ow : Ow B.heap.size (fun g => g = ob ∨ g = d) B W q cap over f1
  ds : Ds W d cap over f2
  box : W.heap[ob]? = some (.cells (stc o) 45 (0, 0))
  dlt : B.heap.size ≤ d
  obd : ob ≠ d
  ok2 : Ok cap over f2
/-- The two, between rounds. -/
structure Pd (B : World) (q d : Nat) (cap over : Int) (f : F) (W : World) : Prop where
  ow : Ow B.heap.size (fun g => g = d) B W q cap over f
  ds : Ds W d cap over f
  dlt : B.heap.size ≤ d
section
variable {B W W' : World} {q d ob : Nat} {X : Nat → Prop} {cap over : Int} {f f1 f2 : F} {o : Stp}
theorem Pd.below (P : Pd B q d cap over f W) (hb : Below W.heap.size W W') : Pd B q d cap over f W' := ⟨P.ow.below hb, P.ds.below hb, P.dlt⟩
theorem Md.drew (M : Md B q d ob cap over f1 f2 o W) : Md B q d ob cap over f1 f2 o W.drew :=
  ⟨M.ow.below ⟨rfl, rfl, rfl, Nat.le_refl _, fun _ _ => rfl⟩, M.ds.keep rfl, M.box, M.dlt, M.obd, M.ok2⟩
theorem Pd.box (P : Pd B q d cap over f W) (o : Stp) : Md B q d W.heap.size cap over f f o (W.alloc (.cells (stc o) 45)) := by
  have hb : Below W.heap.size W (W.alloc (.cells (stc o) 45)) := (Below.refl _ _).alloc (Nat.le_refl _) _
  have hl := P.ds.lt
  refine ⟨(P.ow.add hb).less fun g hg => ?_, P.ds.below hb, heap_alloc_new _ _, P.dlt, by omega, P.ow.ok⟩
  rcases hg with hg | hg
  · exact .inr ⟨by omega, by rw [hg]; exact lt_some (heap_alloc_new W (.cells (stc o) 45))⟩
  · exact .inl hg
theorem pd_start (O : Ow B.heap.size X B W q cap over fz) : Pd B q W.heap.size cap over fz (W.alloc (.cells (stcs cap over fz) 35)) := by
  have hb : Below W.heap.size W (W.alloc (.cells (stcs cap over fz) 35)) := (Below.refl _ _).alloc (Nat.le_refl _) _
  refine ⟨(O.add hb).less fun g hg => .inr ⟨by omega, ?_⟩, .of_block (heap_alloc_new _ _), O.bs⟩
  rw [hg]
  exact lt_some (heap_alloc_new W (.cells (stcs cap over fz) 35))
theorem Md.pair (M : Md B q d ob cap over f f o W) : Pd B q d cap over f W := ⟨M.ow.less fun _ h => .inr h, M.ds, M.dlt⟩
theorem Md.cells (M : Md B q d ob cap over f1 f2 o W) : W.cell? ⟨ob, 0, none⟩ = some (.int .i64 o.kind) ∧ W.cell? ⟨ob, 1, none⟩ = some (.int .i64 o.o.kind) ∧ W.cell? ⟨ob, 2, none⟩ = some (.int .i64 o.o.book) ∧ W.cell? ⟨ob, 3, none⟩ = some (.int .i64 o.o.units) ∧ W.cell? ⟨ob, 4, none⟩ = some (.int .i64 o.o.cust) ∧ W.cell? ⟨ob, 5, none⟩ = some (.int .i64 o.o.amount) ∧ W.cell? ⟨ob, 6, none⟩ = some (.int .i64 o.d) ∧ W.cell? ⟨ob, 7, none⟩ = some (.int .i64 o.now) ∧ W.cell? ⟨ob, 8, none⟩ = some (.bool o.raw) :=
  ⟨one_at (i := 0) M.box, one_at (i := 1) M.box, one_at (i := 2) M.box, one_at (i := 3) M.box, one_at (i := 4) M.box, one_at (i := 5) M.box, one_at (i := 6) M.box, one_at (i := 7) M.box, one_at (i := 8) M.box⟩
theorem Md.be (M : Md B q d ob cap over f1 f2 o W) : Below B.heap.size B W := M.ow.be
theorem md_do (M : Md B q d ob cap over f1 f2 o W) (p : Opn) (now : Int) : Calls Tryz.prog 16 #[.pointer (some ⟨q, 0, none⟩), opv p, .int .i64 now] W fun e w' => e = .returned (.int .i64 (dstp cap over f1 p now).2) ∧ Md B q d ob cap over (dstp cap over f1 p now).1 f2 o w' := by
  refine (ow_do M.ow p now).mono ?_
  rintro e w' ⟨rfl, h1, h2, h3⟩
  exact ⟨rfl, h1, M.ds.keep (h3 d (.inr rfl)), (h3 ob (.inl rfl)).trans M.box, M.dlt, M.obd, M.ok2⟩
theorem mx_do (M : Md B q d ob cap over f1 f2 o W) (p : Opn) (now : Int) : Calls Tryz.prog 26 #[.pointer (some ⟨d, 0, none⟩), opv p, .int .i64 now] W fun e w' => e = .returned (.int .i64 (dstp cap over f2 p now).2) ∧ Md B q d ob cap over f1 (dstp cap over f2 p now).1 o w' := by
  refine (refdo_any W d cap over now f2 M.ds M.ok2 p).mono ?_
  rintro e w' ⟨rfl, h1, K⟩
  exact ⟨rfl, M.ow.side K.toKq (.inr rfl) M.dlt, h1, (K.block ob (lt_some M.box) M.obd).trans M.box, M.dlt, M.obd, dstp_ok M.ok2 p now⟩
theorem md_sweep (M : Md B q d ob cap over f1 f2 o W) (now : Int) : Calls Tryz.prog 19 #[.pointer (some ⟨q, 0, none⟩), .int .i64 now] W fun e w' => ∃ A c, e = .returned (.slice A (swL f1 now).length c) ∧ RowI w' W.heap.size (.slice A (swL f1 now).length c) (swL f1 now).length (ivs (swL f1 now)) ∧ W.heap.size ≤ w'.heap.size ∧ Md B q d ob cap over (swF f1 now) f2 o w' := by
  refine (ow_sweep M.ow now).mono ?_
  rintro e w' ⟨v, rfl, hr, h1, h2, h3⟩
  obtain ⟨A, c, rfl, _⟩ := ri_form hr
  exact ⟨A, c, rfl, hr, h2, h1, M.ds.keep (h3 d (.inr rfl)), (h3 ob (.inl rfl)).trans M.box, M.dlt, M.obd, M.ok2⟩
theorem mx_sweep {base n : Nat} {v : Value} {xs : List Value} (M : Md B q d ob cap over f1 f2 o W) (now : Int) (hr : RowI W base v n xs) (hb : d < base) : Calls Tryz.prog 8 #[.pointer (some ⟨d, 0, none⟩), .int .i64 now] W fun e w' => ∃ A c, e = .returned (.slice A (swL f2 now).length c) ∧ RowI w' W.heap.size (.slice A (swL f2 now).length c) (swL f2 now).length (ivs (swL f2 now)) ∧ RowI w' base v n xs ∧ Md B q d ob cap over f1 (swF f2 now) o w' := by
  refine (refsweep_any W d cap over now f2 M.ds M.ok2).mono ?_
  rintro e w' ⟨v2, rfl, h1, h2, K⟩
  obtain ⟨A, c, rfl, _⟩ := ri_form h1
  exact ⟨A, c, rfl, h1, row_off hr K fun g hg => by have := (ri_block hr hg).1; omega, M.ow.side K.toKq (.inr rfl) M.dlt, h2, (K.block ob (lt_some M.box) M.obd).trans M.box, M.dlt, M.obd, ok_swF M.ok2 now⟩
theorem swL_few (f : F) (now : Int) : (swL f now).length ≤ 200 := by
  unfold swL
  split
  · exact sel_len _ _ _
  · exact Nat.zero_le _
theorem pd_same (P : Pd B q d cap over f W) : Calls Tryz.prog 15 #[.pointer (some ⟨q, 0, none⟩), .pointer (some ⟨d, 0, none⟩)] W fun e w' => e = .returned (.bool true) ∧ Below W.heap.size W w' := same_any W B.heap.size _ B q d cap over f P.ow P.ds
end
theorem build_run (w : World) (cap over : Int) : (Instr.build 35 #[(0, .agg #[.int .i64 cap, .int .i64 over])]).run Tryz.prog w = .ok (.agg (stcs cap over fz)) w := by kernel_rfl
theorem box_run (w : World) (cs : Array Value) : (Instr.box 35 (.agg cs)).run Tryz.prog w = .ok (.pointer (some ⟨w.heap.size, 0, none⟩)) (w.alloc (.cells cs 35)) := by
  simp only [Instr.box, newVar, newRow, Sem.run_bind]
  kernel_rfl
section
variable {ops : Array Oper} {rest : List Oper} {o : Oper} {a : Act} {w : World} {Q : Exit → Act → World → Prop}
theorem wpList_build9 (hg : o.guard = none) (x : Operand) (ho : o.op = .build 35 #[(0, x)]) (cap over : Int) (hx : a.eval x = .agg #[.int .i64 cap, .int .i64 over])
    (h : wpList Tryz.prog ops Q rest (a.put o.dst (.agg (stcs cap over fz))) w) : wpList Tryz.prog ops Q (o :: rest) a w := by
  refine wpList_plain hg fun K hK => ?_
  unfold Oper.wp execOp
  have e : (#[(0, x)] : Array (Nat × Operand)).map (fun (i, y) => (i, a.eval y)) = #[(0, .agg #[.int .i64 cap, .int .i64 over])] := by simp [hx]
  simp only [ho, e, Sem.run_bind, build_run, Sem.run_pure, Result.andThen_ok]
  exact hK _ _ h
theorem wpList_box9 (hg : o.guard = none) (x : Operand) (ho : o.op = .box 35 x) (cs : Array Value) (hx : a.eval x = .agg cs)
    (h : wpList Tryz.prog ops Q rest (a.put o.dst (.pointer (some ⟨w.heap.size, 0, none⟩))) (w.alloc (.cells cs 35))) : wpList Tryz.prog ops Q (o :: rest) a w := by
  refine wpList_plain hg fun K hK => ?_
  unfold Oper.wp execOp
  simp only [ho, hx, Sem.run_bind, box_run, Sem.run_pure, Result.andThen_ok]
  exact hK _ _ h
end
theorem i64_and7 (n : Int) : bits .and .i64 n 7 = n % 8 := by
  have h3 : (BitVec.ofInt 64 7).toNat = 2 ^ 3 - 1 := by decide
  have key : (BitVec.ofInt 64 n &&& BitVec.ofInt 64 7).toNat = (n % ((2 ^ 64 : Nat) : Int)).toNat % 2 ^ 3 := by
    rw [BitVec.toNat_and, BitVec.toNat_ofInt, h3, Nat.and_two_pow_sub_one_eq_mod]
  show IntKind.i64.wrap ((BitVec.ofInt 64 n &&& BitVec.ofInt 64 7).toNat : Nat) = n % 8
  rw [key, IntKind.wrap_i64]
  omega
end St
end Go.Proofs.YtchlbkfkecpodaaGreat
