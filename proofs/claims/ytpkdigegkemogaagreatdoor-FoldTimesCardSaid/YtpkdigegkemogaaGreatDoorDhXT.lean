/- Parts of the claim: DsA, DsC, DsD, DtA, DtB, DtC, DhA, DtE -/
import Derived.Deep.QuietTactic
import Derived.BigQuiet
import Derived.Deep.MidRow
import Derived.StillTailTactics
import Derived.Lib.QuietBelow
import Derived.Test.YtpkdigegkemogaaGreatDoorSnXT
import Derived.Test.YtpkdigegkemogaaGreatDoorSoXT
import Derived.Test.YtpkdigegkemogaaGreatDoorTbXbT
import Derived.Test.YtpkdigegkemogaaGreatDoorWtXaT
import Derived.Test.YtpkdigegkemogaaGreatDoorHoXaT
import Derived.Test.YtpkdigegkemogaaGreatDoorNoXT
namespace Go.Proofs.YtpkdigegkemogaaGreatDoor
set_option maxRecDepth 100000
open Go.RowKit
open Go.Proofs.YtpkdigegkemogaaGreatDoor.Pk (one_at one_free one_set lt_some grown_set grown_trans grown_refl)
namespace St

def entc (e : E) : List Value := [.int .i64 e.st, .int .i64 e.un, .int .i64 e.ut, .int .i64 0, .int .i64 0]
def ents (f : F) : Nat → List Value
  | 0 => []
  | n + 1 => ents f n ++ entc (f (n : Int))
structure Ds (w : World) (p : Nat) (cap over : Int) (f : F) : Prop where
  lt : p < w.heap.size
  c0 : w.cell? ⟨p, 0, none⟩ = some (.int .i64 cap)
  c1 : w.cell? ⟨p, 1, none⟩ = some (.int .i64 over)
  ent : ∀ k : Nat, k ≤ 200 → w.rangeAt p (2 + k * 5) (entc (f (k : Int)))
  free : ∀ i, w.frozen? ⟨p, i, none⟩ = false
section
variable {w w' : World} {p : Nat} {cap over : Int} {f : F}
theorem Ds.keep (D : Ds w p cap over f) (h : w'.heap[p]? = w.heap[p]?) : Ds w' p cap over f := by
  have e : ∀ i, w'.cell? ⟨p, i, none⟩ = w.cell? ⟨p, i, none⟩ := fun i => World.cell?_of_block h
  refine ⟨?_, (e 0).trans D.c0, (e 1).trans D.c1, fun k hk j v hj => (e _).trans (D.ent k hk j v hj), fun i => ?_⟩
  · have := Array.getElem?_eq_getElem D.lt
    rw [← h] at this
    exact lt_some this
  · have := D.free i
    unfold World.frozen? at this ⊢
    simp only [h]
    exact this
theorem Ds.below (D : Ds w p cap over f) (hb : Below w.heap.size w w') : Ds w' p cap over f := D.keep (hb.block _ D.lt)
theorem Ds.st (D : Ds w p cap over f) {k : Nat} (hk : k ≤ 200) : w.cell? ⟨p, 2 + k * 5, none⟩ = some (.int .i64 (f k).st) := D.ent k hk 0 _ rfl
theorem Ds.un (D : Ds w p cap over f) {k : Nat} (hk : k ≤ 200) : w.cell? ⟨p, 2 + k * 5 + 1, none⟩ = some (.int .i64 (f k).un) := D.ent k hk 1 _ rfl
theorem Ds.ut (D : Ds w p cap over f) {k : Nat} (hk : k ≤ 200) : w.cell? ⟨p, 2 + k * 5 + 2, none⟩ = some (.int .i64 (f k).ut) := D.ent k hk 2 _ rfl
theorem Ds.z3 (D : Ds w p cap over f) {k : Nat} (hk : k ≤ 200) : w.cell? ⟨p, 2 + k * 5 + 3, none⟩ = some (.int .i64 0) := D.ent k hk 3 _ rfl
theorem Ds.z4 (D : Ds w p cap over f) {k : Nat} (hk : k ≤ 200) : w.cell? ⟨p, 2 + k * 5 + 4, none⟩ = some (.int .i64 0) := D.ent k hk 4 _ rfl
theorem Ds.there (D : Ds w p cap over f) {k : Nat} (hk : k ≤ 200) : w.there p (2 + k * 5) 5 := fun j hj => ⟨(D.ent k hk).isSome j hj, D.free _⟩
theorem setCells_block (p : Nat) : ∀ (vs : List Value) (o : Nat) (w : World), (w.setCells p o vs).heap.size = w.heap.size ∧ (w.setCells p o vs).os = w.os ∧ (w.setCells p o vs).tape = w.tape ∧ (w.setCells p o vs).output = w.output ∧ ∀ g, g ≠ p → (w.setCells p o vs).heap[g]? = w.heap[g]?
  | [], _, _ => ⟨rfl, rfl, rfl, rfl, fun _ _ => rfl⟩
  | v :: r, o, w => by
    obtain ⟨h1, h2, h3, h4, h5⟩ := setCells_block p r (o + 1) (w.setCell ⟨p, o, none⟩ v)
    rw [World.setCells]
    exact ⟨h1.trans (by simp [World.setCell]), h2, h3, h4, fun g hg => (h5 g hg).trans (Below.heap_setCell _ _ _ _ (fun e => hg e))⟩
theorem Kq.of_cells (w : World) (p o : Nat) (vs : List Value) : Kq (fun g => g = p) w (w.setCells p o vs) := by
  obtain ⟨h1, h2, h3, h4, h5⟩ := setCells_block p vs o w
  exact ⟨h2, h3, h4, by omega, fun g _ hn => h5 g hn⟩
theorem Kt.of_cells {n : Nat} (w : World) (p o : Nat) (vs : List Value) (h : o + vs.length ≤ n) : Kt p n (fun g => g = p) w (w.setCells p o vs) :=
  ⟨.of_cells w p o vs, fun i hi => World.cell?_setCells_out p _ _ w ⟨p, i, none⟩ (fun _ _ => .inr (by show o + vs.length ≤ i; omega))⟩
theorem Kt.of_ent (w : World) (p : Nat) {k : Nat} (hk : k ≤ 200) (e : E) : Kt p 1007 (fun g => g = p) w (w.setCells p (2 + k * 5) (entc e)) := .of_cells w p _ _ (by show 2 + k * 5 + 5 ≤ 1007; omega)
theorem Ds.put (D : Ds w p cap over f) {k : Nat} (hk : k ≤ 200) (e : E) : Ds (w.setCells p (2 + k * 5) (entc e)) p cap over (upd f (k : Int) e) := by
  refine ⟨by rw [(setCells_block p _ _ w).1]; exact D.lt, ?_, ?_, fun j hj => ?_, fun i => ?_⟩
  · rw [World.cell?_setCells_out p _ _ w ⟨p, 0, none⟩ (fun _ _ => .inl (by show 0 < 2 + k * 5; omega))]
    exact D.c0
  · rw [World.cell?_setCells_out p _ _ w ⟨p, 1, none⟩ (fun _ _ => .inl (by show 1 < 2 + k * 5; omega))]
    exact D.c1
  · by_cases h : j = k
    · subst h
      rw [upd_same]
      exact World.rangeAt_setCells_same w p _ _ (D.there hk)
    · rw [upd_other (by omega)]
      exact World.rangeAt_setCells_apart (D.ent j hj) p _ _ (.inr (by show 2 + j * 5 + 5 ≤ _ ∨ _ + 5 ≤ _; omega))
  · rw [World.frozen?_setCells]
    exact D.free i
end
theorem entry_size : (Tryz.prog.info? 37).map (·.size) = some 5 := by kernel_rfl
theorem entc_one (e : E) : (entc e).toArray.all (·.oneCell') = true := by simp [entc, Value.oneCell']
def UnsAt (w : World) (f : F) (h c i : Value) (wr : World) : Prop := ∃ k : Nat, i = .int .i64 ((k : Int) + 1) ∧ k ≤ 200 ∧ h = .int .i64 (part (fun x => hu 1 (f x)) k) ∧ c = .int .i64 (part (fun x => hu 2 (f x)) k) ∧ wr = w
set_option maxHeartbeats 3200000 in
theorem refunits_any (w : World) (p : Nat) (cap over : Int) (f : F) (D : Ds w p cap over f) (O : Ok cap over f) : Calls Tryz.prog 74 #[.pointer (some ⟨p, 0, none⟩)] w fun e w' => e = .returned (.tuple #[.int .i64 (uni 1 f), .int .i64 (uni 2 f)]) ∧ w = w' := by
  have st : Hid (UnsAt w f (.int .i64 0) (.int .i64 0) (.int .i64 1) w) := ⟨0, rfl, by omega, rfl, rfl, rfl⟩
  replace D := Lib.hid D
  have P1 : Hid (∀ k, k ≤ 200 → 0 ≤ part (fun x => hu 1 (f x)) k ∧ part (fun x => hu 1 (f x)) k ≤ 2000000) := fun k hk => by
    have h0 : ∀ x, 0 ≤ hu 1 (f x) := fun x => ((O.shp x).hu0 (s := 1)).1
    have := part_nonneg h0 k
    have := part_mono h0 hk
    have := O.bds
    unfold uni at this
    omega
  have P2 : Hid (∀ k, k ≤ 200 → 0 ≤ part (fun x => hu 2 (f x)) k ∧ part (fun x => hu 2 (f x)) k ≤ 2000000) := fun k hk => by
    have h0 : ∀ x, 0 ≤ hu 2 (f x) := fun x => ((O.shp x).hu0 (s := 2)).1
    have := part_nonneg h0 k
    have := part_mono h0 hk
    have := O.bds
    unfold uni at this
    omega
  replace O := Lib.hid O
  go_enter Tryz.func74, Tryz.ntmps74
  go_wp2_with fail
  go_loopw [4, 5, 6] (fun h c i wr => UnsAt w f h c i wr) (fun _ _ i _ => 201 - (intOf i).toNat)
  case atStart => exact st.out
  case round =>
    clear st
    obtain ⟨k, rfl, hk, rfl, rfl, rfl⟩ := hrel
    obtain ⟨A1, hA1⟩ : ∃ x, x = part (fun x => hu 1 (f x)) k := ⟨_, rfl⟩
    obtain ⟨A2, hA2⟩ : ∃ x, x = part (fun x => hu 2 (f x)) k := ⟨_, rfl⟩
    have p1 := P1.out k hk
    have p2 := P2.out k hk
    rw [← hA1] at p1
    rw [← hA2] at p2
    by_cases hk2 : k < 200
    · have i1 : (k : Int) + 1 ≤ 200 := by omega
      have c1 := D.out.st (k := k + 1) (by omega)
      have c2 := D.out.un (k := k + 1) (by omega)
      have e1 : ((k + 1 : Nat) : Int) = (k : Int) + 1 := by omega
      have bd := (O.out.shp ((k : Int) + 1)).bds
      rw [e1] at c1 c2
      obtain ⟨s, hs⟩ : ∃ x, x = (f ((k : Int) + 1)).st := ⟨_, rfl⟩
      obtain ⟨u, hu_⟩ : ∃ x, x = (f ((k : Int) + 1)).un := ⟨_, rfl⟩
      rw [← hs] at c1
      rw [← hu_] at c2 bd
      obtain ⟨-, -, u0, u1, -, -⟩ := bd
      have s1 : Hid (part (fun x => hu 1 (f x)) (k + 1) = A1 + if s = 1 then u else 0) := by show _ = _; rw [hA1, hs, hu_]; rfl
      have s2 : Hid (part (fun x => hu 2 (f x)) (k + 1) = A2 + if s = 2 then u else 0) := by show _ = _; rw [hA2, hs, hu_]; rfl
      rw [← hA1, ← hA2]
      clear hA1 hA2 hs hu_ e1
      by_cases g1 : s = 1
      · have nx : Hid (UnsAt wr f (.int .i64 (A1 + u)) (.int .i64 A2) (.int .i64 ((k : Int) + 1 + 1)) wr) := ⟨k + 1, by simp, by omega, by rw [s1.out, if_pos g1], by rw [s2.out, if_neg (by omega), Int.add_zero], rfl⟩
        subst g1
        go_wp2
        exact ⟨nx.out, by simp [intOf]; omega⟩
      · have gb1 : (s == 1) = false := by simpa using g1
        by_cases g2 : s = 2
        · have nx : Hid (UnsAt wr f (.int .i64 A1) (.int .i64 (A2 + u)) (.int .i64 ((k : Int) + 1 + 1)) wr) := ⟨k + 1, by simp, by omega, by rw [s1.out, if_neg g1, Int.add_zero], by rw [s2.out, if_pos g2], rfl⟩
          subst g2
          clear gb1 g1
          go_wp2
          exact ⟨nx.out, by simp [intOf]; omega⟩
        · have gb2 : (s == 2) = false := by simpa using g2
          have nx : Hid (UnsAt wr f (.int .i64 A1) (.int .i64 A2) (.int .i64 ((k : Int) + 1 + 1)) wr) := ⟨k + 1, by simp, by omega, by rw [s1.out, if_neg g1, Int.add_zero], by rw [s2.out, if_neg g2, Int.add_zero], rfl⟩
          clear g1 g2
          go_wp2
          exact ⟨nx.out, by simp [intOf]; omega⟩
    · have hr : Hid (uni 1 f = A1 ∧ uni 2 f = A2) := by
        obtain rfl : k = 200 := by omega
        exact ⟨hA1.symm, hA2.symm⟩
      have i1 : ¬ (k : Int) + 1 ≤ 200 := by omega
      rw [← hA1, ← hA2]
      clear hA1 hA2
      go_wp2
      go_ret2
      exact ⟨by rw [hr.out.1, hr.out.2]; rfl, rfl⟩
set_option maxHeartbeats 800000 in
theorem reffree_any (w : World) (p : Nat) (cap over : Int) (f : F) (D : Ds w p cap over f) (O : Ok cap over f) : Calls Tryz.prog 43 #[.pointer (some ⟨p, 0, none⟩)] w fun e w' => e = .returned (.int .i64 (room cap over f)) ∧ ∃ m, w' = w.drewN m := by
  have U := Lib.hid (refunits_any w p cap over f D O)
  have b := O.bds
  have hr : Hid (room cap over f = cap + over - uni 1 f - uni 2 f) := rfl
  have b2 : 0 ≤ cap + over ∧ cap + over ≤ 2000000 := by have := O.c0; have := O.c1; have := O.o0; have := O.o1; omega
  have c0 := D.c0
  have c1 := D.c1
  generalize uni 1 f = h at *
  generalize uni 2 f = c at *
  obtain ⟨b0, b1, b3, b4, b5, b6⟩ := b
  obtain ⟨b7, b8⟩ := b2
  obtain ⟨x1, h1⟩ : ∃ x, x = cap + over := ⟨_, rfl⟩
  have e1 : IntKind.i64.wrap (cap + over) = x1 := by rw [IntKind.wrap_i64]; omega
  obtain ⟨x2, h2⟩ : ∃ x, x = x1 - h := ⟨_, rfl⟩
  have e2 : IntKind.i64.wrap (x1 - h) = x2 := by rw [IntKind.wrap_i64]; omega
  obtain ⟨x3, h3⟩ : ∃ x, x = x2 - c := ⟨_, rfl⟩
  have e3 : IntKind.i64.wrap (x2 - c) = x3 := by have := hr.out; rw [IntKind.wrap_i64]; omega
  have hr2 : Hid (room cap over f = x3) := by have := hr.out; unfold Hid; omega
  clear h1 h2 h3 hr
  go_enter Tryz.func43, Tryz.ntmps43
  go_wp2_with fail
  refine U.out.mono ?_
  rintro e w1 ⟨rfl, rfl⟩
  clear U
  go_wp2
  go_quiet (fail)
  go_wp2
  go_ret
  rw [hr2.out]
  exact ⟨rfl, _, rfl⟩
set_option maxHeartbeats 400000 in
theorem reftime_any (w : World) (n : Int) : Calls Tryz.prog 20 #[.int .i64 n] w fun e w' => e = .returned (.bool (tick n)) ∧ w = w' := by
  have F : Hid (tick n = (decide (0 ≤ n) && decide (n ≤ 1099511627776))) := rfl
  obtain ⟨c1, h1⟩ : ∃ c, c = decide (0 ≤ n) := ⟨_, rfl⟩
  obtain ⟨c2, h2⟩ : ∃ c, c = decide (n ≤ 1099511627776) := ⟨_, rfl⟩
  rw [← h1, ← h2] at F
  have g1 := h1.symm
  have g2 := h2.symm
  clear h1 h2
  cases c1
  all_goals
    go_enter Tryz.func20, Tryz.ntmps20
    go_wp2
    go_ret
    rw [F.out]
    exact ⟨rfl, rfl⟩
end St
end Go.Proofs.YtpkdigegkemogaaGreatDoor
namespace Go.Proofs.YtpkdigegkemogaaGreatDoor
set_option maxRecDepth 100000
open Go.RowKit Go.Sort
open Go.Proofs.YtpkdigegkemogaaGreatDoor.Pk (one_at one_free one_set lt_some grown_set grown_trans grown_refl refint str str_add str_cat str_size)
namespace St

theorem size_add2 {a b : List UInt8} (h : a.length + b.length ≤ 100000) : ¬ (str a).size + (str b).size > 9223372036854775807 := by rw [str_size, str_size]; omega
theorem int_of (v : Int) (bs : Bs) (hv : Bd v) (hb : bs = Pk.encI v) (w0 : World) : ∀ d os, Calls Tryz.prog 54 #[.int .i64 v] (grow (redrawn w0 d) os) fun e w'' => e = .returned (.string (str bs)) ∧ ∃ q : Regrown, w'' = grow (redrawn w0 q.d) q.os := fun d os => Calls.regrown_of (by rw [hb]; exact refint _ v hv.1 hv.2)
theorem bd_of {v a b : Int} (h1 : a ≤ v) (h2 : v ≤ b) (ha : -9223372036854775808 ≤ a) (hb : b ≤ 9223372036854775807) : Bd v := ⟨by omega, by omega⟩
end St
end Go.Proofs.YtpkdigegkemogaaGreatDoor
namespace Go.Proofs.YtpkdigegkemogaaGreatDoor
set_option maxRecDepth 100000
open Go.RowKit Go.Sort
open Go.Proofs.YtpkdigegkemogaaGreatDoor.Pk (one_at one_free one_set lt_some grown_set grown_trans grown_refl)
namespace St
open Wt (Opn mayOp refmayop_any)

theorem mayop_bds {o : Opn} (h : mayOp o = true) : 1 ≤ o.kind ∧ o.kind ≤ 6 ∧ 1 ≤ o.book ∧ o.book ≤ 200 := by
  refine Decidable.byContradiction fun hn => ?_
  rw [Wt.mayop_out (by omega)] at h
  cases h
def RDo (w : World) (p : Nat) (cap over now : Int) (f : F) (o : Opn) (e : Ending) (w' : World) : Prop := e = .returned (.int .i64 (dstp cap over f o now).2) ∧ Ds w' p cap over (dstp cap over f o now).1 ∧ Kt p 1007 (fun g => g = p) w w'
set_option maxHeartbeats 6400000 in
theorem refdo_any (w : World) (p : Nat) (cap over now : Int) (f : F) (D : Ds w p cap over f) (O : Ok cap over f) (o : Opn) : Calls Tryz.prog 22 #[.pointer (some ⟨p, 0, none⟩), opv o, .int .i64 now] w (RDo w p cap over now f o) := by
  obtain ⟨W0, hW0⟩ : ∃ W, W = w.alloc (.cells #[.int .i64 o.kind, .int .i64 o.book, .int .i64 o.units, .int .i64 o.cust, .int .i64 o.amount] 34) := ⟨_, rfl⟩
  have B0 : Hid (Below w.heap.size w W0) := by rw [hW0]; exact (Below.refl _ _).alloc (Nat.le_refl _) _
  have h0 : Hid (W0.heap[w.heap.size]? = some (.cells #[.int .i64 o.kind, .int .i64 o.book, .int .i64 o.units, .int .i64 o.cust, .int .i64 o.amount] 34 (0, 0))) := by rw [hW0]; exact heap_alloc_new _ _
  have MO := Lib.hid (refmayop_any W0 o)
  have TM := Lib.hid (fun w => reftime_any w now)
  have plt : Hid (p < w.heap.size) := D.lt
  replace hW0 := Lib.hid hW0
  have NO : Hid (mayOp o = false ∨ 3 < o.kind ∨ tick now = false → ∀ w', Below w.heap.size w w' → RDo w p cap over now f o (.returned (.int .i64 2)) w') := by
    intro h w' hb
    have e : dstp cap over f o now = (f, 2) := by
      unfold dstp stp
      rcases h with h | h | h
      · rw [h]; rfl
      · cases hc : (mayOp o && tick now) with
        | false => rfl
        | true => rw [if_neg (by decide), if_neg (by omega), if_neg (by omega), if_neg (by omega)]
      · rw [h, Bool.and_false]; rfl
    unfold RDo
    rw [e]
    exact ⟨rfl, D.below hb, .of_below D.lt hb⟩
  cases hm : mayOp o with
  | false =>
    rw [hm] at MO
    have N := Lib.hid (NO.out (.inl hm))
    clear NO hm D
    unfold opv
    have x0 : W0.cell? ⟨w.heap.size, 0, none⟩ = some (.int .i64 o.kind) := one_at h0.out
    have x1 : W0.cell? ⟨w.heap.size, 1, none⟩ = some (.int .i64 o.book) := one_at h0.out
    have x2 : W0.cell? ⟨w.heap.size, 2, none⟩ = some (.int .i64 o.units) := one_at h0.out
    have x3 : W0.cell? ⟨w.heap.size, 3, none⟩ = some (.int .i64 o.cust) := one_at h0.out
    have x4 : W0.cell? ⟨w.heap.size, 4, none⟩ = some (.int .i64 o.amount) := one_at h0.out
    go_enter Tryz.func22, Tryz.ntmps22
    go_wp2_with fail
    rw [← hW0.out]
    go_wp2_with fail
    refine MO.out.mono ?_
    rintro e w1 ⟨rfl, h1⟩
    have F := Lib.hid (N.out w1 (B0.out.trans (h1.mono B0.out.size)))
    clear x0 x1 x2 x3 x4 h1 MO h0 B0 hW0 N
    go_wp2_with fail
    go_ret
    exact F.out
  | true =>
    rw [hm] at MO
    obtain ⟨k1, k6, b1, b2⟩ := mayop_bds hm
    by_cases h3 : o.kind ≤ 3
    · cases ht : tick now with
      | false =>
        rw [ht] at TM
        have N := Lib.hid (NO.out (.inr (.inr ht)))
        have g3 : decide (3 < o.kind) = false := decide_eq_false (by omega)
        clear NO hm D ht
        unfold opv
        have x0 : W0.cell? ⟨w.heap.size, 0, none⟩ = some (.int .i64 o.kind) := one_at h0.out
        have x1 : W0.cell? ⟨w.heap.size, 1, none⟩ = some (.int .i64 o.book) := one_at h0.out
        have x2 : W0.cell? ⟨w.heap.size, 2, none⟩ = some (.int .i64 o.units) := one_at h0.out
        have x3 : W0.cell? ⟨w.heap.size, 3, none⟩ = some (.int .i64 o.cust) := one_at h0.out
        have x4 : W0.cell? ⟨w.heap.size, 4, none⟩ = some (.int .i64 o.amount) := one_at h0.out
        go_enter Tryz.func22, Tryz.ntmps22
        go_wp2_with fail
        rw [← hW0.out]
        go_wp2_with fail
        refine MO.out.mono ?_
        rintro e w1 ⟨rfl, h1⟩
        have y0 : w1.cell? ⟨w.heap.size, 0, none⟩ = some (.int .i64 o.kind) := one_at ((h1.block _ (lt_some h0.out)).trans h0.out)
        have F := Lib.hid (N.out w1 (B0.out.trans (h1.mono B0.out.size)))
        clear x0 x1 x2 x3 x4 h1 MO h0 B0 hW0 N
        go_wp2_with fail
        refine (TM.out _).mono ?_
        rintro e w2 ⟨rfl, rfl⟩
        go_wp2_with fail
        go_ret
        exact F.out
      | true =>
        rw [ht] at TM
        have EQ : Hid (dstp cap over f o now = stp cap over f true o.kind o.book o.units now) := by unfold Hid dstp; rw [hm, ht]; rfl
        obtain ⟨t0, t1⟩ := tick_iff.1 ht
        clear NO
        obtain ⟨kd, bk, un, cu, am⟩ := o
        unfold opv
        dsimp only at *
        obtain ⟨kb, rfl⟩ : ∃ k : Nat, bk = (k : Int) := ⟨bk.toNat, by omega⟩
        have k200 : kb ≤ 200 := by omega
        have g3 : decide (3 < kd) = false := decide_eq_false (by omega)
        have x0 : W0.cell? ⟨w.heap.size, 0, none⟩ = some (.int .i64 kd) := one_at h0.out
        have x1 : W0.cell? ⟨w.heap.size, 1, none⟩ = some (.int .i64 (kb : Int)) := one_at h0.out
        have x2 : W0.cell? ⟨w.heap.size, 2, none⟩ = some (.int .i64 un) := one_at h0.out
        have x3 : W0.cell? ⟨w.heap.size, 3, none⟩ = some (.int .i64 cu) := one_at h0.out
        have x4 : W0.cell? ⟨w.heap.size, 4, none⟩ = some (.int .i64 am) := one_at h0.out
        obtain ⟨⟨st, eu, et⟩, hE⟩ : ∃ E, E = f (kb : Int) := ⟨_, rfl⟩
        have SH : Shp (kb : Int) ⟨st, eu, et⟩ := by rw [hE]; exact O.shp _
        have EX : Hid (∀ (f' : F) (r : Int) (w' : World), stp cap over f true kd kb un now = (f', r) → Ds w' p cap over f' → Kt p 1007 (fun g => g = p) w w' → RDo w p cap over now f ⟨kd, kb, un, cu, am⟩ (.returned (.int .i64 r)) w') := by
          intro f' r w' h1 h2 h3
          unfold RDo
          rw [EQ.out, h1]
          exact ⟨rfl, h2, h3⟩
        have b200 : (kb : Int) < 201 := by omega
        have b0 : (0 : Int) ≤ (kb : Int) := by omega
        go_enter Tryz.func22, Tryz.ntmps22
        go_wp2_with fail
        rw [← hW0.out]
        go_wp2_with fail
        refine MO.out.mono ?_
        rintro e w1 ⟨rfl, h1⟩
        have B1 : Hid (Below w.heap.size w w1) := B0.out.trans (h1.mono B0.out.size)
        have H1 : Hid (w1.heap[w.heap.size]? = some (.cells #[.int .i64 kd, .int .i64 kb, .int .i64 un, .int .i64 cu, .int .i64 am] 34 (0, 0))) := (h1.block _ (lt_some h0.out)).trans h0.out
        have D1 := D.below B1.out
        have y0 : w1.cell? ⟨w.heap.size, 0, none⟩ = some (.int .i64 kd) := one_at H1.out
        have y1 : w1.cell? ⟨w.heap.size, 1, none⟩ = some (.int .i64 (kb : Int)) := one_at H1.out
        have y2 : w1.cell? ⟨w.heap.size, 2, none⟩ = some (.int .i64 un) := one_at H1.out
        have c0 := D1.st k200
        have c1 := D1.un k200
        have c2 := D1.ut k200
        have c3 := D1.z3 k200
        have c4 := D1.z4 k200
        rw [← hE] at c0 c1 c2
        clear x0 x1 x2 x3 x4 h1 MO h0 B0 hW0
        go_wp2_with fail
        refine (TM.out _).mono ?_
        rintro e w2 ⟨rfl, rfl⟩
        have BZ : Below w1.heap.size w1 (w1.alloc (.cells #[.int .i64 0, .int .i64 0, .int .i64 0, .int .i64 0, .int .i64 0] 37)) := (Below.refl _ _).alloc (Nat.le_refl _) _
        have DZ := D1.below BZ
        have yz : (w1.alloc (.cells #[.int .i64 0, .int .i64 0, .int .i64 0, .int .i64 0, .int .i64 0] 37)).cell? ⟨w.heap.size, 1, none⟩ = some (.int .i64 (kb : Int)) := one_at ((BZ.block _ (lt_some H1.out)).trans H1.out)
        have d0 := DZ.st k200
        have d1 := DZ.un k200
        have d2 := DZ.ut k200
        have d3 := DZ.z3 k200
        have d4 := DZ.z4 k200
        rw [← hE] at d0 d1 d2
        clear BZ DZ
        go_wp2_with fail
        go_region
        obtain ⟨w3, hw3⟩ : ∃ X, X = (w1.alloc (.cells #[.int .i64 st, .int .i64 eu, .int .i64 et, .int .i64 0, .int .i64 0] 37)).drew := ⟨_, rfl⟩
        rw [← hw3]
        have B3 : Below w1.heap.size w1 w3 := by
          have h := (Below.refl w1.heap.size w1).alloc (Nat.le_refl _) (.cells #[.int .i64 st, .int .i64 eu, .int .i64 et, .int .i64 0, .int .i64 0] 37)
          rw [hw3]
          exact ⟨h.os, h.tape, h.output, h.size, h.block⟩
        have E3 : w3.heap[w1.heap.size]? = some (.cells #[.int .i64 st, .int .i64 eu, .int .i64 et, .int .i64 0, .int .i64 0] 37 (0, 0)) := by rw [hw3]; show (w1.alloc (.cells #[.int .i64 st, .int .i64 eu, .int .i64 et, .int .i64 0, .int .i64 0] 37)).heap[w1.heap.size]? = _; exact heap_alloc_new _ _
        have H3 : w3.heap[w.heap.size]? = some (.cells #[.int .i64 kd, .int .i64 kb, .int .i64 un, .int .i64 cu, .int .i64 am] 34 (0, 0)) := (B3.block _ (lt_some H1.out)).trans H1.out
        obtain ⟨W4, hW4⟩ : ∃ X, X = w3.alloc (.cells #[.int .i64 3, .int .i64 0, .int .i64 0, .int .i64 0, .int .i64 0] 37) := ⟨_, rfl⟩
        have B4 : Below w3.heap.size w3 W4 := by rw [hW4]; exact (Below.refl _ _).alloc (Nat.le_refl _) _
        have G4 : Hid (W4.heap[w3.heap.size]? = some (.cells #[.int .i64 3, .int .i64 0, .int .i64 0, .int .i64 0, .int .i64 0] 37 (0, 0))) := by rw [hW4]; exact heap_alloc_new _ _
        have E4 : Hid (W4.heap[w1.heap.size]? = some (.cells #[.int .i64 st, .int .i64 eu, .int .i64 et, .int .i64 0, .int .i64 0] 37 (0, 0))) := (B4.block _ (lt_some E3)).trans E3
        have H4 : Hid (W4.heap[w.heap.size]? = some (.cells #[.int .i64 kd, .int .i64 kb, .int .i64 un, .int .i64 cu, .int .i64 am] 34 (0, 0))) := (B4.block _ (lt_some H3)).trans H3
        have BW : Hid (Below w.heap.size w W4) := (B1.out.trans (B3.mono B1.out.size)).trans (B4.mono (Nat.le_trans B1.out.size B3.size))
        have D4 : Hid (Ds W4 p cap over f) := D.below BW.out
        have K4 : Hid (Kt p 1007 (fun g => g = p) w W4) := .of_below plt.out BW.out
        have DR : Hid (Ds W4.drew p cap over f) := D4.out.keep rfl
        have KR : Hid (Kt p 1007 (fun g => g = p) w W4.drew) := K4.out.heap rfl rfl rfl rfl
        have th : Hid (W4.drew.there p (2 + kb * 5) 5) := DR.out.there k200
        have y0 : W4.cell? ⟨w.heap.size, 0, none⟩ = some (.int .i64 kd) := one_at H4.out
        have y1 : W4.cell? ⟨w.heap.size, 1, none⟩ = some (.int .i64 (kb : Int)) := one_at H4.out
        have y2 : W4.cell? ⟨w.heap.size, 2, none⟩ = some (.int .i64 un) := one_at H4.out
        have e0 : W4.cell? ⟨w1.heap.size, 0, none⟩ = some (.int .i64 st) := one_at E4.out
        have e1 : W4.cell? ⟨w1.heap.size, 1, none⟩ = some (.int .i64 eu) := one_at E4.out
        have e2 : W4.cell? ⟨w1.heap.size, 2, none⟩ = some (.int .i64 et) := one_at E4.out
        have v0 : W4.cell? ⟨w3.heap.size, 0, none⟩ = some (.int .i64 3) := one_at G4.out
        have v1 : W4.cell? ⟨w3.heap.size, 1, none⟩ = some (.int .i64 0) := one_at G4.out
        have v2 : W4.cell? ⟨w3.heap.size, 2, none⟩ = some (.int .i64 0) := one_at G4.out
        have v3 : W4.cell? ⟨w3.heap.size, 3, none⟩ = some (.int .i64 0) := one_at G4.out
        have v4 : W4.cell? ⟨w3.heap.size, 4, none⟩ = some (.int .i64 0) := one_at G4.out
        replace k200 := Lib.hid k200
        replace hE := Lib.hid hE.symm
        replace SH := Lib.hid SH
        have FR := Lib.hid (fun n => reffree_any (W4.drewN n) p cap over f (D4.out.keep rfl) O)
        replace hW4 := Lib.hid hW4
        replace O := Lib.hid O
        clear d0 d1 d2 d3 d4 c0 c1 c2 c3 c4 yz hw3 B3 E3 H3 B4 D D1 EQ plt hm ht TM
        go_upto_region 5 with fail
        rw [← hW4.out]
        clear hW4
        by_cases q3 : kd = 3
        · subst q3
          go_upto_region 6 with fail
          go_still_tail 7, (by kernel_rfl)
          change wpList _ _ _ _ _ W4.drew
          go_wp2_with (refine wpList_store_mid rfl 37 (.tmp 40) (.tmp 37) rfl p (2 + kb * 5) (entc eg).toArray rfl rfl th.out entry_size (entc_one _) ?_; have D5 : Hid (Ds (W4.drew.setCells p (2 + kb * 5) (entc eg).toArray.toList) p cap over (upd f (kb : Int) eg)) := DR.out.put k200.out eg; have K5 : Hid (Kt p 1007 (fun g => g = p) w (W4.drew.setCells p (2 + kb * 5) (entc eg).toArray.toList)) := KR.out.self (Kt.of_ent _ _ k200.out _); generalize W4.drew.setCells p (2 + kb * 5) (entc eg).toArray.toList = w5 at D5 K5 ⊢)
          go_ret
          exact EX.out _ _ _ (by unfold stp; rfl) D5.out K5.out
        · have n3 : (kd == 3) = false := by simpa using q3
          by_cases s3 : st = 3
          · subst s3
            have P : Hid (stp cap over f true kd kb un now = (f, 2)) := by
              have hg : f (kb : Int) = eg := SH.out.gone rfl ▸ hE.out
              unfold Hid stp
              rw [if_neg (by decide), hg]
              by_cases h1 : kd = 1
              · rw [if_pos h1, if_neg (by decide), if_neg (fun h => h.1 rfl)]
              · rw [if_neg h1, if_pos (by omega), if_neg (by decide), if_neg (fun h => by have := h.1; revert this; decide), upd_id hg]
            go_wp2
            go_ret
            exact EX.out _ _ _ (P.out) D4.out K4.out
          · have n4 : (st == 3) = false := by simpa using s3
            by_cases q1 : kd = 1
            · subst q1
              by_cases s0 : st = 0
              · subst s0
                by_cases hr : un ≤ room cap over f
                · have P : Hid (stp cap over f true 1 kb un now = (upd f kb ⟨1, un, now + 60⟩, 1)) := by unfold Hid stp; rw [if_neg (by decide), if_pos rfl, if_pos (by rw [hE.out]), if_pos hr]
                  have hd : decide (room cap over f < un) = false := decide_eq_false (by omega)
                  obtain ⟨r, hr2⟩ : ∃ r, r = room cap over f := ⟨_, rfl⟩
                  rw [← hr2] at FR hd
                  obtain ⟨n6, hn6⟩ : ∃ x, x = now + 60 := ⟨_, rfl⟩
                  have ad : IntKind.i64.wrap (now + 60) = n6 := by rw [hn6, IntKind.wrap_i64]; omega
                  rw [← hn6] at P
                  clear hr2 hr hn6
                  go_upto_region 11 with fail
                  go_quiet ((go_at_call 43; exact Calls.quiet_of (FR.out _)))
                  generalize hW6 : World.drewN _ _ = W6
                  have D6 : Hid (Ds W6.drew p cap over f) := by rw [← hW6]; exact D4.out.keep rfl
                  have K6 : Hid (Kt p 1007 (fun g => g = p) w W6.drew) := by rw [← hW6]; exact K4.out.heap rfl rfl rfl rfl
                  have th6 : Hid (W6.drew.there p (2 + kb * 5) 5) := D6.out.there k200.out
                  have z1 : W6.cell? ⟨w.heap.size, 1, none⟩ = some (.int .i64 (kb : Int)) := by rw [← hW6]; exact y1
                  have z2 : W6.cell? ⟨w.heap.size, 2, none⟩ = some (.int .i64 un) := by rw [← hW6]; exact y2
                  have j0 : W6.cell? ⟨w3.heap.size, 0, none⟩ = some (.int .i64 3) := by rw [← hW6]; exact v0
                  have j1 : W6.cell? ⟨w3.heap.size, 1, none⟩ = some (.int .i64 0) := by rw [← hW6]; exact v1
                  have j2 : W6.cell? ⟨w3.heap.size, 2, none⟩ = some (.int .i64 0) := by rw [← hW6]; exact v2
                  have j3 : W6.cell? ⟨w3.heap.size, 3, none⟩ = some (.int .i64 0) := by rw [← hW6]; exact v3
                  have j4 : W6.cell? ⟨w3.heap.size, 4, none⟩ = some (.int .i64 0) := by rw [← hW6]; exact v4
                  clear hW6 y0 y1 y2 v0 v1 v2 v3 v4 e0 e1 e2 FR DR KR th
                  go_upto_region 14 with fail
                  go_still_tail 11, (by kernel_rfl)
                  change wpList _ _ _ _ _ W6.drew
                  go_wp2_with (refine wpList_store_mid rfl 37 (.tmp 76) (.tmp 73) rfl p (2 + kb * 5) (entc ⟨1, un, n6⟩).toArray rfl rfl th6.out entry_size (entc_one _) ?_; have D5 : Hid (Ds (W6.drew.setCells p (2 + kb * 5) (entc ⟨1, un, n6⟩).toArray.toList) p cap over (upd f (kb : Int) ⟨1, un, n6⟩)) := D6.out.put k200.out ⟨1, un, n6⟩; have K5 : Hid (Kt p 1007 (fun g => g = p) w (W6.drew.setCells p (2 + kb * 5) (entc ⟨1, un, n6⟩).toArray.toList)) := K6.out.self (Kt.of_ent _ _ k200.out _); generalize W6.drew.setCells p (2 + kb * 5) (entc ⟨1, un, n6⟩).toArray.toList = w5 at D5 K5 ⊢)
                  go_ret
                  exact EX.out _ _ _ (P.out) D5.out K5.out
                · have P : Hid (stp cap over f true 1 kb un now = (upd f kb eg, 2)) := by unfold Hid stp; rw [if_neg (by decide), if_pos rfl, if_pos (by rw [hE.out]), if_neg hr]
                  have hd : decide (room cap over f < un) = true := decide_eq_true (by omega)
                  obtain ⟨r, hr2⟩ : ∃ r, r = room cap over f := ⟨_, rfl⟩
                  rw [← hr2] at FR hd
                  clear hr2 hr
                  go_upto_region 11 with fail
                  go_quiet ((go_at_call 43; exact Calls.quiet_of (FR.out _)))
                  generalize hW6 : World.drewN _ _ = W6
                  have D6 : Hid (Ds W6.drew p cap over f) := by rw [← hW6]; exact D4.out.keep rfl
                  have K6 : Hid (Kt p 1007 (fun g => g = p) w W6.drew) := by rw [← hW6]; exact K4.out.heap rfl rfl rfl rfl
                  have th6 : Hid (W6.drew.there p (2 + kb * 5) 5) := D6.out.there k200.out
                  have z1 : W6.cell? ⟨w.heap.size, 1, none⟩ = some (.int .i64 (kb : Int)) := by rw [← hW6]; exact y1
                  have z2 : W6.cell? ⟨w.heap.size, 2, none⟩ = some (.int .i64 un) := by rw [← hW6]; exact y2
                  have j0 : W6.cell? ⟨w3.heap.size, 0, none⟩ = some (.int .i64 3) := by rw [← hW6]; exact v0
                  have j1 : W6.cell? ⟨w3.heap.size, 1, none⟩ = some (.int .i64 0) := by rw [← hW6]; exact v1
                  have j2 : W6.cell? ⟨w3.heap.size, 2, none⟩ = some (.int .i64 0) := by rw [← hW6]; exact v2
                  have j3 : W6.cell? ⟨w3.heap.size, 3, none⟩ = some (.int .i64 0) := by rw [← hW6]; exact v3
                  have j4 : W6.cell? ⟨w3.heap.size, 4, none⟩ = some (.int .i64 0) := by rw [← hW6]; exact v4
                  clear hW6 y0 y1 y2 v0 v1 v2 v3 v4 e0 e1 e2 FR DR KR th
                  go_upto_region 12 with fail
                  go_still_tail 7, (by kernel_rfl)
                  change wpList _ _ _ _ _ W6.drew
                  go_wp2_with (refine wpList_store_mid rfl 37 (.tmp 65) (.tmp 62) rfl p (2 + kb * 5) (entc eg).toArray rfl rfl th6.out entry_size (entc_one _) ?_; have D5 : Hid (Ds (W6.drew.setCells p (2 + kb * 5) (entc eg).toArray.toList) p cap over (upd f (kb : Int) eg)) := D6.out.put k200.out eg; have K5 : Hid (Kt p 1007 (fun g => g = p) w (W6.drew.setCells p (2 + kb * 5) (entc eg).toArray.toList)) := K6.out.self (Kt.of_ent _ _ k200.out _); generalize W6.drew.setCells p (2 + kb * 5) (entc eg).toArray.toList = w5 at D5 K5 ⊢)
                  go_ret
                  exact EX.out _ _ _ (P.out) D5.out K5.out
              · have n0 : (st == 0) = false := by simpa using s0
                by_cases hu : eu = un
                · have P : Hid (stp cap over f true 1 kb un now = (f, 1)) := by unfold Hid stp; rw [if_neg (by decide), if_pos rfl, if_neg (by rw [hE.out]; exact s0), if_pos (by rw [hE.out]; exact ⟨s3, hu⟩)]
                  have n1 : (eu == un) = true := by simpa using hu
                  clear hu s0 s3
                  go_wp2
                  go_ret
                  exact EX.out _ _ _ (P.out) D4.out K4.out
                · have P : Hid (stp cap over f true 1 kb un now = (f, 2)) := by unfold Hid stp; rw [if_neg (by decide), if_pos rfl, if_neg (by rw [hE.out]; exact s0), if_neg (by rw [hE.out]; exact fun h => hu h.2)]
                  have n1 : (eu == un) = false := by simpa using hu
                  clear hu s0 s3
                  go_wp2
                  go_ret
                  exact EX.out _ _ _ (P.out) D4.out K4.out
            · obtain rfl : kd = 2 := by omega
              by_cases s0 : st = 0 ∨ (st = 1 ∧ et ≤ now)
              · have P : Hid (stp cap over f true 2 kb un now = (upd f kb eg, 2)) := by
                  unfold Hid stp
                  rw [if_neg (by decide), if_neg (by decide), if_pos rfl, if_neg (by rw [hE.out]; show ¬ st = 2; omega), if_neg (by rw [hE.out]; show ¬ (st = 1 ∧ now < et); omega)]
                by_cases z : st = 0
                · subst z
                  clear s0 s3
                  go_upto_region 21 with fail
                  go_still_tail 7, (by kernel_rfl)
                  change wpList _ _ _ _ _ W4.drew
                  go_wp2_with (refine wpList_store_mid rfl 37 (.tmp 113) (.tmp 110) rfl p (2 + kb * 5) (entc eg).toArray rfl rfl th.out entry_size (entc_one _) ?_; have D5 : Hid (Ds (W4.drew.setCells p (2 + kb * 5) (entc eg).toArray.toList) p cap over (upd f (kb : Int) eg)) := DR.out.put k200.out eg; have K5 : Hid (Kt p 1007 (fun g => g = p) w (W4.drew.setCells p (2 + kb * 5) (entc eg).toArray.toList)) := KR.out.self (Kt.of_ent _ _ k200.out _); generalize W4.drew.setCells p (2 + kb * 5) (entc eg).toArray.toList = w5 at D5 K5 ⊢)
                  go_ret
                  exact EX.out _ _ _ (P.out) D5.out K5.out
                · obtain ⟨rfl, h2⟩ : st = 1 ∧ et ≤ now := by omega
                  have n1 : decide (et ≤ now) = true := decide_eq_true h2
                  clear s0 s3 z
                  go_upto_region 21 with fail
                  go_still_tail 7, (by kernel_rfl)
                  change wpList _ _ _ _ _ W4.drew
                  go_wp2_with (refine wpList_store_mid rfl 37 (.tmp 113) (.tmp 110) rfl p (2 + kb * 5) (entc eg).toArray rfl rfl th.out entry_size (entc_one _) ?_; have D5 : Hid (Ds (W4.drew.setCells p (2 + kb * 5) (entc eg).toArray.toList) p cap over (upd f (kb : Int) eg)) := DR.out.put k200.out eg; have K5 : Hid (Kt p 1007 (fun g => g = p) w (W4.drew.setCells p (2 + kb * 5) (entc eg).toArray.toList)) := KR.out.self (Kt.of_ent _ _ k200.out _); generalize W4.drew.setCells p (2 + kb * 5) (entc eg).toArray.toList = w5 at D5 K5 ⊢)
                  go_ret
                  exact EX.out _ _ _ (P.out) D5.out K5.out
              · have P : Hid (stp cap over f true 2 kb un now = (upd f kb ⟨2, eu, 0⟩, 1)) := by
                  unfold Hid stp
                  rw [if_neg (by decide), if_neg (by decide), if_pos rfl]
                  by_cases h2 : st = 2
                  · have ht : et = 0 := by
                      rcases SH.out with h | ⟨_, _, h | h | h⟩
                      · have : st = 0 := h.1
                        omega
                      · have : st = 1 := h.1
                        omega
                      · exact h.2.2.2
                      · have : st = 3 := h.1
                        omega
                    rw [if_pos (by rw [hE.out]; exact h2), upd_id (by rw [hE.out, h2, ht])]
                  · rw [if_neg (by rw [hE.out]; exact h2), if_pos (by
                      rw [hE.out]
                      have := SH.out.bds
                      have h4 : (⟨st, eu, et⟩ : E).st = st := rfl
                      exact ⟨by show st = 1; omega, by show now < et; omega⟩), hE.out]
                have n0 : (st == 0) = false := by simpa using fun h => s0 (.inl h)
                by_cases z : st = 1
                · subst z
                  have n1 : decide (et ≤ now) = false := decide_eq_false (fun h => s0 (.inr ⟨rfl, h⟩))
                  clear s0 s3
                  go_upto_region 23 with fail
                  go_still_tail 9, (by kernel_rfl)
                  change wpList _ _ _ _ _ W4.drew
                  go_wp2_with (refine wpList_store_mid rfl 37 (.tmp 122) (.tmp 119) rfl p (2 + kb * 5) (entc ⟨2, eu, 0⟩).toArray rfl rfl th.out entry_size (entc_one _) ?_; have D5 : Hid (Ds (W4.drew.setCells p (2 + kb * 5) (entc ⟨2, eu, 0⟩).toArray.toList) p cap over (upd f (kb : Int) ⟨2, eu, 0⟩)) := DR.out.put k200.out ⟨2, eu, 0⟩; have K5 : Hid (Kt p 1007 (fun g => g = p) w (W4.drew.setCells p (2 + kb * 5) (entc ⟨2, eu, 0⟩).toArray.toList)) := KR.out.self (Kt.of_ent _ _ k200.out _); generalize W4.drew.setCells p (2 + kb * 5) (entc ⟨2, eu, 0⟩).toArray.toList = w5 at D5 K5 ⊢)
                  go_ret
                  exact EX.out _ _ _ (P.out) D5.out K5.out
                · have n1 : (st == 1) = false := by simpa using z
                  clear s0 s3 z
                  go_upto_region 23 with fail
                  go_still_tail 9, (by kernel_rfl)
                  change wpList _ _ _ _ _ W4.drew
                  go_wp2_with (refine wpList_store_mid rfl 37 (.tmp 122) (.tmp 119) rfl p (2 + kb * 5) (entc ⟨2, eu, 0⟩).toArray rfl rfl th.out entry_size (entc_one _) ?_; have D5 : Hid (Ds (W4.drew.setCells p (2 + kb * 5) (entc ⟨2, eu, 0⟩).toArray.toList) p cap over (upd f (kb : Int) ⟨2, eu, 0⟩)) := DR.out.put k200.out ⟨2, eu, 0⟩; have K5 : Hid (Kt p 1007 (fun g => g = p) w (W4.drew.setCells p (2 + kb * 5) (entc ⟨2, eu, 0⟩).toArray.toList)) := KR.out.self (Kt.of_ent _ _ k200.out _); generalize W4.drew.setCells p (2 + kb * 5) (entc ⟨2, eu, 0⟩).toArray.toList = w5 at D5 K5 ⊢)
                  go_ret
                  exact EX.out _ _ _ (P.out) D5.out K5.out
    · have N := Lib.hid (NO.out (.inr (.inl (by omega))))
      have g3 : decide (3 < o.kind) = true := decide_eq_true (by omega)
      clear NO hm D
      unfold opv
      have x0 : W0.cell? ⟨w.heap.size, 0, none⟩ = some (.int .i64 o.kind) := one_at h0.out
      have x1 : W0.cell? ⟨w.heap.size, 1, none⟩ = some (.int .i64 o.book) := one_at h0.out
      have x2 : W0.cell? ⟨w.heap.size, 2, none⟩ = some (.int .i64 o.units) := one_at h0.out
      have x3 : W0.cell? ⟨w.heap.size, 3, none⟩ = some (.int .i64 o.cust) := one_at h0.out
      have x4 : W0.cell? ⟨w.heap.size, 4, none⟩ = some (.int .i64 o.amount) := one_at h0.out
      go_enter Tryz.func22, Tryz.ntmps22
      go_wp2_with fail
      rw [← hW0.out]
      go_wp2_with fail
      refine MO.out.mono ?_
      rintro e w1 ⟨rfl, h1⟩
      have y0 : w1.cell? ⟨w.heap.size, 0, none⟩ = some (.int .i64 o.kind) := one_at ((h1.block _ (lt_some h0.out)).trans h0.out)
      have F := Lib.hid (N.out w1 (B0.out.trans (h1.mono B0.out.size)))
      clear x0 x1 x2 x3 x4 h1 MO h0 B0 hW0 N
      go_wp2_with fail
      go_ret
      exact F.out
end St
end Go.Proofs.YtpkdigegkemogaaGreatDoor
namespace Go.Proofs.YtpkdigegkemogaaGreatDoor
set_option maxRecDepth 100000
open Go.RowKit
open Go.Sort (grow)
open Go.Proofs.YtpkdigegkemogaaGreatDoor.Pk (one_at one_free one_set lt_some grown_set grown_trans grown_refl)
namespace Tb
open Wt (Opn mayOp)

theorem setCells_block (p : Nat) : ∀ (vs : List Value) (o : Nat) (w : World), (w.setCells p o vs).heap.size = w.heap.size ∧ (w.setCells p o vs).os = w.os ∧ (w.setCells p o vs).tape = w.tape ∧ (w.setCells p o vs).output = w.output ∧ ∀ g, g ≠ p → (w.setCells p o vs).heap[g]? = w.heap[g]?
  | [], _, _ => ⟨rfl, rfl, rfl, rfl, fun _ _ => rfl⟩
  | v :: r, o, w => by
    obtain ⟨h1, h2, h3, h4, h5⟩ := setCells_block p r (o + 1) (w.setCell ⟨p, o, none⟩ v)
    rw [World.setCells]
    exact ⟨h1.trans (by simp [World.setCell]), h2, h3, h4, fun g hg => (h5 g hg).trans (Below.heap_setCell _ _ _ _ (fun e => hg e))⟩
theorem Kq.of_cells (w : World) (p o : Nat) (vs : List Value) : Kq (fun g => g = p) w (w.setCells p o vs) := by
  obtain ⟨h1, h2, h3, h4, h5⟩ := setCells_block p vs o w
  exact ⟨h2, h3, h4, by omega, fun g _ hn => h5 g hn⟩
structure Kr (d z : Nat) (w w' : World) : Prop extends Kq (fun g => g = d) w w' where
  low : ∀ i, i < z → w'.cell? ⟨d, i, none⟩ = w.cell? ⟨d, i, none⟩
  free : ∀ i, w'.frozen? ⟨d, i, none⟩ = w.frozen? ⟨d, i, none⟩
section
variable {d z : Nat} {w w' w1 w2 : World}
theorem frozen_of_block (h : w'.heap[d]? = w.heap[d]?) (i : Nat) : w'.frozen? ⟨d, i, none⟩ = w.frozen? ⟨d, i, none⟩ := by
  unfold World.frozen?
  simp only [h]
theorem Kr.self (h : Kr d z w w1) (k : Kr d z w1 w2) : Kr d z w w2 := ⟨h.toKq.self k.toKq, fun i hi => (k.low i hi).trans (h.low i hi), fun i => (k.free i).trans (h.free i)⟩
theorem Kr.drew (h : Kr d z w w') : Kr d z w w'.drew := ⟨h.toKq.drew, h.low, h.free⟩
theorem Kr.of_below (hd : d < w.heap.size) (h : Below w.heap.size w w') : Kr d z w w' := ⟨.of_below h, fun _ _ => World.cell?_of_block (h.block d hd), frozen_of_block (h.block d hd)⟩
theorem Kr.of_cells (w : World) (d o : Nat) (vs : List Value) (h : z ≤ o) : Kr d z w (w.setCells d o vs) :=
  ⟨.of_cells w d o vs, fun i hi => World.cell?_setCells_out d _ _ w ⟨d, i, none⟩ (fun _ _ => .inl (by show i < o; omega)), fun i => World.frozen?_setCells _ _ _ _ _⟩
end
theorem set1 (w : World) (q o : Nat) (u : Value) : w.setCell ⟨q, o, none⟩ u = w.setCells q o [u] := rfl
structure Dm (w : World) (d z : Nat) (f : F) (n : Int) : Prop where
  lt : d < w.heap.size
  at_ : ∀ b k : Nat, b ≤ 200 → k ≤ 6 → w.cell? ⟨d, z + b * 7 + k, none⟩ = some (.int .i64 (f (b : Int) (k : Int)))
  num : w.cell? ⟨d, z + 1407, none⟩ = some (.int .i64 n)
  free : ∀ i, w.frozen? ⟨d, i, none⟩ = false
section
variable {w w' : World} {d z : Nat} {f : F} {n : Int}
theorem Dm.keep (D : Dm w d z f n) (h : w'.heap[d]? = w.heap[d]?) : Dm w' d z f n := by
  have e : ∀ i, w'.cell? ⟨d, i, none⟩ = w.cell? ⟨d, i, none⟩ := fun i => World.cell?_of_block h
  refine ⟨?_, fun b k hb hk => (e _).trans (D.at_ b k hb hk), (e _).trans D.num, fun i => ?_⟩
  · have := Array.getElem?_eq_getElem D.lt
    rw [← h] at this
    exact lt_some this
  · have := D.free i
    unfold World.frozen? at this ⊢
    simp only [h]
    exact this
theorem Dm.below (D : Dm w d z f n) (hb : Below w.heap.size w w') : Dm w' d z f n := D.keep (hb.block _ D.lt)
theorem Dm.put (D : Dm w d z f n) {b k : Nat} (hb : b ≤ 200) (hk : k ≤ 6) (a : Int) : Dm (w.setCell ⟨d, z + b * 7 + k, none⟩ (.int .i64 a)) d z (upd f (b : Int) (k : Int) a) n := by
  rw [set1]
  refine ⟨by rw [(setCells_block d _ _ w).1]; exact D.lt, fun x y hx hy => ?_, ?_, fun i => ?_⟩
  · by_cases h : x = b ∧ y = k
    · obtain ⟨rfl, rfl⟩ := h
      rw [upd_same]
      have := World.cell?_setCells_in d [.int .i64 a] (z + x * 7 + y) w (fun i hi => by
        obtain rfl : i = 0 := by simpa using hi
        rw [Nat.add_zero, D.at_ x y hx hy]; rfl) 0 (by simp)
      simpa using this
    · rw [upd_other (by omega), World.cell?_setCells_out d _ _ w ⟨d, z + x * 7 + y, none⟩ (fun _ _ => by show z + x * 7 + y < z + b * 7 + k ∨ z + b * 7 + k + 1 ≤ z + x * 7 + y; omega)]
      exact D.at_ x y hx hy
  · rw [World.cell?_setCells_out d _ _ w ⟨d, z + 1407, none⟩ (fun _ _ => by show z + 1407 < z + b * 7 + k ∨ z + b * 7 + k + 1 ≤ z + 1407; omega)]
    exact D.num
  · rw [World.frozen?_setCells]
    exact D.free i
theorem Dm.count (D : Dm w d z f n) (m : Int) : Dm (w.setCell ⟨d, z + 1407, none⟩ (.int .i64 m)) d z f m := by
  rw [set1]
  refine ⟨by rw [(setCells_block d _ _ w).1]; exact D.lt, fun x y hx hy => ?_, ?_, fun i => ?_⟩
  · rw [World.cell?_setCells_out d _ _ w ⟨d, z + x * 7 + y, none⟩ (fun _ _ => by show z + x * 7 + y < z + 1407 ∨ z + 1407 + 1 ≤ z + x * 7 + y; omega)]
    exact D.at_ x y hx hy
  · have := World.cell?_setCells_in d [.int .i64 m] (z + 1407) w (fun i hi => by
      obtain rfl : i = 0 := by simpa using hi
      rw [Nat.add_zero, D.num]; rfl) 0 (by simp)
    simpa using this
  · rw [World.frozen?_setCells]
    exact D.free i
end

def zeros : Array Value := Array.replicate 1408 (.int .i64 0)
theorem build_run (w : World) : (Instr.build 44 #[]).run Tryz.prog w = .ok (.agg zeros) w := by kernel_rfl
theorem box_run (w : World) (cs : Array Value) : (Instr.box 44 (.agg cs)).run Tryz.prog w = .ok (.pointer (some ⟨w.heap.size, 0, none⟩)) (w.alloc (.cells cs 44)) := by
  simp only [Instr.box, newVar, newRow, Sem.run_bind]
  kernel_rfl
end Tb
end Go.Proofs.YtpkdigegkemogaaGreatDoor
namespace Go.Proofs.YtpkdigegkemogaaGreatDoor
set_option maxRecDepth 100000
open Go.RowKit
open Go.Sort (grow)
open Go.Proofs.YtpkdigegkemogaaGreatDoor.Pk (one_at one_free one_set lt_some grown_set grown_trans grown_refl)
namespace Tb
open Wt (Opn mayOp)

set_option maxHeartbeats 1600000 in
theorem reffind_out (w : World) (d z : Nat) (o : Opn) (h : o.book < 1 ∨ 200 < o.book ∨ o.kind < 1 ∨ 6 < o.kind) :
    Calls Tryz.prog 21 #[.pointer (some ⟨d, z, none⟩), opv o] w fun e w' => e = .returned (.tuple #[.int .i64 0, .bool false]) ∧ Below w.heap.size w w' := by
  have HB : Hid (∀ x n, Below w.heap.size w ((w.alloc x).drewN n)) := fun x n => (Below.refl _ _).alloc (Nat.le_refl _) _ |>.trans (Tb.below_drewN _ n)
  obtain ⟨k, b, u, c, a⟩ := o
  simp only at h
  rcases Int.lt_or_le b 1 with h1 | h1
  · have g1 : decide (b < 1) = true := decide_eq_true h1
    clear h
    go_enter Tryz.func21, Tryz.ntmps21
    go_wp2_with fail
    go_quiet (fail)
    go_wp2
    go_ret2
    exact ⟨rfl, HB.out _ _⟩
  have g1 : decide (b < 1) = false := decide_eq_false (by omega)
  have g1' : ¬ b < 1 := by omega
  rcases Int.lt_or_le 200 b with h2 | h2
  · have g2 : decide (200 < b) = true := decide_eq_true h2
    clear h h1
    go_enter Tryz.func21, Tryz.ntmps21
    go_wp2_with fail
    go_quiet (fail)
    go_wp2
    go_ret2
    exact ⟨rfl, HB.out _ _⟩
  have g2 : decide (200 < b) = false := decide_eq_false (by omega)
  have g2' : ¬ 200 < b := by omega
  rcases Int.lt_or_le k 1 with h3 | h3
  · have g3 : decide (k < 1) = true := decide_eq_true h3
    clear h h1 h2
    go_enter Tryz.func21, Tryz.ntmps21
    go_wp2_with fail
    go_quiet (fail)
    go_wp2
    go_ret2
    exact ⟨rfl, HB.out _ _⟩
  · have h4 : 6 < k := by omega
    have g3 : decide (k < 1) = false := decide_eq_false (by omega)
    have g3' : ¬ k < 1 := by omega
    have g4 : decide (6 < k) = true := decide_eq_true h4
    clear h h1 h2 h3
    go_enter Tryz.func21, Tryz.ntmps21
    go_wp2_with fail
    go_quiet (fail)
    go_wp2
    go_ret2
    exact ⟨rfl, HB.out _ _⟩
set_option maxHeartbeats 1600000 in
theorem reffind_in (w : World) (d z : Nat) (f : F) (n : Int) (D : Dm w d z f n) (k b : Nat) (u c a : Int) (b1 : 1 ≤ b) (b2 : b ≤ 200) (k1 : 1 ≤ k) (k2 : k ≤ 6) :
    Calls Tryz.prog 21 #[.pointer (some ⟨d, z, none⟩), .agg #[.int .i64 (k : Int), .int .i64 (b : Int), .int .i64 u, .int .i64 c, .int .i64 a]] w fun e w' => e = .returned (.tuple #[.int .i64 (f b k), .bool (ne0 (f b k))]) ∧ Below w.heap.size w w' := by
  have HB : Hid (∀ x n, Below w.heap.size w ((w.alloc x).drewN n)) := fun x n => (Below.refl _ _).alloc (Nat.le_refl _) _ |>.trans (Tb.below_drewN _ n)
  have cc : ∀ x, (w.alloc x).cell? ⟨d, z + b * 7 + k, none⟩ = some (.int .i64 (f b k)) := fun x => (D.below ((Below.refl _ _).alloc (Nat.le_refl _) x)).at_ b k b2 k2
  have c1 := cc (.cells #[.int .i64 (k : Int), .int .i64 (b : Int), .int .i64 u, .int .i64 c, .int .i64 a] 34)
  obtain ⟨x, hx⟩ : ∃ x, x = f b k := ⟨_, rfl⟩
  rw [← hx] at c1 ⊢
  have i1 : ¬ (b : Int) < 1 := by omega
  have i2 : ¬ 200 < (b : Int) := by omega
  have i3 : ¬ (k : Int) < 1 := by omega
  have i4 : ¬ 6 < (k : Int) := by omega
  have e1 : decide ((b : Int) < 1) = false := decide_eq_false i1
  have e2 : decide (200 < (b : Int)) = false := decide_eq_false i2
  have e3 : decide ((k : Int) < 1) = false := decide_eq_false i3
  have e4 : decide (6 < (k : Int)) = false := decide_eq_false i4
  have j1 : (b : Int) < 201 := by omega
  have j2 : (k : Int) < 7 := by omega
  clear cc hx D
  by_cases h0 : x = 0
  · subst h0
    rw [show ne0 0 = false from rfl]
    go_enter Tryz.func21, Tryz.ntmps21
    go_wp2_with fail
    go_quiet (fail)
    go_wp2
    go_ret2
    exact ⟨rfl, HB.out _ _⟩
  · rw [ne0_iff.2 h0]
    have g0 : (x == 0) = false := beq_eq_false_iff_ne.2 h0
    go_enter Tryz.func21, Tryz.ntmps21
    go_wp2_with fail
    go_quiet (fail)
    go_wp2_with fail
    go_quiet (fail)
    go_wp2
    go_ret2
    exact ⟨rfl, (HB.out _ _).trans (Tb.below_drewN _ _)⟩
theorem reffind_any (w : World) (d z : Nat) (f : F) (n : Int) (D : Dm w d z f n) (O : Ok f) (o : Opn) :
    Calls Tryz.prog 21 #[.pointer (some ⟨d, z, none⟩), opv o] w fun e w' => e = .returned (.tuple #[.int .i64 (f o.book o.kind), .bool (ne0 (f o.book o.kind))]) ∧ Below w.heap.size w w' := by
  by_cases h : o.book < 1 ∨ 200 < o.book ∨ o.kind < 1 ∨ 6 < o.kind
  · have e : f o.book o.kind = 0 := Decidable.byContradiction fun h0 => by
      have := O.inn _ _ h0
      omega
    rw [e]
    exact reffind_out w d z o h
  · obtain ⟨k, b, u, c, a⟩ := o
    simp only at h ⊢
    obtain ⟨k', rfl⟩ := Int.eq_ofNat_of_zero_le (a := k) (by omega)
    obtain ⟨b', rfl⟩ := Int.eq_ofNat_of_zero_le (a := b) (by omega)
    exact reffind_in w d z f n D k' b' u c a (by omega) (by omega) (by omega) (by omega)
end Tb
end Go.Proofs.YtpkdigegkemogaaGreatDoor
namespace Go.Proofs.YtpkdigegkemogaaGreatDoor
set_option maxRecDepth 100000
open Go.RowKit
open Go.Sort (grow)
open Go.Proofs.YtpkdigegkemogaaGreatDoor.Pk (one_at one_free one_set lt_some grown_set grown_trans grown_refl)
namespace Tb
open Wt (Opn mayOp)

def DTo (w : World) (d z : Nat) (f : F) (w' : World) : Prop := Dm w' d z f (cnt f : Nat) ∧ Kr d z w w'
theorem DTo.of_below {w w' : World} {d z : Nat} {f : F} (D : Dm w d z f (cnt f : Nat)) (hb : Below w.heap.size w w') : DTo w d z f w' := ⟨D.below hb, .of_below D.lt hb⟩
set_option maxHeartbeats 3200000 in
theorem refput_no (w : World) (d z : Nat) (o : Opn) (a : Int) (h : (mayOp o && mayA a) = false) :
    Calls Tryz.prog 23 #[.pointer (some ⟨d, z, none⟩), opv o, .int .i64 a] w fun e w' => e = .returned (.bool false) ∧ Below w.heap.size w w' := by
  obtain ⟨W, hW⟩ : ∃ W, W = w.alloc (.cells #[.int .i64 o.kind, .int .i64 o.book, .int .i64 o.units, .int .i64 o.cust, .int .i64 o.amount] 34) := ⟨_, rfl⟩
  have HB : Hid (Below w.heap.size w W) := by rw [hW]; exact (Below.refl _ _).alloc (Nat.le_refl _) _
  have Q := fun d os => Calls.regrown_of (Wt.refmayop_any (grow (redrawn W d) os) o)
  have N0 : W.heap[w.heap.size]? = some (.cells #[.int .i64 o.kind, .int .i64 o.book, .int .i64 o.units, .int .i64 o.cust, .int .i64 o.amount] 34 (0, 0)) := by rw [hW]; exact heap_alloc_new _ _
  obtain ⟨k, b, u, c, m⟩ := o
  simp only at Q N0 hW
  have z0 := cell_regrown (one_at (i := 0) N0)
  have z1 := cell_regrown (one_at (i := 1) N0)
  have z2 := cell_regrown (one_at (i := 2) N0)
  have z3 := cell_regrown (one_at (i := 3) N0)
  have z4 := cell_regrown (one_at (i := 4) N0)
  replace hW := Lib.hid hW
  clear N0
  cases h1 : mayOp ⟨k, b, u, c, m⟩ with
  | false =>
    rw [h1] at Q
    clear h h1
    go_enter Tryz.func23, Tryz.ntmps23
    go_wp2_with fail
    rw [← hW.out]
    refine wp_region_quiet_below (by kernel_rfl) (by kernel_rfl) ?_
    repeat (go_big_quiet_step (with_reducible exact Q _ _))
    refine wpQuiet_nil ?_
    intro w7 hw'
    obtain ⟨⟨dq, osq⟩, hw7⟩ := hw'
    have B7 : Hid (Below w.heap.size w w7) := by rw [hw7]; exact HB.out.trans ((below_regrown W dq osq).mono HB.out.size)
    clear hw7
    go_wp2
    go_ret
    exact ⟨rfl, B7.out⟩
  | true =>
    rw [h1, Bool.true_and] at h
    rw [h1] at Q
    have g1 : (a == 1) = false := by unfold mayA at h; rw [Bool.or_eq_false_iff] at h; exact h.1
    have g2 : (a == 2) = false := by unfold mayA at h; rw [Bool.or_eq_false_iff] at h; exact h.2
    have e1 : (a != 1) = true := by simp only [bne, g1]; rfl
    have e2 : (a != 2) = true := by simp only [bne, g2]; rfl
    have n1 : ¬ a = 1 := beq_eq_false_iff_ne.1 g1
    have n2 : ¬ a = 2 := beq_eq_false_iff_ne.1 g2
    clear h h1
    go_enter Tryz.func23, Tryz.ntmps23
    go_wp2_with fail
    rw [← hW.out]
    refine wp_region_quiet_below (by kernel_rfl) (by kernel_rfl) ?_
    repeat (go_big_quiet_step (with_reducible exact Q _ _))
    refine wpQuiet_nil ?_
    intro w7 hw'
    obtain ⟨⟨dq, osq⟩, hw7⟩ := hw'
    have B7 : Hid (Below w.heap.size w w7) := by rw [hw7]; exact HB.out.trans ((below_regrown W dq osq).mono HB.out.size)
    clear hw7
    go_wp2
    go_ret
    exact ⟨rfl, B7.out⟩
set_option maxHeartbeats 3200000 in
theorem refput_is (w : World) (d z : Nat) (f : F) (n : Int) (D : Dm w d z f n) (k b : Nat) (u c m a : Int) (b2 : b ≤ 200) (k2 : k ≤ 6) (hm : mayOp ⟨k, b, u, c, m⟩ = true) (ha : a = 1 ∨ a = 2) (h0 : f b k ≠ 0) :
    Calls Tryz.prog 23 #[.pointer (some ⟨d, z, none⟩), .agg #[.int .i64 (k : Int), .int .i64 (b : Int), .int .i64 u, .int .i64 c, .int .i64 m], .int .i64 a] w fun e w' => e = .returned (.bool false) ∧ Below w.heap.size w w' := by
  obtain ⟨W, hW⟩ : ∃ W, W = w.alloc (.cells #[.int .i64 (k : Int), .int .i64 (b : Int), .int .i64 u, .int .i64 c, .int .i64 m] 34) := ⟨_, rfl⟩
  have HB : Hid (Below w.heap.size w W) := by rw [hW]; exact (Below.refl _ _).alloc (Nat.le_refl _) _
  have Q := fun d os => Calls.regrown_of (Wt.refmayop_any (grow (redrawn W d) os) ⟨k, b, u, c, m⟩)
  rw [hm] at Q
  have N0 : W.heap[w.heap.size]? = some (.cells #[.int .i64 (k : Int), .int .i64 (b : Int), .int .i64 u, .int .i64 c, .int .i64 m] 34 (0, 0)) := by rw [hW]; exact heap_alloc_new _ _
  simp only at Q
  have z0 := cell_regrown (one_at (i := 0) N0)
  have z1 := cell_regrown (one_at (i := 1) N0)
  have z2 := cell_regrown (one_at (i := 2) N0)
  have z3 := cell_regrown (one_at (i := 3) N0)
  have z4 := cell_regrown (one_at (i := 4) N0)
  have zc := cell_regrown ((D.below HB.out).at_ b k b2 k2)
  have x0 : (f b k == 0) = false := beq_eq_false_iff_ne.2 h0
  have x1 : (f b k != 0) = true := by simp only [bne, x0]; rfl
  have j1 : (b : Int) < 201 := by omega
  have j2 : (k : Int) < 7 := by omega
  generalize f b k = x at *
  replace hW := Lib.hid hW
  clear N0 D hm
  rcases ha with rfl | rfl
  all_goals
    go_enter Tryz.func23, Tryz.ntmps23
    go_wp2_with fail
    rw [← hW.out]
    refine wp_region_quiet_below (by kernel_rfl) (by kernel_rfl) ?_
    repeat (go_big_quiet_step (with_reducible exact Q _ _))
    refine wpQuiet_nil ?_
    intro w7 hw'
    obtain ⟨⟨dq, osq⟩, hw7⟩ := hw'
    have B7 : Hid (Below w.heap.size w w7) := by rw [hw7]; exact HB.out.trans ((below_regrown W dq osq).mono HB.out.size)
    clear hw7
    go_wp2
    go_ret
    exact ⟨rfl, B7.out⟩
set_option maxHeartbeats 3200000 in
theorem refput_yes (w : World) (d z : Nat) (f : F) (D : Dm w d z f (cnt f : Nat)) (k b : Nat) (u c m a : Int) (b1 : 1 ≤ b) (b2 : b ≤ 200) (k1 : 1 ≤ k) (k2 : k ≤ 6) (hm : mayOp ⟨k, b, u, c, m⟩ = true) (ha : a = 1 ∨ a = 2) (h0 : f b k = 0) :
    Calls Tryz.prog 23 #[.pointer (some ⟨d, z, none⟩), .agg #[.int .i64 (k : Int), .int .i64 (b : Int), .int .i64 u, .int .i64 c, .int .i64 m], .int .i64 a] w fun e w' => e = .returned (.bool true) ∧ DTo w d z (upd f b k a) w' := by
  obtain ⟨W, hW⟩ : ∃ W, W = w.alloc (.cells #[.int .i64 (k : Int), .int .i64 (b : Int), .int .i64 u, .int .i64 c, .int .i64 m] 34) := ⟨_, rfl⟩
  have HB : Hid (Below w.heap.size w W) := by rw [hW]; exact (Below.refl _ _).alloc (Nat.le_refl _) _
  have Q := fun d os => Calls.regrown_of (Wt.refmayop_any (grow (redrawn W d) os) ⟨k, b, u, c, m⟩)
  rw [hm] at Q
  have N0 : Hid (W.heap[w.heap.size]? = some (.cells #[.int .i64 (k : Int), .int .i64 (b : Int), .int .i64 u, .int .i64 c, .int .i64 m] 34 (0, 0))) := by rw [hW]; exact heap_alloc_new _ _
  simp only at Q
  have z0 := cell_regrown (one_at (i := 0) N0.out)
  have z1 := cell_regrown (one_at (i := 1) N0.out)
  have z2 := cell_regrown (one_at (i := 2) N0.out)
  have z3 := cell_regrown (one_at (i := 3) N0.out)
  have z4 := cell_regrown (one_at (i := 4) N0.out)
  have zc := cell_regrown ((D.below HB.out).at_ b k b2 k2)
  rw [h0] at zc
  have j1 : (b : Int) < 201 := by omega
  have j2 : (k : Int) < 7 := by omega
  have hcn : cnt (upd f b k a) = cnt f + 1 := cnt_upd (by omega) (by omega) (by omega) h0
  have hcl := cnt_le f
  obtain ⟨N, hN⟩ : ∃ N : Int, N = (cnt f : Int) := ⟨_, rfl⟩
  obtain ⟨N1, hN1⟩ : ∃ N : Int, N = ((cnt (upd f b k a) : Nat) : Int) := ⟨_, rfl⟩
  have wN : Hid (IntKind.i64.wrap (N + 1) = N1) := by unfold Hid; rw [IntKind.wrap_i64]; omega
  replace D : Hid (Dm w d z f N) := by rw [hN]; exact D
  have E : Hid (∀ w7, Below w.heap.size w w7 → w7.cell? ⟨d, z + b * 7 + k, none⟩ = some (.int .i64 0) ∧ w7.frozen? ⟨d, z + b * 7 + k, none⟩ = false ∧ ∃ W1, W1 = (w7.setCell ⟨d, z + b * 7 + k, none⟩ (.int .i64 a)).drew ∧ W1.cell? ⟨d, z + 1407, none⟩ = some (.int .i64 N) ∧ W1.frozen? ⟨d, z + 1407, none⟩ = false ∧ DTo w d z (upd f b k a) (W1.setCell ⟨d, z + 1407, none⟩ (.int .i64 N1))) := fun w7 hb => by
    have D7 := D.out.below hb
    have D8 : Dm (w7.setCell ⟨d, z + b * 7 + k, none⟩ (.int .i64 a)).drew d z (upd f b k a) N := (D7.put b2 k2 a).keep rfl
    have D9 := D8.count N1
    refine ⟨by rw [D7.at_ b k b2 k2, h0], D7.free _, _, rfl, D8.num, D8.free _, ?_, ?_⟩
    · rw [← hN1]; exact D9
    · have q1 : Kr d z w7 (w7.setCell ⟨d, z + b * 7 + k, none⟩ (.int .i64 a)).drew := by rw [set1]; exact (Kr.of_cells _ _ _ _ (by omega)).drew
      have q2 : Kr d z (w7.setCell ⟨d, z + b * 7 + k, none⟩ (.int .i64 a)).drew (((w7.setCell ⟨d, z + b * 7 + k, none⟩ (.int .i64 a)).drew).setCell ⟨d, z + 1407, none⟩ (.int .i64 N1)) := by rw [set1 _ d (z + 1407)]; exact Kr.of_cells _ _ _ _ (by omega)
      exact ((Kr.of_below D.out.lt hb).self q1).self q2
  replace hW := Lib.hid hW
  clear D hm h0 hcn hcl hN hN1
  rcases ha with rfl | rfl
  all_goals
    go_enter Tryz.func23, Tryz.ntmps23
    go_wp2_with fail
    rw [← hW.out]
    refine wp_region_quiet_below (by kernel_rfl) (by kernel_rfl) ?_
    repeat (go_big_quiet_step (with_reducible exact Q _ _))
    refine wpQuiet_nil ?_
    intro w7 hw'
    obtain ⟨⟨dq, osq⟩, hw7⟩ := hw'
    have b7 : Below W.heap.size W w7 := by rw [hw7]; exact below_regrown W dq osq
    have B7 : Below w.heap.size w w7 := HB.out.trans (b7.mono HB.out.size)
    have N7 := (b7.block _ (lt_some N0.out)).trans N0.out
    have y0 := one_at (i := 0) N7
    have y1 := one_at (i := 1) N7
    obtain ⟨f1, f2, W1, hW1, f3, f4, F⟩ := E.out w7 B7
    replace F := Lib.hid F
    replace hW1 := Lib.hid hW1
    have wN' := wN.out
    clear hw7 b7 B7 N7 z0 z1 z2 z3 z4 zc Q
    go_upto_region 3 with fail
    go_still_tail 10, (by kernel_rfl)
    change wpList _ _ _ _ _ w7.drew
    go_upto_region 4 with fail
    rw [← hW1.out]
    go_wp2
    go_ret
    exact ⟨rfl, F.out⟩
theorem refput_any (w : World) (d z : Nat) (f : F) (D : Dm w d z f (cnt f : Nat)) (o : Opn) (a : Int) :
    Calls Tryz.prog 23 #[.pointer (some ⟨d, z, none⟩), opv o, .int .i64 a] w fun e w' => e = .returned (.bool (put? f o a)) ∧ DTo w d z (putF f o a) w' := by
  cases h : (mayOp o && mayA a) with
  | false =>
    refine (refput_no w d z o a h).mono ?_
    rintro e w' ⟨rfl, hb⟩
    have e : put? f o a = false := by unfold put?; rw [h]; rfl
    unfold putF
    rw [e]
    exact ⟨rfl, DTo.of_below D hb⟩
  | true =>
    obtain ⟨h1, h2⟩ := (Bool.and_eq_true _ _).mp h
    obtain ⟨b1, b2⟩ := mayop_bds h1
    by_cases h0 : f o.book o.kind = 0
    · have e : put? f o a = true := put_iff.2 ⟨h1, h2, h0⟩
      unfold putF
      rw [e, if_pos rfl]
      obtain ⟨k, b, u, c, m⟩ := o
      simp only at b1 b2 h0 ⊢
      obtain ⟨k', rfl⟩ := Int.eq_ofNat_of_zero_le (a := k) (by omega)
      obtain ⟨b', rfl⟩ := Int.eq_ofNat_of_zero_le (a := b) (by omega)
      exact refput_yes w d z f D k' b' u c m a (by omega) (by omega) (by omega) (by omega) h1 (maya_iff.1 h2) h0
    · have e : put? f o a = false := by
        unfold put?
        rw [Bool.and_eq_false_iff]
        exact .inr (beq_eq_false_iff_ne.2 h0)
      unfold putF
      rw [e]
      obtain ⟨k, b, u, c, m⟩ := o
      simp only at b1 b2 h0 ⊢
      obtain ⟨k', rfl⟩ := Int.eq_ofNat_of_zero_le (a := k) (by omega)
      obtain ⟨b', rfl⟩ := Int.eq_ofNat_of_zero_le (a := b) (by omega)
      refine (refput_is w d z f _ D k' b' u c m a (by omega) (by omega) h1 (maya_iff.1 h2) h0).mono ?_
      rintro e w' ⟨rfl, hb⟩
      exact ⟨rfl, DTo.of_below D hb⟩
end Tb
end Go.Proofs.YtpkdigegkemogaaGreatDoor
namespace Go.Proofs.YtpkdigegkemogaaGreatDoor
set_option maxRecDepth 100000
open Go.RowKit
open Go.Sort (grow)
open Go.Proofs.YtpkdigegkemogaaGreatDoor.Pk (one_at one_free one_set lt_some grown_set grown_trans grown_refl)
namespace Ho
open Wt (Opn mayOp)
open St (Kq Ds dstp tick)
open Tb (Dm cnt ne0)

structure Dh (w : World) (d : Nat) (cap over : Int) (s : S) : Prop where
  st : Ds w d cap over s.f
  tb : Dm w d 1007 s.g (cnt s.g : Nat)
section
variable {w w' : World} {d : Nat} {cap over : Int} {s : S} {f : St.F} {g : Tb.F} {n : Int}
theorem Dh.keep (D : Dh w d cap over s) (h : w'.heap[d]? = w.heap[d]?) : Dh w' d cap over s := ⟨D.st.keep h, D.tb.keep h⟩
theorem Dh.below (D : Dh w d cap over s) (hb : Below w.heap.size w w') : Dh w' d cap over s := ⟨D.st.below hb, D.tb.below hb⟩
theorem dm_tail (T : Dm w d 1007 g n) (K : St.Tl d 1007 w w') (hd : d < w'.heap.size) (hf : ∀ i, w'.frozen? ⟨d, i, none⟩ = false) : Dm w' d 1007 g n :=
  ⟨hd, fun b k hb hk => (K _ (by omega)).trans (T.at_ b k hb hk), (K _ (by omega)).trans T.num, hf⟩
theorem ds_low (D : Ds w d cap over f) (K : Tb.Kr d 1007 w w') : Ds w' d cap over f := by
  refine ⟨Nat.lt_of_lt_of_le D.lt K.size, (K.low 0 (by omega)).trans D.c0, (K.low 1 (by omega)).trans D.c1, fun k hk j v hj => ?_, fun i => (K.free i).trans (D.free i)⟩
  have h5 : j < 5 := (List.getElem?_eq_some_iff.1 hj).1
  exact (K.low _ (by omega)).trans (D.ent k hk j v hj)
theorem kq_of {S : Nat → Prop} (K : Tb.Kq S w w') : Kq S w w' := ⟨K.os, K.tape, K.output, K.size, K.block⟩
end
def DhTo (w : World) (d : Nat) (cap over : Int) (s : S) (w' : World) : Prop := Dh w' d cap over s ∧ Kq (fun g => g = d) w w'
theorem kq_self {d : Nat} {w w1 w2 : World} (h : Kq (fun g => g = d) w w1) (k : Kq (fun g => g = d) w1 w2) : Kq (fun g => g = d) w w2 := h.trans (k.mono fun _ e => .inl e)
theorem DhTo.drew {w w' : World} {d : Nat} {cap over : Int} {s : S} (h : DhTo w d cap over s w') : DhTo w d cap over s w'.drew := ⟨h.1.keep rfl, ⟨h.2.os, h.2.tape, h.2.output, h.2.size, h.2.block⟩⟩
abbrev opv' (o : Opn) : Value := .agg #[.int .i64 o.kind, .int .i64 o.book, .int .i64 o.units, .int .i64 o.cust, .int .i64 o.amount]
set_option maxHeartbeats 3200000 in
theorem refask_any (w : World) (d : Nat) (cap over : Int) (s : S) (D : Dh w d cap over s) (O : Ok cap over s) (o : Opn) (now : Int) :
    Calls Tryz.prog 7 #[.pointer (some ⟨d, 0, none⟩), opv' o, .int .i64 now] w fun e w' => e = .returned (.tuple #[.int .i64 (ans cap over s o now), .bool (isNew s o now)]) ∧ DhTo w d cap over (asked cap over s o now) w' := by
  obtain ⟨W, hW⟩ : ∃ W, W = w.alloc (.cells #[.int .i64 o.kind, .int .i64 o.book, .int .i64 o.units, .int .i64 o.cust, .int .i64 o.amount] 34) := ⟨_, rfl⟩
  have HB : Hid (Below w.heap.size w W) := by rw [hW]; exact (Below.refl _ _).alloc (Nat.le_refl _) _
  have N0 : Hid (W.heap[w.heap.size]? = some (.cells #[.int .i64 o.kind, .int .i64 o.book, .int .i64 o.units, .int .i64 o.cust, .int .i64 o.amount] 34 (0, 0))) := by rw [hW]; exact heap_alloc_new _ _
  have plt : Hid (d < w.heap.size) := D.st.lt
  have MO := Lib.hid (Wt.refmayop_any W o)
  have TM := Lib.hid (fun w => St.reftime_any w now)
  have z0 := one_at (i := 0) N0.out
  have z1 := one_at (i := 1) N0.out
  have z2 := one_at (i := 2) N0.out
  have z3 := one_at (i := 3) N0.out
  have z4 := one_at (i := 4) N0.out
  have FD : Hid (∀ w1, Below w.heap.size w w1 → Calls Tryz.prog 21 #[.pointer (some ⟨d, 1007, none⟩), .agg #[.int .i64 o.kind, .int .i64 o.book, .int .i64 o.units, .int .i64 o.cust, .int .i64 o.amount]] w1 fun e w' => e = .returned (.tuple #[.int .i64 (s.g o.book o.kind), .bool (ne0 (s.g o.book o.kind))]) ∧ Below w1.heap.size w1 w') := fun w1 hb =>
    Tb.reffind_any w1 d 1007 s.g _ (D.below hb).tb O.g o
  have DO : Hid (∀ w1, Below w.heap.size w w1 → Calls Tryz.prog 22 #[.pointer (some ⟨d, 0, none⟩), .agg #[.int .i64 o.kind, .int .i64 o.book, .int .i64 o.units, .int .i64 o.cust, .int .i64 o.amount], .int .i64 now] w1 fun e w' => e = .returned (.int .i64 (dstp cap over s.f o now).2) ∧ DhTo w d cap over ⟨(dstp cap over s.f o now).1, s.g⟩ w' ∧ Kq (fun g => g = d) w1 w') := fun w1 hb => by
    refine (St.refdo_any w1 d cap over now s.f (D.below hb).st O.f o).mono ?_
    rintro e w' ⟨rfl, h1, K⟩
    exact ⟨rfl, ⟨⟨h1, dm_tail (D.below hb).tb K.tail h1.lt h1.free⟩, (Kq.of_below hb).trans (K.toKq.mono fun _ e => .inl e)⟩, K.toKq⟩
  have PU : Hid (∀ w1 a, mayH o now = true → s.g o.book o.kind = 0 → (dstp cap over s.f o now).2 = a → DhTo w d cap over ⟨(dstp cap over s.f o now).1, s.g⟩ w1 → Calls Tryz.prog 23 #[.pointer (some ⟨d, 1007, none⟩), .agg #[.int .i64 o.kind, .int .i64 o.book, .int .i64 o.units, .int .i64 o.cust, .int .i64 o.amount], .int .i64 a] w1 fun e w' => e = .returned (.bool true) ∧ DhTo w d cap over (asked cap over s o now) w') := fun w1 a hm h0 ha hT => by
    refine (Tb.refput_any w1 d 1007 s.g hT.1.tb o a).mono ?_
    rintro e w' ⟨rfl, h1, K⟩
    rw [← ha, put_is hm h0, asked_yes hm h0]
    rw [← ha] at h1
    exact ⟨rfl, ⟨ds_low hT.1.st K, h1⟩, kq_self hT.2 (kq_of K.toKq)⟩
  have F0 : Hid (mayH o now = true → s.g o.book o.kind = 0 → ans cap over s o now = (dstp cap over s.f o now).2 ∧ isNew s o now = true) := fun hm h0 => ⟨ans_yes hm h0, new_yes hm h0⟩
  have F1 : Hid (mayH o now = true → s.g o.book o.kind ≠ 0 → ans cap over s o now = s.g o.book o.kind ∧ isNew s o now = false ∧ asked cap over s o now = s) := fun hm h0 => ⟨ans_old hm h0, new_old h0, asked_old h0⟩
  have F2 : Hid (mayH o now = false → ans cap over s o now = 2 ∧ isNew s o now = false ∧ asked cap over s o now = s) := fun h0 => ⟨ans_no h0, new_no h0, asked_no h0⟩
  have EB : Hid (∀ w1, Below w.heap.size w w1 → DhTo w d cap over s w1) := fun w1 hb => ⟨D.below hb, .of_below hb⟩
  have HM : Hid (mayH o now = (mayOp o && tick now && decide (o.kind ≤ 3))) := rfl
  have bd : Hid (mayOp o = true → 1 ≤ o.kind ∧ o.kind ≤ 6) := fun h => (Tb.mayop_bds h).2
  replace hW := Lib.hid hW
  generalize (dstp cap over s.f o now).2 = a at *
  generalize (⟨(dstp cap over s.f o now).1, s.g⟩ : S) = s1 at *
  generalize s.g o.book o.kind = g at *
  generalize asked cap over s o now = s' at *
  generalize ans cap over s o now = rr at *
  generalize isNew s o now = nn at *
  generalize mayH o now = mh at *
  clear D O
  obtain ⟨k, b, u, c, m⟩ := o
  simp only at *
  generalize mayOp ⟨k, b, u, c, m⟩ = mo at *
  cases mo with
  | false =>
    obtain ⟨e1, e2, e3⟩ := F2.out (by rw [HM.out]; rfl)
    rw [e1, e2, e3]
    clear F0 F1 F2 FD DO PU e1 e2 e3 bd HM
    go_enter Tryz.func7, Tryz.ntmps7
    go_wp2_with fail
    rw [← hW.out]
    go_wp2_with fail
    refine MO.out.mono ?_
    rintro e w1 ⟨rfl, h1⟩
    have E := Lib.hid (EB.out w1 (HB.out.trans (h1.mono HB.out.size)))
    clear MO h1 z0 z1 z2 z3 z4
    go_wp2
    go_ret2
    exact ⟨rfl, E.out⟩
  | true =>
    obtain ⟨k1, k6⟩ := bd.out rfl
    by_cases h3 : k ≤ 3
    · have g3 : decide (3 < k) = false := decide_eq_false (by omega)
      rw [decide_eq_true h3, Bool.true_and, Bool.and_true] at HM
      generalize tick now = tt at *
      rw [HM.out] at F0 F1 F2 PU
      cases tt with
      | false =>
        obtain ⟨e1, e2, e3⟩ := F2.out rfl
        rw [e1, e2, e3]
        clear F0 F1 F2 FD DO PU e1 e2 e3 bd HM
        go_enter Tryz.func7, Tryz.ntmps7
        go_wp2_with fail
        rw [← hW.out]
        go_wp2_with fail
        refine MO.out.mono ?_
        rintro e w1 ⟨rfl, h1⟩
        have y0 := one_at (i := 0) ((h1.block _ (lt_some N0.out)).trans N0.out)
        have E := Lib.hid (EB.out w1 (HB.out.trans (h1.mono HB.out.size)))
        clear MO h1 z0 z1 z2 z3 z4
        go_wp2_with fail
        refine (TM.out _).mono ?_
        rintro e w2 ⟨rfl, rfl⟩
        clear TM
        go_wp2
        go_ret2
        exact ⟨rfl, E.out⟩
      | true =>
        replace PU : Hid (∀ w1 a', g = 0 → a = a' → DhTo w d cap over s1 w1 → _) := fun w1 a' h1 h2 h3 => PU.out w1 a' rfl h1 h2 h3
        by_cases g0 : g = 0
        · obtain ⟨e1, e2⟩ := F0.out rfl g0
          have PA : Hid (∀ w1, DhTo w d cap over s1 w1 → _) := fun w1 h3 => PU.out w1 a g0 rfl h3
          subst g0
          rw [show ne0 0 = false from rfl] at FD
          rw [e1, e2]
          clear F0 F1 F2 EB e1 e2 bd HM PU
          go_enter Tryz.func7, Tryz.ntmps7
          go_wp2_with fail
          rw [← hW.out]
          go_wp2_with fail
          refine MO.out.mono ?_
          rintro e w1 ⟨rfl, h1⟩
          have B1 : Below w.heap.size w w1 := HB.out.trans (h1.mono HB.out.size)
          have N1 : Hid (w1.heap[w.heap.size]? = some (.cells #[.int .i64 k, .int .i64 b, .int .i64 u, .int .i64 c, .int .i64 m] 34 (0, 0))) := (h1.block _ (lt_some N0.out)).trans N0.out
          have y0 := one_at (i := 0) N1.out
          have y1 := one_at (i := 1) N1.out
          have y2 := one_at (i := 2) N1.out
          have y3 := one_at (i := 3) N1.out
          have y4 := one_at (i := 4) N1.out
          have FW := Lib.hid (FD.out w1.drew ⟨B1.os, B1.tape, B1.output, B1.size, B1.block⟩)
          replace B1 := Lib.hid B1
          clear MO h1 z0 z1 z2 z3 z4 FD N0
          go_wp2_with fail
          refine (TM.out _).mono ?_
          rintro e w2 ⟨rfl, rfl⟩
          clear TM
          go_upto_region 3 with fail
          go_region_with (first
            | (go_at_call 21; refine FW.out.mono ?_; rintro e w3 ⟨rfl, h3⟩; have B3 : Below w.heap.size w w3 := B1.out.trans (Below.mono ⟨h3.os, h3.tape, h3.output, h3.size, h3.block⟩ B1.out.size); have N3 : Hid (w3.heap[w.heap.size]? = some (.cells #[.int .i64 k, .int .i64 b, .int .i64 u, .int .i64 c, .int .i64 m] 34 (0, 0))) := (h3.block _ (lt_some N1.out)).trans N1.out; clear h3))
          all_goals
            clear y0 y1 y2 y3 y4 FW N1 B1
            have y0 := one_at (i := 0) N3.out
            have y1 := one_at (i := 1) N3.out
            have y2 := one_at (i := 2) N3.out
            have y3 := one_at (i := 3) N3.out
            have y4 := one_at (i := 4) N3.out
            have DW := Lib.hid (DO.out w3.drew ⟨B3.os, B3.tape, B3.output, B3.size, B3.block⟩)
            clear DO B3
            go_upto_region 6 with fail
            go_region_with (first
              | (go_at_call 22; refine DW.out.mono ?_; rintro e w4 ⟨rfl, h4, k4⟩; have N4 : Hid (w4.heap[w.heap.size]? = some (.cells #[.int .i64 k, .int .i64 b, .int .i64 u, .int .i64 c, .int .i64 m] 34 (0, 0))) := (k4.block _ (lt_some N3.out) (by have := plt.out; omega)).trans N3.out; have P4 := Lib.hid (PA.out w4.drew h4.drew); clear h4 k4))
            all_goals
              clear y0 y1 y2 y3 y4 DW N3 PA
              have y0 := one_at (i := 0) N4.out
              have y1 := one_at (i := 1) N4.out
              have y2 := one_at (i := 2) N4.out
              have y3 := one_at (i := 3) N4.out
              have y4 := one_at (i := 4) N4.out
              go_upto_region 7 with fail
              go_region_with (first
                | (go_at_call 23; refine P4.out.mono ?_; rintro e w5 ⟨rfl, h5⟩; replace h5 := Lib.hid h5))
              all_goals
                clear y0 y1 y2 y3 y4 P4
                go_wp2
                go_ret2
                exact ⟨rfl, h5.out⟩
        · obtain ⟨e1, e2, e3⟩ := F1.out rfl g0
          rw [Tb.ne0_iff.2 g0] at FD
          rw [e1, e2, e3]
          clear F0 F1 F2 DO PU e1 e2 e3 bd HM
          go_enter Tryz.func7, Tryz.ntmps7
          go_wp2_with fail
          rw [← hW.out]
          go_wp2_with fail
          refine MO.out.mono ?_
          rintro e w1 ⟨rfl, h1⟩
          have B1 : Below w.heap.size w w1 := HB.out.trans (h1.mono HB.out.size)
          have N1 : Hid (w1.heap[w.heap.size]? = some (.cells #[.int .i64 k, .int .i64 b, .int .i64 u, .int .i64 c, .int .i64 m] 34 (0, 0))) := (h1.block _ (lt_some N0.out)).trans N0.out
          have y0 := one_at (i := 0) N1.out
          have y1 := one_at (i := 1) N1.out
          have y2 := one_at (i := 2) N1.out
          have y3 := one_at (i := 3) N1.out
          have y4 := one_at (i := 4) N1.out
          have FW := Lib.hid (FD.out w1.drew ⟨B1.os, B1.tape, B1.output, B1.size, B1.block⟩)
          replace B1 := Lib.hid B1
          clear MO h1 z0 z1 z2 z3 z4 FD N0
          go_wp2_with fail
          refine (TM.out _).mono ?_
          rintro e w2 ⟨rfl, rfl⟩
          clear TM
          go_upto_region 3 with fail
          go_region_with (first
            | (go_at_call 21; refine FW.out.mono ?_; rintro e w3 ⟨rfl, h3⟩; have B3 : Below w.heap.size w w3 := B1.out.trans (Below.mono ⟨h3.os, h3.tape, h3.output, h3.size, h3.block⟩ B1.out.size); have E := Lib.hid (EB.out w3 B3); clear h3 B3))
          all_goals
            clear y0 y1 y2 y3 y4 FW N1 B1 EB
            go_wp2
            go_ret2
            exact ⟨rfl, E.out⟩
    · have g3 : decide (3 < k) = true := decide_eq_true (by omega)
      obtain ⟨e1, e2, e3⟩ := F2.out (by rw [HM.out, decide_eq_false h3, Bool.and_false])
      rw [e1, e2, e3]
      clear F0 F1 F2 FD DO PU e1 e2 e3 bd HM
      go_enter Tryz.func7, Tryz.ntmps7
      go_wp2_with fail
      rw [← hW.out]
      go_wp2_with fail
      refine MO.out.mono ?_
      rintro e w1 ⟨rfl, h1⟩
      have y0 := one_at (i := 0) ((h1.block _ (lt_some N0.out)).trans N0.out)
      have E := Lib.hid (EB.out w1 (HB.out.trans (h1.mono HB.out.size)))
      clear MO h1 z0 z1 z2 z3 z4
      go_wp2
      go_ret2
      exact ⟨rfl, E.out⟩
end Ho
end Go.Proofs.YtpkdigegkemogaaGreatDoor
namespace Go.Proofs.YtpkdigegkemogaaGreatDoor
set_option maxRecDepth 100000
open Go.RowKit Go.Sort
open Go.Proofs.YtpkdigegkemogaaGreatDoor.Pk (one_at one_free one_set lt_some grown_set grown_trans grown_refl refint str str_add str_cat str_size encI_len)
namespace Nd
open St (Bs cat int_of size_add2)
open Tb (Dm cnt ne0 walk row keys)

theorem kb_app (g : Tb.F) (a b : List (Int × Int)) : kb g (a ++ b) = kb g a ++ kb g b := by unfold kb; rw [List.flatMap_append]
theorem kb_one (g : Tb.F) (x y : Int) : kb g [(x, y)] = Pk.encI x ++ Pk.encI y ++ Pk.encI (g x y) := by simp [kb, cat]
theorem row_ne {g : Tb.F} {b : Int} {n : Nat} {p : Int × Int} (h : p ∈ row g b n) : g p.1 p.2 ≠ 0 := by
  obtain ⟨x, y⟩ := p
  exact (Tb.mem_row.1 h).2.2.2
theorem walk_ne {g : Tb.F} {n : Nat} {p : Int × Int} (h : p ∈ walk g n) : g p.1 p.2 ≠ 0 := by
  obtain ⟨x, y⟩ := p
  exact (Tb.mem_walk.1 h).2.2
def tbs (g : Tb.F) (i j : Nat) : Bs := Pk.encI (cnt g : Nat) ++ kb g (walk g i ++ row g ((i : Int) + 1) j)
theorem tbs_len {g : Tb.F} (O : Tb.Ok g) {i j : Nat} (hi : i ≤ 200) (hj : j ≤ 6) : (tbs g i j).length ≤ 37000 := by
  unfold tbs
  rw [List.length_append]
  have h1 := encI_len (cnt g : Nat) (by omega) (by have := Tb.cnt_le g; omega)
  have h2 := kb_len g O (walk g i ++ row g ((i : Int) + 1) j) (fun p hp => by
    rcases List.mem_append.1 hp with hp | hp
    · exact walk_ne hp
    · exact row_ne hp)
  rw [List.length_append] at h2
  have h3 := Tb.walk_len g i
  have h4 := Tb.row_len g ((i : Int) + 1) j
  omega
theorem tbs_next (g : Tb.F) (i : Nat) : tbs g (i + 1) 0 = tbs g i 6 := by
  unfold tbs
  congr 1
  show kb g (walk g (i + 1) ++ []) = _
  rw [List.append_nil]
  rfl
theorem tbs_no {g : Tb.F} {i j : Nat} (h : g ((i : Int) + 1) ((j : Int) + 1) = 0) : tbs g i (j + 1) = tbs g i j := by
  unfold tbs
  have e : row g ((i : Int) + 1) (j + 1) = row g ((i : Int) + 1) j := by
    rw [show row g ((i : Int) + 1) (j + 1) = row g ((i : Int) + 1) j ++ (if g ((i : Int) + 1) ((j : Int) + 1) = 0 then [] else [((i : Int) + 1, (j : Int) + 1)]) from rfl, if_pos h, List.append_nil]
  rw [e]
theorem tbs_yes {g : Tb.F} {i j : Nat} (h : g ((i : Int) + 1) ((j : Int) + 1) ≠ 0) : tbs g i (j + 1) = tbs g i j ++ (Pk.encI ((i : Int) + 1) ++ Pk.encI ((j : Int) + 1) ++ Pk.encI (g ((i : Int) + 1) ((j : Int) + 1))) := by
  unfold tbs
  have e : row g ((i : Int) + 1) (j + 1) = row g ((i : Int) + 1) j ++ [((i : Int) + 1, (j : Int) + 1)] := by
    rw [show row g ((i : Int) + 1) (j + 1) = row g ((i : Int) + 1) j ++ (if g ((i : Int) + 1) ((j : Int) + 1) = 0 then [] else [((i : Int) + 1, (j : Int) + 1)]) from rfl, if_neg h]
  rw [e, ← List.append_assoc, kb_app, kb_one]
  simp only [List.append_assoc]
def TyAt1 (w : World) (g : Tb.F) (s b : Value) (wr : World) : Prop := ∃ i : Nat, s = .string (str (tbs g i 0)) ∧ b = .int .i64 ((i : Int) + 1) ∧ i ≤ 200 ∧ Below w.heap.size w wr
def TyAt2 (w : World) (g : Tb.F) (i : Nat) (s k : Value) (wr : World) : Prop := ∃ j : Nat, s = .string (str (tbs g i j)) ∧ k = .int .i64 ((j : Int) + 1) ∧ j ≤ 6 ∧ Below w.heap.size w wr
set_option maxHeartbeats 6400000 in
theorem reftbytes_any (w : World) (d z : Nat) (g : Tb.F) (D : Dm w d z g (cnt g : Nat)) (O : Tb.Ok g) : Calls Tryz.prog 52 #[.pointer (some ⟨d, z, none⟩)] w fun e w' => e = .returned (.string (str (tbs g 200 0))) ∧ Below w.heap.size w w' := by
  have D0 := D.num
  have bn : St.Bd (cnt g : Nat) := ⟨by omega, by have := Tb.cnt_le g; omega⟩
  obtain ⟨N, hN⟩ : ∃ N : Int, N = (cnt g : Nat) := ⟨_, rfl⟩
  rw [← hN] at D0 bn
  have C0 := Lib.hid (refint w N bn.1 bn.2)
  have st : Hid (∀ w1, Below w.heap.size w w1 → TyAt1 w g (.string (str (Pk.encI N))) (.int .i64 1) w1) := fun w1 hb => ⟨0, by unfold tbs; rw [hN]; show _ = Value.string (str (_ ++ kb g ([] ++ []))); simp [kb], rfl, by omega, hb⟩
  replace D := Lib.hid D
  replace O := Lib.hid O
  clear hN bn
  go_enter Tryz.func52, Tryz.ntmps52
  go_wp2_with fail
  refine C0.out.mono ?_
  rintro e w1 ⟨rfl, b1⟩
  have st1 := Lib.hid (st.out w1 b1)
  clear st b1 C0 D0
  go_wp2_with fail
  go_loopw [3, 4] (fun s b wr => TyAt1 w g s b wr) (fun _ b _ => 201 - (intOf b).toNat)
  case atStart => exact st1.out
  case round =>
    clear st1
    obtain ⟨i, rfl, rfl, hi, be⟩ := hrel
    by_cases hi2 : i < 200
    · have i1 : (i : Int) + 1 ≤ 200 := by omega
      have st2 : Hid (TyAt2 w g i (.string (str (tbs g i 0))) (.int .i64 1) wr) := ⟨0, rfl, rfl, by omega, be⟩
      generalize tbs g i 0 = s0 at *
      clear be
      go_wp2_with fail
      go_loopw [3, 5] (fun s k wr => TyAt2 w g i s k wr) (fun _ k _ => 7 - (intOf k).toNat)
      case atStart => exact st2.out
      case round =>
        clear st2
        obtain ⟨j, rfl, rfl, hj, be⟩ := hrel
        have ls := tbs_len O.out hi hj
        obtain ⟨s, hs⟩ : ∃ s, s = tbs g i j := ⟨_, rfl⟩
        by_cases hj2 : j < 6
        · have i2 : (j : Int) + 1 ≤ 6 := by omega
          have j201 : (i : Int) + 1 < 201 := by omega
          have j7 : (j : Int) + 1 < 7 := by omega
          have c1 := (D.out.below be).at_ (i + 1) (j + 1) (by omega) (by omega)
          have ex : ((i + 1 : Nat) : Int) = (i : Int) + 1 := by omega
          have ey : ((j + 1 : Nat) : Int) = (j : Int) + 1 := by omega
          rw [ex, ey] at c1
          have hno := tbs_no (g := g) (i := i) (j := j)
          have hye := tbs_yes (g := g) (i := i) (j := j)
          have O1 := O.out.inn ((i : Int) + 1) ((j : Int) + 1)
          obtain ⟨x, hx⟩ : ∃ x, x = g ((i : Int) + 1) ((j : Int) + 1) := ⟨_, rfl⟩
          rw [← hx] at c1 hno hye O1
          rw [← hs] at ls hno hye ⊢
          clear ex ey hx
          by_cases h0 : x = 0
          · have nx : Hid (TyAt2 w g i (.string (str s)) (.int .i64 ((j : Int) + 1 + 1)) wr) := ⟨j + 1, by rw [hno h0], by simp, by omega, be⟩
            have b0 : (x == 0) = true := by simpa using h0
            have b1 : (x != 0) = false := by simp only [bne, b0]; rfl
            subst h0
            clear hno hye O1 hs ls
            go_wp2
            exact ⟨nx.out, by simp [intOf]; omega⟩
          · have b0 : (x == 0) = false := beq_eq_false_iff_ne.2 h0
            have b1 : (x != 0) = true := by simp only [bne, b0]; rfl
            obtain ⟨-, -, O2⟩ := O1 h0
            have B1 : St.Bd ((i : Int) + 1) := ⟨by omega, by omega⟩
            have B2 : St.Bd ((j : Int) + 1) := ⟨by omega, by omega⟩
            have B3 : St.Bd x := ⟨by omega, by omega⟩
            obtain ⟨b1', e1⟩ : ∃ b, b = Pk.encI ((i : Int) + 1) := ⟨_, rfl⟩
            obtain ⟨b2', e2⟩ : ∃ b, b = Pk.encI ((j : Int) + 1) := ⟨_, rfl⟩
            obtain ⟨b3', e3⟩ : ∃ b, b = Pk.encI x := ⟨_, rfl⟩
            have l1 : b1'.length ≤ 10 := by rw [e1]; exact encI_len _ B1.1 B1.2
            have l2 : b2'.length ≤ 10 := by rw [e2]; exact encI_len _ B2.1 B2.2
            have l3 : b3'.length ≤ 10 := by rw [e3]; exact encI_len _ B3.1 B3.2
            have C1 := int_of _ b1' B1 e1 wr
            have C2 := int_of _ b2' B2 e2 wr
            have C3 := int_of _ b3' B3 e3 wr
            have hb := hye h0
            rw [← e1, ← e2, ← e3] at hb
            clear e1 e2 e3 B1 B2 B3 hno hye O1 O2
            obtain ⟨s1, f1⟩ : ∃ x, x = s ++ b1' := ⟨_, rfl⟩
            obtain ⟨s2, f2⟩ : ∃ x, x = s1 ++ b2' := ⟨_, rfl⟩
            obtain ⟨s3, f3⟩ : ∃ x, x = s2 ++ b3' := ⟨_, rfl⟩
            have F : Hid (tbs g i (j + 1) = s3) := by unfold Hid; rw [hb, f3, f2, f1]; simp
            have m1 : s1.length ≤ 37010 := by rw [f1, List.length_append]; omega
            have m2 : s2.length ≤ 37020 := by rw [f2, List.length_append]; omega
            have a1 := str_add s b1' (by omega)
            have a2 := str_add s1 b2' (by omega)
            have a3 := str_add s2 b3' (by omega)
            have q1 := size_add2 (a := s) (b := b1') (by omega)
            have q2 := size_add2 (a := s1) (b := b2') (by omega)
            have q3 := size_add2 (a := s2) (b := b3') (by omega)
            have t1 := str_cat s b1'
            have t2 := str_cat s1 b2'
            have t3 := str_cat s2 b3'
            rw [← f1] at a1 t1
            rw [← f2] at a2 t2
            rw [← f3] at a3 t3
            have z1 := cell_regrown c1
            have hj3 : Hid (j + 1 ≤ 6) := by unfold Hid; omega
            have BW : Hid (Below w.heap.size w wr) := be
            clear f1 f2 f3 m1 m2 l1 l2 l3 ls hb hs hj hj2 be
            go_upto_region 9 with fail
            refine wp_region_quiet_below (by kernel_rfl) (by kernel_rfl) ?_
            repeat (go_big_quiet_step (first | with_reducible exact C1 _ _ | with_reducible exact C2 _ _ | with_reducible exact C3 _ _))
            refine wpQuiet_nil ?_
            intro w2 hw'
            obtain ⟨⟨dq, osq⟩, hw''⟩ := hw'
            have be2 : Hid (RowKit.Below w.heap.size w w2) := by rw [hw'']; exact BW.out.trans ((below_regrown wr dq osq).mono BW.out.size)
            have nx : Hid (TyAt2 w g i (.string (str s3)) (.int .i64 ((j : Int) + 1 + 1)) w2) := ⟨j + 1, by rw [F.out], by simp, hj3.out, be2.out⟩
            clear hw'' z1 C1 C2 C3 c1
            go_wp2_with fail
            exact ⟨nx.out, by
              have h3 : j + 1 ≤ 6 := hj3.out
              simp [intOf]
              omega⟩
        · have i2 : ¬ (j : Int) + 1 ≤ 6 := by omega
          have nx : Hid (TyAt1 w g (.string (str s)) (.int .i64 ((i : Int) + 1 + 1)) wr) := by
            obtain rfl : j = 6 := by omega
            exact ⟨i + 1, by rw [tbs_next, ← hs], by simp, by omega, be⟩
          rw [← hs]
          clear hs ls be
          go_wp2
          exact ⟨nx.out, by simp [intOf]; omega⟩
    · have i1 : ¬ (i : Int) + 1 ≤ 200 := by omega
      obtain ⟨s, hs⟩ : ∃ s, s = tbs g i 0 := ⟨_, rfl⟩
      have EX : Hid (tbs g 200 0 = s ∧ Below w.heap.size w wr) := by
        obtain rfl : i = 200 := by omega
        exact ⟨hs.symm, be⟩
      rw [← hs]
      clear hs be
      go_wp2
      go_ret
      rw [EX.out.1]
      exact ⟨rfl, EX.out.2⟩
theorem tbs_all (g : Tb.F) : tbs g 200 0 = Pk.encI (cnt g : Nat) ++ kb g (keys g) := by
  unfold tbs
  show _ ++ kb g (walk g 200 ++ []) = _
  rw [List.append_nil]
  rfl
end Nd
end Go.Proofs.YtpkdigegkemogaaGreatDoor
