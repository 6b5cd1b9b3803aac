/- The document's Put. -/
import Derived.Test.YtmhpcopghnddeaaTbD
import Derived.Deep.MidRow
import Derived.StillTailTactics
import Derived.Test.YtmhpcopghnddeaaWtC
namespace Go.Proofs.Ytmhpcopghnddeaa
set_option maxRecDepth 100000
open Go.RowKit
open Go.Sort (grow)
open Go.Proofs.Ytmhpcopghnddeaa.Pk (one_at one_free one_set lt_some grown_set grown_trans below_grown grown_refl)
namespace Tb
open Wt (Opn mayOp)

theorem setCells_block (p : Nat) : ∀ (vs : List Value) (o : Nat) (w : World), (w.setCells p o vs).heap.size = w.heap.size ∧ (w.setCells p o vs).os = w.os ∧ (w.setCells p o vs).tape = w.tape ∧ (w.setCells p o vs).output = w.output ∧ ∀ g, g ≠ p → (w.setCells p o vs).heap[g]? = w.heap[g]?
  | [], _, _ => ⟨rfl, rfl, rfl, rfl, fun _ _ => rfl⟩
  | v :: r, o, w => by
    obtain ⟨h1, h2, h3, h4, h5⟩ := setCells_block p r (o + 1) (w.setCell ⟨p, o, none⟩ v)
    rw [World.setCells]
    exact ⟨h1.trans (by simp [World.setCell]), h2, h3, h4, fun g hg => (h5 g hg).trans (Below.heap_setCell _ _ _ _ (fun e => hg e))⟩
theorem Kq.of_cells (w : World) (p o : Nat) (vs : List Value) : Kq (fun g => g = p) w (w.setCells p o vs) := by
  obtain ⟨h1, h2, h3, h4, h5⟩ := setCells_block p vs o w
  exact ⟨h2, h3, h4, by omega, fun g _ hn => h5 g hn⟩
/-- All but some cells of block d, and what is new, is as it was. -/
structure Kr (d z : Nat) (w w' : World) : Prop extends Kq (fun g => g = d) w w' where
  low : ∀ i, i < z → w'.cell? ⟨d, i, none⟩ = w.cell? ⟨d, i, none⟩
  free : ∀ i, w'.frozen? ⟨d, i, none⟩ = w.frozen? ⟨d, i, none⟩
section
variable {d z : Nat} {w w' w1 w2 : World}
theorem frozen_of_block (h : w'.heap[d]? = w.heap[d]?) (i : Nat) : w'.frozen? ⟨d, i, none⟩ = w.frozen? ⟨d, i, none⟩ := by
  unfold World.frozen?
  simp only [h]
theorem Kr.self (h : Kr d z w w1) (k : Kr d z w1 w2) : Kr d z w w2 := ⟨h.toKq.self k.toKq, fun i hi => (k.low i hi).trans (h.low i hi), fun i => (k.free i).trans (h.free i)⟩
theorem Kr.drew (h : Kr d z w w') : Kr d z w w'.drew := ⟨h.toKq.drew, h.low, h.free⟩
theorem Kr.of_below (hd : d < w.heap.size) (h : Below w.heap.size w w') : Kr d z w w' := ⟨.of_below h, fun _ _ => World.cell?_of_block (h.block d hd), frozen_of_block (h.block d hd)⟩
theorem Kr.of_cells (w : World) (d o : Nat) (vs : List Value) (h : z ≤ o) : Kr d z w (w.setCells d o vs) :=
  ⟨.of_cells w d o vs, fun i hi => World.cell?_setCells_out d _ _ w ⟨d, i, none⟩ (fun _ _ => .inl (by show i < o; omega)), fun i => World.frozen?_setCells _ _ _ _ _⟩
end
theorem set1 (w : World) (q o : Nat) (u : Value) : w.setCell ⟨q, o, none⟩ u = w.setCells q o [u] := rfl
/-- The document's table lies at d; n is what its number says. -/
structure Dm (w : World) (d z : Nat) (f : F) (n : Int) : Prop where
  lt : d < w.heap.size
  at_ : ∀ b k : Nat, b ≤ 200 → k ≤ 6 → w.cell? ⟨d, z + b * 7 + k, none⟩ = some (.int .i64 (f (b : Int) (k : Int)))
  num : w.cell? ⟨d, z + 1407, none⟩ = some (.int .i64 n)
  free : ∀ i, w.frozen? ⟨d, i, none⟩ = false
section
variable {w w' : World} {d z : Nat} {f : F} {n : Int}
theorem Dm.keep (D : Dm w d z f n) (h : w'.heap[d]? = w.heap[d]?) : Dm w' d z f n := by
  have e : ∀ i, w'.cell? ⟨d, i, none⟩ = w.cell? ⟨d, i, none⟩ := fun i => World.cell?_of_block h
  refine ⟨?_, fun b k hb hk => (e _).trans (D.at_ b k hb hk), (e _).trans D.num, fun i => ?_⟩
  · have := Array.getElem?_eq_getElem D.lt
    rw [← h] at this
    exact lt_some this
  · have := D.free i
    unfold World.frozen? at this ⊢
    simp only [h]
    exact this
theorem Dm.below (D : Dm w d z f n) (hb : Below w.heap.size w w') : Dm w' d z f n := D.keep (hb.block _ D.lt)
/-- An answer is put. -/
theorem Dm.put (D : Dm w d z f n) {b k : Nat} (hb : b ≤ 200) (hk : k ≤ 6) (a : Int) : Dm (w.setCell ⟨d, z + b * 7 + k, none⟩ (.int .i64 a)) d z (upd f (b : Int) (k : Int) a) n := by
  rw [set1]
  refine ⟨by rw [(setCells_block d _ _ w).1]; exact D.lt, fun x y hx hy => ?_, ?_, fun i => ?_⟩
  · by_cases h : x = b ∧ y = k
    · obtain ⟨rfl, rfl⟩ := h
      rw [upd_same]
      have := World.cell?_setCells_in d [.int .i64 a] (z + x * 7 + y) w (fun i hi => by
        obtain rfl : i = 0 := by simpa using hi
        rw [Nat.add_zero, D.at_ x y hx hy]; rfl) 0 (by simp)
      simpa using this
    · rw [upd_other (by omega), World.cell?_setCells_out d _ _ w ⟨d, z + x * 7 + y, none⟩ (fun _ _ => by show z + x * 7 + y < z + b * 7 + k ∨ z + b * 7 + k + 1 ≤ z + x * 7 + y; omega)]
      exact D.at_ x y hx hy
  · rw [World.cell?_setCells_out d _ _ w ⟨d, z + 1407, none⟩ (fun _ _ => by show z + 1407 < z + b * 7 + k ∨ z + b * 7 + k + 1 ≤ z + 1407; omega)]
    exact D.num
  · rw [World.frozen?_setCells]
    exact D.free i
/-- Its number is put. -/
theorem Dm.count (D : Dm w d z f n) (m : Int) : Dm (w.setCell ⟨d, z + 1407, none⟩ (.int .i64 m)) d z f m := by
  rw [set1]
  refine ⟨by rw [(setCells_block d _ _ w).1]; exact D.lt, fun x y hx hy => ?_, ?_, fun i => ?_⟩
  · rw [World.cell?_setCells_out d _ _ w ⟨d, z + x * 7 + y, none⟩ (fun _ _ => by show z + x * 7 + y < z + 1407 ∨ z + 1407 + 1 ≤ z + x * 7 + y; omega)]
    exact D.at_ x y hx hy
  · have := World.cell?_setCells_in d [.int .i64 m] (z + 1407) w (fun i hi => by
      obtain rfl : i = 0 := by simpa using hi
      rw [Nat.add_zero, D.num]; rfl) 0 (by simp)
    simpa using this
  · rw [World.frozen?_setCells]
    exact D.free i
end

/-! ### a new one -/
def zeros : Array Value := Array.replicate 1408 (.int .i64 0)
theorem build_run (w : World) : (Instr.build 39 #[]).run Try.prog w = .ok (.agg zeros) w := by kernel_rfl
theorem box_run (w : World) (cs : Array Value) : (Instr.box 39 (.agg cs)).run Try.prog w = .ok (.pointer (some ⟨w.heap.size, 0, none⟩)) (w.alloc (.cells cs 39)) := by
  simp only [Instr.box, newVar, newRow, Sem.run_bind]
  kernel_rfl
section
variable {ops : Array Oper} {rest : List Oper} {o : Oper} {a : Act} {w : World} {Q : Exit → Act → World → Prop}
theorem wpList_build11 (hg : o.guard = none) (ho : o.op = .build 39 #[])
    (h : wpList Try.prog ops Q rest (a.put o.dst (.agg zeros)) w) : wpList Try.prog ops Q (o :: rest) a w := by
  refine wpList_plain hg fun K hK => ?_
  unfold Oper.wp execOp
  simp only [ho, Sem.run_bind, List.map_toArray, List.map_nil, build_run, Sem.run_pure, Result.andThen_ok]
  exact hK _ _ h
theorem wpList_box11 (hg : o.guard = none) (x : Operand) (ho : o.op = .box 39 x) (cs : Array Value) (hx : a.eval x = .agg cs)
    (h : wpList Try.prog ops Q rest (a.put o.dst (.pointer (some ⟨w.heap.size, 0, none⟩))) (w.alloc (.cells cs 39))) : wpList Try.prog ops Q (o :: rest) a w := by
  refine wpList_plain hg fun K hK => ?_
  unfold Oper.wp execOp
  simp only [ho, hx, Sem.run_bind, box_run, Sem.run_pure, Result.andThen_ok]
  exact hK _ _ h
end
theorem dm_new (w : World) : Dm (w.alloc (.cells zeros 39)) w.heap.size 0 fz 0 := by
  have h := heap_alloc_new w (.cells zeros 39)
  have z : ∀ i, i < 1408 → zeros[i]? = some (.int .i64 0) := fun i hi => by
    unfold zeros
    rw [Array.getElem?_replicate, if_pos hi]
  exact ⟨lt_some h, fun b k hb hk => by rw [Nat.zero_add, one_at h, z _ (by omega)]; rfl, by rw [Nat.zero_add, one_at h, z _ (by omega)], fun i => one_free h⟩
end Tb
end Go.Proofs.Ytmhpcopghnddeaa

namespace Go.Proofs.Ytmhpcopghnddeaa
set_option maxRecDepth 100000
open Go.RowKit
open Go.Sort (grow)
open Go.Proofs.Ytmhpcopghnddeaa.Pk (one_at one_free one_set lt_some grown_set grown_trans below_grown grown_refl)
namespace Tb
open Wt (Opn mayOp)

set_option maxHeartbeats 1600000 in
theorem reffind_out (w : World) (d z : Nat) (o : Opn) (h : o.book < 1 ∨ 200 < o.book ∨ o.kind < 1 ∨ 6 < o.kind) :
    Calls Try.prog 29 #[.pointer (some ⟨d, z, none⟩), opv o] w fun e w' => e = .returned (.tuple #[.int .i64 0, .bool false]) ∧ Below w.heap.size w w' := by
  have HB : Hid (∀ x n, Below w.heap.size w ((w.alloc x).drewN n)) := fun x n => (Below.refl _ _).alloc (Nat.le_refl _) _ |>.trans (Tb.below_drewN _ n)
  obtain ⟨k, b, u, c, a⟩ := o
  simp only at h
  rcases Int.lt_or_le b 1 with h1 | h1
  · have g1 : decide (b < 1) = true := decide_eq_true h1
    clear h
    go_enter Try.func29, Try.ntmps29
    go_wp2_with fail
    go_quiet (fail)
    go_wp2
    go_ret2
    exact ⟨rfl, HB.out _ _⟩
  have g1 : decide (b < 1) = false := decide_eq_false (by omega)
  have g1' : ¬ b < 1 := by omega
  rcases Int.lt_or_le 200 b with h2 | h2
  · have g2 : decide (200 < b) = true := decide_eq_true h2
    clear h h1
    go_enter Try.func29, Try.ntmps29
    go_wp2_with fail
    go_quiet (fail)
    go_wp2
    go_ret2
    exact ⟨rfl, HB.out _ _⟩
  have g2 : decide (200 < b) = false := decide_eq_false (by omega)
  have g2' : ¬ 200 < b := by omega
  rcases Int.lt_or_le k 1 with h3 | h3
  · have g3 : decide (k < 1) = true := decide_eq_true h3
    clear h h1 h2
    go_enter Try.func29, Try.ntmps29
    go_wp2_with fail
    go_quiet (fail)
    go_wp2
    go_ret2
    exact ⟨rfl, HB.out _ _⟩
  · have h4 : 6 < k := by omega
    have g3 : decide (k < 1) = false := decide_eq_false (by omega)
    have g3' : ¬ k < 1 := by omega
    have g4 : decide (6 < k) = true := decide_eq_true h4
    clear h h1 h2 h3
    go_enter Try.func29, Try.ntmps29
    go_wp2_with fail
    go_quiet (fail)
    go_wp2
    go_ret2
    exact ⟨rfl, HB.out _ _⟩
set_option maxHeartbeats 1600000 in
theorem reffind_in (w : World) (d z : Nat) (f : F) (n : Int) (D : Dm w d z f n) (k b : Nat) (u c a : Int) (b1 : 1 ≤ b) (b2 : b ≤ 200) (k1 : 1 ≤ k) (k2 : k ≤ 6) :
    Calls Try.prog 29 #[.pointer (some ⟨d, z, none⟩), .agg #[.int .i64 (k : Int), .int .i64 (b : Int), .int .i64 u, .int .i64 c, .int .i64 a]] w fun e w' => e = .returned (.tuple #[.int .i64 (f b k), .bool (ne0 (f b k))]) ∧ Below w.heap.size w w' := by
  have HB : Hid (∀ x n, Below w.heap.size w ((w.alloc x).drewN n)) := fun x n => (Below.refl _ _).alloc (Nat.le_refl _) _ |>.trans (Tb.below_drewN _ n)
  have cc : ∀ x, (w.alloc x).cell? ⟨d, z + b * 7 + k, none⟩ = some (.int .i64 (f b k)) := fun x => (D.below ((Below.refl _ _).alloc (Nat.le_refl _) x)).at_ b k b2 k2
  have c1 := cc (.cells #[.int .i64 (k : Int), .int .i64 (b : Int), .int .i64 u, .int .i64 c, .int .i64 a] 43)
  obtain ⟨x, hx⟩ : ∃ x, x = f b k := ⟨_, rfl⟩
  rw [← hx] at c1 ⊢
  have i1 : ¬ (b : Int) < 1 := by omega
  have i2 : ¬ 200 < (b : Int) := by omega
  have i3 : ¬ (k : Int) < 1 := by omega
  have i4 : ¬ 6 < (k : Int) := by omega
  have e1 : decide ((b : Int) < 1) = false := decide_eq_false i1
  have e2 : decide (200 < (b : Int)) = false := decide_eq_false i2
  have e3 : decide ((k : Int) < 1) = false := decide_eq_false i3
  have e4 : decide (6 < (k : Int)) = false := decide_eq_false i4
  have j1 : (b : Int) < 201 := by omega
  have j2 : (k : Int) < 7 := by omega
  clear cc hx D
  by_cases h0 : x = 0
  · subst h0
    rw [show ne0 0 = false from rfl]
    go_enter Try.func29, Try.ntmps29
    go_wp2_with fail
    go_quiet (fail)
    go_wp2
    go_ret2
    exact ⟨rfl, HB.out _ _⟩
  · rw [ne0_iff.2 h0]
    have g0 : (x == 0) = false := beq_eq_false_iff_ne.2 h0
    go_enter Try.func29, Try.ntmps29
    go_wp2_with fail
    go_quiet (fail)
    go_wp2_with fail
    go_quiet (fail)
    go_wp2
    go_ret2
    exact ⟨rfl, (HB.out _ _).trans (Tb.below_drewN _ _)⟩
theorem reffind_any (w : World) (d z : Nat) (f : F) (n : Int) (D : Dm w d z f n) (O : Ok f) (o : Opn) :
    Calls Try.prog 29 #[.pointer (some ⟨d, z, none⟩), opv o] w fun e w' => e = .returned (.tuple #[.int .i64 (f o.book o.kind), .bool (ne0 (f o.book o.kind))]) ∧ Below w.heap.size w w' := by
  by_cases h : o.book < 1 ∨ 200 < o.book ∨ o.kind < 1 ∨ 6 < o.kind
  · have e : f o.book o.kind = 0 := Decidable.byContradiction fun h0 => by
      have := O.inn _ _ h0
      omega
    rw [e]
    exact reffind_out w d z o h
  · obtain ⟨k, b, u, c, a⟩ := o
    simp only at h ⊢
    obtain ⟨k', rfl⟩ := Int.eq_ofNat_of_zero_le (a := k) (by omega)
    obtain ⟨b', rfl⟩ := Int.eq_ofNat_of_zero_le (a := b) (by omega)
    exact reffind_in w d z f n D k' b' u c a (by omega) (by omega) (by omega) (by omega)
end Tb
end Go.Proofs.Ytmhpcopghnddeaa

namespace Go.Proofs.Ytmhpcopghnddeaa
set_option maxRecDepth 100000
open Go.RowKit
open Go.Sort (grow)
open Go.Proofs.Ytmhpcopghnddeaa.Pk (one_at one_free one_set lt_some grown_set grown_trans below_grown grown_refl)
namespace Tb
open Wt (Opn mayOp)

/-- What a call on it leaves. -/
def DTo (w : World) (d z : Nat) (f : F) (w' : World) : Prop := Dm w' d z f (cnt f : Nat) ∧ Kr d z w w'
theorem DTo.of_below {w w' : World} {d z : Nat} {f : F} (D : Dm w d z f (cnt f : Nat)) (hb : Below w.heap.size w w') : DTo w d z f w' := ⟨D.below hb, .of_below D.lt hb⟩
set_option maxHeartbeats 3200000 in
theorem refput_no (w : World) (d z : Nat) (o : Opn) (a : Int) (h : (mayOp o && mayA a) = false) :
    Calls Try.prog 31 #[.pointer (some ⟨d, z, none⟩), opv o, .int .i64 a] w fun e w' => e = .returned (.bool false) ∧ Below w.heap.size w w' := by
  obtain ⟨W, hW⟩ : ∃ W, W = w.alloc (.cells #[.int .i64 o.kind, .int .i64 o.book, .int .i64 o.units, .int .i64 o.cust, .int .i64 o.amount] 43) := ⟨_, rfl⟩
  have HB : Hid (Below w.heap.size w W) := by rw [hW]; exact (Below.refl _ _).alloc (Nat.le_refl _) _
  have Q := fun d os => Calls.regrown_of (Wt.refmayop_any (grow (redrawn W d) os) o)
  have N0 : W.heap[w.heap.size]? = some (.cells #[.int .i64 o.kind, .int .i64 o.book, .int .i64 o.units, .int .i64 o.cust, .int .i64 o.amount] 43 (0, 0)) := by rw [hW]; exact heap_alloc_new _ _
  obtain ⟨k, b, u, c, m⟩ := o
  simp only at Q N0 hW
  have z0 := cell_regrown (one_at (i := 0) N0)
  have z1 := cell_regrown (one_at (i := 1) N0)
  have z2 := cell_regrown (one_at (i := 2) N0)
  have z3 := cell_regrown (one_at (i := 3) N0)
  have z4 := cell_regrown (one_at (i := 4) N0)
  replace hW := Lib.hid hW
  clear N0
  cases h1 : mayOp ⟨k, b, u, c, m⟩ with
  | false =>
    rw [h1] at Q
    clear h h1
    go_enter Try.func31, Try.ntmps31
    go_wp2_with fail
    rw [← hW.out]
    refine wp_region_quiet_below (by kernel_rfl) (by kernel_rfl) ?_
    repeat (go_big_quiet_step (with_reducible exact Q _ _))
    refine wpQuiet_nil ?_
    intro w7 hw'
    obtain ⟨⟨dq, osq⟩, hw7⟩ := hw'
    have B7 : Hid (Below w.heap.size w w7) := by rw [hw7]; exact HB.out.trans ((below_regrown W dq osq).mono HB.out.size)
    clear hw7
    go_wp2
    go_ret
    exact ⟨rfl, B7.out⟩
  | true =>
    rw [h1, Bool.true_and] at h
    rw [h1] at Q
    have g1 : (a == 1) = false := by unfold mayA at h; rw [Bool.or_eq_false_iff] at h; exact h.1
    have g2 : (a == 2) = false := by unfold mayA at h; rw [Bool.or_eq_false_iff] at h; exact h.2
    have e1 : (a != 1) = true := by simp only [bne, g1]; rfl
    have e2 : (a != 2) = true := by simp only [bne, g2]; rfl
    have n1 : ¬ a = 1 := beq_eq_false_iff_ne.1 g1
    have n2 : ¬ a = 2 := beq_eq_false_iff_ne.1 g2
    clear h h1
    go_enter Try.func31, Try.ntmps31
    go_wp2_with fail
    rw [← hW.out]
    refine wp_region_quiet_below (by kernel_rfl) (by kernel_rfl) ?_
    repeat (go_big_quiet_step (with_reducible exact Q _ _))
    refine wpQuiet_nil ?_
    intro w7 hw'
    obtain ⟨⟨dq, osq⟩, hw7⟩ := hw'
    have B7 : Hid (Below w.heap.size w w7) := by rw [hw7]; exact HB.out.trans ((below_regrown W dq osq).mono HB.out.size)
    clear hw7
    go_wp2
    go_ret
    exact ⟨rfl, B7.out⟩
set_option maxHeartbeats 3200000 in
theorem refput_is (w : World) (d z : Nat) (f : F) (n : Int) (D : Dm w d z f n) (k b : Nat) (u c m a : Int) (b2 : b ≤ 200) (k2 : k ≤ 6) (hm : mayOp ⟨k, b, u, c, m⟩ = true) (ha : a = 1 ∨ a = 2) (h0 : f b k ≠ 0) :
    Calls Try.prog 31 #[.pointer (some ⟨d, z, none⟩), .agg #[.int .i64 (k : Int), .int .i64 (b : Int), .int .i64 u, .int .i64 c, .int .i64 m], .int .i64 a] w fun e w' => e = .returned (.bool false) ∧ Below w.heap.size w w' := by
  obtain ⟨W, hW⟩ : ∃ W, W = w.alloc (.cells #[.int .i64 (k : Int), .int .i64 (b : Int), .int .i64 u, .int .i64 c, .int .i64 m] 43) := ⟨_, rfl⟩
  have HB : Hid (Below w.heap.size w W) := by rw [hW]; exact (Below.refl _ _).alloc (Nat.le_refl _) _
  have Q := fun d os => Calls.regrown_of (Wt.refmayop_any (grow (redrawn W d) os) ⟨k, b, u, c, m⟩)
  rw [hm] at Q
  have N0 : W.heap[w.heap.size]? = some (.cells #[.int .i64 (k : Int), .int .i64 (b : Int), .int .i64 u, .int .i64 c, .int .i64 m] 43 (0, 0)) := by rw [hW]; exact heap_alloc_new _ _
  simp only at Q
  have z0 := cell_regrown (one_at (i := 0) N0)
  have z1 := cell_regrown (one_at (i := 1) N0)
  have z2 := cell_regrown (one_at (i := 2) N0)
  have z3 := cell_regrown (one_at (i := 3) N0)
  have z4 := cell_regrown (one_at (i := 4) N0)
  have zc := cell_regrown ((D.below HB.out).at_ b k b2 k2)
  have x0 : (f b k == 0) = false := beq_eq_false_iff_ne.2 h0
  have x1 : (f b k != 0) = true := by simp only [bne, x0]; rfl
  have j1 : (b : Int) < 201 := by omega
  have j2 : (k : Int) < 7 := by omega
  generalize f b k = x at *
  replace hW := Lib.hid hW
  clear N0 D hm
  rcases ha with rfl | rfl
  all_goals
    go_enter Try.func31, Try.ntmps31
    go_wp2_with fail
    rw [← hW.out]
    refine wp_region_quiet_below (by kernel_rfl) (by kernel_rfl) ?_
    repeat (go_big_quiet_step (with_reducible exact Q _ _))
    refine wpQuiet_nil ?_
    intro w7 hw'
    obtain ⟨⟨dq, osq⟩, hw7⟩ := hw'
    have B7 : Hid (Below w.heap.size w w7) := by rw [hw7]; exact HB.out.trans ((below_regrown W dq osq).mono HB.out.size)
    clear hw7
    go_wp2
    go_ret
    exact ⟨rfl, B7.out⟩
set_option maxHeartbeats 3200000 in
theorem refput_yes (w : World) (d z : Nat) (f : F) (D : Dm w d z f (cnt f : Nat)) (k b : Nat) (u c m a : Int) (b1 : 1 ≤ b) (b2 : b ≤ 200) (k1 : 1 ≤ k) (k2 : k ≤ 6) (hm : mayOp ⟨k, b, u, c, m⟩ = true) (ha : a = 1 ∨ a = 2) (h0 : f b k = 0) :
    Calls Try.prog 31 #[.pointer (some ⟨d, z, none⟩), .agg #[.int .i64 (k : Int), .int .i64 (b : Int), .int .i64 u, .int .i64 c, .int .i64 m], .int .i64 a] w fun e w' => e = .returned (.bool true) ∧ DTo w d z (upd f b k a) w' := by
  obtain ⟨W, hW⟩ : ∃ W, W = w.alloc (.cells #[.int .i64 (k : Int), .int .i64 (b : Int), .int .i64 u, .int .i64 c, .int .i64 m] 43) := ⟨_, rfl⟩
  have HB : Hid (Below w.heap.size w W) := by rw [hW]; exact (Below.refl _ _).alloc (Nat.le_refl _) _
  have Q := fun d os => Calls.regrown_of (Wt.refmayop_any (grow (redrawn W d) os) ⟨k, b, u, c, m⟩)
  rw [hm] at Q
  have N0 : Hid (W.heap[w.heap.size]? = some (.cells #[.int .i64 (k : Int), .int .i64 (b : Int), .int .i64 u, .int .i64 c, .int .i64 m] 43 (0, 0))) := by rw [hW]; exact heap_alloc_new _ _
  simp only at Q
  have z0 := cell_regrown (one_at (i := 0) N0.out)
  have z1 := cell_regrown (one_at (i := 1) N0.out)
  have z2 := cell_regrown (one_at (i := 2) N0.out)
  have z3 := cell_regrown (one_at (i := 3) N0.out)
  have z4 := cell_regrown (one_at (i := 4) N0.out)
  have zc := cell_regrown ((D.below HB.out).at_ b k b2 k2)
  rw [h0] at zc
  have j1 : (b : Int) < 201 := by omega
  have j2 : (k : Int) < 7 := by omega
  have hcn : cnt (upd f b k a) = cnt f + 1 := cnt_upd (by omega) (by omega) (by omega) h0
  have hcl := cnt_le f
  obtain ⟨N, hN⟩ : ∃ N : Int, N = (cnt f : Int) := ⟨_, rfl⟩
  obtain ⟨N1, hN1⟩ : ∃ N : Int, N = ((cnt (upd f b k a) : Nat) : Int) := ⟨_, rfl⟩
  have wN : Hid (IntKind.i64.wrap (N + 1) = N1) := by unfold Hid; rw [IntKind.wrap_i64]; omega
  replace D : Hid (Dm w d z f N) := by rw [hN]; exact D
  have E : Hid (∀ w7, Below w.heap.size w w7 → w7.cell? ⟨d, z + b * 7 + k, none⟩ = some (.int .i64 0) ∧ w7.frozen? ⟨d, z + b * 7 + k, none⟩ = false ∧ ∃ W1, W1 = (w7.setCell ⟨d, z + b * 7 + k, none⟩ (.int .i64 a)).drew ∧ W1.cell? ⟨d, z + 1407, none⟩ = some (.int .i64 N) ∧ W1.frozen? ⟨d, z + 1407, none⟩ = false ∧ DTo w d z (upd f b k a) (W1.setCell ⟨d, z + 1407, none⟩ (.int .i64 N1))) := fun w7 hb => by
    have D7 := D.out.below hb
    have D8 : Dm (w7.setCell ⟨d, z + b * 7 + k, none⟩ (.int .i64 a)).drew d z (upd f b k a) N := (D7.put b2 k2 a).keep rfl
    have D9 := D8.count N1
    refine ⟨by rw [D7.at_ b k b2 k2, h0], D7.free _, _, rfl, D8.num, D8.free _, ?_, ?_⟩
    · rw [← hN1]; exact D9
    · have q1 : Kr d z w7 (w7.setCell ⟨d, z + b * 7 + k, none⟩ (.int .i64 a)).drew := by rw [set1]; exact (Kr.of_cells _ _ _ _ (by omega)).drew
      have q2 : Kr d z (w7.setCell ⟨d, z + b * 7 + k, none⟩ (.int .i64 a)).drew (((w7.setCell ⟨d, z + b * 7 + k, none⟩ (.int .i64 a)).drew).setCell ⟨d, z + 1407, none⟩ (.int .i64 N1)) := by rw [set1 _ d (z + 1407)]; exact Kr.of_cells _ _ _ _ (by omega)
      exact ((Kr.of_below D.out.lt hb).self q1).self q2
  replace hW := Lib.hid hW
  clear D hm h0 hcn hcl hN hN1
  rcases ha with rfl | rfl
  all_goals
    go_enter Try.func31, Try.ntmps31
    go_wp2_with fail
    rw [← hW.out]
    refine wp_region_quiet_below (by kernel_rfl) (by kernel_rfl) ?_
    repeat (go_big_quiet_step (with_reducible exact Q _ _))
    refine wpQuiet_nil ?_
    intro w7 hw'
    obtain ⟨⟨dq, osq⟩, hw7⟩ := hw'
    have b7 : Below W.heap.size W w7 := by rw [hw7]; exact below_regrown W dq osq
    have B7 : Below w.heap.size w w7 := HB.out.trans (b7.mono HB.out.size)
    have N7 := (b7.block _ (lt_some N0.out)).trans N0.out
    have y0 := one_at (i := 0) N7
    have y1 := one_at (i := 1) N7
    obtain ⟨f1, f2, W1, hW1, f3, f4, F⟩ := E.out w7 B7
    replace F := Lib.hid F
    replace hW1 := Lib.hid hW1
    have wN' := wN.out
    clear hw7 b7 B7 N7 z0 z1 z2 z3 z4 zc Q
    go_upto_region 3 with fail
    go_still_tail 10, (by kernel_rfl)
    change wpList _ _ _ _ _ w7.drew
    go_upto_region 4 with fail
    rw [← hW1.out]
    go_wp2
    go_ret
    exact ⟨rfl, F.out⟩
theorem refput_any (w : World) (d z : Nat) (f : F) (D : Dm w d z f (cnt f : Nat)) (o : Opn) (a : Int) :
    Calls Try.prog 31 #[.pointer (some ⟨d, z, none⟩), opv o, .int .i64 a] w fun e w' => e = .returned (.bool (put? f o a)) ∧ DTo w d z (putF f o a) w' := by
  cases h : (mayOp o && mayA a) with
  | false =>
    refine (refput_no w d z o a h).mono ?_
    rintro e w' ⟨rfl, hb⟩
    have e : put? f o a = false := by unfold put?; rw [h]; rfl
    unfold putF
    rw [e]
    exact ⟨rfl, DTo.of_below D hb⟩
  | true =>
    obtain ⟨h1, h2⟩ := (Bool.and_eq_true _ _).mp h
    obtain ⟨b1, b2⟩ := mayop_bds h1
    by_cases h0 : f o.book o.kind = 0
    · have e : put? f o a = true := put_iff.2 ⟨h1, h2, h0⟩
      unfold putF
      rw [e, if_pos rfl]
      obtain ⟨k, b, u, c, m⟩ := o
      simp only at b1 b2 h0 ⊢
      obtain ⟨k', rfl⟩ := Int.eq_ofNat_of_zero_le (a := k) (by omega)
      obtain ⟨b', rfl⟩ := Int.eq_ofNat_of_zero_le (a := b) (by omega)
      exact refput_yes w d z f D k' b' u c m a (by omega) (by omega) (by omega) (by omega) h1 (maya_iff.1 h2) h0
    · have e : put? f o a = false := by
        unfold put?
        rw [Bool.and_eq_false_iff]
        exact .inr (beq_eq_false_iff_ne.2 h0)
      unfold putF
      rw [e]
      obtain ⟨k, b, u, c, m⟩ := o
      simp only at b1 b2 h0 ⊢
      obtain ⟨k', rfl⟩ := Int.eq_ofNat_of_zero_le (a := k) (by omega)
      obtain ⟨b', rfl⟩ := Int.eq_ofNat_of_zero_le (a := b) (by omega)
      refine (refput_is w d z f _ D k' b' u c m a (by omega) (by omega) h1 (maya_iff.1 h2) h0).mono ?_
      rintro e w' ⟨rfl, hb⟩
      exact ⟨rfl, DTo.of_below D hb⟩
end Tb
end Go.Proofs.Ytmhpcopghnddeaa
