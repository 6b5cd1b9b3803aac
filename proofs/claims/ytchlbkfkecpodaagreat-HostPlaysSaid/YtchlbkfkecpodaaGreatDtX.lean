/- The document's table: Bytes. -/
import Derived.Test.YtchlbkfkecpodaaGreatTbD
import Derived.Deep.MidRow
import Derived.StillTailTactics
import Derived.Test.YtchlbkfkecpodaaGreatWtC
import Derived.Test.YtchlbkfkecpodaaGreatNoF
import Derived.Test.YtchlbkfkecpodaaGreatDsX
namespace Go.Proofs.YtchlbkfkecpodaaGreat
set_option maxRecDepth 100000
open Go.RowKit
open Go.Sort (grow)
open Go.Proofs.YtchlbkfkecpodaaGreat.Pk (one_at one_free one_set lt_some grown_set grown_trans below_grown grown_refl)
namespace Tb
open Wt (Opn mayOp)

theorem setCells_block (p : Nat) : ∀ (vs : List Value) (o : Nat) (w : World), (w.setCells p o vs).heap.size = w.heap.size ∧ (w.setCells p o vs).os = w.os ∧ (w.setCells p o vs).tape = w.tape ∧ (w.setCells p o vs).output = w.output ∧ ∀ g, g ≠ p → (w.setCells p o vs).heap[g]? = w.heap[g]?
  | [], _, _ => ⟨rfl, rfl, rfl, rfl, fun _ _ => rfl⟩
  | v :: r, o, w => by
    obtain ⟨h1, h2, h3, h4, h5⟩ := setCells_block p r (o + 1) (w.setCell ⟨p, o, none⟩ v)
    rw [World.setCells]
    exact ⟨h1.trans (by simp [World.setCell]), h2, h3, h4, fun g hg => (h5 g hg).trans (Below.heap_setCell _ _ _ _ (fun e => hg e))⟩
theorem Kq.of_cells (w : World) (p o : Nat) (vs : List Value) : Kq (fun g => g = p) w (w.setCells p o vs) := by
  obtain ⟨h1, h2, h3, h4, h5⟩ := setCells_block p vs o w
  exact ⟨h2, h3, h4, by omega, fun g _ hn => h5 g hn⟩
/-- All but some cells of block d, and what is new, is as it was. -/
structure Kr (d z : Nat) (w w' : World) : Prop extends Kq (fun g => g = d) w w' where
  low : ∀ i, i < z → w'.cell? ⟨d, i, none⟩ = w.cell? ⟨d, i, none⟩
  free : ∀ i, w'.frozen? ⟨d, i, none⟩ = w.frozen? ⟨d, i, none⟩
section
variable {d z : Nat} {w w' w1 w2 : World}
theorem frozen_of_block (h : w'.heap[d]? = w.heap[d]?) (i : Nat) : w'.frozen? ⟨d, i, none⟩ = w.frozen? ⟨d, i, none⟩ := by
  unfold World.frozen?
  simp only [h]
theorem Kr.self (h : Kr d z w w1) (k : Kr d z w1 w2) : Kr d z w w2 := ⟨h.toKq.self k.toKq, fun i hi => (k.low i hi).trans (h.low i hi), fun i => (k.free i).trans (h.free i)⟩
theorem Kr.drew (h : Kr d z w w') : Kr d z w w'.drew := ⟨h.toKq.drew, h.low, h.free⟩
theorem Kr.of_below (hd : d < w.heap.size) (h : Below w.heap.size w w') : Kr d z w w' := ⟨.of_below h, fun _ _ => World.cell?_of_block (h.block d hd), frozen_of_block (h.block d hd)⟩
theorem Kr.of_cells (w : World) (d o : Nat) (vs : List Value) (h : z ≤ o) : Kr d z w (w.setCells d o vs) :=
  ⟨.of_cells w d o vs, fun i hi => World.cell?_setCells_out d _ _ w ⟨d, i, none⟩ (fun _ _ => .inl (by show i < o; omega)), fun i => World.frozen?_setCells _ _ _ _ _⟩
end
theorem set1 (w : World) (q o : Nat) (u : Value) : w.setCell ⟨q, o, none⟩ u = w.setCells q o [u] := rfl
/-- The document's table lies at d; n is what its number says. -/
structure Dm (w : World) (d z : Nat) (f : F) (n : Int) : Prop where
  lt : d < w.heap.size
  at_ : ∀ b k : Nat, b ≤ 200 → k ≤ 6 → w.cell? ⟨d, z + b * 7 + k, none⟩ = some (.int .i64 (f (b : Int) (k : Int)))
  num : w.cell? ⟨d, z + 1407, none⟩ = some (.int .i64 n)
  free : ∀ i, w.frozen? ⟨d, i, none⟩ = false
section
variable {w w' : World} {d z : Nat} {f : F} {n : Int}
theorem Dm.keep (D : Dm w d z f n) (h : w'.heap[d]? = w.heap[d]?) : Dm w' d z f n := by
  have e : ∀ i, w'.cell? ⟨d, i, none⟩ = w.cell? ⟨d, i, none⟩ := fun i => World.cell?_of_block h
  refine ⟨?_, fun b k hb hk => (e _).trans (D.at_ b k hb hk), (e _).trans D.num, fun i => ?_⟩
  · have := Array.getElem?_eq_getElem D.lt
    rw [← h] at this
    exact lt_some this
  · have := D.free i
    unfold World.frozen? at this ⊢
    simp only [h]
    exact this
theorem Dm.below (D : Dm w d z f n) (hb : Below w.heap.size w w') : Dm w' d z f n := D.keep (hb.block _ D.lt)
/-- An answer is put. -/
theorem Dm.put (D : Dm w d z f n) {b k : Nat} (hb : b ≤ 200) (hk : k ≤ 6) (a : Int) : Dm (w.setCell ⟨d, z + b * 7 + k, none⟩ (.int .i64 a)) d z (upd f (b : Int) (k : Int) a) n := by
  rw [set1]
  refine ⟨by rw [(setCells_block d _ _ w).1]; exact D.lt, fun x y hx hy => ?_, ?_, fun i => ?_⟩
  · by_cases h : x = b ∧ y = k
    · obtain ⟨rfl, rfl⟩ := h
      rw [upd_same]
      have := World.cell?_setCells_in d [.int .i64 a] (z + x * 7 + y) w (fun i hi => by
        obtain rfl : i = 0 := by simpa using hi
        rw [Nat.add_zero, D.at_ x y hx hy]; rfl) 0 (by simp)
      simpa using this
    · rw [upd_other (by omega), World.cell?_setCells_out d _ _ w ⟨d, z + x * 7 + y, none⟩ (fun _ _ => by show z + x * 7 + y < z + b * 7 + k ∨ z + b * 7 + k + 1 ≤ z + x * 7 + y; omega)]
      exact D.at_ x y hx hy
  · rw [World.cell?_setCells_out d _ _ w ⟨d, z + 1407, none⟩ (fun _ _ => by show z + 1407 < z + b * 7 + k ∨ z + b * 7 + k + 1 ≤ z + 1407; omega)]
    exact D.num
  · rw [World.frozen?_setCells]
    exact D.free i
/-- Its number is put. -/
theorem Dm.count (D : Dm w d z f n) (m : Int) : Dm (w.setCell ⟨d, z + 1407, none⟩ (.int .i64 m)) d z f m := by
  rw [set1]
  refine ⟨by rw [(setCells_block d _ _ w).1]; exact D.lt, fun x y hx hy => ?_, ?_, fun i => ?_⟩
  · rw [World.cell?_setCells_out d _ _ w ⟨d, z + x * 7 + y, none⟩ (fun _ _ => by show z + x * 7 + y < z + 1407 ∨ z + 1407 + 1 ≤ z + x * 7 + y; omega)]
    exact D.at_ x y hx hy
  · have := World.cell?_setCells_in d [.int .i64 m] (z + 1407) w (fun i hi => by
      obtain rfl : i = 0 := by simpa using hi
      rw [Nat.add_zero, D.num]; rfl) 0 (by simp)
    simpa using this
  · rw [World.frozen?_setCells]
    exact D.free i
end

/-! ### a new one -/
def zeros : Array Value := Array.replicate 1408 (.int .i64 0)
theorem build_run (w : World) : (Instr.build 39 #[]).run Tryz.prog w = .ok (.agg zeros) w := by kernel_rfl
theorem box_run (w : World) (cs : Array Value) : (Instr.box 39 (.agg cs)).run Tryz.prog w = .ok (.pointer (some ⟨w.heap.size, 0, none⟩)) (w.alloc (.cells cs 39)) := by
  simp only [Instr.box, newVar, newRow, Sem.run_bind]
  kernel_rfl
section
variable {ops : Array Oper} {rest : List Oper} {o : Oper} {a : Act} {w : World} {Q : Exit → Act → World → Prop}
theorem wpList_build11 (hg : o.guard = none) (ho : o.op = .build 39 #[])
    (h : wpList Tryz.prog ops Q rest (a.put o.dst (.agg zeros)) w) : wpList Tryz.prog ops Q (o :: rest) a w := by
  refine wpList_plain hg fun K hK => ?_
  unfold Oper.wp execOp
  simp only [ho, Sem.run_bind, List.map_toArray, List.map_nil, build_run, Sem.run_pure, Result.andThen_ok]
  exact hK _ _ h
theorem wpList_box11 (hg : o.guard = none) (x : Operand) (ho : o.op = .box 39 x) (cs : Array Value) (hx : a.eval x = .agg cs)
    (h : wpList Tryz.prog ops Q rest (a.put o.dst (.pointer (some ⟨w.heap.size, 0, none⟩))) (w.alloc (.cells cs 39))) : wpList Tryz.prog ops Q (o :: rest) a w := by
  refine wpList_plain hg fun K hK => ?_
  unfold Oper.wp execOp
  simp only [ho, hx, Sem.run_bind, box_run, Sem.run_pure, Result.andThen_ok]
  exact hK _ _ h
end
theorem dm_new (w : World) : Dm (w.alloc (.cells zeros 39)) w.heap.size 0 fz 0 := by
  have h := heap_alloc_new w (.cells zeros 39)
  have z : ∀ i, i < 1408 → zeros[i]? = some (.int .i64 0) := fun i hi => by
    unfold zeros
    rw [Array.getElem?_replicate, if_pos hi]
  exact ⟨lt_some h, fun b k hb hk => by rw [Nat.zero_add, one_at h, z _ (by omega)]; rfl, by rw [Nat.zero_add, one_at h, z _ (by omega)], fun i => one_free h⟩
end Tb
end Go.Proofs.YtchlbkfkecpodaaGreat

namespace Go.Proofs.YtchlbkfkecpodaaGreat
set_option maxRecDepth 100000
open Go.RowKit
open Go.Sort (grow)
open Go.Proofs.YtchlbkfkecpodaaGreat.Pk (one_at one_free one_set lt_some grown_set grown_trans below_grown grown_refl)
namespace Tb
open Wt (Opn mayOp)

set_option maxHeartbeats 1600000 in
theorem reffind_out (w : World) (d z : Nat) (o : Opn) (h : o.book < 1 ∨ 200 < o.book ∨ o.kind < 1 ∨ 6 < o.kind) :
    Calls Tryz.prog 25 #[.pointer (some ⟨d, z, none⟩), opv o] w fun e w' => e = .returned (.tuple #[.int .i64 0, .bool false]) ∧ Below w.heap.size w w' := by
  have HB : Hid (∀ x n, Below w.heap.size w ((w.alloc x).drewN n)) := fun x n => (Below.refl _ _).alloc (Nat.le_refl _) _ |>.trans (Tb.below_drewN _ n)
  obtain ⟨k, b, u, c, a⟩ := o
  simp only at h
  rcases Int.lt_or_le b 1 with h1 | h1
  · have g1 : decide (b < 1) = true := decide_eq_true h1
    clear h
    go_enter Tryz.func25, Tryz.ntmps25
    go_wp2_with fail
    go_quiet (fail)
    go_wp2
    go_ret2
    exact ⟨rfl, HB.out _ _⟩
  have g1 : decide (b < 1) = false := decide_eq_false (by omega)
  have g1' : ¬ b < 1 := by omega
  rcases Int.lt_or_le 200 b with h2 | h2
  · have g2 : decide (200 < b) = true := decide_eq_true h2
    clear h h1
    go_enter Tryz.func25, Tryz.ntmps25
    go_wp2_with fail
    go_quiet (fail)
    go_wp2
    go_ret2
    exact ⟨rfl, HB.out _ _⟩
  have g2 : decide (200 < b) = false := decide_eq_false (by omega)
  have g2' : ¬ 200 < b := by omega
  rcases Int.lt_or_le k 1 with h3 | h3
  · have g3 : decide (k < 1) = true := decide_eq_true h3
    clear h h1 h2
    go_enter Tryz.func25, Tryz.ntmps25
    go_wp2_with fail
    go_quiet (fail)
    go_wp2
    go_ret2
    exact ⟨rfl, HB.out _ _⟩
  · have h4 : 6 < k := by omega
    have g3 : decide (k < 1) = false := decide_eq_false (by omega)
    have g3' : ¬ k < 1 := by omega
    have g4 : decide (6 < k) = true := decide_eq_true h4
    clear h h1 h2 h3
    go_enter Tryz.func25, Tryz.ntmps25
    go_wp2_with fail
    go_quiet (fail)
    go_wp2
    go_ret2
    exact ⟨rfl, HB.out _ _⟩
set_option maxHeartbeats 1600000 in
theorem reffind_in (w : World) (d z : Nat) (f : F) (n : Int) (D : Dm w d z f n) (k b : Nat) (u c a : Int) (b1 : 1 ≤ b) (b2 : b ≤ 200) (k1 : 1 ≤ k) (k2 : k ≤ 6) :
    Calls Tryz.prog 25 #[.pointer (some ⟨d, z, none⟩), .agg #[.int .i64 (k : Int), .int .i64 (b : Int), .int .i64 u, .int .i64 c, .int .i64 a]] w fun e w' => e = .returned (.tuple #[.int .i64 (f b k), .bool (ne0 (f b k))]) ∧ Below w.heap.size w w' := by
  have HB : Hid (∀ x n, Below w.heap.size w ((w.alloc x).drewN n)) := fun x n => (Below.refl _ _).alloc (Nat.le_refl _) _ |>.trans (Tb.below_drewN _ n)
  have cc : ∀ x, (w.alloc x).cell? ⟨d, z + b * 7 + k, none⟩ = some (.int .i64 (f b k)) := fun x => (D.below ((Below.refl _ _).alloc (Nat.le_refl _) x)).at_ b k b2 k2
  have c1 := cc (.cells #[.int .i64 (k : Int), .int .i64 (b : Int), .int .i64 u, .int .i64 c, .int .i64 a] 43)
  obtain ⟨x, hx⟩ : ∃ x, x = f b k := ⟨_, rfl⟩
  rw [← hx] at c1 ⊢
  have i1 : ¬ (b : Int) < 1 := by omega
  have i2 : ¬ 200 < (b : Int) := by omega
  have i3 : ¬ (k : Int) < 1 := by omega
  have i4 : ¬ 6 < (k : Int) := by omega
  have e1 : decide ((b : Int) < 1) = false := decide_eq_false i1
  have e2 : decide (200 < (b : Int)) = false := decide_eq_false i2
  have e3 : decide ((k : Int) < 1) = false := decide_eq_false i3
  have e4 : decide (6 < (k : Int)) = false := decide_eq_false i4
  have j1 : (b : Int) < 201 := by omega
  have j2 : (k : Int) < 7 := by omega
  clear cc hx D
  by_cases h0 : x = 0
  · subst h0
    rw [show ne0 0 = false from rfl]
    go_enter Tryz.func25, Tryz.ntmps25
    go_wp2_with fail
    go_quiet (fail)
    go_wp2
    go_ret2
    exact ⟨rfl, HB.out _ _⟩
  · rw [ne0_iff.2 h0]
    have g0 : (x == 0) = false := beq_eq_false_iff_ne.2 h0
    go_enter Tryz.func25, Tryz.ntmps25
    go_wp2_with fail
    go_quiet (fail)
    go_wp2_with fail
    go_quiet (fail)
    go_wp2
    go_ret2
    exact ⟨rfl, (HB.out _ _).trans (Tb.below_drewN _ _)⟩
theorem reffind_any (w : World) (d z : Nat) (f : F) (n : Int) (D : Dm w d z f n) (O : Ok f) (o : Opn) :
    Calls Tryz.prog 25 #[.pointer (some ⟨d, z, none⟩), opv o] w fun e w' => e = .returned (.tuple #[.int .i64 (f o.book o.kind), .bool (ne0 (f o.book o.kind))]) ∧ Below w.heap.size w w' := by
  by_cases h : o.book < 1 ∨ 200 < o.book ∨ o.kind < 1 ∨ 6 < o.kind
  · have e : f o.book o.kind = 0 := Decidable.byContradiction fun h0 => by
      have := O.inn _ _ h0
      omega
    rw [e]
    exact reffind_out w d z o h
  · obtain ⟨k, b, u, c, a⟩ := o
    simp only at h ⊢
    obtain ⟨k', rfl⟩ := Int.eq_ofNat_of_zero_le (a := k) (by omega)
    obtain ⟨b', rfl⟩ := Int.eq_ofNat_of_zero_le (a := b) (by omega)
    exact reffind_in w d z f n D k' b' u c a (by omega) (by omega) (by omega) (by omega)
end Tb
end Go.Proofs.YtchlbkfkecpodaaGreat

namespace Go.Proofs.YtchlbkfkecpodaaGreat
set_option maxRecDepth 100000
open Go.RowKit
open Go.Sort (grow)
open Go.Proofs.YtchlbkfkecpodaaGreat.Pk (one_at one_free one_set lt_some grown_set grown_trans below_grown grown_refl)
namespace Tb
open Wt (Opn mayOp)

/-- What a call on it leaves. -/
def DTo (w : World) (d z : Nat) (f : F) (w' : World) : Prop := Dm w' d z f (cnt f : Nat) ∧ Kr d z w w'
theorem DTo.of_below {w w' : World} {d z : Nat} {f : F} (D : Dm w d z f (cnt f : Nat)) (hb : Below w.heap.size w w') : DTo w d z f w' := ⟨D.below hb, .of_below D.lt hb⟩
set_option maxHeartbeats 3200000 in
theorem refput_no (w : World) (d z : Nat) (o : Opn) (a : Int) (h : (mayOp o && mayA a) = false) :
    Calls Tryz.prog 27 #[.pointer (some ⟨d, z, none⟩), opv o, .int .i64 a] w fun e w' => e = .returned (.bool false) ∧ Below w.heap.size w w' := by
  obtain ⟨W, hW⟩ : ∃ W, W = w.alloc (.cells #[.int .i64 o.kind, .int .i64 o.book, .int .i64 o.units, .int .i64 o.cust, .int .i64 o.amount] 43) := ⟨_, rfl⟩
  have HB : Hid (Below w.heap.size w W) := by rw [hW]; exact (Below.refl _ _).alloc (Nat.le_refl _) _
  have Q := fun d os => Calls.regrown_of (Wt.refmayop_any (grow (redrawn W d) os) o)
  have N0 : W.heap[w.heap.size]? = some (.cells #[.int .i64 o.kind, .int .i64 o.book, .int .i64 o.units, .int .i64 o.cust, .int .i64 o.amount] 43 (0, 0)) := by rw [hW]; exact heap_alloc_new _ _
  obtain ⟨k, b, u, c, m⟩ := o
  simp only at Q N0 hW
  have z0 := cell_regrown (one_at (i := 0) N0)
  have z1 := cell_regrown (one_at (i := 1) N0)
  have z2 := cell_regrown (one_at (i := 2) N0)
  have z3 := cell_regrown (one_at (i := 3) N0)
  have z4 := cell_regrown (one_at (i := 4) N0)
  replace hW := Lib.hid hW
  clear N0
  cases h1 : mayOp ⟨k, b, u, c, m⟩ with
  | false =>
    rw [h1] at Q
    clear h h1
    go_enter Tryz.func27, Tryz.ntmps27
    go_wp2_with fail
    rw [← hW.out]
    refine wp_region_quiet_below (by kernel_rfl) (by kernel_rfl) ?_
    repeat (go_big_quiet_step (with_reducible exact Q _ _))
    refine wpQuiet_nil ?_
    intro w7 hw'
    obtain ⟨⟨dq, osq⟩, hw7⟩ := hw'
    have B7 : Hid (Below w.heap.size w w7) := by rw [hw7]; exact HB.out.trans ((below_regrown W dq osq).mono HB.out.size)
    clear hw7
    go_wp2
    go_ret
    exact ⟨rfl, B7.out⟩
  | true =>
    rw [h1, Bool.true_and] at h
    rw [h1] at Q
    have g1 : (a == 1) = false := by unfold mayA at h; rw [Bool.or_eq_false_iff] at h; exact h.1
    have g2 : (a == 2) = false := by unfold mayA at h; rw [Bool.or_eq_false_iff] at h; exact h.2
    have e1 : (a != 1) = true := by simp only [bne, g1]; rfl
    have e2 : (a != 2) = true := by simp only [bne, g2]; rfl
    have n1 : ¬ a = 1 := beq_eq_false_iff_ne.1 g1
    have n2 : ¬ a = 2 := beq_eq_false_iff_ne.1 g2
    clear h h1
    go_enter Tryz.func27, Tryz.ntmps27
    go_wp2_with fail
    rw [← hW.out]
    refine wp_region_quiet_below (by kernel_rfl) (by kernel_rfl) ?_
    repeat (go_big_quiet_step (with_reducible exact Q _ _))
    refine wpQuiet_nil ?_
    intro w7 hw'
    obtain ⟨⟨dq, osq⟩, hw7⟩ := hw'
    have B7 : Hid (Below w.heap.size w w7) := by rw [hw7]; exact HB.out.trans ((below_regrown W dq osq).mono HB.out.size)
    clear hw7
    go_wp2
    go_ret
    exact ⟨rfl, B7.out⟩
set_option maxHeartbeats 3200000 in
theorem refput_is (w : World) (d z : Nat) (f : F) (n : Int) (D : Dm w d z f n) (k b : Nat) (u c m a : Int) (b2 : b ≤ 200) (k2 : k ≤ 6) (hm : mayOp ⟨k, b, u, c, m⟩ = true) (ha : a = 1 ∨ a = 2) (h0 : f b k ≠ 0) :
    Calls Tryz.prog 27 #[.pointer (some ⟨d, z, none⟩), .agg #[.int .i64 (k : Int), .int .i64 (b : Int), .int .i64 u, .int .i64 c, .int .i64 m], .int .i64 a] w fun e w' => e = .returned (.bool false) ∧ Below w.heap.size w w' := by
  obtain ⟨W, hW⟩ : ∃ W, W = w.alloc (.cells #[.int .i64 (k : Int), .int .i64 (b : Int), .int .i64 u, .int .i64 c, .int .i64 m] 43) := ⟨_, rfl⟩
  have HB : Hid (Below w.heap.size w W) := by rw [hW]; exact (Below.refl _ _).alloc (Nat.le_refl _) _
  have Q := fun d os => Calls.regrown_of (Wt.refmayop_any (grow (redrawn W d) os) ⟨k, b, u, c, m⟩)
  rw [hm] at Q
  have N0 : W.heap[w.heap.size]? = some (.cells #[.int .i64 (k : Int), .int .i64 (b : Int), .int .i64 u, .int .i64 c, .int .i64 m] 43 (0, 0)) := by rw [hW]; exact heap_alloc_new _ _
  simp only at Q
  have z0 := cell_regrown (one_at (i := 0) N0)
  have z1 := cell_regrown (one_at (i := 1) N0)
  have z2 := cell_regrown (one_at (i := 2) N0)
  have z3 := cell_regrown (one_at (i := 3) N0)
  have z4 := cell_regrown (one_at (i := 4) N0)
  have zc := cell_regrown ((D.below HB.out).at_ b k b2 k2)
  have x0 : (f b k == 0) = false := beq_eq_false_iff_ne.2 h0
  have x1 : (f b k != 0) = true := by simp only [bne, x0]; rfl
  have j1 : (b : Int) < 201 := by omega
  have j2 : (k : Int) < 7 := by omega
  generalize f b k = x at *
  replace hW := Lib.hid hW
  clear N0 D hm
  rcases ha with rfl | rfl
  all_goals
    go_enter Tryz.func27, Tryz.ntmps27
    go_wp2_with fail
    rw [← hW.out]
    refine wp_region_quiet_below (by kernel_rfl) (by kernel_rfl) ?_
    repeat (go_big_quiet_step (with_reducible exact Q _ _))
    refine wpQuiet_nil ?_
    intro w7 hw'
    obtain ⟨⟨dq, osq⟩, hw7⟩ := hw'
    have B7 : Hid (Below w.heap.size w w7) := by rw [hw7]; exact HB.out.trans ((below_regrown W dq osq).mono HB.out.size)
    clear hw7
    go_wp2
    go_ret
    exact ⟨rfl, B7.out⟩
set_option maxHeartbeats 3200000 in
theorem refput_yes (w : World) (d z : Nat) (f : F) (D : Dm w d z f (cnt f : Nat)) (k b : Nat) (u c m a : Int) (b1 : 1 ≤ b) (b2 : b ≤ 200) (k1 : 1 ≤ k) (k2 : k ≤ 6) (hm : mayOp ⟨k, b, u, c, m⟩ = true) (ha : a = 1 ∨ a = 2) (h0 : f b k = 0) :
    Calls Tryz.prog 27 #[.pointer (some ⟨d, z, none⟩), .agg #[.int .i64 (k : Int), .int .i64 (b : Int), .int .i64 u, .int .i64 c, .int .i64 m], .int .i64 a] w fun e w' => e = .returned (.bool true) ∧ DTo w d z (upd f b k a) w' := by
  obtain ⟨W, hW⟩ : ∃ W, W = w.alloc (.cells #[.int .i64 (k : Int), .int .i64 (b : Int), .int .i64 u, .int .i64 c, .int .i64 m] 43) := ⟨_, rfl⟩
  have HB : Hid (Below w.heap.size w W) := by rw [hW]; exact (Below.refl _ _).alloc (Nat.le_refl _) _
  have Q := fun d os => Calls.regrown_of (Wt.refmayop_any (grow (redrawn W d) os) ⟨k, b, u, c, m⟩)
  rw [hm] at Q
  have N0 : Hid (W.heap[w.heap.size]? = some (.cells #[.int .i64 (k : Int), .int .i64 (b : Int), .int .i64 u, .int .i64 c, .int .i64 m] 43 (0, 0))) := by rw [hW]; exact heap_alloc_new _ _
  simp only at Q
  have z0 := cell_regrown (one_at (i := 0) N0.out)
  have z1 := cell_regrown (one_at (i := 1) N0.out)
  have z2 := cell_regrown (one_at (i := 2) N0.out)
  have z3 := cell_regrown (one_at (i := 3) N0.out)
  have z4 := cell_regrown (one_at (i := 4) N0.out)
  have zc := cell_regrown ((D.below HB.out).at_ b k b2 k2)
  rw [h0] at zc
  have j1 : (b : Int) < 201 := by omega
  have j2 : (k : Int) < 7 := by omega
  have hcn : cnt (upd f b k a) = cnt f + 1 := cnt_upd (by omega) (by omega) (by omega) h0
  have hcl := cnt_le f
  obtain ⟨N, hN⟩ : ∃ N : Int, N = (cnt f : Int) := ⟨_, rfl⟩
  obtain ⟨N1, hN1⟩ : ∃ N : Int, N = ((cnt (upd f b k a) : Nat) : Int) := ⟨_, rfl⟩
  have wN : Hid (IntKind.i64.wrap (N + 1) = N1) := by unfold Hid; rw [IntKind.wrap_i64]; omega
  replace D : Hid (Dm w d z f N) := by rw [hN]; exact D
  have E : Hid (∀ w7, Below w.heap.size w w7 → w7.cell? ⟨d, z + b * 7 + k, none⟩ = some (.int .i64 0) ∧ w7.frozen? ⟨d, z + b * 7 + k, none⟩ = false ∧ ∃ W1, W1 = (w7.setCell ⟨d, z + b * 7 + k, none⟩ (.int .i64 a)).drew ∧ W1.cell? ⟨d, z + 1407, none⟩ = some (.int .i64 N) ∧ W1.frozen? ⟨d, z + 1407, none⟩ = false ∧ DTo w d z (upd f b k a) (W1.setCell ⟨d, z + 1407, none⟩ (.int .i64 N1))) := fun w7 hb => by
    have D7 := D.out.below hb
    have D8 : Dm (w7.setCell ⟨d, z + b * 7 + k, none⟩ (.int .i64 a)).drew d z (upd f b k a) N := (D7.put b2 k2 a).keep rfl
    have D9 := D8.count N1
    refine ⟨by rw [D7.at_ b k b2 k2, h0], D7.free _, _, rfl, D8.num, D8.free _, ?_, ?_⟩
    · rw [← hN1]; exact D9
    · have q1 : Kr d z w7 (w7.setCell ⟨d, z + b * 7 + k, none⟩ (.int .i64 a)).drew := by rw [set1]; exact (Kr.of_cells _ _ _ _ (by omega)).drew
      have q2 : Kr d z (w7.setCell ⟨d, z + b * 7 + k, none⟩ (.int .i64 a)).drew (((w7.setCell ⟨d, z + b * 7 + k, none⟩ (.int .i64 a)).drew).setCell ⟨d, z + 1407, none⟩ (.int .i64 N1)) := by rw [set1 _ d (z + 1407)]; exact Kr.of_cells _ _ _ _ (by omega)
      exact ((Kr.of_below D.out.lt hb).self q1).self q2
  replace hW := Lib.hid hW
  clear D hm h0 hcn hcl hN hN1
  rcases ha with rfl | rfl
  all_goals
    go_enter Tryz.func27, Tryz.ntmps27
    go_wp2_with fail
    rw [← hW.out]
    refine wp_region_quiet_below (by kernel_rfl) (by kernel_rfl) ?_
    repeat (go_big_quiet_step (with_reducible exact Q _ _))
    refine wpQuiet_nil ?_
    intro w7 hw'
    obtain ⟨⟨dq, osq⟩, hw7⟩ := hw'
    have b7 : Below W.heap.size W w7 := by rw [hw7]; exact below_regrown W dq osq
    have B7 : Below w.heap.size w w7 := HB.out.trans (b7.mono HB.out.size)
    have N7 := (b7.block _ (lt_some N0.out)).trans N0.out
    have y0 := one_at (i := 0) N7
    have y1 := one_at (i := 1) N7
    obtain ⟨f1, f2, W1, hW1, f3, f4, F⟩ := E.out w7 B7
    replace F := Lib.hid F
    replace hW1 := Lib.hid hW1
    have wN' := wN.out
    clear hw7 b7 B7 N7 z0 z1 z2 z3 z4 zc Q
    go_upto_region 3 with fail
    go_still_tail 10, (by kernel_rfl)
    change wpList _ _ _ _ _ w7.drew
    go_upto_region 4 with fail
    rw [← hW1.out]
    go_wp2
    go_ret
    exact ⟨rfl, F.out⟩
theorem refput_any (w : World) (d z : Nat) (f : F) (D : Dm w d z f (cnt f : Nat)) (o : Opn) (a : Int) :
    Calls Tryz.prog 27 #[.pointer (some ⟨d, z, none⟩), opv o, .int .i64 a] w fun e w' => e = .returned (.bool (put? f o a)) ∧ DTo w d z (putF f o a) w' := by
  cases h : (mayOp o && mayA a) with
  | false =>
    refine (refput_no w d z o a h).mono ?_
    rintro e w' ⟨rfl, hb⟩
    have e : put? f o a = false := by unfold put?; rw [h]; rfl
    unfold putF
    rw [e]
    exact ⟨rfl, DTo.of_below D hb⟩
  | true =>
    obtain ⟨h1, h2⟩ := (Bool.and_eq_true _ _).mp h
    obtain ⟨b1, b2⟩ := mayop_bds h1
    by_cases h0 : f o.book o.kind = 0
    · have e : put? f o a = true := put_iff.2 ⟨h1, h2, h0⟩
      unfold putF
      rw [e, if_pos rfl]
      obtain ⟨k, b, u, c, m⟩ := o
      simp only at b1 b2 h0 ⊢
      obtain ⟨k', rfl⟩ := Int.eq_ofNat_of_zero_le (a := k) (by omega)
      obtain ⟨b', rfl⟩ := Int.eq_ofNat_of_zero_le (a := b) (by omega)
      exact refput_yes w d z f D k' b' u c m a (by omega) (by omega) (by omega) (by omega) h1 (maya_iff.1 h2) h0
    · have e : put? f o a = false := by
        unfold put?
        rw [Bool.and_eq_false_iff]
        exact .inr (beq_eq_false_iff_ne.2 h0)
      unfold putF
      rw [e]
      obtain ⟨k, b, u, c, m⟩ := o
      simp only at b1 b2 h0 ⊢
      obtain ⟨k', rfl⟩ := Int.eq_ofNat_of_zero_le (a := k) (by omega)
      obtain ⟨b', rfl⟩ := Int.eq_ofNat_of_zero_le (a := b) (by omega)
      refine (refput_is w d z f _ D k' b' u c m a (by omega) (by omega) h1 (maya_iff.1 h2) h0).mono ?_
      rintro e w' ⟨rfl, hb⟩
      exact ⟨rfl, DTo.of_below D hb⟩
end Tb
end Go.Proofs.YtchlbkfkecpodaaGreat

namespace Go.Proofs.YtchlbkfkecpodaaGreat
set_option maxRecDepth 100000
open Go.RowKit Go.Sort
open Go.Proofs.YtchlbkfkecpodaaGreat.Pk (one_at one_free one_set lt_some grown_set grown_trans below_grown grown_refl refint str str_add str_cat str_size encI_len)
namespace Nd
open St (Bs cat int_of size_add2)
open Tb (Dm cnt ne0 walk row keys)

theorem kb_app (g : Tb.F) (a b : List (Int × Int)) : kb g (a ++ b) = kb g a ++ kb g b := by unfold kb; rw [List.flatMap_append]
theorem kb_one (g : Tb.F) (x y : Int) : kb g [(x, y)] = Pk.encI x ++ Pk.encI y ++ Pk.encI (g x y) := by simp [kb, cat]
theorem row_ne {g : Tb.F} {b : Int} {n : Nat} {p : Int × Int} (h : p ∈ row g b n) : g p.1 p.2 ≠ 0 := by
  obtain ⟨x, y⟩ := p
  exact (Tb.mem_row.1 h).2.2.2
theorem walk_ne {g : Tb.F} {n : Nat} {p : Int × Int} (h : p ∈ walk g n) : g p.1 p.2 ≠ 0 := by
  obtain ⟨x, y⟩ := p
  exact (Tb.mem_walk.1 h).2.2
/-- The bytes that are there once i bookings are through, and j kinds of the next one. -/
def tbs (g : Tb.F) (i j : Nat) : Bs := Pk.encI (cnt g : Nat) ++ kb g (walk g i ++ row g ((i : Int) + 1) j)
theorem tbs_len {g : Tb.F} (O : Tb.Ok g) {i j : Nat} (hi : i ≤ 200) (hj : j ≤ 6) : (tbs g i j).length ≤ 37000 := by
  unfold tbs
  rw [List.length_append]
  have h1 := encI_len (cnt g : Nat) (by omega) (by have := Tb.cnt_le g; omega)
  have h2 := kb_len g O (walk g i ++ row g ((i : Int) + 1) j) (fun p hp => by
    rcases List.mem_append.1 hp with hp | hp
    · exact walk_ne hp
    · exact row_ne hp)
  rw [List.length_append] at h2
  have h3 := Tb.walk_len g i
  have h4 := Tb.row_len g ((i : Int) + 1) j
  omega
theorem tbs_next (g : Tb.F) (i : Nat) : tbs g (i + 1) 0 = tbs g i 6 := by
  unfold tbs
  congr 1
  show kb g (walk g (i + 1) ++ []) = _
  rw [List.append_nil]
  rfl
theorem tbs_no {g : Tb.F} {i j : Nat} (h : g ((i : Int) + 1) ((j : Int) + 1) = 0) : tbs g i (j + 1) = tbs g i j := by
  unfold tbs
  have e : row g ((i : Int) + 1) (j + 1) = row g ((i : Int) + 1) j := by
    rw [show row g ((i : Int) + 1) (j + 1) = row g ((i : Int) + 1) j ++ (if g ((i : Int) + 1) ((j : Int) + 1) = 0 then [] else [((i : Int) + 1, (j : Int) + 1)]) from rfl, if_pos h, List.append_nil]
  rw [e]
theorem tbs_yes {g : Tb.F} {i j : Nat} (h : g ((i : Int) + 1) ((j : Int) + 1) ≠ 0) : tbs g i (j + 1) = tbs g i j ++ (Pk.encI ((i : Int) + 1) ++ Pk.encI ((j : Int) + 1) ++ Pk.encI (g ((i : Int) + 1) ((j : Int) + 1))) := by
  unfold tbs
  have e : row g ((i : Int) + 1) (j + 1) = row g ((i : Int) + 1) j ++ [((i : Int) + 1, (j : Int) + 1)] := by
    rw [show row g ((i : Int) + 1) (j + 1) = row g ((i : Int) + 1) j ++ (if g ((i : Int) + 1) ((j : Int) + 1) = 0 then [] else [((i : Int) + 1, (j : Int) + 1)]) from rfl, if_neg h]
  rw [e, ← List.append_assoc, kb_app, kb_one]
  simp only [List.append_assoc]
def TyAt1 (w : World) (g : Tb.F) (s b : Value) (wr : World) : Prop := ∃ i : Nat, s = .string (str (tbs g i 0)) ∧ b = .int .i64 ((i : Int) + 1) ∧ i ≤ 200 ∧ Below w.heap.size w wr
def TyAt2 (w : World) (g : Tb.F) (i : Nat) (s k : Value) (wr : World) : Prop := ∃ j : Nat, s = .string (str (tbs g i j)) ∧ k = .int .i64 ((j : Int) + 1) ∧ j ≤ 6 ∧ Below w.heap.size w wr
set_option maxHeartbeats 6400000 in
theorem reftbytes_any (w : World) (d z : Nat) (g : Tb.F) (D : Dm w d z g (cnt g : Nat)) (O : Tb.Ok g) : Calls Tryz.prog 33 #[.pointer (some ⟨d, z, none⟩)] w fun e w' => e = .returned (.string (str (tbs g 200 0))) ∧ Below w.heap.size w w' := by
  have D0 := D.num
  have bn : St.Bd (cnt g : Nat) := ⟨by omega, by have := Tb.cnt_le g; omega⟩
  obtain ⟨N, hN⟩ : ∃ N : Int, N = (cnt g : Nat) := ⟨_, rfl⟩
  rw [← hN] at D0 bn
  have C0 := Lib.hid (refint w N bn.1 bn.2)
  have st : Hid (∀ w1, Below w.heap.size w w1 → TyAt1 w g (.string (str (Pk.encI N))) (.int .i64 1) w1) := fun w1 hb => ⟨0, by unfold tbs; rw [hN]; show _ = Value.string (str (_ ++ kb g ([] ++ []))); simp [kb], rfl, by omega, hb⟩
  replace D := Lib.hid D
  replace O := Lib.hid O
  clear hN bn
  go_enter Tryz.func33, Tryz.ntmps33
  go_wp2_with fail
  refine C0.out.mono ?_
  rintro e w1 ⟨rfl, b1⟩
  have st1 := Lib.hid (st.out w1 b1)
  clear st b1 C0 D0
  go_wp2_with fail
  go_loopw [3, 4] (fun s b wr => TyAt1 w g s b wr) (fun _ b _ => 201 - (intOf b).toNat)
  case atStart => exact st1.out
  case round =>
    clear st1
    obtain ⟨i, rfl, rfl, hi, be⟩ := hrel
    by_cases hi2 : i < 200
    · have i1 : (i : Int) + 1 ≤ 200 := by omega
      have st2 : Hid (TyAt2 w g i (.string (str (tbs g i 0))) (.int .i64 1) wr) := ⟨0, rfl, rfl, by omega, be⟩
      generalize tbs g i 0 = s0 at *
      clear be
      go_wp2_with fail
      go_loopw [3, 5] (fun s k wr => TyAt2 w g i s k wr) (fun _ k _ => 7 - (intOf k).toNat)
      case atStart => exact st2.out
      case round =>
        clear st2
        obtain ⟨j, rfl, rfl, hj, be⟩ := hrel
        have ls := tbs_len O.out hi hj
        obtain ⟨s, hs⟩ : ∃ s, s = tbs g i j := ⟨_, rfl⟩
        by_cases hj2 : j < 6
        · have i2 : (j : Int) + 1 ≤ 6 := by omega
          have j201 : (i : Int) + 1 < 201 := by omega
          have j7 : (j : Int) + 1 < 7 := by omega
          have c1 := (D.out.below be).at_ (i + 1) (j + 1) (by omega) (by omega)
          have ex : ((i + 1 : Nat) : Int) = (i : Int) + 1 := by omega
          have ey : ((j + 1 : Nat) : Int) = (j : Int) + 1 := by omega
          rw [ex, ey] at c1
          have hno := tbs_no (g := g) (i := i) (j := j)
          have hye := tbs_yes (g := g) (i := i) (j := j)
          have O1 := O.out.inn ((i : Int) + 1) ((j : Int) + 1)
          obtain ⟨x, hx⟩ : ∃ x, x = g ((i : Int) + 1) ((j : Int) + 1) := ⟨_, rfl⟩
          rw [← hx] at c1 hno hye O1
          rw [← hs] at ls hno hye ⊢
          clear ex ey hx
          by_cases h0 : x = 0
          · have nx : Hid (TyAt2 w g i (.string (str s)) (.int .i64 ((j : Int) + 1 + 1)) wr) := ⟨j + 1, by rw [hno h0], by simp, by omega, be⟩
            have b0 : (x == 0) = true := by simpa using h0
            have b1 : (x != 0) = false := by simp only [bne, b0]; rfl
            subst h0
            clear hno hye O1 hs ls
            go_wp2
            exact ⟨nx.out, by simp [intOf]; omega⟩
          · have b0 : (x == 0) = false := beq_eq_false_iff_ne.2 h0
            have b1 : (x != 0) = true := by simp only [bne, b0]; rfl
            obtain ⟨-, -, O2⟩ := O1 h0
            have B1 : St.Bd ((i : Int) + 1) := ⟨by omega, by omega⟩
            have B2 : St.Bd ((j : Int) + 1) := ⟨by omega, by omega⟩
            have B3 : St.Bd x := ⟨by omega, by omega⟩
            obtain ⟨b1', e1⟩ : ∃ b, b = Pk.encI ((i : Int) + 1) := ⟨_, rfl⟩
            obtain ⟨b2', e2⟩ : ∃ b, b = Pk.encI ((j : Int) + 1) := ⟨_, rfl⟩
            obtain ⟨b3', e3⟩ : ∃ b, b = Pk.encI x := ⟨_, rfl⟩
            have l1 : b1'.length ≤ 10 := by rw [e1]; exact encI_len _ B1.1 B1.2
            have l2 : b2'.length ≤ 10 := by rw [e2]; exact encI_len _ B2.1 B2.2
            have l3 : b3'.length ≤ 10 := by rw [e3]; exact encI_len _ B3.1 B3.2
            have C1 := int_of _ b1' B1 e1 wr
            have C2 := int_of _ b2' B2 e2 wr
            have C3 := int_of _ b3' B3 e3 wr
            have hb := hye h0
            rw [← e1, ← e2, ← e3] at hb
            clear e1 e2 e3 B1 B2 B3 hno hye O1 O2
            obtain ⟨s1, f1⟩ : ∃ x, x = s ++ b1' := ⟨_, rfl⟩
            obtain ⟨s2, f2⟩ : ∃ x, x = s1 ++ b2' := ⟨_, rfl⟩
            obtain ⟨s3, f3⟩ : ∃ x, x = s2 ++ b3' := ⟨_, rfl⟩
            have F : Hid (tbs g i (j + 1) = s3) := by unfold Hid; rw [hb, f3, f2, f1]; simp
            have m1 : s1.length ≤ 37010 := by rw [f1, List.length_append]; omega
            have m2 : s2.length ≤ 37020 := by rw [f2, List.length_append]; omega
            have a1 := str_add s b1' (by omega)
            have a2 := str_add s1 b2' (by omega)
            have a3 := str_add s2 b3' (by omega)
            have q1 := size_add2 (a := s) (b := b1') (by omega)
            have q2 := size_add2 (a := s1) (b := b2') (by omega)
            have q3 := size_add2 (a := s2) (b := b3') (by omega)
            have t1 := str_cat s b1'
            have t2 := str_cat s1 b2'
            have t3 := str_cat s2 b3'
            rw [← f1] at a1 t1
            rw [← f2] at a2 t2
            rw [← f3] at a3 t3
            have z1 := cell_regrown c1
            have hj3 : Hid (j + 1 ≤ 6) := by unfold Hid; omega
            have BW : Hid (Below w.heap.size w wr) := be
            clear f1 f2 f3 m1 m2 l1 l2 l3 ls hb hs hj hj2 be
            go_upto_region 9 with fail
            refine wp_region_quiet_below (by kernel_rfl) (by kernel_rfl) ?_
            repeat (go_big_quiet_step (first | with_reducible exact C1 _ _ | with_reducible exact C2 _ _ | with_reducible exact C3 _ _))
            refine wpQuiet_nil ?_
            intro w2 hw'
            obtain ⟨⟨dq, osq⟩, hw''⟩ := hw'
            have be2 : Hid (RowKit.Below w.heap.size w w2) := by rw [hw'']; exact BW.out.trans ((below_regrown wr dq osq).mono BW.out.size)
            have nx : Hid (TyAt2 w g i (.string (str s3)) (.int .i64 ((j : Int) + 1 + 1)) w2) := ⟨j + 1, by rw [F.out], by simp, hj3.out, be2.out⟩
            clear hw'' z1 C1 C2 C3 c1
            go_wp2_with fail
            exact ⟨nx.out, by
              have h3 : j + 1 ≤ 6 := hj3.out
              simp [intOf]
              omega⟩
        · have i2 : ¬ (j : Int) + 1 ≤ 6 := by omega
          have nx : Hid (TyAt1 w g (.string (str s)) (.int .i64 ((i : Int) + 1 + 1)) wr) := by
            obtain rfl : j = 6 := by omega
            exact ⟨i + 1, by rw [tbs_next, ← hs], by simp, by omega, be⟩
          rw [← hs]
          clear hs ls be
          go_wp2
          exact ⟨nx.out, by simp [intOf]; omega⟩
    · have i1 : ¬ (i : Int) + 1 ≤ 200 := by omega
      obtain ⟨s, hs⟩ : ∃ s, s = tbs g i 0 := ⟨_, rfl⟩
      have EX : Hid (tbs g 200 0 = s ∧ Below w.heap.size w wr) := by
        obtain rfl : i = 200 := by omega
        exact ⟨hs.symm, be⟩
      rw [← hs]
      clear hs be
      go_wp2
      go_ret
      rw [EX.out.1]
      exact ⟨rfl, EX.out.2⟩
theorem tbs_all (g : Tb.F) : tbs g 200 0 = Pk.encI (cnt g : Nat) ++ kb g (keys g) := by
  unfold tbs
  show _ ++ kb g (walk g 200 ++ []) = _
  rw [List.append_nil]
  rfl
end Nd
end Go.Proofs.YtchlbkfkecpodaaGreat
