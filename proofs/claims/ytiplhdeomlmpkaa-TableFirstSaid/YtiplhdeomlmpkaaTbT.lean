/- told: what the program tells of a few. -/
import Derived.Test.YtiplhdeomlmpkaaTbK
namespace Go.Proofs.Ytiplhdeomlmpkaa
set_option maxRecDepth 100000
open Go.RowKit
open Go.Sort (grow)
open Go.Proofs.Ytiplhdeomlmpkaa.Pk (one_at one_free one_set lt_some grown_set grown_trans below_grown grown_refl)
namespace Tb
open Wt (Opn mayOp)

def tf1 : F := putF fz ⟨2, 4, 0, 0, 0⟩ 1
theorem tp1 : put? fz ⟨2, 4, 0, 0, 0⟩ 1 = true := by decide
theorem tf1_is : tf1 = upd fz 4 2 1 := by
  unfold tf1 putF
  rw [if_pos tp1]
theorem tf1_42 : tf1 4 2 = 1 := by rw [tf1_is]; rfl
theorem tf1_43 : tf1 4 3 = 0 := by rw [tf1_is]; rfl
theorem tp2 : put? tf1 ⟨2, 4, 0, 0, 0⟩ 2 = false := by
  unfold put?
  show (_ && _ && tf1 4 2 == 0) = false
  rw [tf1_42]
  rw [Bool.and_eq_false_iff]
  exact .inr rfl
theorem tp2_is : putF tf1 ⟨2, 4, 0, 0, 0⟩ 2 = tf1 := by
  unfold putF
  rw [tp2]
  rfl
theorem tc1 : cnt tf1 = 1 := by
  rw [tf1_is, cnt_upd (by omega) (by omega) (by omega) rfl, cnt_z]
theorem tk1 : keys tf1 = [(4, 2)] := by
  have h : (4, 2) ∈ keys tf1 := mem_keys.2 ⟨by omega, by omega, by rw [tf1_42]; decide⟩
  have hl : (keys tf1).length = 1 := tc1
  match keys tf1, h, hl with
  | [x], h, _ => rw [List.mem_singleton.1 h]
/-- An operation in a box. -/
def Bx (w : World) (g : Nat) (o : Opn) : Prop := w.heap[g]? = some (.cells #[.int .i64 o.kind, .int .i64 o.book, .int .i64 o.units, .int .i64 o.cust, .int .i64 o.amount] 32 (0, 0))
theorem Bx.cells {w : World} {g : Nat} {o : Opn} (h : Bx w g o) : w.cell? ⟨g, 0, none⟩ = some (.int .i64 o.kind) ∧ w.cell? ⟨g, 1, none⟩ = some (.int .i64 o.book) ∧ w.cell? ⟨g, 2, none⟩ = some (.int .i64 o.units) ∧ w.cell? ⟨g, 3, none⟩ = some (.int .i64 o.cust) ∧ w.cell? ⟨g, 4, none⟩ = some (.int .i64 o.amount) :=
  ⟨one_at (i := 0) h, one_at (i := 1) h, one_at (i := 2) h, one_at (i := 3) h, one_at (i := 4) h⟩
theorem Bx.lt {w : World} {g : Nat} {o : Opn} (h : Bx w g o) : g < w.heap.size := lt_some h
theorem Bx.below {w w' : World} {g : Nat} {o : Opn} (h : Bx w g o) (hb : Below w.heap.size w w') : Bx w' g o := (hb.block g h.lt).trans h
theorem Bx.kx {w w' : World} {g : Nat} {o : Opn} {X : Nat → Prop} (h : Bx w g o) (hk : Kx X w w') (hx : X g) : Bx w' g o := (hk.2 g hx).trans h
set_option maxHeartbeats 3200000 in
theorem told_any (w : World) : Calls Try.prog 13 #[] w fun e w' => e = .returned (.bool true) ∧ Below w.heap.size w w' := by
  have N := ow_new w
  have EQ := eq_key_run
  go_enter Try.func13, Try.ntmps13
  go_wp2_with fail
  refine N.mono ?_
  rintro e w1 ⟨q, rfl, O1⟩
  clear N
  obtain ⟨W, hW⟩ : ∃ W, W = w1.alloc (.cells #[.int .i64 2, .int .i64 4, .int .i64 0, .int .i64 0, .int .i64 0] 32) := ⟨_, rfl⟩
  obtain ⟨X, hX⟩ : ∃ X, X = grq (fun g => g < w.heap.size) w1 W := ⟨_, rfl⟩
  have bW : Below w1.heap.size w1 W := by rw [hW]; exact (Below.refl _ _).alloc (Nat.le_refl _) _
  have OW : Ow w.heap.size X w W q fz := by rw [hX]; exact O1.beside bW
  have BW : Bx W w1.heap.size ⟨2, 4, 0, 0, 0⟩ := by rw [hW]; exact heap_alloc_new _ _
  have xg : Hid (X w1.heap.size) := by rw [hX]; exact .inr ⟨Nat.le_refl _, BW.lt⟩
  have P1 : Calls Try.prog 7 #[.pointer (some ⟨q, 0, none⟩), .agg #[.int .i64 2, .int .i64 4, .int .i64 0, .int .i64 0, .int .i64 0], .int .i64 1] W fun e w'' => e = .returned (.bool true) ∧ OwTo w.heap.size X w W q tf1 w'' := by
    have := ow_put OW ⟨2, 4, 0, 0, 0⟩ 1
    rw [tp1] at this
    exact this
  replace BW := Lib.hid BW
  replace hW := Lib.hid hW
  clear hX bW OW O1
  go_wp2_with fail
  rw [← hW.out]
  refine P1.mono ?_
  rintro e w2 ⟨rfl, O2, K2⟩
  have B2 := Lib.hid (BW.out.kx K2 xg.out)
  obtain ⟨z0, z1, z2, z3, z4⟩ := B2.out.cells
  have P2 : Calls Try.prog 7 #[.pointer (some ⟨q, 0, none⟩), .agg #[.int .i64 2, .int .i64 4, .int .i64 0, .int .i64 0, .int .i64 0], .int .i64 2] w2 fun e w'' => e = .returned (.bool false) ∧ OwTo w.heap.size X w w2 q tf1 w'' := by
    have := ow_put O2 ⟨2, 4, 0, 0, 0⟩ 2
    rw [tp2, tp2_is] at this
    exact this
  clear P1 K2 BW hW O2
  go_wp2_with fail
  refine P2.mono ?_
  rintro e w3 ⟨rfl, O3, K3⟩
  have B3 := Lib.hid (B2.out.kx K3 xg.out)
  clear z0 z1 z2 z3 z4
  obtain ⟨z0, z1, z2, z3, z4⟩ := B3.out.cells
  have FI := ow_find O3 ⟨2, 4, 0, 0, 0⟩ (bp_in (by decide) (by decide))
  simp only at FI
  rw [tf1_42, show ne0 1 = true from rfl] at FI
  replace O3 := Lib.hid O3
  clear P2 K3 B2
  go_wp2_with fail
  refine FI.mono ?_
  rintro e w4 ⟨rfl, b4⟩
  have O4 := O3.out.below b4
  have FI2 := ow_find O4 ⟨3, 4, 0, 0, 0⟩ (bp_in (by decide) (by decide))
  simp only at FI2
  rw [tf1_43, show ne0 0 = false from rfl] at FI2
  replace O4 := Lib.hid O4
  clear FI O3 b4 B3 z0 z1 z2 z3 z4
  go_wp2_with fail
  refine FI2.mono ?_
  rintro e w5 ⟨rfl, b5⟩
  have O5 := O4.out.below b5
  have KE := ow_keys O5
  rw [tk1] at KE
  replace O5 := Lib.hid O5
  clear FI2 O4 b5
  go_wp2_with fail
  refine KE.mono ?_
  rintro e w6 ⟨v, rfl, h6, b6⟩
  have O6 := O5.out.below b6
  obtain ⟨A, c, rfl, -, -, -⟩ := rp_form h6
  obtain ⟨g, rfl, k0, k1⟩ := rp_cell h6 (k := 0) (x := (4, 2)) rfl
  have LE := ow_len O6
  rw [tc1] at LE
  have BE := Lib.hid O6.be
  clear KE O5 b6 h6 O6
  go_wp2_with (go_at_call 9; refine LE.mono ?_; rintro e w' ⟨rfl, rfl⟩)
  go_ret
  exact ⟨rfl, BE.out⟩
end Tb
end Go.Proofs.Ytiplhdeomlmpkaa
