/- told: what the program tells of a few. -/
import Derived.Test.YtchlbkfkecpodaaGreatHoK
namespace Go.Proofs.YtchlbkfkecpodaaGreat
set_option maxRecDepth 100000
open Go.RowKit
open Go.Sort (grow)
open Go.Proofs.YtchlbkfkecpodaaGreat.Pk (one_at one_free one_set lt_some grown_set grown_trans below_grown grown_refl)
namespace Ho
open Wt (Opn mayOp)
open St (grq Kx swF swL RowI)
open Tb (cnt)

def hs1 : S := asked 2 0 sz ⟨1, 1, 2, 0, 0⟩ 5
def hs2 : S := asked 2 0 hs1 ⟨1, 1, 2, 0, 0⟩ 6
def hs3 : S := asked 2 0 hs2 ⟨4, 1, 0, 0, 0⟩ 6
def hs4 : S := ⟨swF hs3.f 65, hs3.g⟩
def hs5 : S := asked 2 0 hs4 ⟨2, 1, 0, 0, 0⟩ 66
theorem ha1 : ans 2 0 sz ⟨1, 1, 2, 0, 0⟩ 5 = 1 := by kernel_rfl
theorem hb1 : isNew sz ⟨1, 1, 2, 0, 0⟩ 5 = true := by kernel_rfl
theorem ha2 : ans 2 0 hs1 ⟨1, 1, 2, 0, 0⟩ 6 = 1 := by kernel_rfl
theorem hb2 : isNew hs1 ⟨1, 1, 2, 0, 0⟩ 6 = false := by kernel_rfl
theorem ha3 : ans 2 0 hs2 ⟨4, 1, 0, 0, 0⟩ 6 = 2 := by kernel_rfl
theorem hb3 : isNew hs2 ⟨4, 1, 0, 0, 0⟩ 6 = false := by kernel_rfl
theorem hr3 : St.room 2 0 hs3.f = 0 := by kernel_rfl
theorem hl4 : swL hs3.f 65 = [1] := by kernel_rfl
theorem ha5 : ans 2 0 hs4 ⟨2, 1, 0, 0, 0⟩ 66 = 2 := by kernel_rfl
theorem hb5 : isNew hs4 ⟨2, 1, 0, 0, 0⟩ 66 = true := by kernel_rfl
theorem hc5 : cnt hs5.g = 2 := by kernel_rfl
/-- An operation in a box. -/
def Bx (w : World) (g : Nat) (o : Opn) : Prop := w.heap[g]? = some (.cells (opc o) 43 (0, 0))
theorem Bx.cells {w : World} {g : Nat} {o : Opn} (h : Bx w g o) : w.cell? ⟨g, 0, none⟩ = some (.int .i64 o.kind) ∧ w.cell? ⟨g, 1, none⟩ = some (.int .i64 o.book) ∧ w.cell? ⟨g, 2, none⟩ = some (.int .i64 o.units) ∧ w.cell? ⟨g, 3, none⟩ = some (.int .i64 o.cust) ∧ w.cell? ⟨g, 4, none⟩ = some (.int .i64 o.amount) :=
  ⟨one_at (i := 0) h, one_at (i := 1) h, one_at (i := 2) h, one_at (i := 3) h, one_at (i := 4) h⟩
theorem Bx.lt {w : World} {g : Nat} {o : Opn} (h : Bx w g o) : g < w.heap.size := lt_some h
theorem Bx.below {w w' : World} {g : Nat} {o : Opn} (h : Bx w g o) (hb : Below w.heap.size w w') : Bx w' g o := (hb.block g h.lt).trans h
theorem Bx.kx {w w' : World} {g : Nat} {o : Opn} {X : Nat → Prop} (h : Bx w g o) (hk : Kx X w w') (hx : X g) : Bx w' g o := (hk.2 g hx).trans h
set_option maxHeartbeats 6400000 in
theorem htold_any (w : World) : Calls Tryz.prog 6 #[] w fun e w' => e = .returned (.bool true) ∧ Below w.heap.size w w' := by
  have N := ow_new w 2 0 (by decide)
  go_enter Tryz.func6, Tryz.ntmps6
  go_wp2_with fail
  refine N.mono ?_
  rintro e w1 ⟨q, rfl, N1⟩
  clear N
  obtain ⟨W, hW⟩ : ∃ W, W = w1.alloc (.cells #[.int .i64 1, .int .i64 1, .int .i64 2, .int .i64 0, .int .i64 0] 43) := ⟨_, rfl⟩
  obtain ⟨X, hX⟩ : ∃ X, X = grq (fun g => g < w.heap.size) w1 W := ⟨_, rfl⟩
  have bW : Below w1.heap.size w1 W := by rw [hW]; exact (Below.refl _ _).alloc (Nat.le_refl _) _
  have O0 : Ow w.heap.size X w W q 2 0 sz := by rw [hX]; exact N1.beside bW
  have BW : Bx W w1.heap.size ⟨1, 1, 2, 0, 0⟩ := by rw [hW]; exact heap_alloc_new _ _
  have xg : Hid (X w1.heap.size) := by rw [hX]; exact .inr ⟨Nat.le_refl _, BW.lt⟩
  obtain ⟨z0, z1, z2, z3, z4⟩ := BW.cells
  replace BW := Lib.hid BW
  replace hW := Lib.hid hW
  clear hX bW N1
  have D : Calls Tryz.prog 9 #[.pointer (some ⟨q, 0, none⟩), .agg #[.int .i64 1, .int .i64 1, .int .i64 2, .int .i64 0, .int .i64 0], .int .i64 5] W fun e w' => e = .returned (.tuple #[.int .i64 1, .bool true]) ∧ OwTo w.heap.size X w W q 2 0 hs1 w' := by
    have := ow_ask O0 ⟨1, 1, 2, 0, 0⟩ 5
    rw [ha1, hb1] at this
    exact this
  clear O0
  go_wp2_with fail
  rw [← hW.out]
  go_wp2_with fail
  refine D.mono ?_
  rintro e w2 ⟨rfl, O1, K1⟩
  clear D
  have B2 := Lib.hid (BW.out.kx K1 xg.out)
  clear z0 z1 z2 z3 z4 BW hW K1
  obtain ⟨z0, z1, z2, z3, z4⟩ := B2.out.cells
  have D : Calls Tryz.prog 9 #[.pointer (some ⟨q, 0, none⟩), .agg #[.int .i64 1, .int .i64 1, .int .i64 2, .int .i64 0, .int .i64 0], .int .i64 6] w2 fun e w' => e = .returned (.tuple #[.int .i64 1, .bool false]) ∧ OwTo w.heap.size X w w2 q 2 0 hs2 w' := by
    have := ow_ask O1 ⟨1, 1, 2, 0, 0⟩ 6
    rw [ha2, hb2] at this
    exact this
  clear O1
  go_wp2_with fail
  refine D.mono ?_
  rintro e w3 ⟨rfl, O2, K2⟩
  clear D
  clear z0 z1 z2 z3 z4 B2 K2
  have D : Calls Tryz.prog 9 #[.pointer (some ⟨q, 0, none⟩), .agg #[.int .i64 4, .int .i64 1, .int .i64 0, .int .i64 0, .int .i64 0], .int .i64 6] w3 fun e w' => e = .returned (.tuple #[.int .i64 2, .bool false]) ∧ OwTo w.heap.size X w w3 q 2 0 hs3 w' := by
    have := ow_ask O2 ⟨4, 1, 0, 0, 0⟩ 6
    rw [ha3, hb3] at this
    exact this
  clear O2
  go_wp2_with fail
  refine D.mono ?_
  rintro e w4 ⟨rfl, O3, K3⟩
  clear D
  clear K3
  have SC := ow_stock O3
  replace O3 := Lib.hid O3
  go_wp2_with fail
  refine SC.mono ?_
  rintro e w5 ⟨q2, rfl, S5⟩
  have O5 := O3.out.beside S5.be
  replace S5 := Lib.hid S5
  have SW := ow_sweep O5 65
  rw [hl4] at SW
  replace O5 := Lib.hid O5
  clear SC O3
  go_wp2_with fail
  refine SW.mono ?_
  rintro e w6 ⟨v, rfl, h6, O4, K6⟩
  replace O4 : Ow w.heap.size (grq X w4 w5) w w6 q 2 0 hs4 := O4
  obtain ⟨A, c, rfl, -⟩ := St.ri_form h6
  have L6 : Hid (∀ W, Kx (grq X w4 w5) w6 W → ∃ fp, St.Led W q2 2 0 hs3.f fp) := fun W hk => by
    obtain ⟨fp, L, hf⟩ := S5.out.ex
    refine ⟨fp, L.keep (Nat.le_trans K6.1 hk.1) fun g hg => ?_⟩
    have hx : grq X w4 w5 g := .inr ⟨(hf g hg).1, L.size g hg⟩
    exact (hk.2 g hx).trans (K6.2 g hx)
  have D : Calls Tryz.prog 9 #[.pointer (some ⟨q, 0, none⟩), .agg #[.int .i64 2, .int .i64 1, .int .i64 0, .int .i64 0, .int .i64 0], .int .i64 66] w6 fun e w' => e = .returned (.tuple #[.int .i64 2, .bool true]) ∧ OwTo w.heap.size (grq X w4 w5) w w6 q 2 0 hs5 w' := by
    have := ow_ask O4 ⟨2, 1, 0, 0, 0⟩ 66
    rw [ha5, hb5] at this
    exact this
  clear SW O4 O5 S5 h6 K6
  go_wp2_with fail
  refine D.mono ?_
  rintro e w7 ⟨rfl, O7, K7⟩
  obtain ⟨fp, L7⟩ := L6.out w7 K7
  have FR := St.free_any w7 q2 2 0 hs3.f fp L7
  rw [hr3] at FR
  have AN := fun w8 (hb : Below w7.heap.size w7 w8) => ow_answers (O7.below hb)
  rw [hc5] at AN
  replace AN := Lib.hid AN
  have BE := Lib.hid O7.be
  have BS := Lib.hid O7.bs
  clear D L6 O7 K7 L7
  go_wp2_with fail
  refine FR.mono ?_
  rintro e w8 ⟨rfl, b8⟩
  have A8 := AN.out w8 b8
  have B8 : Hid (Below w.heap.size w w8) := BE.out.trans (b8.mono BS.out)
  clear FR AN BE BS b8
  go_wp2_with fail
  refine A8.mono ?_
  rintro e w9 ⟨rfl, rfl⟩
  clear A8
  go_wp2
  go_ret
  exact ⟨rfl, B8.out⟩
end Ho
end Go.Proofs.YtchlbkfkecpodaaGreat
