/- The closure that moves money. -/
import Derived.Test.YtchlbkfkecpodaaPuD
import Derived.Test.YtchlbkfkecpodaaCsA
namespace Go.Proofs.Ytchlbkfkecpodaa
set_option maxRecDepth 100000
open Go.RowKit
open Go.Sort (grow)
open Go.Proofs.Ytchlbkfkecpodaa.Pk (one_at one_free one_set lt_some grown_set grown_trans below_grown grown_refl)
namespace Pu

theorem sub_in (w : World) {a b x : Int} (ha : 0 ≤ a ∧ a ≤ 4398046511104) (hb : 0 ≤ b ∧ b ≤ 1099511627776) (hx : a - b = x) : Calls Try.prog 109 #[.int .i64 a, .int .i64 b] w fun e w' => e = .returned (.tuple #[.int .i64 x, .int .i64 0]) ∧ Below w.heap.size w w' := by
  have hI : Cs.I (a - b) := by unfold Cs.I; omega
  refine (Cs.sub_any a b (by unfold Cs.I; omega) (by unfold Cs.I; omega) w).mono ?_
  rintro e w' ⟨rfl, h⟩
  rw [Cs.okv_in hI, Cs.oke_in hI, hx]
  exact ⟨rfl, h⟩
theorem add_in (w : World) {a b x : Int} (ha : 0 ≤ a ∧ a ≤ 4398046511104) (hb : 0 ≤ b ∧ b ≤ 1099511627776) (hx : a + b = x) : Calls Try.prog 110 #[.int .i64 a, .int .i64 b] w fun e w' => e = .returned (.tuple #[.int .i64 x, .int .i64 0]) ∧ Below w.heap.size w w' := by
  have hI : Cs.I (a + b) := by unfold Cs.I; omega
  refine (Cs.add_any a b (by unfold Cs.I; omega) (by unfold Cs.I; omega) w).mono ?_
  rintro e w' ⟨rfl, h⟩
  rw [Cs.okv_in hI, Cs.oke_in hI, hx]
  exact ⟨rfl, h⟩
/-- What the closure keeps: where the purse is, the amount, the booking. -/
structure Cap (w : World) (q lb ab bb : Nat) (b am : Int) : Prop where
  l : w.cell? ⟨lb, 0, none⟩ = some (.pointer (some ⟨q, 0, none⟩))
  a : w.cell? ⟨ab, 0, none⟩ = some (.int .i64 am)
  b : w.cell? ⟨bb, 0, none⟩ = some (.int .i64 b)
  nl : lb ≠ q
  na : ab ≠ q
  nb : bb ≠ q
section
variable {w w' : World} {q lb ab bb : Nat} {b am : Int}
theorem Cap.below (C : Cap w q lb ab bb b am) (hb : Below w.heap.size w w') : Cap w' q lb ab bb b am :=
  ⟨(hb.cell (p := ⟨lb, 0, none⟩) (World.block_lt_of_cell? w _ C.l)).trans C.l, (hb.cell (p := ⟨ab, 0, none⟩) (World.block_lt_of_cell? w _ C.a)).trans C.a, (hb.cell (p := ⟨bb, 0, none⟩) (World.block_lt_of_cell? w _ C.b)).trans C.b, C.nl, C.na, C.nb⟩
theorem Cap.set (C : Cap w q lb ab bb b am) (o : Nat) (u : Value) : Cap (w.setCell ⟨q, o, none⟩ u) q lb ab bb b am := by
  have hn : ∀ g i, g ≠ q → (w.setCell ⟨q, o, none⟩ u).cell? ⟨g, i, none⟩ = w.cell? ⟨g, i, none⟩ := fun g i h => World.cell?_setCell_other _ _ _ _ (fun e => h (by injection e with e; exact e.symm))
  exact ⟨(hn _ _ C.nl).trans C.l, (hn _ _ C.na).trans C.a, (hn _ _ C.nb).trans C.b, C.nl, C.na, C.nb⟩
end
/-- A longer row stored, in a block that is new. -/
theorem row_stored {t : TypeId} {W W3 : World} {q g n c : Nat} {p : S} {v : Value} {l : List Ln} {fp : Nat → Prop} (D : Pm W q p v) (hp : fp q) (hs : ∀ g, fp g → g < W.heap.size) (hb : Below W.heap.size W W3) (hg : W.heap.size ≤ g) (R : RowT t W3 0 (.slice (some ⟨g, 0, none⟩) n c) n l) :
    MvTo t (fun g => g = q) W q fp ⟨p.a, p.f, l⟩ (W3.setCell ⟨q, 1011, none⟩ (.slice (some ⟨g, 0, none⟩) n c)) := by
  have D3 := (D.below hb).lines (.slice (some ⟨g, 0, none⟩) n c) l
  have hq := hs q hp
  have hl : g < W3.heap.size := rt_lt R rfl
  have G := setCells_block q [.slice (some ⟨g, 0, none⟩) n c] 1011 W3
  have hn := rt_len R
  have K : Kt q (fun g => g = q) W (W3.setCell ⟨q, 1011, none⟩ (.slice (some ⟨g, 0, none⟩) n c)) := (Kt.of_below hq hb).self (by rw [set1]; exact Kt.of_cells _ _ _ _ (Nat.le_refl _))
  refine ⟨⟨.inl hp, fun x hx => ?_, .slice (some ⟨g, 0, none⟩) n c, D3, ?_, ?_, fun x hx => ?_⟩, K⟩
  · rcases hx with hx | ⟨_, hx⟩
    · exact Nat.lt_of_lt_of_le (hs x hx) K.size
    · exact hx
  · show RowT t _ 0 _ l.length l
    rw [hn]
    refine rt_same R fun x hx => ?_
    have : g = x := by simpa [Value.ownBlock] using hx
    subst this
    rw [set1]
    exact G.2.2.2.2 g (by omega)
  · intro e
    have : g = q := by simpa [Value.ownBlock] using e
    omega
  · have : g = x := by simpa [Value.ownBlock] using hx
    subst this
    exact .inr ⟨hg, by rw [set1, G.1]; exact hl⟩
/-- Money goes from an account to another one. -/
theorem Lax.moved {t : TypeId} {w : World} {q : Nat} {p : S} {fp : Nat → Prop} (L : Lax t w q p fp) {fr tg : Nat} {am y1 y2 : Int} (hf : fr ≤ 5) (ht : tg ≤ 5) (h1 : y1 = p.a fr - am) (h2 : y2 = p.a tg + am) :
    Lax t ((w.setCell ⟨q, fr, none⟩ (.int .i64 y1)).setCell ⟨q, tg, none⟩ (.int .i64 y2)) q ⟨mvA p.a fr tg am, p.f, p.l⟩ fp ∧ Kt q (fun g => g = q) w ((w.setCell ⟨q, fr, none⟩ (.int .i64 y1)).setCell ⟨q, tg, none⟩ (.int .i64 y2)) := by
  obtain ⟨v, D, R, hne, hv⟩ := L.at_
  have D2 := (D.acct hf y1).acct ht y2
  have K1 := Kt.of_cells w q fr [.int .i64 y1] (by show fr + 1 ≤ 1012; omega)
  have K2 := Kt.of_cells (w.setCells q fr [.int .i64 y1]) q tg [.int .i64 y2] (by show tg + 1 ≤ 1012; omega)
  have K : Kt q (fun g => g = q) w ((w.setCell ⟨q, fr, none⟩ (.int .i64 y1)).setCell ⟨q, tg, none⟩ (.int .i64 y2)) := K1.self K2
  refine ⟨⟨L.pin, fun g hg => Nat.lt_of_lt_of_le (L.size g hg) K.size, v, ?_, rt_same R fun g hg => K.block g (rt_lt R hg) (fun e => hne (by rw [hg, e])), hne, hv⟩, K⟩
  have e : upd (upd p.a (fr : Int) y1) (tg : Int) y2 = mvA p.a fr tg am := by rw [mvA, h1, h2]
  rw [← e]
  exact D2
/-- What the closure answers and leaves. -/
def MovTo (w : World) (q : Nat) (fp : Nat → Prop) (p : S) (b fr tg am : Int) (e : Ending) (w' : World) : Prop :=
  (p.a fr < am ∧ e = .returned (.bool false) ∧ Below w.heap.size w w') ∨ (am ≤ p.a fr ∧ e = .returned (.bool true) ∧ MvTo LineT (fun g => g = q) w q fp (mv p b fr tg am) w')
set_option maxHeartbeats 3200000 in
theorem mover_any (w : World) (q : Nat) (p : S) (fp : Nat → Prop) (L : LedP w q p fp) (lb ab bb fr tg : Nat) (b am : Int) (C : Cap w q lb ab bb b am) (hf : fr ≤ 5) (ht : tg ≤ 5) (hft : fr ≠ tg) (ha : 0 ≤ am ∧ am ≤ 1099511627776) :
    Calls Try.prog 108 #[.int .i64 (fr : Int), .int .i64 (tg : Int), .pointer (some ⟨lb, 0, none⟩), .pointer (some ⟨ab, 0, none⟩), .pointer (some ⟨bb, 0, none⟩)] w (MovTo w q fp p b fr tg am) := by
  have AC : Hid (∀ w1, Below w.heap.size w w1 → ∀ k : Nat, k ≤ 5 → w1.cell? ⟨q, k, none⟩ = some (.int .i64 (p.a (k : Int)))) := fun w1 h1 k hk => by
    obtain ⟨v, D, -, -, -⟩ := (L.below h1).at_
    exact D.acc k hk
  have CB : Hid (∀ w1, Below w.heap.size w w1 → Cap w1 q lb ab bb b am) := fun w1 h1 => C.below h1
  have b1 := L.ok.bds (k := (fr : Int)) (by omega) (by omega)
  have b2 := L.ok.bds (k := (tg : Int)) (by omega) (by omega)
  have f0 : (0 : Int) ≤ (fr : Int) := by omega
  have f5 : (fr : Int) < 6 := by omega
  have t0 : (0 : Int) ≤ (tg : Int) := by omega
  have t5 : (tg : Int) < 6 := by omega
  have z1 := cell_regrown (AC.out w (Below.refl _ _) fr hf)
  have z2 := cell_regrown C.l
  have z3 := cell_regrown C.a
  obtain ⟨x1, h1⟩ : ∃ x, x = p.a (fr : Int) := ⟨_, rfl⟩
  obtain ⟨x2, h2⟩ : ∃ x, x = p.a (tg : Int) := ⟨_, rfl⟩
  rw [← h1] at b1 z1
  rw [← h2] at b2
  obtain ⟨y1, hy1⟩ : ∃ x, x = x1 - am := ⟨_, rfl⟩
  obtain ⟨y2, hy2⟩ : ∃ x, x = x2 + am := ⟨_, rfl⟩
  have Q1 := fun d os => Calls.regrown_of (sub_in (grow (redrawn w d) os) b1 ha hy1.symm)
  have AD : Hid (∀ w, Calls Try.prog 110 #[.int .i64 x2, .int .i64 am] w fun e w' => e = .returned (.tuple #[.int .i64 y2, .int .i64 0]) ∧ Below w.heap.size w w') := fun w => add_in w b2 ha hy2.symm
  replace hy1 := Lib.hid hy1
  replace hy2 := Lib.hid hy2
  replace h1 := Lib.hid h1
  replace h2 := Lib.hid h2
  replace hft := Lib.hid hft
  replace L := Lib.hid L
  replace b1 := Lib.hid b1
  replace b2 := Lib.hid b2
  replace ha := Lib.hid ha
  replace hf := Lib.hid hf
  replace ht := Lib.hid ht
  clear C
  go_enter Try.func108, Try.ntmps108
  go_upto_region 1 with fail
  refine wp_region_quiet_below (by kernel_rfl) (by kernel_rfl) ?_
  repeat (go_big_quiet_step (with_reducible exact Q1 _ _))
  refine wpQuiet_nil ?_
  intro w7 hw'
  obtain ⟨⟨dq, osq⟩, hw7⟩ := hw'
  have be7 : Hid (Below w.heap.size w w7) := by rw [hw7]; exact below_regrown w dq osq
  clear hw7 Q1 z1 z2 z3
  have z1 := cell_regrown (AC.out w7 be7.out tg ht.out)
  have z2 := cell_regrown (CB.out w7 be7.out).l
  have z3 := cell_regrown (CB.out w7 be7.out).a
  rw [← h2.out] at z1
  have Q1 := fun d os => Calls.regrown_of (AD.out (grow (redrawn w7 d) os))
  clear AD
  go_upto_region 2 with fail
  refine wp_region_quiet_below (by kernel_rfl) (by kernel_rfl) ?_
  repeat (go_big_quiet_step (with_reducible exact Q1 _ _))
  refine wpQuiet_nil ?_
  intro w8 hw'
  obtain ⟨⟨dq, osq⟩, hw8⟩ := hw'
  have be8 : Hid (Below w.heap.size w w8) := be7.out.trans (by rw [hw8]; exact (below_regrown w7 dq osq).mono be7.out.size)
  clear hw8 Q1 z1 z2 z3 be7
  by_cases hy : y1 < 0
  · have d1 : decide (y1 < 0) = true := decide_eq_true hy
    have F : Hid (MovTo w q fp p b fr tg am (.returned (.bool false)) w8) := .inl ⟨by have := hy1.out; have := h1.out; omega, rfl, be8.out⟩
    clear AC CB
    go_wp2
    go_ret
    exact F.out
  · have d1 : decide (y1 < 0) = false := decide_eq_false hy
    have d2 : 0 ≤ y1 := by omega
    have LX := (L.out.below be8.out).toLax
    have LM := LX.moved (am := am) (y1 := y1) (y2 := y2) hf.out ht.out (by rw [hy1.out, h1.out]) (by rw [hy2.out, h2.out])
    have C8 := CB.out w8 be8.out
    have few : Hid (p.l.length ≤ 900) := by have := L.out.ok.few; show _ ≤ 900; omega
    have hle : Hid (am ≤ p.a fr) := by have := hy1.out; have := h1.out; show _ ≤ _; omega
    have e1 : w8.cell? ⟨lb, 0, none⟩ = some (.pointer (some ⟨q, 0, none⟩)) := C8.l
    have e2 : w8.cell? ⟨q, fr, none⟩ = some (.int .i64 x1) := by rw [h1.out]; exact AC.out w8 be8.out fr hf.out
    have e3 : w8.cell? ⟨q, tg, none⟩ = some (.int .i64 x2) := by rw [h2.out]; exact AC.out w8 be8.out tg ht.out
    have e4 : w8.frozen? ⟨q, fr, none⟩ = false := by obtain ⟨v, D, _⟩ := LX.at_; exact D.free fr
    have e5 : w8.frozen? ⟨q, tg, none⟩ = false := by obtain ⟨v, D, _⟩ := LX.at_; exact D.free tg
    have e6 : fr ≠ tg := hft.out
    have e7 : lb ≠ q := C8.nl
    obtain ⟨W9, hW9⟩ : ∃ W, W = ((w8.setCell ⟨q, fr, none⟩ (.int .i64 y1)).setCell ⟨q, tg, none⟩ (.int .i64 y2)).drew := ⟨_, rfl⟩
    have C9 : Hid (Cap W9 q lb ab bb b am) := by rw [hW9]; exact ((C8.set _ _).set _ _).below ⟨rfl, rfl, rfl, Nat.le_refl _, fun _ _ => rfl⟩
    replace LM : Hid (Lax LineT W9 q ⟨mvA p.a fr tg am, p.f, p.l⟩ fp ∧ Kt q (fun g => g = q) w8 W9) := by rw [hW9]; exact ⟨LM.1.keep (Nat.le_refl _) (fun _ _ => rfl), LM.2.drew⟩
    replace hW9 := Lib.hid hW9
    clear LX C8 CB AC b1 b2 hy1 hy2 h1 h2
    go_upto_region 5 with fail
    go_region
    all_goals
      rw [← hW9.out]
      clear e1 e2 e3 e4 e5
      obtain ⟨v, D, R, hne, hv⟩ := LM.out.1.at_
      obtain ⟨A, c, rfl, -⟩ := rt_form R
      go_upto_region 6 with fail
      refine mover6 _ _ _ _ _ _ _ _ _ _ _ _ _ _ _ _ _ _ _ _ _ _ _ _ _ _ _ _ _ _ _ _ _ _ _ _ _ _ _ _ _ _ _ _ _ _ _ _ _ _ _ _ _ _ _ _ _ _ _ _ _ _ _ _ _ _ W9 q lb ab bb p.l.length c (fr : Int) (tg : Int) b am A p.l C9.out.l D.lin C9.out.b C9.out.a (D.free 1011) R few.out _ (fun _ _ d _ _ h => by cases d <;> exact h) (fun y56 y57 y58 y59 y60 y61 y62 y63 y64 y65 y66 y67 y68 y69 y70 W3 g c3 hg hb3 R3 => ?_)
      have F : Hid (MovTo w q fp p b fr tg am (.returned (.bool true)) (W3.setCell ⟨q, 1011, none⟩ (.slice (some ⟨g, 0, none⟩) (p.l.length + 1) c3))) := by
        refine .inr ⟨hle.out, rfl, ?_⟩
        have h9 : MvTo LineT (fun g => g = q) w q fp ⟨mvA p.a fr tg am, p.f, p.l⟩ W9 := MvTo.after L.out.lt be8.out (MvTo.of_same LM.out.1 LM.out.2)
        exact h9.then (row_stored D h9.1.pin h9.1.size hb3 hg R3)
      clear hb3 R3 D R hne hv
      go_wp2
      go_ret
      exact F.out
end Pu
end Go.Proofs.Ytchlbkfkecpodaa
