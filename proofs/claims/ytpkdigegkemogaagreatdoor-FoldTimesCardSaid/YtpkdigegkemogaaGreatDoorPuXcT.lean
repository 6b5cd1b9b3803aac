/- Parts of the claim: PuE, PuF, PuG, PuH -/
import Derived.Test.YtpkdigegkemogaaGreatDoorPuXbT
import Derived.Test.YtpkdigegkemogaaGreatDoorCsXT
import Derived.Test.YtpkdigegkemogaaGreatDoorWtXaT
namespace Go.Proofs.YtpkdigegkemogaaGreatDoor
set_option maxRecDepth 100000
open Go.RowKit
open Go.Sort (grow)
open Go.Proofs.YtpkdigegkemogaaGreatDoor.Pk (one_at one_free one_set lt_some grown_set grown_trans grown_refl)
namespace Pu

theorem sub_in (w : World) {a b x : Int} (ha : 0 ≤ a ∧ a ≤ 4398046511104) (hb : 0 ≤ b ∧ b ≤ 1099511627776) (hx : a - b = x) : Calls Tryz.prog 146 #[.int .i64 a, .int .i64 b] w fun e w' => e = .returned (.tuple #[.int .i64 x, .int .i64 0]) ∧ Below w.heap.size w w' := by
  have hI : Cs.I (a - b) := by unfold Cs.I; omega
  refine (Cs.sub_any a b (by unfold Cs.I; omega) (by unfold Cs.I; omega) w).mono ?_
  rintro e w' ⟨rfl, h⟩
  rw [Cs.okv_in hI, Cs.oke_in hI, hx]
  exact ⟨rfl, h⟩
theorem add_in (w : World) {a b x : Int} (ha : 0 ≤ a ∧ a ≤ 4398046511104) (hb : 0 ≤ b ∧ b ≤ 1099511627776) (hx : a + b = x) : Calls Tryz.prog 147 #[.int .i64 a, .int .i64 b] w fun e w' => e = .returned (.tuple #[.int .i64 x, .int .i64 0]) ∧ Below w.heap.size w w' := by
  have hI : Cs.I (a + b) := by unfold Cs.I; omega
  refine (Cs.add_any a b (by unfold Cs.I; omega) (by unfold Cs.I; omega) w).mono ?_
  rintro e w' ⟨rfl, h⟩
  rw [Cs.okv_in hI, Cs.oke_in hI, hx]
  exact ⟨rfl, h⟩
structure Cap (w : World) (q lb ab bb : Nat) (b am : Int) : Prop where
  l : w.cell? ⟨lb, 0, none⟩ = some (.pointer (some ⟨q, 0, none⟩))
  a : w.cell? ⟨ab, 0, none⟩ = some (.int .i64 am)
  b : w.cell? ⟨bb, 0, none⟩ = some (.int .i64 b)
  nl : lb ≠ q
  na : ab ≠ q
  nb : bb ≠ q
section
variable {w w' : World} {q lb ab bb : Nat} {b am : Int}
theorem Cap.below (C : Cap w q lb ab bb b am) (hb : Below w.heap.size w w') : Cap w' q lb ab bb b am :=
  ⟨(hb.cell (p := ⟨lb, 0, none⟩) (World.block_lt_of_cell? w _ C.l)).trans C.l, (hb.cell (p := ⟨ab, 0, none⟩) (World.block_lt_of_cell? w _ C.a)).trans C.a, (hb.cell (p := ⟨bb, 0, none⟩) (World.block_lt_of_cell? w _ C.b)).trans C.b, C.nl, C.na, C.nb⟩
theorem Cap.set (C : Cap w q lb ab bb b am) (o : Nat) (u : Value) : Cap (w.setCell ⟨q, o, none⟩ u) q lb ab bb b am := by
  have hn : ∀ g i, g ≠ q → (w.setCell ⟨q, o, none⟩ u).cell? ⟨g, i, none⟩ = w.cell? ⟨g, i, none⟩ := fun g i h => World.cell?_setCell_other _ _ _ _ (fun e => h (by injection e with e; exact e.symm))
  exact ⟨(hn _ _ C.nl).trans C.l, (hn _ _ C.na).trans C.a, (hn _ _ C.nb).trans C.b, C.nl, C.na, C.nb⟩
end
theorem row_stored {t : TypeId} {W W3 : World} {q g n c : Nat} {p : S} {v : Value} {l : List Ln} {fp : Nat → Prop} (D : Pm W q p v) (hp : fp q) (hs : ∀ g, fp g → g < W.heap.size) (hb : Below W.heap.size W W3) (hg : W.heap.size ≤ g) (R : RowT t W3 0 (.slice (some ⟨g, 0, none⟩) n c) n l) :
    MvTo t (fun g => g = q) W q fp ⟨p.a, p.f, l⟩ (W3.setCell ⟨q, 1011, none⟩ (.slice (some ⟨g, 0, none⟩) n c)) := by
  have D3 := (D.below hb).lines (.slice (some ⟨g, 0, none⟩) n c) l
  have hq := hs q hp
  have hl : g < W3.heap.size := rt_lt R rfl
  have G := setCells_block q [.slice (some ⟨g, 0, none⟩) n c] 1011 W3
  have hn := rt_len R
  have K : Kt q (fun g => g = q) W (W3.setCell ⟨q, 1011, none⟩ (.slice (some ⟨g, 0, none⟩) n c)) := (Kt.of_below hq hb).self (by rw [set1]; exact Kt.of_cells _ _ _ _ (Nat.le_refl _))
  refine ⟨⟨.inl hp, fun x hx => ?_, .slice (some ⟨g, 0, none⟩) n c, D3, ?_, ?_, fun x hx => ?_⟩, K⟩
  · rcases hx with hx | ⟨_, hx⟩
    · exact Nat.lt_of_lt_of_le (hs x hx) K.size
    · exact hx
  · show RowT t _ 0 _ l.length l
    rw [hn]
    refine rt_same R fun x hx => ?_
    have : g = x := by simpa [Value.ownBlock] using hx
    subst this
    rw [set1]
    exact G.2.2.2.2 g (by omega)
  · intro e
    have : g = q := by simpa [Value.ownBlock] using e
    omega
  · have : g = x := by simpa [Value.ownBlock] using hx
    subst this
    exact .inr ⟨hg, by rw [set1, G.1]; exact hl⟩
theorem Lax.moved {t : TypeId} {w : World} {q : Nat} {p : S} {fp : Nat → Prop} (L : Lax t w q p fp) {fr tg : Nat} {am y1 y2 : Int} (hf : fr ≤ 5) (ht : tg ≤ 5) (h1 : y1 = p.a fr - am) (h2 : y2 = p.a tg + am) :
    Lax t ((w.setCell ⟨q, fr, none⟩ (.int .i64 y1)).setCell ⟨q, tg, none⟩ (.int .i64 y2)) q ⟨mvA p.a fr tg am, p.f, p.l⟩ fp ∧ Kt q (fun g => g = q) w ((w.setCell ⟨q, fr, none⟩ (.int .i64 y1)).setCell ⟨q, tg, none⟩ (.int .i64 y2)) := by
  obtain ⟨v, D, R, hne, hv⟩ := L.at_
  have D2 := (D.acct hf y1).acct ht y2
  have K1 := Kt.of_cells w q fr [.int .i64 y1] (by show fr + 1 ≤ 1012; omega)
  have K2 := Kt.of_cells (w.setCells q fr [.int .i64 y1]) q tg [.int .i64 y2] (by show tg + 1 ≤ 1012; omega)
  have K : Kt q (fun g => g = q) w ((w.setCell ⟨q, fr, none⟩ (.int .i64 y1)).setCell ⟨q, tg, none⟩ (.int .i64 y2)) := K1.self K2
  refine ⟨⟨L.pin, fun g hg => Nat.lt_of_lt_of_le (L.size g hg) K.size, v, ?_, rt_same R fun g hg => K.block g (rt_lt R hg) (fun e => hne (by rw [hg, e])), hne, hv⟩, K⟩
  have e : upd (upd p.a (fr : Int) y1) (tg : Int) y2 = mvA p.a fr tg am := by rw [mvA, h1, h2]
  rw [← e]
  exact D2
def MovTo (w : World) (q : Nat) (fp : Nat → Prop) (p : S) (b fr tg am : Int) (e : Ending) (w' : World) : Prop :=
  (p.a fr < am ∧ e = .returned (.bool false) ∧ Below w.heap.size w w') ∨ (am ≤ p.a fr ∧ e = .returned (.bool true) ∧ MvTo LineT (fun g => g = q) w q fp (mv p b fr tg am) w')
set_option maxHeartbeats 3200000 in
theorem mover_any (w : World) (q : Nat) (p : S) (fp : Nat → Prop) (L : LedP w q p fp) (lb ab bb fr tg : Nat) (b am : Int) (C : Cap w q lb ab bb b am) (hf : fr ≤ 5) (ht : tg ≤ 5) (hft : fr ≠ tg) (ha : 0 ≤ am ∧ am ≤ 1099511627776) :
    Calls Tryz.prog 145 #[.int .i64 (fr : Int), .int .i64 (tg : Int), .pointer (some ⟨lb, 0, none⟩), .pointer (some ⟨ab, 0, none⟩), .pointer (some ⟨bb, 0, none⟩)] w (MovTo w q fp p b fr tg am) := by
  have AC : Hid (∀ w1, Below w.heap.size w w1 → ∀ k : Nat, k ≤ 5 → w1.cell? ⟨q, k, none⟩ = some (.int .i64 (p.a (k : Int)))) := fun w1 h1 k hk => by
    obtain ⟨v, D, -, -, -⟩ := (L.below h1).at_
    exact D.acc k hk
  have CB : Hid (∀ w1, Below w.heap.size w w1 → Cap w1 q lb ab bb b am) := fun w1 h1 => C.below h1
  have b1 := L.ok.bds (k := (fr : Int)) (by omega) (by omega)
  have b2 := L.ok.bds (k := (tg : Int)) (by omega) (by omega)
  have f0 : (0 : Int) ≤ (fr : Int) := by omega
  have f5 : (fr : Int) < 6 := by omega
  have t0 : (0 : Int) ≤ (tg : Int) := by omega
  have t5 : (tg : Int) < 6 := by omega
  have z1 := cell_regrown (AC.out w (Below.refl _ _) fr hf)
  have z2 := cell_regrown C.l
  have z3 := cell_regrown C.a
  obtain ⟨x1, h1⟩ : ∃ x, x = p.a (fr : Int) := ⟨_, rfl⟩
  obtain ⟨x2, h2⟩ : ∃ x, x = p.a (tg : Int) := ⟨_, rfl⟩
  rw [← h1] at b1 z1
  rw [← h2] at b2
  obtain ⟨y1, hy1⟩ : ∃ x, x = x1 - am := ⟨_, rfl⟩
  obtain ⟨y2, hy2⟩ : ∃ x, x = x2 + am := ⟨_, rfl⟩
  have Q1 := fun d os => Calls.regrown_of (sub_in (grow (redrawn w d) os) b1 ha hy1.symm)
  have AD : Hid (∀ w, Calls Tryz.prog 147 #[.int .i64 x2, .int .i64 am] w fun e w' => e = .returned (.tuple #[.int .i64 y2, .int .i64 0]) ∧ Below w.heap.size w w') := fun w => add_in w b2 ha hy2.symm
  replace hy1 := Lib.hid hy1
  replace hy2 := Lib.hid hy2
  replace h1 := Lib.hid h1
  replace h2 := Lib.hid h2
  replace hft := Lib.hid hft
  replace L := Lib.hid L
  replace b1 := Lib.hid b1
  replace b2 := Lib.hid b2
  replace ha := Lib.hid ha
  replace hf := Lib.hid hf
  replace ht := Lib.hid ht
  clear C
  go_enter Tryz.func145, Tryz.ntmps145
  go_upto_region 1 with fail
  refine wp_region_quiet_below (by kernel_rfl) (by kernel_rfl) ?_
  repeat (go_big_quiet_step (with_reducible exact Q1 _ _))
  refine wpQuiet_nil ?_
  intro w7 hw'
  obtain ⟨⟨dq, osq⟩, hw7⟩ := hw'
  have be7 : Hid (Below w.heap.size w w7) := by rw [hw7]; exact below_regrown w dq osq
  clear hw7 Q1 z1 z2 z3
  have z1 := cell_regrown (AC.out w7 be7.out tg ht.out)
  have z2 := cell_regrown (CB.out w7 be7.out).l
  have z3 := cell_regrown (CB.out w7 be7.out).a
  rw [← h2.out] at z1
  have Q1 := fun d os => Calls.regrown_of (AD.out (grow (redrawn w7 d) os))
  clear AD
  go_upto_region 2 with fail
  refine wp_region_quiet_below (by kernel_rfl) (by kernel_rfl) ?_
  repeat (go_big_quiet_step (with_reducible exact Q1 _ _))
  refine wpQuiet_nil ?_
  intro w8 hw'
  obtain ⟨⟨dq, osq⟩, hw8⟩ := hw'
  have be8 : Hid (Below w.heap.size w w8) := be7.out.trans (by rw [hw8]; exact (below_regrown w7 dq osq).mono be7.out.size)
  clear hw8 Q1 z1 z2 z3 be7
  by_cases hy : y1 < 0
  · have d1 : decide (y1 < 0) = true := decide_eq_true hy
    have F : Hid (MovTo w q fp p b fr tg am (.returned (.bool false)) w8) := .inl ⟨by have := hy1.out; have := h1.out; omega, rfl, be8.out⟩
    clear AC CB
    go_wp2
    go_ret
    exact F.out
  · have d1 : decide (y1 < 0) = false := decide_eq_false hy
    have d2 : 0 ≤ y1 := by omega
    have LX := (L.out.below be8.out).toLax
    have LM := LX.moved (am := am) (y1 := y1) (y2 := y2) hf.out ht.out (by rw [hy1.out, h1.out]) (by rw [hy2.out, h2.out])
    have C8 := CB.out w8 be8.out
    have few : Hid (p.l.length ≤ 900) := by have := L.out.ok.few; show _ ≤ 900; omega
    have hle : Hid (am ≤ p.a fr) := by have := hy1.out; have := h1.out; show _ ≤ _; omega
    have e1 : w8.cell? ⟨lb, 0, none⟩ = some (.pointer (some ⟨q, 0, none⟩)) := C8.l
    have e2 : w8.cell? ⟨q, fr, none⟩ = some (.int .i64 x1) := by rw [h1.out]; exact AC.out w8 be8.out fr hf.out
    have e3 : w8.cell? ⟨q, tg, none⟩ = some (.int .i64 x2) := by rw [h2.out]; exact AC.out w8 be8.out tg ht.out
    have e4 : w8.frozen? ⟨q, fr, none⟩ = false := by obtain ⟨v, D, _⟩ := LX.at_; exact D.free fr
    have e5 : w8.frozen? ⟨q, tg, none⟩ = false := by obtain ⟨v, D, _⟩ := LX.at_; exact D.free tg
    have e6 : fr ≠ tg := hft.out
    have e7 : lb ≠ q := C8.nl
    obtain ⟨W9, hW9⟩ : ∃ W, W = ((w8.setCell ⟨q, fr, none⟩ (.int .i64 y1)).setCell ⟨q, tg, none⟩ (.int .i64 y2)).drew := ⟨_, rfl⟩
    have C9 : Hid (Cap W9 q lb ab bb b am) := by rw [hW9]; exact ((C8.set _ _).set _ _).below ⟨rfl, rfl, rfl, Nat.le_refl _, fun _ _ => rfl⟩
    replace LM : Hid (Lax LineT W9 q ⟨mvA p.a fr tg am, p.f, p.l⟩ fp ∧ Kt q (fun g => g = q) w8 W9) := by rw [hW9]; exact ⟨LM.1.keep (Nat.le_refl _) (fun _ _ => rfl), LM.2.drew⟩
    replace hW9 := Lib.hid hW9
    clear LX C8 CB AC b1 b2 hy1 hy2 h1 h2
    go_upto_region 5 with fail
    go_region
    all_goals
      rw [← hW9.out]
      clear e1 e2 e3 e4 e5
      obtain ⟨v, D, R, hne, hv⟩ := LM.out.1.at_
      obtain ⟨A, c, rfl, -⟩ := rt_form R
      go_upto_region 6 with fail
      refine mover6 _ _ _ _ _ _ _ _ _ _ _ _ _ _ _ _ _ _ _ _ _ _ _ _ _ _ _ _ _ _ _ _ _ _ _ _ _ _ _ _ _ _ _ _ _ _ _ _ _ _ _ _ _ _ _ _ _ _ _ _ _ _ _ _ _ _ W9 q lb ab bb p.l.length c (fr : Int) (tg : Int) b am A p.l C9.out.l D.lin C9.out.b C9.out.a (D.free 1011) R few.out _ (fun _ _ d _ _ h => by cases d <;> exact h) (fun y56 y57 y58 y59 y60 y61 y62 y63 y64 y65 y66 y67 y68 y69 y70 W3 g c3 hg hb3 R3 => ?_)
      have F : Hid (MovTo w q fp p b fr tg am (.returned (.bool true)) (W3.setCell ⟨q, 1011, none⟩ (.slice (some ⟨g, 0, none⟩) (p.l.length + 1) c3))) := by
        refine .inr ⟨hle.out, rfl, ?_⟩
        have h9 : MvTo LineT (fun g => g = q) w q fp ⟨mvA p.a fr tg am, p.f, p.l⟩ W9 := MvTo.after L.out.lt be8.out (MvTo.of_same LM.out.1 LM.out.2)
        exact h9.then (row_stored D h9.1.pin h9.1.size hb3 hg R3)
      clear hb3 R3 D R hne hv
      go_wp2
      go_ret
      exact F.out
end Pu
end Go.Proofs.YtpkdigegkemogaaGreatDoor
namespace Go.Proofs.YtpkdigegkemogaaGreatDoor
set_option maxRecDepth 100000
open Go.RowKit
open Go.Sort (grow)
open Go.Proofs.YtpkdigegkemogaaGreatDoor.Pk (one_at one_free one_set lt_some grown_set grown_trans grown_refl)
namespace Pu

set_option maxHeartbeats 800000 in
theorem end_lax (w : World) (q : Nat) (p : S) (fp : Nat → Prop) (L : Lax LineT w q p fp) (b : Nat) (hb : b ≤ 200) : Calls Tryz.prog 126 #[.pointer (some ⟨q, 0, none⟩), .int .i64 (b : Int)] w fun e w' => e = .returned (.tuple #[]) ∧ MvTo LineT (fun g => g = q) w q fp (put p (b : Int) eg) w' := by
  have b0 : (0 : Int) ≤ (b : Int) := by omega
  have b1 : (b : Int) < 201 := by omega
  have F : Hid (MvTo LineT (fun g => g = q) w q fp (put p (b : Int) eg) (w.setCells q (6 + b * 5) (entc eg).toArray.toList)) := MvTo.of_same (L.put hb eg) (Kt.of_cells _ _ _ _ (by show 6 + b * 5 + 5 ≤ 1012; omega))
  obtain ⟨v, D, -, -, -⟩ := L.at_
  have th := Lib.hid (D.there hb)
  clear D L
  go_enter Tryz.func126, Tryz.ntmps126
  go_wp2_with (refine wpList_store_mid rfl 37 (.tmp 9) (.tmp 6) rfl q (6 + b * 5) (entc eg).toArray rfl rfl th.out entry_size (entc_one _) ?_)
  go_end0
  exact ⟨rfl, F.out⟩
set_option maxHeartbeats 800000 in
theorem mov_mk (w : World) (q : Nat) (b am : Int) (hq : q < w.heap.size) : Calls Tryz.prog 125 #[.pointer (some ⟨q, 0, none⟩), .int .i64 b, .int .i64 am] w fun e w' => ∃ lb ab bb, e = .returned (.func (.func 145) #[] #[.pointer (some ⟨lb, 0, none⟩), .pointer (some ⟨ab, 0, none⟩), .pointer (some ⟨bb, 0, none⟩)]) ∧ Cap w' q lb ab bb b am ∧ Below w.heap.size w w' := by
  obtain ⟨w1, h1⟩ : ∃ x, x = w.alloc (.cells #[.pointer (some ⟨q, 0, none⟩)] 139) := ⟨_, rfl⟩
  obtain ⟨w2, h2⟩ : ∃ x, x = w1.alloc (.cells #[.int .i64 b] 3) := ⟨_, rfl⟩
  obtain ⟨w3, h3⟩ : ∃ x, x = w2.alloc (.cells #[.int .i64 am] 2) := ⟨_, rfl⟩
  have b1 : Below w.heap.size w w1 := by rw [h1]; exact (Below.refl _ _).alloc (Nat.le_refl _) _
  have b2 : Below w1.heap.size w1 w2 := by rw [h2]; exact (Below.refl _ _).alloc (Nat.le_refl _) _
  have b3 : Below w2.heap.size w2 w3 := by rw [h3]; exact (Below.refl _ _).alloc (Nat.le_refl _) _
  have g1 : w1.heap[w.heap.size]? = some (.cells #[.pointer (some ⟨q, 0, none⟩)] 139 (0, 0)) := by rw [h1]; exact heap_alloc_new _ _
  have g2 : w2.heap[w1.heap.size]? = some (.cells #[.int .i64 b] 3 (0, 0)) := by rw [h2]; exact heap_alloc_new _ _
  have g3 : w3.heap[w2.heap.size]? = some (.cells #[.int .i64 am] 2 (0, 0)) := by rw [h3]; exact heap_alloc_new _ _
  have s1 := b1.size
  have s2 := b2.size
  have F : Hid (Cap w3 q w.heap.size w2.heap.size w1.heap.size b am ∧ Below w.heap.size w w3) :=
    ⟨⟨one_at (i := 0) ((b3.block _ (Nat.lt_of_lt_of_le (lt_some g1) s2)).trans ((b2.block _ (lt_some g1)).trans g1)), one_at (i := 0) g3, one_at (i := 0) ((b3.block _ (lt_some g2)).trans g2), by omega, by omega, by omega⟩, (b1.trans (b2.mono s1)).trans (b3.mono (by omega))⟩
  replace h1 := Lib.hid h1
  replace h2 := Lib.hid h2
  replace h3 := Lib.hid h3
  clear b1 b2 b3 g1 g2 g3 s1 s2
  go_enter Tryz.func125, Tryz.ntmps125
  go_wp2
  go_ret
  rw [← h1.out, ← h2.out, ← h3.out]
  refine ⟨w.heap.size, w2.heap.size, w1.heap.size, ?_, F.out.1, F.out.2⟩
  rw [h2.out, h1.out]
  simp
theorem mover_own (w : World) (q : Nat) (p : S) (fp : Nat → Prop) (L : LedP w q p fp) (lb ab bb s tg b : Nat) (C : Cap w q lb ab bb (b : Int) (p.f (b : Int)).am) (hs : s = 4 ∨ s = 5) (hst : (p.f (b : Int)).st = (s : Int)) (ht : tg ≤ 5) (hft : s ≠ tg) :
    Calls Tryz.prog 145 #[.int .i64 (s : Int), .int .i64 (tg : Int), .pointer (some ⟨lb, 0, none⟩), .pointer (some ⟨ab, 0, none⟩), .pointer (some ⟨bb, 0, none⟩)] w fun e w' => e = .returned (.bool true) ∧ MvTo LineT (fun g => g = q) w q fp (mv p b s tg (p.f (b : Int)).am) w' := by
  have hb := (L.ok.shp (b : Int)).bds
  have hle := L.ok.at_st (b := (b : Int)) (s := (s : Int)) (by omega) hst
  refine (mover_any w q p fp L lb ab bb s tg (b : Int) (p.f (b : Int)).am C (by omega) ht hft (by omega)).mono ?_
  rintro e w' (⟨h, _⟩ | ⟨_, rfl, h⟩)
  · omega
  · exact ⟨rfl, h⟩
set_option maxHeartbeats 3200000 in
theorem void_any (w : World) (q : Nat) (p : S) (fp : Nat → Prop) (L : LedP w q p fp) (b : Nat) (h1 : 1 ≤ b) (h2 : b ≤ 200) :
    Calls Tryz.prog 95 #[.pointer (some ⟨q, 0, none⟩), .int .i64 (b : Int)] w fun e w' => e = .returned (.int .i64 1) ∧ LTo LineT (fun g => g = q) w q fp (void p (b : Int)) w' := by
  have hO := Lib.hid L.ok
  have hq := L.lt
  have hsh := (L.ok.shp (b : Int)).bds
  have b0 : (0 : Int) ≤ (b : Int) := by omega
  have b1 : (b : Int) < 201 := by omega
  have hv : Hid (void p (b : Int) = if (p.f (b : Int)).st = 4 then put (mv p b 4 (p.f (b : Int)).cu (p.f (b : Int)).am) b eg else if (p.f (b : Int)).st = 5 then put (mv p b 5 (p.f (b : Int)).cu (p.f (b : Int)).am) b eg else put p b eg) := rfl
  obtain ⟨c, hc⟩ : ∃ c : Nat, (p.f (b : Int)).cu = (c : Int) := ⟨(p.f (b : Int)).cu.toNat, by omega⟩
  have c3 : Hid (c ≤ 3) := by show c ≤ 3; omega
  obtain ⟨st, hst⟩ : ∃ x, x = (p.f (b : Int)).st := ⟨_, rfl⟩
  obtain ⟨am, ham⟩ : ∃ x, x = (p.f (b : Int)).am := ⟨_, rfl⟩
  obtain ⟨w1, hw1⟩ : ∃ x, x = w.alloc (.cells #[.int .i64 st, .int .i64 0, .int .i64 0, .int .i64 (c : Int), .int .i64 am] 37) := ⟨_, rfl⟩
  have B1 : Hid (Below w.heap.size w w1) := by rw [hw1]; exact (Below.refl _ _).alloc (Nat.le_refl _) _
  have G1 : Hid (w1.heap[w.heap.size]? = some (.cells #[.int .i64 st, .int .i64 0, .int .i64 0, .int .i64 (c : Int), .int .i64 am] 37 (0, 0))) := by rw [hw1]; exact heap_alloc_new _ _
  have OW : Hid (∀ w3 (s : Nat), Below w.heap.size w w3 → s = 4 ∨ s = 5 → st = (s : Int) → ∀ lb ab bb, Cap w3 q lb ab bb (b : Int) am →
      Calls Tryz.prog 145 #[.int .i64 (s : Int), .int .i64 (c : Int), .pointer (some ⟨lb, 0, none⟩), .pointer (some ⟨ab, 0, none⟩), .pointer (some ⟨bb, 0, none⟩)] w3 fun e w' => e = .returned (.bool true) ∧ MvTo LineT (fun g => g = q) w q fp (mv p b s c am) w') := fun w3 s hb hs hst' lb ab bb C => by
    rw [ham] at C ⊢
    refine (mover_own w3 q p fp (L.below hb) lb ab bb s c b C hs (by rw [← hst]; exact hst') (by have := c3.out; omega) (by have := c3.out; omega)).mono ?_
    rintro e w' ⟨rfl, h⟩
    exact ⟨rfl, MvTo.after hq hb h⟩
  have EN : Hid (∀ w3 p3, MvTo LineT (fun g => g = q) w q fp p3 w3 → Ok (put p3 (b : Int) eg) → Calls Tryz.prog 126 #[.pointer (some ⟨q, 0, none⟩), .int .i64 (b : Int)] w3 fun e w' => e = .returned (.tuple #[]) ∧ LTo LineT (fun g => g = q) w q fp (put p3 (b : Int) eg) w') := fun w3 p3 h ho => by
    refine (end_lax w3 q p3 _ h.1 b h2).mono ?_
    rintro e w' ⟨rfl, h'⟩
    exact ⟨rfl, (h.then h').led ho⟩
  have hst' := Lib.hid hst
  rw [hc, ← hst, ← ham] at hv
  obtain ⟨v, D, -, -, -⟩ := L.at_
  have d0 := D.st h2
  have d1 := D.z1 h2
  have d2 := D.z2 h2
  have d3 := D.cu h2
  have d4 := D.am h2
  rw [← hst] at d0
  rw [hc] at d3
  rw [← ham] at d4
  replace hw1 := Lib.hid hw1
  replace hc := Lib.hid hc
  replace L := Lib.hid L
  replace ham := Lib.hid ham
  replace h1 := Lib.hid h1
  clear hst hsh D
  go_enter Tryz.func95, Tryz.ntmps95
  go_wp2_with fail
  rw [← hw1.out]
  refine (mov_mk w1 q (b : Int) am (Nat.lt_of_lt_of_le hq B1.out.size)).mono ?_
  rintro e w2 ⟨lb, ab, bb, rfl, C, hb2⟩
  have B2 : Hid (Below w.heap.size w w2) := B1.out.trans (hb2.mono B1.out.size)
  have G2 : w2.heap[w.heap.size]? = some (.cells #[.int .i64 st, .int .i64 0, .int .i64 0, .int .i64 (c : Int), .int .i64 am] 37 (0, 0)) := (hb2.block _ (lt_some G1.out)).trans G1.out
  have e0 : w2.cell? ⟨w.heap.size, 0, none⟩ = some (.int .i64 st) := one_at (i := 0) G2
  have e3 : w2.cell? ⟨w.heap.size, 3, none⟩ = some (.int .i64 (c : Int)) := one_at (i := 3) G2
  have e4 : w2.cell? ⟨w.heap.size, 4, none⟩ = some (.int .i64 am) := one_at (i := 4) G2
  replace C := Lib.hid C
  clear hw1 G1 B1 hb2 G2 d0 d1 d2 d3 d4
  by_cases s4 : st = 4
  · have MV := Lib.hid (OW.out w2 4 B2.out (.inl rfl) s4 lb ab bb C.out)
    have OK := Lib.hid (ok_void hO.out (.inl rfl) (hst'.out.symm.trans s4))
    rw [hc.out, ← ham.out] at OK
    rw [if_pos s4] at hv
    clear OW
    subst s4
    go_wp2_with fail
    refine MV.out.mono ?_
    rintro e w3 ⟨rfl, h3⟩
    have EX := Lib.hid (EN.out w3 _ h3 OK.out)
    clear MV EN h3 OK C e0 e3 e4
    go_wp2_with fail
    refine EX.out.mono ?_
    rintro e w4 ⟨rfl, h4⟩
    have F : Hid (LTo LineT (fun g => g = q) w q fp (void p (b : Int)) w4) := by unfold Hid; rw [hv.out]; exact h4
    clear EX h4 hv
    go_wp2
    go_ret
    exact ⟨rfl, F.out⟩
  · by_cases s5 : st = 5
    · have MV := Lib.hid (OW.out w2 5 B2.out (.inr rfl) s5 lb ab bb C.out)
      have OK := Lib.hid (ok_void hO.out (.inr rfl) (hst'.out.symm.trans s5))
      rw [hc.out, ← ham.out] at OK
      rw [if_neg s4, if_pos s5] at hv
      clear OW s4
      subst s5
      go_wp2_with fail
      refine MV.out.mono ?_
      rintro e w3 ⟨rfl, h3⟩
      have EX := Lib.hid (EN.out w3 _ h3 OK.out)
      clear MV EN h3 OK C e0 e3 e4
      go_wp2_with fail
      refine EX.out.mono ?_
      rintro e w4 ⟨rfl, h4⟩
      have F : Hid (LTo LineT (fun g => g = q) w q fp (void p (b : Int)) w4) := by unfold Hid; rw [hv.out]; exact h4
      clear EX h4 hv
      go_wp2
      go_ret
      exact ⟨rfl, F.out⟩
    · have g4 : (st == 4) = false := by simpa using s4
      have g5 : (st == 5) = false := by simpa using s5
      have OK := Lib.hid (ok_end (b := (b : Int)) hO.out (by have := h1.out; omega) (by omega) (by rw [← hst'.out]; exact s4) (by rw [← hst'.out]; exact s5))
      have EX := Lib.hid (EN.out w2 p (MvTo.of_below L.out.toLax B2.out) OK.out)
      rw [if_neg s4, if_neg s5] at hv
      clear OW s4 s5 OK EN C
      go_wp2_with fail
      refine EX.out.mono ?_
      rintro e w4 ⟨rfl, h4⟩
      have F : Hid (LTo LineT (fun g => g = q) w q fp (void p (b : Int)) w4) := by unfold Hid; rw [hv.out]; exact h4
      clear EX h4 hv
      go_wp2
      go_ret
      exact ⟨rfl, F.out⟩
set_option maxHeartbeats 3200000 in
theorem capt_any (w : World) (q : Nat) (p : S) (fp : Nat → Prop) (L : LedP w q p fp) (b : Nat) (h1 : 1 ≤ b) (h2 : b ≤ 200) :
    Calls Tryz.prog 94 #[.pointer (some ⟨q, 0, none⟩), .int .i64 (b : Int)] w fun e w' => e = .returned (.int .i64 (capt p (b : Int)).2) ∧ LTo LineT (fun g => g = q) w q fp (capt p (b : Int)).1 w' := by
  have hO := Lib.hid L.ok
  have hq := L.lt
  have hsh := (L.ok.shp (b : Int)).bds
  have b0 : (0 : Int) ≤ (b : Int) := by omega
  have b1 : (b : Int) < 201 := by omega
  have hv : Hid (capt p (b : Int) = if (p.f (b : Int)).st = 5 then (p, 1) else if (p.f (b : Int)).st = 4 then (put (mv p b 4 5 (p.f (b : Int)).am) b ⟨5, (p.f (b : Int)).cu, (p.f (b : Int)).am⟩, 1) else (put p b eg, 2)) := rfl
  obtain ⟨c, hc⟩ : ∃ c : Nat, (p.f (b : Int)).cu = (c : Int) := ⟨(p.f (b : Int)).cu.toNat, by omega⟩
  have c3 : Hid (c ≤ 3) := by show c ≤ 3; omega
  obtain ⟨st, hst⟩ : ∃ x, x = (p.f (b : Int)).st := ⟨_, rfl⟩
  obtain ⟨am, ham⟩ : ∃ x, x = (p.f (b : Int)).am := ⟨_, rfl⟩
  obtain ⟨w1, hw1⟩ : ∃ x, x = w.alloc (.cells #[.int .i64 st, .int .i64 0, .int .i64 0, .int .i64 (c : Int), .int .i64 am] 37) := ⟨_, rfl⟩
  have B1 : Hid (Below w.heap.size w w1) := by rw [hw1]; exact (Below.refl _ _).alloc (Nat.le_refl _) _
  have G1 : Hid (w1.heap[w.heap.size]? = some (.cells #[.int .i64 st, .int .i64 0, .int .i64 0, .int .i64 (c : Int), .int .i64 am] 37 (0, 0))) := by rw [hw1]; exact heap_alloc_new _ _
  have OW : Hid (∀ w3, Below w.heap.size w w3 → st = 4 → ∀ lb ab bb, Cap w3 q lb ab bb (b : Int) am →
      Calls Tryz.prog 145 #[.int .i64 4, .int .i64 5, .pointer (some ⟨lb, 0, none⟩), .pointer (some ⟨ab, 0, none⟩), .pointer (some ⟨bb, 0, none⟩)] w3 fun e w' => e = .returned (.bool true) ∧ MvTo LineT (fun g => g = q) w q fp (mv p b 4 5 am) w') := fun w3 hb hst' lb ab bb C => by
    rw [ham] at C ⊢
    refine (mover_own w3 q p fp (L.below hb) lb ab bb 4 5 b C (.inl rfl) (by rw [← hst]; exact hst') (by omega) (by omega)).mono ?_
    rintro e w' ⟨rfl, h⟩
    exact ⟨rfl, MvTo.after hq hb h⟩
  have EN : Hid (∀ w3 p3, MvTo LineT (fun g => g = q) w q fp p3 w3 → Ok (put p3 (b : Int) eg) → Calls Tryz.prog 126 #[.pointer (some ⟨q, 0, none⟩), .int .i64 (b : Int)] w3 fun e w' => e = .returned (.tuple #[]) ∧ LTo LineT (fun g => g = q) w q fp (put p3 (b : Int) eg) w') := fun w3 p3 h ho => by
    refine (end_lax w3 q p3 _ h.1 b h2).mono ?_
    rintro e w' ⟨rfl, h'⟩
    exact ⟨rfl, (h.then h').led ho⟩
  have hst' := Lib.hid hst
  rw [hc, ← hst, ← ham] at hv
  obtain ⟨v, D, -, -, -⟩ := L.at_
  have d0 := D.st h2
  have d1 := D.z1 h2
  have d2 := D.z2 h2
  have d3 := D.cu h2
  have d4 := D.am h2
  rw [← hst] at d0
  rw [hc] at d3
  rw [← ham] at d4
  replace hw1 := Lib.hid hw1
  replace hc := Lib.hid hc
  replace L := Lib.hid L
  replace ham := Lib.hid ham
  replace h1 := Lib.hid h1
  clear hst hsh D
  go_enter Tryz.func94, Tryz.ntmps94
  go_wp2_with fail
  rw [← hw1.out]
  refine (mov_mk w1 q (b : Int) am (Nat.lt_of_lt_of_le hq B1.out.size)).mono ?_
  rintro e w2 ⟨lb, ab, bb, rfl, C, hb2⟩
  have B2 : Hid (Below w.heap.size w w2) := B1.out.trans (hb2.mono B1.out.size)
  have G2 : w2.heap[w.heap.size]? = some (.cells #[.int .i64 st, .int .i64 0, .int .i64 0, .int .i64 (c : Int), .int .i64 am] 37 (0, 0)) := (hb2.block _ (lt_some G1.out)).trans G1.out
  have e0 : w2.cell? ⟨w.heap.size, 0, none⟩ = some (.int .i64 st) := one_at (i := 0) G2
  have e3 : w2.cell? ⟨w.heap.size, 3, none⟩ = some (.int .i64 (c : Int)) := one_at (i := 3) G2
  have e4 : w2.cell? ⟨w.heap.size, 4, none⟩ = some (.int .i64 am) := one_at (i := 4) G2
  replace C := Lib.hid C
  clear hw1 G1 B1 hb2 G2 d0 d1 d2 d3 d4
  by_cases s5 : st = 5
  · have F : Hid ((capt p (b : Int)).2 = 1 ∧ LTo LineT (fun g => g = q) w q fp (capt p (b : Int)).1 w2) := by
      unfold Hid
      rw [hv.out, if_pos s5]
      exact ⟨rfl, LTo.of_below L.out B2.out⟩
    clear OW EN hv C
    subst s5
    go_wp2
    go_ret
    rw [F.out.1]
    exact ⟨rfl, F.out.2⟩
  · have g5 : (st == 5) = false := by simpa using s5
    rw [if_neg s5] at hv
    by_cases s4 : st = 4
    · have MV := Lib.hid (OW.out w2 B2.out s4 lb ab bb C.out)
      have OK := Lib.hid (ok_capt hO.out (hst'.out.symm.trans s4))
      rw [hc.out, ← ham.out] at OK
      rw [if_pos s4] at hv
      clear OW EN s5 g5
      subst s4
      go_wp2_with fail
      refine MV.out.mono ?_
      rintro e w3 ⟨rfl, h3⟩
      have L5 := (h3.1.state h2 5)
      obtain ⟨v3, D3, -, -, -⟩ := h3.1.at_
      have c3 := D3.st h2
      have f3 := D3.free (6 + b * 5)
      have F : Hid ((capt p (b : Int)).2 = 1 ∧ LTo LineT (fun g => g = q) w q fp (capt p (b : Int)).1 (w3.setCell ⟨q, 6 + b * 5, none⟩ (.int .i64 5))) := by
        unfold Hid
        rw [hv.out]
        refine ⟨rfl, MvTo.led ?_ OK.out⟩
        have e5 : (⟨5, ((mv p b 4 5 am).f (b : Int)).cu, ((mv p b 4 5 am).f (b : Int)).am⟩ : E) = ⟨5, (c : Int), am⟩ := by rw [← hc.out, ham.out]; rfl
        rw [e5] at L5
        exact h3.then (MvTo.of_same L5 (by rw [set1]; exact Kt.of_cells _ _ _ _ (by show 6 + b * 5 + 1 ≤ 1012; omega)))
      clear MV h3 OK C e0 e3 e4 L5 D3
      go_wp2
      go_ret
      rw [F.out.1]
      exact ⟨rfl, F.out.2⟩
    · have g4 : (st == 4) = false := by simpa using s4
      have g4' : (st != 4) = true := by simpa using s4
      have OK := Lib.hid (ok_end (b := (b : Int)) hO.out (by have := h1.out; omega) (by omega) (by rw [← hst'.out]; exact s4) (by rw [← hst'.out]; exact s5))
      have EX := Lib.hid (EN.out w2 p (MvTo.of_below L.out.toLax B2.out) OK.out)
      rw [if_neg s4] at hv
      clear OW s4 s5 OK EN C
      go_wp2_with fail
      refine EX.out.mono ?_
      rintro e w4 ⟨rfl, h4⟩
      have F : Hid ((capt p (b : Int)).2 = 2 ∧ LTo LineT (fun g => g = q) w q fp (capt p (b : Int)).1 w4) := by unfold Hid; rw [hv.out]; exact ⟨rfl, h4⟩
      clear EX h4 hv
      go_wp2
      go_ret
      rw [F.out.1]
      exact ⟨rfl, F.out.2⟩
end Pu
end Go.Proofs.YtpkdigegkemogaaGreatDoor
namespace Go.Proofs.YtpkdigegkemogaaGreatDoor
set_option maxRecDepth 100000
open Go.RowKit
open Go.Sort (grow)
open Go.Proofs.YtpkdigegkemogaaGreatDoor.Pk (one_at one_free one_set lt_some grown_set grown_trans grown_refl)
namespace Pu

set_option maxHeartbeats 3200000 in
theorem auth_any (w : World) (q : Nat) (p : S) (fp : Nat → Prop) (L : LedP w q p fp) (k u m : Int) (b c : Nat) (h1 : 1 ≤ b) (h2 : b ≤ 200) (c3 : c ≤ 3) (m0 : 0 ≤ m) (m1 : m ≤ 1099511627776) :
    Calls Tryz.prog 93 #[.pointer (some ⟨q, 0, none⟩), .agg #[.int .i64 k, .int .i64 (b : Int), .int .i64 u, .int .i64 (c : Int), .int .i64 m]] w fun e w' => e = .returned (.int .i64 (auth p (b : Int) (c : Int) m).2) ∧ LTo LineT (fun g => g = q) w q fp (auth p (b : Int) (c : Int) m).1 w' := by
  have hO := Lib.hid L.ok
  have hq := L.lt
  have b0 : (0 : Int) ≤ (b : Int) := by omega
  have b1 : (b : Int) < 201 := by omega
  have hv : Hid (auth p (b : Int) (c : Int) m = if (p.f (b : Int)).st = 0 then (if m ≤ p.a c then (put (mv p b c 4 m) b ⟨4, c, m⟩, 1) else (put p b eg, 2)) else if (p.f (b : Int)).st ≠ 3 ∧ (p.f (b : Int)).cu = c ∧ (p.f (b : Int)).am = m then (p, 1) else (p, 2)) := rfl
  obtain ⟨st, hst⟩ : ∃ x, x = (p.f (b : Int)).st := ⟨_, rfl⟩
  obtain ⟨cu, hcu⟩ : ∃ x, x = (p.f (b : Int)).cu := ⟨_, rfl⟩
  obtain ⟨am, ham⟩ : ∃ x, x = (p.f (b : Int)).am := ⟨_, rfl⟩
  obtain ⟨W0, hW0⟩ : ∃ x, x = w.alloc (.cells #[.int .i64 k, .int .i64 (b : Int), .int .i64 u, .int .i64 (c : Int), .int .i64 m] 34) := ⟨_, rfl⟩
  have B0 : Below w.heap.size w W0 := by rw [hW0]; exact (Below.refl _ _).alloc (Nat.le_refl _) _
  have G0 : W0.heap[w.heap.size]? = some (.cells #[.int .i64 k, .int .i64 (b : Int), .int .i64 u, .int .i64 (c : Int), .int .i64 m] 34 (0, 0)) := by rw [hW0]; exact heap_alloc_new _ _
  have BZ : Below W0.heap.size W0 (W0.alloc (.cells #[.int .i64 0, .int .i64 0, .int .i64 0, .int .i64 0, .int .i64 0] 37)) := (Below.refl _ _).alloc (Nat.le_refl _) _
  obtain ⟨w1, hw1⟩ : ∃ x, x = (W0.alloc (.cells #[.int .i64 st, .int .i64 0, .int .i64 0, .int .i64 cu, .int .i64 am] 37)).drew := ⟨_, rfl⟩
  have B1' : Below W0.heap.size W0 w1 := by rw [hw1]; exact below_drew ((Below.refl _ _).alloc (Nat.le_refl _) _)
  have B1 : Hid (Below w.heap.size w w1) := B0.trans (B1'.mono B0.size)
  have G1 : Hid (w1.heap[W0.heap.size]? = some (.cells #[.int .i64 st, .int .i64 0, .int .i64 0, .int .i64 cu, .int .i64 am] 37 (0, 0))) := by rw [hw1]; exact heap_alloc_new W0 _
  have H1 : Hid (w1.heap[w.heap.size]? = some (.cells #[.int .i64 k, .int .i64 (b : Int), .int .i64 u, .int .i64 (c : Int), .int .i64 m] 34 (0, 0))) := (B1'.block _ (lt_some G0)).trans G0
  have s0 : Hid (w.heap.size ≤ W0.heap.size) := B0.size
  have OW : Hid (∀ w3, Below w.heap.size w w3 → ∀ lb ab bb, Cap w3 q lb ab bb (b : Int) m →
      Calls Tryz.prog 145 #[.int .i64 (c : Int), .int .i64 4, .pointer (some ⟨lb, 0, none⟩), .pointer (some ⟨ab, 0, none⟩), .pointer (some ⟨bb, 0, none⟩)] w3 (MovTo w3 q fp p b c 4 m)) := fun w3 hb lb ab bb C =>
    mover_any w3 q p fp (L.below hb) lb ab bb c 4 (b : Int) m C (by omega) (by omega) (by omega) ⟨m0, m1⟩
  have EN : Hid (∀ w3 p3, MvTo LineT (fun g => g = q) w q fp p3 w3 → Ok (put p3 (b : Int) eg) → Calls Tryz.prog 126 #[.pointer (some ⟨q, 0, none⟩), .int .i64 (b : Int)] w3 fun e w' => e = .returned (.tuple #[]) ∧ LTo LineT (fun g => g = q) w q fp (put p3 (b : Int) eg) w') := fun w3 p3 h ho => by
    refine (end_lax w3 q p3 _ h.1 b h2).mono ?_
    rintro e w' ⟨rfl, h'⟩
    exact ⟨rfl, (h.then h').led ho⟩
  have hst' := Lib.hid hst
  rw [← hst, ← hcu, ← ham] at hv
  obtain ⟨v, D0, -, -, -⟩ := (L.below B0).at_
  have DZ := D0.below BZ
  have x1 : W0.cell? ⟨w.heap.size, 1, none⟩ = some (.int .i64 (b : Int)) := one_at (i := 1) G0
  have x2 : (W0.alloc (.cells #[.int .i64 0, .int .i64 0, .int .i64 0, .int .i64 0, .int .i64 0] 37)).cell? ⟨w.heap.size, 1, none⟩ = some (.int .i64 (b : Int)) := one_at (i := 1) ((BZ.block _ (lt_some G0)).trans G0)
  have d0 := D0.st h2
  have d1 := D0.z1 h2
  have d2 := D0.z2 h2
  have d3 := D0.cu h2
  have d4 := D0.am h2
  have f0 := DZ.st h2
  have f1 := DZ.z1 h2
  have f2 := DZ.z2 h2
  have f3 := DZ.cu h2
  have f4 := DZ.am h2
  rw [← hst] at d0 f0
  rw [← hcu] at d3 f3
  rw [← ham] at d4 f4
  replace hW0 := Lib.hid hW0
  replace hw1 := Lib.hid hw1
  replace L := Lib.hid L
  replace hcu := Lib.hid hcu
  replace ham := Lib.hid ham
  replace h1 := Lib.hid h1
  clear hst D0 DZ B0 BZ G0 B1'
  go_enter Tryz.func93, Tryz.ntmps93
  go_upto_region 1 with fail
  rw [← hW0.out]
  go_region
  rw [← hw1.out]
  have j1 : w1.cell? ⟨w.heap.size, 1, none⟩ = some (.int .i64 (b : Int)) := one_at (i := 1) H1.out
  have j4 : w1.cell? ⟨w.heap.size, 4, none⟩ = some (.int .i64 m) := one_at (i := 4) H1.out
  clear x1 x2 d0 d1 d2 d3 d4 f0 f1 f2 f3 f4 hw1 hW0
  go_wp2_with fail
  refine (mov_mk w1 q (b : Int) m (Nat.lt_of_lt_of_le hq B1.out.size)).mono ?_
  rintro e w2 ⟨lb, ab, bb, rfl, C, hb2⟩
  have B2 : Hid (Below w.heap.size w w2) := B1.out.trans (hb2.mono B1.out.size)
  have G2 : Hid (w2.heap[W0.heap.size]? = some (.cells #[.int .i64 st, .int .i64 0, .int .i64 0, .int .i64 cu, .int .i64 am] 37 (0, 0))) := (hb2.block _ (lt_some G1.out)).trans G1.out
  have H2 : Hid (w2.heap[w.heap.size]? = some (.cells #[.int .i64 k, .int .i64 (b : Int), .int .i64 u, .int .i64 (c : Int), .int .i64 m] 34 (0, 0))) := (hb2.block _ (lt_some H1.out)).trans H1.out
  have e0 : w2.cell? ⟨W0.heap.size, 0, none⟩ = some (.int .i64 st) := one_at (i := 0) G2.out
  have o3 : w2.cell? ⟨w.heap.size, 3, none⟩ = some (.int .i64 (c : Int)) := one_at (i := 3) H2.out
  replace C := Lib.hid C
  clear G1 H1 B1 hb2 j1 j4
  by_cases s0' : st = 0
  · have MV := Lib.hid (OW.out w2 B2.out lb ab bb C.out)
    rw [if_pos s0'] at hv
    have hst0 := Lib.hid (hst'.out.symm.trans s0')
    clear OW
    subst s0'
    go_wp2_with fail
    refine MV.out.mono ?_
    rintro e w3 hmv
    clear MV C e0 o3
    rcases hmv with ⟨hlt, rfl, hb3⟩ | ⟨hle, rfl, h3⟩
    · have B3 : Hid (Below w.heap.size w w3) := B2.out.trans (hb3.mono B2.out.size)
      have G3 := (hb3.block _ (lt_some G2.out)).trans G2.out
      have H3 := (hb3.block _ (lt_some H2.out)).trans H2.out
      have e0 : w3.cell? ⟨W0.heap.size, 0, none⟩ = some (.int .i64 0) := one_at (i := 0) G3
      have o1 : w3.cell? ⟨w.heap.size, 1, none⟩ = some (.int .i64 (b : Int)) := one_at (i := 1) H3
      rw [if_neg (by omega)] at hv
      have OK := Lib.hid (ok_end (b := (b : Int)) hO.out (by have := h1.out; omega) (by omega) (by rw [hst0.out]; omega) (by rw [hst0.out]; omega))
      have EX := Lib.hid (EN.out w3 p (MvTo.of_below L.out.toLax B3.out) OK.out)
      clear EN OK hb3 hlt G3 H3 B3 B2
      go_wp2_with fail
      refine EX.out.mono ?_
      rintro e w4 ⟨rfl, h4⟩
      have F : Hid ((auth p (b : Int) (c : Int) m).2 = 2 ∧ LTo LineT (fun g => g = q) w q fp (auth p (b : Int) (c : Int) m).1 w4) := by unfold Hid; rw [hv.out]; exact ⟨rfl, h4⟩
      clear EX h4 hv
      go_wp2
      go_ret
      rw [F.out.1]
      exact ⟨rfl, F.out.2⟩
    · rw [if_pos hle] at hv
      have OK := Lib.hid (ok_auth hO.out (by have := h1.out; omega) (by omega) hst0.out (by omega) (by omega) m0 m1 hle)
      have hqs : q ≠ W0.heap.size := by have := s0.out; omega
      have hqt : q ≠ w.heap.size := by omega
      have hs2 := lt_some G2.out
      have G3 := (h3.2.block _ hs2 (fun e => hqs e.symm)).trans G2.out
      have H3 := (h3.2.block _ (lt_some H2.out) (fun e => hqt e.symm)).trans H2.out
      have e0 : w3.cell? ⟨W0.heap.size, 0, none⟩ = some (.int .i64 0) := one_at (i := 0) G3
      have o1 : w3.cell? ⟨w.heap.size, 1, none⟩ = some (.int .i64 (b : Int)) := one_at (i := 1) H3
      have o3 : w3.cell? ⟨w.heap.size, 3, none⟩ = some (.int .i64 (c : Int)) := one_at (i := 3) H3
      have o4 : w3.cell? ⟨w.heap.size, 4, none⟩ = some (.int .i64 m) := one_at (i := 4) H3
      have LR : Lax LineT w3.drew q (mv p b c 4 m) _ := h3.1.keep (w' := w3.drew) (Nat.le_refl _) (fun _ _ => rfl)
      obtain ⟨v3, D3, -, -, -⟩ := LR.at_
      have th := Lib.hid (D3.there h2)
      have F : Hid ((auth p (b : Int) (c : Int) m).2 = 1 ∧ LTo LineT (fun g => g = q) w q fp (auth p (b : Int) (c : Int) m).1 (w3.drew.setCells q (6 + b * 5) (entc ⟨4, c, m⟩).toArray.toList)) := by
        unfold Hid
        rw [hv.out]
        refine ⟨rfl, MvTo.led ?_ OK.out⟩
        have hd : MvTo LineT (fun g => g = q) w2 q fp (mv p b c 4 m) w3.drew := ⟨LR, h3.2.drew⟩
        exact MvTo.after L.out.lt B2.out (hd.then (MvTo.of_same (LR.put h2 ⟨4, c, m⟩) (Kt.of_cells _ _ _ _ (by show 6 + b * 5 + 5 ≤ 1012; omega))))
      clear EN OK h3 hle hqs hqt hs2 G3 H3 G2 H2 LR D3 hv B2
      go_upto_region 4 with fail
      go_still_tail 11, (by kernel_rfl)
      change wpList _ _ _ _ _ w3.drew
      go_wp2_with (refine wpList_store_mid rfl 37 (.tmp 40) (.tmp 37) rfl q (6 + b * 5) (entc ⟨4, c, m⟩).toArray rfl rfl th.out entry_size (entc_one _) ?_)
      go_ret
      rw [F.out.1]
      exact ⟨rfl, F.out.2⟩
  · have g0 : (st == 0) = false := by simpa using s0'
    have e3 : w2.cell? ⟨W0.heap.size, 3, none⟩ = some (.int .i64 cu) := one_at (i := 3) G2.out
    have e4 : w2.cell? ⟨W0.heap.size, 4, none⟩ = some (.int .i64 am) := one_at (i := 4) G2.out
    have o4 : w2.cell? ⟨w.heap.size, 4, none⟩ = some (.int .i64 m) := one_at (i := 4) H2.out
    have FF : Hid (LTo LineT (fun g => g = q) w q fp p w2) := LTo.of_below L.out B2.out
    rw [if_neg s0'] at hv
    clear OW EN G2 H2 B2 C
    by_cases s3 : st = 3
    · have F : Hid (auth p (b : Int) (c : Int) m = (p, 2)) := by unfold Hid; rw [hv.out, if_neg (fun h => h.1 s3)]
      have n3 : (st != 3) = false := by simpa using s3
      clear hv s0'
      subst s3
      go_wp2
      go_ret
      rw [F.out]
      exact ⟨rfl, FF.out⟩
    · have n3 : (st != 3) = true := by simpa using s3
      by_cases hc : cu = (c : Int)
      · have n4 : (cu == (c : Int)) = true := by simpa using hc
        by_cases hm : am = m
        · have F : Hid (auth p (b : Int) (c : Int) m = (p, 1)) := by unfold Hid; rw [hv.out, if_pos ⟨s3, hc, hm⟩]
          have n5 : (am == m) = true := by simpa using hm
          clear hv s0' s3 hc hm
          go_wp2
          go_ret
          rw [F.out]
          exact ⟨rfl, FF.out⟩
        · have F : Hid (auth p (b : Int) (c : Int) m = (p, 2)) := by unfold Hid; rw [hv.out, if_neg (fun h => hm h.2.2)]
          have n5 : (am == m) = false := by simpa using hm
          clear hv s0' s3 hc hm
          go_wp2
          go_ret
          rw [F.out]
          exact ⟨rfl, FF.out⟩
      · have F : Hid (auth p (b : Int) (c : Int) m = (p, 2)) := by unfold Hid; rw [hv.out, if_neg (fun h => hc h.2.1)]
        have n4 : (cu == (c : Int)) = false := by simpa using hc
        clear hv s0' s3 hc
        go_wp2
        go_ret
        rw [F.out]
        exact ⟨rfl, FF.out⟩
end Pu
end Go.Proofs.YtpkdigegkemogaaGreatDoor
namespace Go.Proofs.YtpkdigegkemogaaGreatDoor
set_option maxRecDepth 100000
open Go.RowKit
open Go.Sort (grow)
open Go.Proofs.YtpkdigegkemogaaGreatDoor.Pk (one_at one_free one_set lt_some grown_set grown_trans grown_refl)
namespace Pu
open Wt (Opn mayOp mayop_any inR)

abbrev opv (o : Opn) : Value := .agg #[.int .i64 o.kind, .int .i64 o.book, .int .i64 o.units, .int .i64 o.cust, .int .i64 o.amount]
def dstp (p : S) (o : Opn) : S × Int := stp p (mayOp o) o.kind o.book o.cust o.amount
theorem mayop_bds {o : Opn} (h : mayOp o = true) : (1 ≤ o.book ∧ o.book ≤ 200) ∧ (1 ≤ o.kind ∧ o.kind ≤ 6) ∧ (o.kind = 4 → (0 ≤ o.cust ∧ o.cust ≤ 3) ∧ 0 ≤ o.amount ∧ o.amount ≤ 1099511627776) := by
  refine ⟨?_, ?_, fun hk => ?_⟩
  · refine Decidable.byContradiction fun hn => ?_
    rw [Wt.mayop_out (by omega)] at h
    cases h
  · refine Decidable.byContradiction fun hn => ?_
    rw [Wt.mayop_out (by omega)] at h
    cases h
  · unfold mayOp at h
    rw [Bool.and_eq_true, if_neg (by omega), if_pos hk, Bool.and_eq_true, Bool.and_eq_true] at h
    obtain ⟨-, ⟨-, h1⟩, h2⟩ := h
    unfold inR at h1 h2
    simp at h1 h2
    exact ⟨h1, h2⟩
def DoTo (w : World) (q : Nat) (fp : Nat → Prop) (r : S × Int) (e : Ending) (w' : World) : Prop := e = .returned (.int .i64 r.2) ∧ LTo LineT (fun g => g = q) w q fp r.1 w'
set_option maxHeartbeats 3200000 in
theorem do_any (w : World) (q : Nat) (p : S) (fp : Nat → Prop) (L : LedP w q p fp) (o : Opn) :
    Calls Tryz.prog 64 #[.pointer (some ⟨q, 0, none⟩), opv o] w (DoTo w q fp (dstp p o)) := by
  obtain ⟨W, hW⟩ : ∃ W, W = w.alloc (.cells #[.int .i64 o.kind, .int .i64 o.book, .int .i64 o.units, .int .i64 o.cust, .int .i64 o.amount] 34) := ⟨_, rfl⟩
  have HB : Hid (Below w.heap.size w W) := by rw [hW]; exact (Below.refl _ _).alloc (Nat.le_refl _) _
  have hE : Hid (W.heap[w.heap.size]? = some (.cells #[.int .i64 o.kind, .int .i64 o.book, .int .i64 o.units, .int .i64 o.cust, .int .i64 o.amount] 34 (0, 0))) := by rw [hW]; exact heap_alloc_new _ _
  have MW : Hid (Calls Tryz.prog 70 #[.agg #[.int .i64 o.kind, .int .i64 o.book, .int .i64 o.units, .int .i64 o.cust, .int .i64 o.amount]] W _) := mayop_any W o
  have h0 : W.cell? ⟨w.heap.size, 0, none⟩ = some (.int .i64 o.kind) := one_at (i := 0) hE.out
  have h1 : W.cell? ⟨w.heap.size, 1, none⟩ = some (.int .i64 o.book) := one_at (i := 1) hE.out
  have h2 : W.cell? ⟨w.heap.size, 2, none⟩ = some (.int .i64 o.units) := one_at (i := 2) hE.out
  have h3 : W.cell? ⟨w.heap.size, 3, none⟩ = some (.int .i64 o.cust) := one_at (i := 3) hE.out
  have h4 : W.cell? ⟨w.heap.size, 4, none⟩ = some (.int .i64 o.amount) := one_at (i := 4) hE.out
  unfold opv dstp
  replace hW := Lib.hid hW
  cases hm : mayOp o with
  | false =>
    rw [hm] at MW
    have hL := Lib.hid L
    clear hm L
    go_enter Tryz.func64, Tryz.ntmps64
    go_wp2_with fail
    rw [← hW.out]
    refine MW.out.mono ?_
    rintro e w1 ⟨rfl, hh⟩
    have E : Hid (LTo LineT (fun g => g = q) w q fp p w1) := LTo.of_below hL.out (HB.out.trans (hh.mono HB.out.size))
    clear MW hh hL
    go_wp2
    go_ret
    exact ⟨rfl, E.out⟩
  | true =>
    obtain ⟨⟨b1, b2⟩, ⟨k1, k6⟩, hu⟩ := mayop_bds hm
    rw [hm] at MW
    have H1 : Hid (∀ W', Below w.heap.size w W' → o.kind = 4 → Calls Tryz.prog 93 #[.pointer (some ⟨q, 0, none⟩), .agg #[.int .i64 o.kind, .int .i64 o.book, .int .i64 o.units, .int .i64 o.cust, .int .i64 o.amount]] W' (DoTo w q fp (stp p true o.kind o.book o.cust o.amount))) := fun W' hb hk => by
      obtain ⟨⟨c0, c3⟩, m0, m1⟩ := hu hk
      obtain ⟨b, hb'⟩ := Int.eq_ofNat_of_zero_le (a := o.book) (by omega)
      obtain ⟨c, hc'⟩ := Int.eq_ofNat_of_zero_le (a := o.cust) c0
      rw [hb', hc']
      refine (auth_any W' q p fp (L.below hb) o.kind o.units o.amount b c (by omega) (by omega) (by omega) m0 m1).mono ?_
      rintro e w' ⟨rfl, h⟩
      have e1 : stp p true o.kind (b : Int) (c : Int) o.amount = auth p (b : Int) (c : Int) o.amount := by unfold stp; rw [if_neg (by simp), if_pos hk]
      rw [e1]
      exact ⟨rfl, LTo.after L.lt hb h⟩
    have H2 : Hid (∀ W', Below w.heap.size w W' → o.kind = 5 → Calls Tryz.prog 94 #[.pointer (some ⟨q, 0, none⟩), .int .i64 o.book] W' (DoTo w q fp (stp p true o.kind o.book o.cust o.amount))) := fun W' hb hk => by
      obtain ⟨b, hb'⟩ := Int.eq_ofNat_of_zero_le (a := o.book) (by omega)
      rw [hb']
      refine (capt_any W' q p fp (L.below hb) b (by omega) (by omega)).mono ?_
      rintro e w' ⟨rfl, h⟩
      have e1 : stp p true o.kind (b : Int) o.cust o.amount = capt p (b : Int) := by unfold stp; rw [if_neg (by simp), if_neg (by omega), if_pos hk]
      rw [e1]
      exact ⟨rfl, LTo.after L.lt hb h⟩
    have H3 : Hid (∀ W', Below w.heap.size w W' → o.kind = 6 → Calls Tryz.prog 95 #[.pointer (some ⟨q, 0, none⟩), .int .i64 o.book] W' (DoTo w q fp (stp p true o.kind o.book o.cust o.amount))) := fun W' hb hk => by
      obtain ⟨b, hb'⟩ := Int.eq_ofNat_of_zero_le (a := o.book) (by omega)
      rw [hb']
      refine (void_any W' q p fp (L.below hb) b (by omega) (by omega)).mono ?_
      rintro e w' ⟨rfl, h⟩
      have e1 : stp p true o.kind (b : Int) o.cust o.amount = (void p (b : Int), 1) := by unfold stp; rw [if_neg (by simp), if_neg (by omega), if_neg (by omega), if_pos hk]
      rw [e1]
      exact ⟨rfl, LTo.after L.lt hb h⟩
    have H4 : Hid (∀ W', Below w.heap.size w W' → ¬ o.kind = 4 → ¬ o.kind = 5 → ¬ o.kind = 6 → DoTo w q fp (stp p true o.kind o.book o.cust o.amount) (.returned (.int .i64 2)) W') := fun W' hb h1 h2 h3 => by
      have e : stp p true o.kind o.book o.cust o.amount = (p, 2) := by unfold stp; rw [if_neg (by simp), if_neg h1, if_neg h2, if_neg h3]
      rw [e]
      exact ⟨rfl, LTo.of_below L hb⟩
    clear L b1 b2 hu hm k1 k6
    obtain ⟨r, hr⟩ : ∃ r, r = stp p true o.kind o.book o.cust o.amount := ⟨_, rfl⟩
    rw [← hr] at H1 H2 H3 H4 ⊢
    clear hr
    obtain ⟨k, b, u, c, m⟩ := o
    simp only at *
    go_enter Tryz.func64, Tryz.ntmps64
    go_wp2_with fail
    rw [← hW.out]
    refine MW.out.mono ?_
    rintro e w1 ⟨rfl, hh⟩
    have B1 : Hid (Below w.heap.size w w1) := HB.out.trans (hh.mono HB.out.size)
    have hE1 := (hh.block _ (lt_some hE.out)).trans hE.out
    have e0 : w1.cell? ⟨w.heap.size, 0, none⟩ = some (.int .i64 k) := one_at (i := 0) hE1
    have e1 : w1.cell? ⟨w.heap.size, 1, none⟩ = some (.int .i64 b) := one_at (i := 1) hE1
    have e2 : w1.cell? ⟨w.heap.size, 2, none⟩ = some (.int .i64 u) := one_at (i := 2) hE1
    have e3 : w1.cell? ⟨w.heap.size, 3, none⟩ = some (.int .i64 c) := one_at (i := 3) hE1
    have e4 : w1.cell? ⟨w.heap.size, 4, none⟩ = some (.int .i64 m) := one_at (i := 4) hE1
    clear MW hh hE1 hE hW h0 h1 h2 h3 h4
    by_cases h1 : k = 4
    · have C := H1.out w1 B1.out h1
      have hb1 : (k == 4) = true := by simpa using h1
      clear H1 H2 H3 H4 h1
      go_wp2_with fail
      refine C.mono ?_
      rintro e w2 ⟨rfl, hl⟩
      replace hl := Lib.hid hl
      clear C
      go_wp2
      go_ret
      exact ⟨rfl, hl.out⟩
    · have hb1 : (k == 4) = false := by simpa using h1
      by_cases h2 : k = 5
      · have C := H2.out w1 B1.out h2
        have hb2 : (k == 5) = true := by simpa using h2
        clear H1 H2 H3 H4 h1 h2
        go_wp2_with fail
        refine C.mono ?_
        rintro e w2 ⟨rfl, hl⟩
        replace hl := Lib.hid hl
        clear C
        go_wp2
        go_ret
        exact ⟨rfl, hl.out⟩
      · have hb2 : (k == 5) = false := by simpa using h2
        by_cases h3 : k = 6
        · have C := H3.out w1 B1.out h3
          have hb3 : (k == 6) = true := by simpa using h3
          clear H1 H2 H3 H4 h1 h2 h3
          go_wp2_with fail
          refine C.mono ?_
          rintro e w2 ⟨rfl, hl⟩
          replace hl := Lib.hid hl
          clear C
          go_wp2
          go_ret
          exact ⟨rfl, hl.out⟩
        · have hb3 : (k == 6) = false := by simpa using h3
          have E := Lib.hid (H4.out w1 B1.out h1 h2 h3)
          clear H1 H2 H3 H4 h1 h2 h3
          go_wp2
          go_ret
          exact E.out
end Pu
end Go.Proofs.YtpkdigegkemogaaGreatDoor
