/- What each operation does to a purse, told by kind; the accounts by the moves; an array beside a purse; the document's MayFunds. -/
import Derived.Test.YtchlbkfkecpodaaPuJ
import Derived.Laws.IdiomArrays
import Derived.ProofKit
import Derived.OpenShut
import Derived.Deep.Slices
import Derived.Carry
import Derived.Laws.BitsLemmas
namespace Go.Proofs.Ytchlbkfkecpodaa
set_option maxRecDepth 100000
open Go.RowKit
open Go.Sort (grow)
open Go.Proofs.Ytchlbkfkecpodaa.Pk (one_at one_free one_set lt_some grown_set grown_trans below_grown grown_refl)
namespace Pu
open Wt (Opn mayOp)

def tp0 : S := new 5 9 0 0
def tp1 : S := (dstp tp0 ⟨4, 1, 0, 0, 6⟩).1
def tp2 : S := (dstp tp1 ⟨4, 2, 0, 1, 6⟩).1
def tp3 : S := (dstp tp2 ⟨5, 2, 0, 0, 0⟩).1
def tp4 : S := (dstp tp3 ⟨6, 3, 0, 0, 0⟩).1
theorem ta1 : (dstp tp0 ⟨4, 1, 0, 0, 6⟩).2 = 2 := by kernel_rfl
theorem ta2 : (dstp tp1 ⟨4, 2, 0, 1, 6⟩).2 = 1 := by kernel_rfl
theorem ta3 : (dstp tp2 ⟨5, 2, 0, 0, 0⟩).2 = 1 := by kernel_rfl
theorem ta4 : (dstp tp3 ⟨6, 3, 0, 0, 0⟩).2 = 1 := by kernel_rfl
theorem tb4 : bal tp4 1 = 3 := by kernel_rfl
theorem tt4 : tp4.a 5 = 6 := by kernel_rfl
theorem tr4 : tp4.a 4 = 0 := by kernel_rfl
theorem tl4 : tp4.l = [⟨2, 1, 4, 6⟩, ⟨2, 4, 5, 6⟩] := by kernel_rfl
theorem te1 : tp4.f 1 = eg := by kernel_rfl
theorem te3 : tp4.f 3 = eg := by kernel_rfl
set_option maxHeartbeats 3200000 in
theorem told_any (w : World) : Calls Try.prog 28 #[] w fun e w' => e = .returned (.bool true) ∧ Below w.heap.size w w' := by
  have N := ow_new w 5 9 0 0 (by unfold Cs.I; simp) (by decide)
  have GR := fun w => state_run eg w
  have EQ := fun w => eq_lin_run w 2 1 4 6 2 1 4 6
  rw [decide_eq_true (rfl : (⟨2, 1, 4, 6⟩ : Ln) = ⟨2, 1, 4, 6⟩)] at EQ
  unfold cell eg at GR
  go_enter Try.func28, Try.ntmps28
  go_wp2_with fail
  refine N.mono ?_
  rintro e w1 ⟨q, rfl, O1⟩
  clear N
  change Ow _ _ _ _ _ tp0 at O1
  have D : Calls Try.prog 30 #[.pointer (some ⟨q, 0, none⟩), .agg #[.int .i64 4, .int .i64 1, .int .i64 0, .int .i64 0, .int .i64 6]] w1 fun e w' => e = .returned (.int .i64 2) ∧ OwTo w.heap.size (fun g => g < w.heap.size) w w1 q tp1 w' := by
    have := ow_do O1 ⟨4, 1, 0, 0, 6⟩
    rw [ta1] at this
    exact this
  clear O1
  go_wp2_with fail
  refine D.mono ?_
  rintro e w2 ⟨rfl, O2, _⟩
  clear D
  have D : Calls Try.prog 30 #[.pointer (some ⟨q, 0, none⟩), .agg #[.int .i64 4, .int .i64 2, .int .i64 0, .int .i64 1, .int .i64 6]] w2 fun e w' => e = .returned (.int .i64 1) ∧ OwTo w.heap.size (fun g => g < w.heap.size) w w2 q tp2 w' := by
    have := ow_do O2 ⟨4, 2, 0, 1, 6⟩
    rw [ta2] at this
    exact this
  clear O2
  go_wp2_with fail
  refine D.mono ?_
  rintro e w3 ⟨rfl, O3, _⟩
  clear D
  have D : Calls Try.prog 30 #[.pointer (some ⟨q, 0, none⟩), .agg #[.int .i64 5, .int .i64 2, .int .i64 0, .int .i64 0, .int .i64 0]] w3 fun e w' => e = .returned (.int .i64 1) ∧ OwTo w.heap.size (fun g => g < w.heap.size) w w3 q tp3 w' := by
    have := ow_do O3 ⟨5, 2, 0, 0, 0⟩
    rw [ta3] at this
    exact this
  clear O3
  go_wp2_with fail
  refine D.mono ?_
  rintro e w4 ⟨rfl, O4, _⟩
  clear D
  have D : Calls Try.prog 30 #[.pointer (some ⟨q, 0, none⟩), .agg #[.int .i64 6, .int .i64 3, .int .i64 0, .int .i64 0, .int .i64 0]] w4 fun e w' => e = .returned (.int .i64 1) ∧ OwTo w.heap.size (fun g => g < w.heap.size) w w4 q tp4 w' := by
    have := ow_do O4 ⟨6, 3, 0, 0, 0⟩
    rw [ta4] at this
    exact this
  clear O4
  go_wp2_with fail
  refine D.mono ?_
  rintro e w5 ⟨rfl, O5, _⟩
  clear D
  have D := ow_lines O5
  rw [tl4] at D
  go_wp2_with fail
  refine D.mono ?_
  rintro e w6 ⟨v, rfl, hr, hb⟩
  have O6 := Lib.hid (O5.below hb)
  clear D O5
  obtain ⟨A, c, rfl, hc1, hc2, hc3⟩ := rt_form hr
  obtain ⟨g, rfl, r0, r1, r2, r3⟩ := rt_cell hr (k := 0) rfl
  obtain ⟨g', e, s0, s1, s2, s3⟩ := rt_cell hr (k := 1) rfl
  injection e with e
  injection e with e _ _
  subst e
  have BA := ow_bal O6.out 1
  have TA := ow_tak O6.out
  have RE := ow_res O6.out
  have E1 := ow_entry O6.out 1
  have E3 : Hid (∀ w7, Below w6.heap.size w6 w7 → Calls Try.prog 34 #[.pointer (some ⟨q, 0, none⟩), .int .i64 3] w7 fun e w' => e = .returned (cell eg) ∧ Below w7.heap.size w7 w') := fun w7 h7 => by
    have := ow_entry (O6.out.below h7) 3
    rw [te3] at this
    exact this
  rw [tb4] at BA
  rw [tt4] at TA
  rw [tr4] at RE
  rw [te1] at E1
  unfold cell eg at E1 E3
  clear hr hb
  go_wp2_with (first
    | (go_at_call 35; (with_reducible refine BA.mono ?_); rintro e w' ⟨rfl, rfl⟩)
    | (go_at_call 37; (with_reducible refine TA.mono ?_); rintro e w' ⟨rfl, rfl⟩)
    | (go_at_call 36; (with_reducible refine RE.mono ?_); rintro e w' ⟨rfl, rfl⟩))
  refine E1.mono ?_
  rintro e w7 ⟨rfl, h7⟩
  have E4 := E3.out w7 h7
  have B7 : Hid (Below w.heap.size w w7) := (O6.out.below h7).be
  have s7 : Hid (w.heap.size ≤ w7.heap.size) := (O6.out.below h7).bs
  clear E1 E3 h7
  go_wp2_with fail
  refine E4.mono ?_
  rintro e w8 ⟨rfl, h8⟩
  have B8 : Hid (Below w.heap.size w w8) := B7.out.trans (h8.mono s7.out)
  clear E4 h8
  go_wp2
  go_ret
  exact ⟨rfl, B8.out⟩
end Pu
end Go.Proofs.Ytchlbkfkecpodaa

namespace Go.Proofs.Ytchlbkfkecpodaa
set_option maxRecDepth 100000
open Go.ChangeShapes Go.WideShapes Go.ChangeAt Go.WideMaps Go.WideElems Go.RowKit
open Go.Proofs.Ytchlbkfkecpodaa.Pk (Rb adr_block one_at one_free one_set lt_some grown_set grown_trans below_grown grown_refl)
namespace Pu

/-- The slice value '.slice A n c' reads as the numbers zs; what it lies in is a block of T. -/
structure Rr (w : World) (T : Nat → Prop) (A : Option Addr) (n : Nat) (zs : List Int) : Prop where
  len : zs.length = n
  at_ : 0 < n → ∃ ad, A = some ad ∧ T ad.block ∧ ∀ j z, zs[j]? = some z → w.cell? (ad.add j) = some (.int .i64 z)
section
variable {w w' : World} {T T' : Nat → Prop} {A : Option Addr} {n : Nat} {zs : List Int}
theorem Rr.keep (h : Rr w T A n zs) (hk : ∀ g, T g → w'.heap[g]? = w.heap[g]?) (hT : ∀ g, T g → T' g) : Rr w' T' A n zs :=
  ⟨h.len, fun h0 => by
    obtain ⟨ad, e, ht, hc⟩ := h.at_ h0
    refine ⟨ad, e, hT _ ht, fun j c hj => ?_⟩
    rw [← hc j c hj]
    exact World.cell?_of_block (by rw [adr_block]; exact hk _ ht)⟩
theorem Rr.mono (h : Rr w T A n zs) (hT : ∀ g, T g → T' g) : Rr w T' A n zs := h.keep (fun _ _ => rfl) hT
theorem Rr.below {B : Nat} (h : Rr w (fun g => g < B) A n zs) (hb : Below B w w') : Rr w' (fun g => g < B) A n zs := h.keep (fun g hg => hb.block g hg) fun _ h => h
theorem Rr.nil (w : World) (T : Nat → Prop) (A : Option Addr) : Rr w T A 0 [] := ⟨rfl, fun h => absurd h (by omega)⟩
theorem Rr.cell {ad : Addr} {k : Nat} {z : Int} (h : Rr w T (some ad) n zs) (hz : zs[k]? = some z) : w.cell? (ad.add k) = some (.int .i64 z) := by
  have hk : k < n := by rw [← h.len]; exact (List.getElem?_eq_some_iff.1 hz).1
  obtain ⟨ad', e, _, hc⟩ := h.at_ (by omega)
  injection e with e
  subst e
  exact hc k z hz
end
def nums (zs : List Int) : List Value := zs.map fun z => .int .i64 z
def arr (zs : List Int) : Array Value := (nums zs).toArray
theorem arr_at {zs : List Int} {k : Nat} {z : Int} (h : zs[k]? = some z) : (arr zs)[k]? = some (.int .i64 z) := by simp [arr, nums, h]
theorem arr_set (zs : List Int) (k : Nat) (z : Int) : (arr zs).setIfInBounds k (.int .i64 z) = arr (zs.set k z) := by
  apply Array.ext'
  simp [arr, nums, List.map_set]
theorem own : ownKnob Try.prog.godebug = none := by kernel_rfl
theorem laidOut : laidOutB Try.prog = true := by kernel_rfl
theorem bnd {x : Int} (h : (Lit.int .i64 x).wf = true) : -9223372036854775808 ≤ x ∧ x ≤ 9223372036854775807 := by
  simp [Lit.wf, IntKind.min, IntKind.max, IntKind.signed, IntKind.bits] at h
  omega
/-- A slice of numbers that came in. -/
def Src (w : World) (v : Value) (zs : List Int) : Prop := ∃ A n c, v = .slice A n c ∧ n ≤ c ∧ c ≤ 9223372036854775807 ∧ Rr w (fun g => g < w.heap.size) A n zs ∧ ∀ z ∈ zs, -9223372036854775808 ≤ z ∧ z ≤ 9223372036854775807
theorem lt_of_cell {w : World} {a : Addr} {v : Value} (h : w.cell? a = some v) : a.block < w.heap.size := by
  rcases Nat.lt_or_ge a.block w.heap.size with e | e
  · exact e
  · simp [World.cell?, Array.getElem?_eq_none e] at h
theorem view_nums {H : Type} {enc : TypeId × Value → H} {W : World} {sp : Nat → Bool} {held : Bool} {v : Value} {d : DataW H} {p : List MemPlace} {r : Reach} {b0 : Nat}
    (hv : Value.okWide Try.prog W r b0 37 v) (h : DataW.Trod enc Try.prog W 0 sp held 37 v d p) : ∃ zs, Src W v zs := by
  obtain ⟨A, n, c, rfl⟩ := okWide_slice Try.underlying37 hv
  obtain ⟨fuel, hf⟩ := h
  have c5 : Try.prog.cellsOf 3 = 1 := by kernel_rfl
  rcases open_ints Try.underlying37 Try.underlying3 c5 hf with ⟨hcs, _⟩ | ⟨a, len, cap, zs, hcs, _, hl, hm, hz, _, hcell, hwz⟩
  · obtain ⟨rfl, rfl, rfl⟩ : A = none ∧ n = 0 ∧ c = 0 := by simpa [Value.cells] using hcs
    exact ⟨[], none, 0, 0, rfl, Nat.le_refl _, by omega, Rr.nil _ _ _, fun z h => by cases h⟩
  · obtain ⟨rfl, rfl, rfl⟩ : A = some a ∧ n = len ∧ c = cap := by simpa [Value.cells] using hcs
    have hle : n ≤ zs.length := by rw [hz]; split <;> omega
    unfold maxLen at hm
    refine ⟨zs.take n, some a, n, c, rfl, hl, by omega, ⟨by simp; omega, fun hn => ⟨a, rfl, ?_, fun j x hj => ?_⟩⟩, fun z hz => bnd (hwz z (List.mem_of_mem_take hz))⟩
    · have := lt_of_cell (hcell 0 (by omega))
      rwa [adr_block] at this
    · rw [List.getElem?_take] at hj
      split at hj
      · have hjz : j < zs.length := by omega
        rw [hcell j hjz, List.getD_eq_getElem?_getD, hj]
        rfl
      · cases hj

variable {H : Type} {enc : TypeId × Value → H} {P : Program}
/-- The row's last step where all that was there is as it was. -/
theorem post_below {f : Func} {s : ChangeSpec} {apart fresh handsOn again : Bool} {W W' : World} {args : Array Value} {v : Value} {ds gs : List (DataW H)} {before pa pv : List MemPlace}
    (hW : DataW.Whole enc P f.params.toList s.vars apart W args.toList ds gs before)
    (hres : ∀ (b : Nat) (sp : Nat → Bool) (hd : Bool), DataW.TrodAll enc P W' b sp hd f.resultTypes.toList (v.resultList f.resultTypes.size) (s.fn H (ds ++ gs)).results [])
    (hargs : ∀ sp : Nat → Bool, (∀ p ∈ before, sp p.block = true) → DataW.TrodAll enc P W' 0 sp true f.params.toList args.toList (s.fn H (ds ++ gs)).args pa)
    (hvars : ∀ sp : Nat → Bool, (∀ p ∈ before, sp p.block = true) → DataW.TrodVars enc P W' sp s.vars (s.fn H (ds ++ gs)).vars pv)
    (hps : before = pa ++ pv) (hb : Below W.heap.size W W')
    (hok : ∀ (j : Nat) (t : TypeId) (r : Value), f.resultTypes[j]? = some t → (v.resultList f.resultTypes.size)[j]? = some r → Value.okWide P W' .any 0 t r) :
    s.post enc P f apart fresh handsOn again W args v W' := by
  have lower : ∀ p ∈ before, p.block < W.heap.size := fun p hp => hW.lt p hp
  have within : ∀ p ∈ before, (fun b => decide (b < W.heap.size)) p.block = true := fun p hp => decide_eq_true (lower p hp)
  refine ⟨ds, gs, before, [], pa, pv, hW, hres _ _ _, hargs _ within, hvars _ within, ?_, fun _ => ?_⟩
  · refine World.keptBut_mono (fun p hp => ⟨hp, ?_⟩) (hb.frame (· ∈ before))
    rw [hps, List.mem_append] at hp
    exact .inr hp
  · obtain ⟨_, _, _, _, _, marks, once⟩ := hW
    refine ⟨hok, _, _, ([] ++ pa) ++ pv, ⟨[] ++ pa, pv, trodAll_append (hargs _ (fun _ _ => rfl)) (hres _ _ _), hvars _ (fun _ _ => rfl), rfl, fun b off hp => ?_, fun ha => ?_⟩, fun p hp _ => ?_⟩
    · have hin : MemPlace.cell b off ∈ before := by simpa [hps] using hp
      exact (hb.frozen (lower _ hin)).trans (marks b off hin)
    · simpa [hps] using once ha
    · simpa [hps] using hp
/-- int(uint(z) % n). -/
def usm (z : Int) (n : Nat) : Nat := ((z % 18446744073709551616) % (n : Int)).toNat
theorem usm_lt (z : Int) {n : Nat} (hn : 0 < n) : usm z n < n := by
  have h1 := Int.emod_nonneg (z % 18446744073709551616) (b := (n : Int)) (by omega)
  have h2 := Int.emod_lt_of_pos (z % 18446744073709551616) (b := (n : Int)) (by omega)
  unfold usm
  omega
theorem usm_is (z : Int) {n : Nat} (hn : 0 < n) : ((z % 18446744073709551616) % (n : Int)) = (usm z n : Int) := by
  have h1 := Int.emod_nonneg (z % 18446744073709551616) (b := (n : Int)) (by omega)
  unfold usm
  omega
theorem usm_slot (z : Int) {n : Nat} (hn : 0 < n) (hs : n ≤ 1000000) : wrap64 ((IntKind.u64.wrap z).tmod (n : Int)) = (usm z n : Int) := by
  have h0 : 0 ≤ IntKind.u64.wrap z := by rw [IntKind.wrap_u64]; omega
  have h1 := usm_lt z hn
  rw [Int.tmod_eq_emod_of_nonneg h0, IntKind.wrap_u64, usm_is z hn, IntWalk.wrap64_in _ (by omega)]
theorem i64_and1 (n : Int) : bits .and .i64 n 1 = n % 2 := by
  have h1 : (BitVec.ofInt 64 1).toNat = 2 ^ 1 - 1 := by decide
  have key : (BitVec.ofInt 64 n &&& BitVec.ofInt 64 1).toNat = (n % ((2 ^ 64 : Nat) : Int)).toNat % 2 ^ 1 := by
    rw [BitVec.toNat_and, BitVec.toNat_ofInt, h1, Nat.and_two_pow_sub_one_eq_mod]
  show IntKind.i64.wrap ((BitVec.ofInt 64 n &&& BitVec.ofInt 64 1).toNat : Nat) = n % 2
  rw [key, IntKind.wrap_i64]
  omega
theorem i64_and3 (n : Int) : bits .and .i64 n 3 = n % 4 := by
  have h3 : (BitVec.ofInt 64 3).toNat = 2 ^ 2 - 1 := by decide
  have key : (BitVec.ofInt 64 n &&& BitVec.ofInt 64 3).toNat = (n % ((2 ^ 64 : Nat) : Int)).toNat % 2 ^ 2 := by
    rw [BitVec.toNat_and, BitVec.toNat_ofInt, h3, Nat.and_two_pow_sub_one_eq_mod]
  show IntKind.i64.wrap ((BitVec.ofInt 64 n &&& BitVec.ofInt 64 3).toNat : Nat) = n % 4
  rw [key, IntKind.wrap_i64]
  omega
open Wt (Opn)
theorem trod_op5 {H : Type} {enc : TypeId × Value → H} {W : World} {sp : Nat → Bool} {held : Bool} {fu : Nat} {x0 x1 x2 x3 x4 : Value} {y : DataW H × List MemPlace}
    (h : DataW.trod enc Try.prog W 0 sp held fu 30 [x0, x1, x2, x3, x4] = some y) : ∃ o : Opn, x0 = .int .i64 o.kind ∧ x1 = .int .i64 o.book ∧ x2 = .int .i64 o.units ∧ x3 = .int .i64 o.cust ∧ x4 = .int .i64 o.amount := by
  have k3 : Try.prog.cellsOf 3 = 1 := by kernel_rfl
  have k2 : Try.prog.cellsOf 2 = 1 := by kernel_rfl
  obtain ⟨xs, fn, _, _, _, hxl, hg⟩ := DataW.trod_struct Try.underlying30 h
  have e0 : DataW.trod enc Try.prog W 0 sp held fn 3 (([x0, x1, x2, x3, x4].drop 0).take (Try.prog.cellsOf 3)) = xs[0]? := hg 0 _ rfl
  have e1 : DataW.trod enc Try.prog W 0 sp held fn 3 (([x0, x1, x2, x3, x4].drop 1).take (Try.prog.cellsOf 3)) = xs[1]? := hg 1 _ rfl
  have e2 : DataW.trod enc Try.prog W 0 sp held fn 3 (([x0, x1, x2, x3, x4].drop 2).take (Try.prog.cellsOf 3)) = xs[2]? := hg 2 _ rfl
  have e3 : DataW.trod enc Try.prog W 0 sp held fn 3 (([x0, x1, x2, x3, x4].drop 3).take (Try.prog.cellsOf 3)) = xs[3]? := hg 3 _ rfl
  have e4 : DataW.trod enc Try.prog W 0 sp held fn 2 (([x0, x1, x2, x3, x4].drop 4).take (Try.prog.cellsOf 2)) = xs[4]? := hg 4 _ rfl
  rw [k3] at e0 e1 e2 e3
  rw [k2] at e4
  simp only [List.drop_zero, List.drop_succ_cons, List.take_succ_cons, List.take_zero] at e0 e1 e2 e3 e4
  have hx : ∀ j, j < 5 → ∃ y, xs[j]? = some y := fun j hj => ⟨_, List.getElem?_eq_getElem (by rw [hxl]; exact hj)⟩
  obtain ⟨y0, z0⟩ := hx 0 (by omega)
  obtain ⟨y1, z1⟩ := hx 1 (by omega)
  obtain ⟨y2, z2⟩ := hx 2 (by omega)
  obtain ⟨y3, z3⟩ := hx 3 (by omega)
  obtain ⟨y4, z4⟩ := hx 4 (by omega)
  obtain ⟨m0, f0, _, _⟩ := DataW.trod_int Try.underlying3 (e0.trans z0)
  obtain ⟨m1, f1, _, _⟩ := DataW.trod_int Try.underlying3 (e1.trans z1)
  obtain ⟨m2, f2, _, _⟩ := DataW.trod_int Try.underlying3 (e2.trans z2)
  obtain ⟨m3, f3, _, _⟩ := DataW.trod_int Try.underlying3 (e3.trans z3)
  obtain ⟨m4, f4, _, _⟩ := DataW.trod_int Try.underlying2 (e4.trans z4)
  simp only [List.cons.injEq, and_true] at f0 f1 f2 f3 f4
  exact ⟨⟨m0, m1, m2, m3, m4⟩, f0, f1, f2, f3, f4⟩
theorem view_op {H : Type} {enc : TypeId × Value → H} {W : World} {sp : Nat → Bool} {held : Bool} {v : Value} {d : DataW H} {p : List MemPlace} {r : Reach} {b0 : Nat}
    (hv : Value.okWide Try.prog W r b0 30 v) (h : DataW.Trod enc Try.prog W 0 sp held 30 v d p) : ∃ o : Opn, v = opv o := by
  obtain ⟨cs, rfl, hsz⟩ := okWide_struct Try.underlying30 hv
  have c7 : Try.prog.cellsOf 30 = 5 := by kernel_rfl
  rw [c7] at hsz
  obtain ⟨fuel, hf⟩ := h
  obtain ⟨l, rfl⟩ : ∃ l : List Value, cs = l.toArray := ⟨cs.toList, by simp⟩
  match l, (by simpa using hsz : l.length = 5) with
  | [x0, x1, x2, x3, x4], _ =>
    have hf' : DataW.trod enc Try.prog W 0 sp held fuel 30 [x0, x1, x2, x3, x4] = some (d, p) := by simpa [Value.cells] using hf
    obtain ⟨o, rfl, rfl, rfl, rfl, rfl⟩ := trod_op5 hf'
    exact ⟨o, rfl⟩
/-- Funds that came in. -/
structure Four where
  a : Int
  b : Int
  c : Int
  d : Int
def Four.v (x : Four) : Value := .agg #[.int .i64 x.a, .int .i64 x.b, .int .i64 x.c, .int .i64 x.d]
theorem okWide_arr {P : Program} {w : World} {r : Reach} {base : Nat} {t e : TypeId} {n : Nat} {v : Value} (ht : P.underlying t = some (.array n e)) (h : Value.okWide P w r base t v) : ∃ cs, v = .agg cs ∧ cs.size = P.cellsOf t := by
  simp only [Value.okWide, ht] at h
  obtain ⟨cs, h1, h2, _⟩ := h
  exact ⟨cs, h1, h2⟩
theorem view_four {H : Type} {enc : TypeId × Value → H} {W : World} {sp : Nat → Bool} {held : Bool} {v : Value} {d : DataW H} {p : List MemPlace} {r : Reach} {b0 : Nat}
    (hv : Value.okWide Try.prog W r b0 54 v) (h : DataW.Trod enc Try.prog W 0 sp held 54 v d p) : ∃ x : Four, v = x.v ∧ ∀ z ∈ [x.a, x.b, x.c, x.d], Cs.I z := by
  obtain ⟨cs, rfl, hsz⟩ := okWide_arr Try.underlying54 hv
  have c4 : Try.prog.cellsOf 54 = 4 := by kernel_rfl
  have k2 : Try.prog.cellsOf 2 = 1 := by kernel_rfl
  rw [c4] at hsz
  obtain ⟨fuel, hf⟩ := h
  obtain ⟨l, rfl⟩ : ∃ l : List Value, cs = l.toArray := ⟨cs.toList, by simp⟩
  match l, (by simpa using hsz : l.length = 4) with
  | [x0, x1, x2, x3], _ =>
    have hf' : DataW.trod enc Try.prog W 0 sp held fuel 54 [x0, x1, x2, x3] = some (d, p) := by simpa [Value.cells] using hf
    obtain ⟨y0, y1, y2, y3, n, _, r0, r1, r2, r3⟩ := trod_array4 Try.underlying54 k2 hf'
    obtain ⟨m0, f0, _, g0⟩ := DataW.trod_int Try.underlying2 r0
    obtain ⟨m1, f1, _, g1⟩ := DataW.trod_int Try.underlying2 r1
    obtain ⟨m2, f2, _, g2⟩ := DataW.trod_int Try.underlying2 r2
    obtain ⟨m3, f3, _, g3⟩ := DataW.trod_int Try.underlying2 r3
    simp only [List.cons.injEq, and_true] at f0 f1 f2 f3
    refine ⟨⟨m0, m1, m2, m3⟩, by unfold Four.v; rw [f0, f1, f2, f3], fun z hz => ?_⟩
    simp only [List.mem_cons, List.not_mem_nil, or_false] at hz
    rcases hz with rfl | rfl | rfl | rfl
    · exact bnd g0
    · exact bnd g1
    · exact bnd g2
    · exact bnd g3

/-! ### operations -/
structure OpAt (w : World) (a : Addr) (i : Nat) (o : Opn) : Prop where
  c0 : w.cell? (a.add (i * 5)) = some (.int .i64 o.kind)
  c1 : w.cell? ⟨(a.add (i * 5)).block, (a.add (i * 5)).off + 1, none⟩ = some (.int .i64 o.book)
  c2 : w.cell? ⟨(a.add (i * 5)).block, (a.add (i * 5)).off + 2, none⟩ = some (.int .i64 o.units)
  c3 : w.cell? ⟨(a.add (i * 5)).block, (a.add (i * 5)).off + 3, none⟩ = some (.int .i64 o.cust)
  c4 : w.cell? ⟨(a.add (i * 5)).block, (a.add (i * 5)).off + 4, none⟩ = some (.int .i64 o.amount)
/-- A slice of operations that came in. -/
structure Ops (w : World) (B : Nat) (A : Option Addr) (n : Nat) (l : List Opn) : Prop where
  len : l.length = n
  at_ : 0 < n → ∃ a, A = some a ∧ a.block < B ∧ ∀ i o, l[i]? = some o → OpAt w a i o
theorem OpAt.same {w w' : World} {a : Addr} {i : Nat} {o : Opn} (h : OpAt w a i o) (hb : w'.heap[a.block]? = w.heap[a.block]?) : OpAt w' a i o := by
  have e : ∀ k, w'.cell? ⟨(a.add (i * 5)).block, (a.add (i * 5)).off + k, none⟩ = w.cell? ⟨(a.add (i * 5)).block, (a.add (i * 5)).off + k, none⟩ := fun k => World.cell?_of_block (by show w'.heap[(a.add (i * 5)).block]? = w.heap[(a.add (i * 5)).block]?; rw [adr_block]; exact hb)
  exact ⟨(World.cell?_of_block (by rw [adr_block]; exact hb)).trans h.c0, (e 1).trans h.c1, (e 2).trans h.c2, (e 3).trans h.c3, (e 4).trans h.c4⟩
theorem Ops.below {w w' : World} {B : Nat} {A : Option Addr} {n : Nat} {l : List Opn} (h : Ops w B A n l) (hb : Below B w w') : Ops w' B A n l :=
  ⟨h.len, fun hn => by
    obtain ⟨a, e, h1, h2⟩ := h.at_ hn
    exact ⟨a, e, h1, fun i o hi => (h2 i o hi).same (hb.block _ h1)⟩⟩
def Osrc (w : World) (v : Value) (l : List Opn) : Prop := ∃ A n c, v = .slice A n c ∧ n ≤ c ∧ c ≤ 9223372036854775807 ∧ Ops w w.heap.size A n l
theorem view_aops {H : Type} {enc : TypeId × Value → H} {W : World} {sp : Nat → Bool} {held : Bool} {v : Value} {d : DataW H} {p : List MemPlace} {r : Reach} {b0 : Nat}
    (hv : Value.okWide Try.prog W r b0 55 v) (h : DataW.Trod enc Try.prog W 0 sp held 55 v d p) : ∃ l, Osrc W v l := by
  obtain ⟨A, n, c, rfl⟩ := okWide_slice Try.underlying55 hv
  obtain ⟨fuel, hf⟩ := h
  have c5 : Try.prog.cellsOf 30 = 5 := by kernel_rfl
  rcases Go.Deep.open_slice Try.underlying55 hf with ⟨hcs, _⟩ | ⟨a, len, cap, m, fu, D, Pl, hcs, _, hl, hm, hmm, _, hi⟩
  · obtain ⟨rfl, rfl, rfl⟩ : A = none ∧ n = 0 ∧ c = 0 := by simpa [Value.cells] using hcs
    exact ⟨[], none, 0, 0, rfl, Nat.le_refl _, by omega, ⟨rfl, fun h => absurd h (by omega)⟩⟩
  · obtain ⟨rfl, rfl, rfl⟩ : A = some a ∧ n = len ∧ c = cap := by simpa [Value.cells] using hcs
    have hle : n ≤ m := by rw [hmm]; split <;> omega
    unfold maxLen at hm
    have one : ∀ i, i < n → ∃ o, OpAt W a i o := by
      intro i hin
      obtain ⟨cs', h1, h2⟩ := hi i (by omega)
      rw [c5] at h1
      obtain ⟨_, hlen, hat⟩ := World.cells?_some h1
      match cs', hlen with
      | [x0, x1, x2, x3, x4], _ =>
        obtain ⟨o, g1, g2, g3, g4, g5⟩ := trod_op5 h2
        refine ⟨o, ⟨?_, ?_, ?_, ?_, ?_⟩⟩
        · have := hat 0 (by omega); rw [Addr.add_zero'] at this; rw [this, g1]; rfl
        · have := hat 1 (by omega); rw [Addr.add_succ'] at this; rw [this, g2]; rfl
        · have := hat 2 (by omega); rw [Addr.add_succ'] at this; rw [this, g3]; rfl
        · have := hat 3 (by omega); rw [Addr.add_succ'] at this; rw [this, g4]; rfl
        · have := hat 4 (by omega); rw [Addr.add_succ'] at this; rw [this, g5]; rfl
    have all : ∀ k, k ≤ n → ∃ l : List Opn, l.length = k ∧ (∀ i o, l[i]? = some o → OpAt W a i o) := by
      intro k
      induction k with
      | zero => intro _; exact ⟨[], rfl, fun i o h => by simp at h⟩
      | succ k ih =>
        intro hk
        obtain ⟨l, h1, h2⟩ := ih (by omega)
        obtain ⟨o, h4⟩ := one k (by omega)
        refine ⟨l ++ [o], by simp [h1], fun i o' hi => ?_⟩
        rw [List.getElem?_append] at hi
        split at hi
        · exact h2 i o' hi
        · rename_i hge
          have hi0 : i - l.length = 0 := by
            rcases Nat.eq_zero_or_pos (i - l.length) with e | e
            · exact e
            · rw [List.getElem?_eq_none (by simp; omega)] at hi; cases hi
          rw [hi0] at hi
          simp only [List.getElem?_cons_zero, Option.some.injEq] at hi
          subst hi
          obtain rfl : i = k := by omega
          exact h4
    obtain ⟨l, h1, h2⟩ := all n (Nat.le_refl _)
    refine ⟨l, some a, n, c, rfl, hl, by omega, ⟨h1, fun hn => ⟨a, rfl, ?_, h2⟩⟩⟩
    obtain ⟨o, h4⟩ := one 0 hn
    have := lt_of_cell h4.c0
    rwa [adr_block] at this
end Pu
end Go.Proofs.Ytchlbkfkecpodaa

namespace Go.Proofs.Ytchlbkfkecpodaa
set_option maxRecDepth 100000
open Go.RowKit
open Go.Proofs.Ytchlbkfkecpodaa.Pk (one_at one_free one_set lt_some adr_block)
namespace Pu
open Wt (Opn mayOp)

section
variable {p : S} {b k c m : Int} {ok : Bool}
theorem stp_other {x : Int} (h : x ≠ b) : (stp p ok k b c m).1.f x = p.f x := by
  unfold stp
  split
  · rfl
  · split
    · unfold auth
      split
      · split
        · exact upd_other h
        · exact upd_other h
      · split <;> rfl
    · split
      · unfold capt
        split
        · rfl
        · split
          · exact upd_other h
          · exact upd_other h
      · split
        · unfold void
          split
          · exact upd_other h
          · split
            · exact upd_other h
            · exact upd_other h
        · rfl
theorem void_at : (void p b).f b = eg := by
  unfold void
  split
  · exact upd_same _ _ _
  · split
    · exact upd_same _ _ _
    · exact upd_same _ _ _
theorem gone_stp (h : p.f b = eg) (_hk : 1 ≤ k) : (stp p ok k b c m).1.f b = eg ∧ ((stp p ok k b c m).2 == 1) = ((k == 6) && ok) := by
  have h3 : (p.f b).st = 3 := by rw [h]; rfl
  unfold stp
  cases ok with
  | false => rw [if_pos rfl]; exact ⟨h, by rw [Bool.and_false]; rfl⟩
  | true =>
    rw [if_neg (by simp), Bool.and_true]
    by_cases h4 : k = 4
    · rw [if_pos h4]
      unfold auth
      rw [if_neg (by omega), if_neg (fun h => h.1 h3)]
      exact ⟨h, by rw [h4]; rfl⟩
    · rw [if_neg h4]
      by_cases h5 : k = 5
      · rw [if_pos h5]
        unfold capt
        rw [if_neg (by omega), if_neg (by omega)]
        exact ⟨upd_same _ _ _, by rw [h5]; rfl⟩
      · rw [if_neg h5]
        by_cases h6 : k = 6
        · rw [if_pos h6]
          exact ⟨void_at, by rw [h6]; rfl⟩
        · rw [if_neg h6]
          exact ⟨h, by
            have : (k == 6) = false := by simpa using h6
            rw [this]; rfl⟩
end
theorem gone_do {p : S} {b : Int} {o : Opn} (h : p.f b = eg) : (dstp p o).1.f b = eg ∧ (o.book = b → ((dstp p o).2 == 1) = ((o.kind == 6) && mayOp o)) := by
  unfold dstp
  by_cases hb : o.book = b
  · rw [hb]
    cases hm : mayOp o with
    | false => exact ⟨h, fun _ => by rw [Bool.and_false]; rfl⟩
    | true =>
      have := gone_stp (p := p) (b := b) (k := o.kind) (c := o.cust) (m := o.amount) (ok := true) h (mayop_bds hm).2.1.1
      exact ⟨this.1, fun _ => this.2⟩
  · refine ⟨?_, fun e => absurd e hb⟩
    rw [stp_other (fun e => hb e.symm)]
    exact h
theorem may_void {b : Int} (h1 : 1 ≤ b) (h2 : b ≤ 200) : mayOp ⟨6, b, 0, 0, 0⟩ = true := by simp [mayOp, Wt.inR, h1, h2]
theorem d_void {p : S} {b : Int} (h1 : 1 ≤ b) (h2 : b ≤ 200) : dstp p ⟨6, b, 0, 0, 0⟩ = (void p b, 1) := by
  unfold dstp
  rw [may_void h1 h2]
  rfl
theorem may_capt {b : Int} (h1 : 1 ≤ b) (h2 : b ≤ 200) : mayOp ⟨5, b, 0, 0, 0⟩ = true := by simp [mayOp, Wt.inR, h1, h2]
theorem d_capt {p : S} {b : Int} (h1 : 1 ≤ b) (h2 : b ≤ 200) : dstp p ⟨5, b, 0, 0, 0⟩ = capt p b := by
  unfold dstp
  rw [may_capt h1 h2]
  rfl
theorem may_auth {b c m : Int} (h1 : 1 ≤ b) (h2 : b ≤ 200) (c0 : 0 ≤ c) (c3 : c ≤ 3) (m0 : 0 ≤ m) (m1 : m ≤ 1099511627776) : mayOp ⟨4, b, 0, c, m⟩ = true := by simp [mayOp, Wt.inR, h1, h2, c0, c3, m0, m1]
theorem d_auth {p : S} {b c m : Int} (h1 : 1 ≤ b) (h2 : b ≤ 200) (c0 : 0 ≤ c) (c3 : c ≤ 3) (m0 : 0 ≤ m) (m1 : m ≤ 1099511627776) : dstp p ⟨4, b, 0, c, m⟩ = auth p b c m := by
  unfold dstp
  rw [may_auth h1 h2 c0 c3 m0 m1]
  rfl
theorem OwTo.less {B : Nat} {X X' : Nat → Prop} {w0 w w1 : World} {q : Nat} {p : S} (O : OwTo B X w0 w q p w1) (h : ∀ g, X' g → X g) : OwTo B X' w0 w q p w1 := ⟨O.1.less h, O.2.1, fun g hg => O.2.2 g (h g hg)⟩
end Pu
end Go.Proofs.Ytchlbkfkecpodaa

namespace Go.Proofs.Ytchlbkfkecpodaa
set_option maxRecDepth 100000
open Go.RowKit
open Go.Sort (grow)
open Go.Proofs.Ytchlbkfkecpodaa.Pk (one_at one_free one_set lt_some adr_block)
namespace Pu
open Wt (Opn mayOp)

/-- Nothing, an entry put, or a move and an entry put. -/
def Step (b : Int) (p p' : S) : Prop := p' = p ∨ p' = put p b eg ∨ ∃ fr tg am e, p' = put (mv p b fr tg am) b e ∧ (0 ≤ fr ∧ fr ≤ 5) ∧ (0 ≤ tg ∧ tg ≤ 5) ∧ fr ≠ tg ∧ 0 ≤ am ∧ am ≤ 1099511627776
section
variable {p : S} {b : Int}
theorem step_dstp (h : Ok p) (o : Opn) : Step o.book p (dstp p o).1 := by
  unfold dstp stp
  cases hm : mayOp o with
  | false => exact .inl rfl
  | true =>
    obtain ⟨⟨b1, b2⟩, -, hc⟩ := mayop_bds hm
    obtain ⟨-, -, c0, c1, m0, m1⟩ := (h.shp o.book).bds
    rw [if_neg (by simp)]
    split
    · rename_i k4
      obtain ⟨⟨c0, c1⟩, m0, m1⟩ := hc k4
      unfold auth
      split
      · split
        · exact .inr (.inr ⟨_, _, _, _, rfl, by omega, by omega, by omega, m0, m1⟩)
        · exact .inr (.inl rfl)
      · split <;> exact .inl rfl
    · split
      · unfold capt
        split
        · exact .inl rfl
        · split
          · exact .inr (.inr ⟨_, _, _, _, rfl, by omega, by omega, by omega, m0, m1⟩)
          · exact .inr (.inl rfl)
      · split
        · show Step _ _ (void p o.book)
          unfold void
          split
          · exact .inr (.inr ⟨_, _, _, _, rfl, by omega, by omega, by omega, m0, m1⟩)
          · split
            · exact .inr (.inr ⟨_, _, _, _, rfl, by omega, by omega, by omega, m0, m1⟩)
            · exact .inr (.inl rfl)
        · exact .inl rfl
theorem tot_mv {a : Ac} {fr tg am : Int} (h1 : 0 ≤ fr ∧ fr ≤ 5) (h2 : 0 ≤ tg ∧ tg ≤ 5) (hn : fr ≠ tg) : mvA a fr tg am 0 + mvA a fr tg am 1 + mvA a fr tg am 2 + mvA a fr tg am 3 + mvA a fr tg am 4 + mvA a fr tg am 5 = a 0 + a 1 + a 2 + a 3 + a 4 + a 5 := by
  rcases (by omega : fr = 0 ∨ fr = 1 ∨ fr = 2 ∨ fr = 3 ∨ fr = 4 ∨ fr = 5) with rfl | rfl | rfl | rfl | rfl | rfl <;> rcases (by omega : tg = 0 ∨ tg = 1 ∨ tg = 2 ∨ tg = 3 ∨ tg = 4 ∨ tg = 5) with rfl | rfl | rfl | rfl | rfl | rfl <;> first | exact absurd rfl hn | (simp [mvA, upd]; omega)
theorem tot_step {p' : S} (h : Step b p p') : tot p' = tot p := by
  rcases h with rfl | rfl | ⟨fr, tg, am, e, rfl, h1, h2, h3, _⟩
  · rfl
  · rfl
  · exact tot_mv h1 h2 h3
end
/-- The accounts by the moves. -/
def fld (a : Ac) (l : List Ln) : Ac := l.foldl (fun a x => mvA a x.fr x.tg x.am) a
theorem fld_snoc (a : Ac) (l : List Ln) (x : Ln) : fld a (l ++ [x]) = mvA (fld a l) x.fr x.tg x.am := by simp [fld]
structure His (f0 : Ac) (p : S) : Prop where
  eq : p.a = fld f0 p.l
  pre : ∀ k, ∀ j : Int, 0 ≤ j → j ≤ 5 → 0 ≤ fld f0 (p.l.take k) j ∧ fld f0 (p.l.take k) j ≤ 4398046511104
  shp : ∀ x ∈ p.l, (0 ≤ x.fr ∧ x.fr ≤ 5) ∧ (0 ≤ x.tg ∧ x.tg ≤ 5) ∧ x.fr ≠ x.tg ∧ 0 ≤ x.am ∧ x.am ≤ 1099511627776
theorem his_step {f0 : Ac} {b : Int} {p p' : S} (H : His f0 p) (ho : Ok p') (h : Step b p p') : His f0 p' := by
  rcases h with rfl | rfl | ⟨fr, tg, am, e, rfl, h1, h2, h3, h4, h5⟩
  · exact H
  · exact ⟨H.eq, H.pre, H.shp⟩
  · have e1 : fld f0 (p.l ++ [(⟨b, fr, tg, am⟩ : Ln)]) = mvA p.a fr tg am := by rw [fld_snoc, ← H.eq]
    refine ⟨e1.symm, fun k j j0 j5 => ?_, fun x hx => ?_⟩
    · show 0 ≤ fld f0 ((p.l ++ [(⟨b, fr, tg, am⟩ : Ln)]).take k) j ∧ fld f0 ((p.l ++ [(⟨b, fr, tg, am⟩ : Ln)]).take k) j ≤ _
      by_cases hk : k ≤ p.l.length
      · rw [List.take_append_of_le_length hk]
        exact H.pre k j j0 j5
      · rw [List.take_of_length_le (by simp; omega), e1]
        exact ho.bds j0 j5
    · rcases List.mem_append.1 hx with hx | hx
      · exact H.shp x hx
      · rw [List.mem_singleton] at hx
        subst hx
        exact ⟨h1, h2, h3, h4, h5⟩
theorem his_new {a b c d : Int} (h : mayF a b c d = true) : His (new a b c d).a (new a b c d) := by
  obtain ⟨ha, hb, hc, hd⟩ := mayF_iff.1 h
  refine ⟨rfl, fun k j j0 j5 => ?_, fun x hx => by cases hx⟩
  have e : (new a b c d).l.take k = [] := by simp [new]
  rw [e]
  exact (ok_new ha hb hc hd).bds j0 j5
/-- The funds by their numbers. -/
theorem new_a (a b c d : Int) : (new a b c d).a 0 = a ∧ (new a b c d).a 1 = b ∧ (new a b c d).a 2 = c ∧ (new a b c d).a 3 = d ∧ (new a b c d).a 4 = 0 ∧ (new a b c d).a 5 = 0 := ⟨rfl, rfl, rfl, rfl, rfl, rfl⟩
theorem fcs_at (a b c d : Int) {k : Nat} (hk : k ≤ 3) : (fcs a b c d)[k]? = some (.int .i64 ((new a b c d).a (k : Int))) := by
  rcases (by omega : k = 0 ∨ k = 1 ∨ k = 2 ∨ k = 3) with rfl | rfl | rfl | rfl <;> rfl
theorem mayF_all {a b c d : Int} : mayF a b c d = true ↔ ∀ k : Nat, k ≤ 3 → okF ((new a b c d).a (k : Int)) = true := by
  constructor
  · intro h k hk
    obtain ⟨ha, hb, hc, hd⟩ := mayF_iff.1 h
    rcases (by omega : k = 0 ∨ k = 1 ∨ k = 2 ∨ k = 3) with rfl | rfl | rfl | rfl
    · exact okF_iff.2 ha
    · exact okF_iff.2 hb
    · exact okF_iff.2 hc
    · exact okF_iff.2 hd
  · intro h
    have h0 := h 0 (by omega)
    have h1 := h 1 (by omega)
    have h2 := h 2 (by omega)
    have h3 := h 3 (by omega)
    unfold mayF
    have e0 : okF a = true := h0
    have e1 : okF b = true := h1
    have e2 : okF c = true := h2
    have e3 : okF d = true := h3
    rw [e0, e1, e2, e3]
    rfl
def MyAt (a b c d : Int) (i : Value) (w wr : World) : Prop := ∃ k : Nat, i = .int .i64 k ∧ k ≤ 4 ∧ (∀ j : Nat, j < k → okF ((new a b c d).a (j : Int)) = true) ∧ wr = w
set_option maxHeartbeats 1600000 in
theorem refMayFunds_any (w : World) (a b c d : Int) : Calls Try.prog 27 #[.agg #[.int .i64 a, .int .i64 b, .int .i64 c, .int .i64 d]] w fun e w' => e = .returned (.bool (mayF a b c d)) ∧ Below w.heap.size w w' := by
  obtain ⟨w1, hw1⟩ : ∃ x, x = w.alloc (.cells #[.int .i64 a, .int .i64 b, .int .i64 c, .int .i64 d] 54) := ⟨_, rfl⟩
  have B1 : Hid (Below w.heap.size w w1) := by rw [hw1]; exact (Below.refl _ _).alloc (Nat.le_refl _) _
  have CE : Hid (∀ k : Nat, k ≤ 3 → w1.cell? ⟨w.heap.size, k, none⟩ = some (.int .i64 ((new a b c d).a (k : Int)))) := fun k hk => by
    rw [← fcs_at a b c d hk, hw1]
    exact one_at (heap_alloc_new _ _)
  have st : Hid (MyAt a b c d (.int .i64 0) w1 w1) := ⟨0, rfl, by omega, fun j hj => by omega, rfl⟩
  replace hw1 := Lib.hid hw1
  go_enter Try.func27, Try.ntmps27
  go_upto_region 1 with fail
  rw [← hw1.out]
  go_wp2_with fail
  go_loopw [3] (fun i wr => MyAt a b c d i w1 wr) (fun i _ => 4 - (intOf i).toNat)
  case atStart => exact st.out
  case round =>
    clear st
    obtain ⟨k, rfl, hk, hall, rfl⟩ := hrel
    by_cases h4 : k < 4
    · have c1 := CE.out k (by omega)
      have i1 : (k : Int) < 4 := by omega
      have i0 : (0 : Int) ≤ (k : Int) := by omega
      obtain ⟨x, hx⟩ : ∃ x, x = (new a b c d).a (k : Int) := ⟨_, rfl⟩
      rw [← hx] at c1
      cases ho : okF x with
      | true =>
        obtain ⟨o1, o2⟩ := okF_iff.1 ho
        have d1 : decide (x < 0) = false := decide_eq_false (by omega)
        have d2 : decide (1099511627776 < x) = false := decide_eq_false (by omega)
        have nx : Hid (MyAt a b c d (.int .i64 ((k + 1 : Nat) : Int)) wr wr) := ⟨k + 1, rfl, by omega, fun j hj => by
          by_cases e : j = k
          · rw [e, ← hx]; exact ho
          · exact hall j (by omega), rfl⟩
        clear hall hx ho
        go_wp2
        exact ⟨nx.out, by simp [intOf]; omega⟩
      | false =>
        have F : Hid (mayF a b c d = false) := by
          cases hm : mayF a b c d with
          | false => rfl
          | true =>
            have := mayF_all.1 hm k (by omega)
            rw [← hx, ho] at this
            cases this
        by_cases h0 : x < 0
        · have d1 : decide (x < 0) = true := decide_eq_true h0
          clear hall hx ho
          go_wp2
          go_ret
          rw [F.out]
          exact ⟨rfl, B1.out⟩
        · have d1 : decide (x < 0) = false := decide_eq_false h0
          have d2 : decide (1099511627776 < x) = true := decide_eq_true (by
            refine Decidable.byContradiction fun hn => ?_
            have := okF_iff.2 ⟨(by omega : 0 ≤ x), by omega⟩
            rw [ho] at this
            cases this)
          clear hall hx ho
          go_wp2
          go_ret
          rw [F.out]
          exact ⟨rfl, B1.out⟩
    · obtain rfl : k = 4 := by omega
      have F : Hid (mayF a b c d = true) := mayF_all.2 fun j hj => hall j (by omega)
      clear hall
      go_wp2
      go_ret
      rw [F.out]
      exact ⟨rfl, B1.out⟩

/-! ### an array beside a purse -/
section
variable {B d q : Nat} {X : Nat → Prop} {w0 w w' : World} {p : S}
/-- What X has is written. -/
theorem Ow.side (O : Ow B X w0 w q p) (K : Kq (fun g => g = d) w w') (hX : X d) (hB : B ≤ d) : Ow B X w0 w' q p := by
  obtain ⟨fp, L, hf⟩ := O.ex
  refine ⟨⟨fp, L.keep K.size fun g hg => K.block g (L.size g hg) fun e => (hf g hg).2 (by rw [e]; exact hX), hf⟩, O.be.trans (K.below (fun g hg => by rw [hg]; exact hB) O.bs), Nat.le_trans O.bs K.size, fun g hg => Nat.lt_of_lt_of_le (O.xs g hg) K.size⟩
end
/-- An array of n numbers. -/
structure Sm (w : World) (n sb : Nat) (s : Ac) : Prop where
  lt : sb < w.heap.size
  at_ : ∀ k : Nat, k < n → w.cell? ⟨sb, k, none⟩ = some (.int .i64 (s (k : Int)))
  free : ∀ i, w.frozen? ⟨sb, i, none⟩ = false
section
variable {w w' : World} {n sb : Nat} {s s' : Ac}
theorem Sm.keep (S : Sm w n sb s) (h : w'.heap[sb]? = w.heap[sb]?) : Sm w' n sb s := by
  have e : ∀ i, w'.cell? ⟨sb, i, none⟩ = w.cell? ⟨sb, i, none⟩ := fun i => World.cell?_of_block h
  refine ⟨?_, fun k hk => (e k).trans (S.at_ k hk), fun i => ?_⟩
  · have := Array.getElem?_eq_getElem S.lt
    rw [← h] at this
    exact lt_some this
  · have := S.free i
    unfold World.frozen? at this ⊢
    simp only [h]
    exact this
theorem Sm.below (S : Sm w n sb s) (hb : Below w.heap.size w w') : Sm w' n sb s := S.keep (hb.block _ S.lt)
theorem Sm.set (S : Sm w n sb s) {k : Nat} (hk : k < n) (x : Int) : Sm (w.setCell ⟨sb, k, none⟩ (.int .i64 x)) n sb (upd s (k : Int) x) := by
  rw [set1]
  refine ⟨by rw [(setCells_block sb _ _ w).1]; exact S.lt, fun j hj => ?_, fun i => ?_⟩
  · by_cases h : j = k
    · subst h
      rw [upd_same]
      have := World.cell?_setCells_in sb [.int .i64 x] j w (fun i hi => by
        obtain rfl : i = 0 := by simpa using hi
        rw [Nat.add_zero, S.at_ j hj]; rfl) 0 (by simp)
      simpa using this
    · rw [upd_other (by omega), World.cell?_setCells_out sb _ _ w ⟨sb, j, none⟩ (fun _ _ => by show j < k ∨ k + 1 ≤ j; omega)]
      exact S.at_ j hj
  · rw [World.frozen?_setCells]
    exact S.free i
theorem Sm.ext (S : Sm w n sb s) (h : ∀ k : Nat, k < n → s (k : Int) = s' (k : Int)) : Sm w n sb s' := ⟨S.lt, fun k hk => by rw [← h k hk]; exact S.at_ k hk, S.free⟩
theorem sm_zero (n : Nat) {t : TypeId} (h : w.heap[sb]? = some (.cells (Array.replicate n (.int .i64 0)) t (0, 0))) : Sm w n sb (fun _ => 0) :=
  ⟨lt_some h, fun k hk => by rw [one_at (i := k) h]; simp [hk], fun i => one_free h⟩
end
end Pu
end Go.Proofs.Ytchlbkfkecpodaa
