/- Parts of the claim: StA, StB -/
import Derived.Maps.Ext
import Derived.Maps.OwnSet
import Derived.Maps.RangeWalk
import Derived.Sort.OwnSorted
import Derived.Lib.Hide
import Derived.Laws.ResultCell
import Derived.Deep.CutRange
import Derived.Deep.CutBlock
import Derived.Deep.QuietTactic
import Derived.BigQuiet
import Derived.Test.YtpkdigegkemogaaGreatDoorStMT
import Derived.Test.YtpkdigegkemogaaGreatDoorPkXT
namespace Go.Proofs.YtpkdigegkemogaaGreatDoor
set_option maxRecDepth 100000
open Go.RowKit
open Go.Proofs.YtpkdigegkemogaaGreatDoor.Pk (one_at one_free one_set lt_some grown_set grown_trans grown_refl)
namespace St

structure Kq (S : Nat → Prop) (w w' : World) : Prop where
  os : w'.os = w.os
  tape : w'.tape = w.tape
  output : w'.output = w.output
  size : w.heap.size ≤ w'.heap.size
  block : ∀ g, g < w.heap.size → ¬ S g → w'.heap[g]? = w.heap[g]?
def grq (S : Nat → Prop) (w w' : World) : Nat → Prop := fun g => S g ∨ (w.heap.size ≤ g ∧ g < w'.heap.size)
section
variable {S S' : Nat → Prop} {w w' w1 w2 : World}
theorem Kq.refl (S : Nat → Prop) (w : World) : Kq S w w := ⟨rfl, rfl, rfl, Nat.le_refl _, fun _ _ _ => rfl⟩
theorem Kq.trans (h : Kq S w w1) (k : Kq (grq S w w1) w1 w2) : Kq S w w2 :=
  ⟨k.os.trans h.os, k.tape.trans h.tape, k.output.trans h.output, Nat.le_trans h.size k.size, fun g hg hn =>
    (k.block g (Nat.lt_of_lt_of_le hg h.size) (fun e => by
      rcases e with e | ⟨e, _⟩
      · exact hn e
      · omega)).trans (h.block g hg hn)⟩
theorem Kq.mono (h : Kq S w w') (hs : ∀ g, S g → S' g) : Kq S' w w' := ⟨h.os, h.tape, h.output, h.size, fun g hg hn => h.block g hg fun e => hn (hs g e)⟩
theorem Kq.of_below (h : Below w.heap.size w w') : Kq S w w' := ⟨h.os, h.tape, h.output, h.size, fun g hg _ => h.block g hg⟩
theorem Kq.below {B : Nat} (h : Kq S w w') (hS : ∀ g, S g → B ≤ g) (hB : B ≤ w.heap.size) : Below B w w' :=
  ⟨h.os, h.tape, h.output, h.size, fun g hg => h.block g (by omega) fun e => by have := hS g e; omega⟩
theorem Kq.of_grown {o : Option Nat} (h : w.grownBy w' o) (ho : ∀ g, o = some g → S g) : Kq S w w' :=
  ⟨h.os, h.tape, h.output, h.size, fun g hg hn => h.block g hg fun e => hn (ho g e.symm)⟩
theorem grq_grq (h1 : w.heap.size ≤ w1.heap.size) (h2 : w1.heap.size ≤ w2.heap.size) : grq (grq S w w1) w1 w2 = grq S w w2 := by
  funext g
  unfold grq
  apply propext
  constructor
  · rintro ((h | ⟨h, h'⟩) | ⟨h, h'⟩)
    · exact .inl h
    · exact .inr ⟨h, by omega⟩
    · exact .inr ⟨by omega, h'⟩
  · rintro (h | ⟨h, h'⟩)
    · exact .inl (.inl h)
    · by_cases e : g < w1.heap.size
      · exact .inl (.inr ⟨h, e⟩)
      · exact .inr ⟨by omega, h'⟩
end

def Tl (q n : Nat) (w w' : World) : Prop := ∀ i, n ≤ i → w'.cell? ⟨q, i, none⟩ = w.cell? ⟨q, i, none⟩
structure Kt (q n : Nat) (S : Nat → Prop) (w w' : World) : Prop extends Kq S w w' where
  tail : Tl q n w w'
section
variable {q n : Nat} {S S' : Nat → Prop} {w w' w1 w2 : World}
theorem Kt.trans (h : Kt q n S w w1) (k : Kt q n (grq S w w1) w1 w2) : Kt q n S w w2 := ⟨h.toKq.trans k.toKq, fun i hi => (k.tail i hi).trans (h.tail i hi)⟩
theorem Kt.mono (h : Kt q n S w w') (hs : ∀ g, S g → S' g) : Kt q n S' w w' := ⟨h.toKq.mono hs, h.tail⟩
theorem Kt.self (h : Kt q n S w w1) (k : Kt q n S w1 w2) : Kt q n S w w2 := h.trans (k.mono fun _ e => .inl e)
theorem Kt.of_below (hq : q < w.heap.size) (h : Below w.heap.size w w') : Kt q n S w w' := ⟨.of_below h, fun _ _ => World.cell?_of_block (h.block q hq)⟩
theorem Kt.of_grown {o : Option Nat} (hq : q < w.heap.size) (hn : some q ≠ o) (h : w.grownBy w' o) (ho : ∀ g, o = some g → S g) : Kt q n S w w' := ⟨.of_grown h ho, fun _ _ => World.cell?_of_block (h.block q hq hn)⟩
theorem Kt.heap (h : Kt q n S w w1) (e1 : w2.os = w1.os) (e2 : w2.tape = w1.tape) (e3 : w2.output = w1.output) (e4 : w2.heap = w1.heap) : Kt q n S w w2 :=
  ⟨⟨e1.trans h.os, e2.trans h.tape, e3.trans h.output, by rw [e4]; exact h.size, fun g hg hn => by rw [e4]; exact h.block g hg hn⟩, fun i hi => (World.cell?_of_block (by rw [e4])).trans (h.tail i hi)⟩
end

def cell (e : E) : Value := .agg #[.int .i64 e.st, .int .i64 e.un, .int .i64 e.ut, .int .i64 0, .int .i64 0]
def Rdv (v : Value) : Option (DataW Value × List MemPlace) := some (.held v, [])
abbrev lk (k : Int) : Lit := .int .i64 k
theorem law : Maps.Keyed Tryz.prog 3 := Maps.int_keyed Tryz.underlying3
theorem zero_entry (w : World) : (zeroValue 37).run Tryz.prog w = .ok (cell ez) w := by kernel_rfl
def Bd (k : Int) : Prop := -9223372036854775808 ≤ k ∧ k ≤ 9223372036854775807
theorem wf_of {k : Int} (h : Bd k) : (Lit.int .i64 k).wf = true := by
  obtain ⟨h1, h2⟩ := h
  simp [Lit.wf, IntKind.min, IntKind.max, IntKind.signed, IntKind.bits]
  omega
theorem key_of {k : Int} (h : Bd k) : keyOf Tryz.prog 3 (.int .i64 k) = some (lk k) := Maps.keyOf_int_mk Tryz.underlying3 (wf_of h)
theorem lit_key {k : Int} (h : Bd k) : WideAt.IsKeyLit (lk k) := law.key (key_of h)
theorem lk_ne {a b : Int} (h : a ≠ b) : lk a ≠ lk b := fun e => h (by injection e)
theorem lk_same (a b : Int) : Lit.sameKey (lk a) (lk b) = decide (a = b) := by
  by_cases e : a = b
  · subst e; simp [Lit.sameKey]
  · rw [Maps.sameKey_ne (lk_ne e)]; simp [e]
structure Tie (D : DataW Value) (f : F) : Prop where
  tidy : Maps.Tidy D
  has : ∀ k : Int, Maps.has D (lk k) = pre (f k)
  at_ : ∀ k : Int, (f k).st ≠ 0 → ∀ z, D.atKey (lk k) z = .held (cell (f k))
  size : (Maps.size D : Int) = cnt f
theorem Tie.start : Tie (.map [] : DataW Value) fz := ⟨Maps.tidy_empty, fun k => by simp [Maps.has_eq, pre, fz, ez], fun k h => absurd rfl h, by rw [cnt_z]; rfl⟩
theorem Tie.few {D : DataW Value} {f : F} (T : Tie D f) : Maps.size D ≤ 200 := by
  have := T.size
  have := cnt_le f
  omega
theorem Tie.put {D : DataW Value} {f : F} {b : Int} {e : E} (T : Tie D f) (h1 : 1 ≤ b) (h2 : b ≤ 200) (he : e.st ≠ 0) : Tie (D.put (lk b) (.held (cell e))) (upd f b e) := by
  have hb : Bd b := ⟨by omega, by omega⟩
  refine ⟨T.tidy.put (lit_key hb) _, fun k => ?_, fun k hk z => ?_, ?_⟩
  · by_cases h : k = b
    · subst h
      rw [Maps.has_put_same T.tidy.isMap (lit_key hb), upd_same]
      simp [pre, he]
    · rw [Maps.has_put_other (lk_ne h), upd_other h, T.has]
  · by_cases h : k = b
    · subst h
      rw [Maps.atKey_put_same T.tidy.isMap (lit_key hb), upd_same]
    · rw [upd_other h] at hk ⊢
      rw [Maps.atKey_put_other (lk_ne h), T.at_ k hk]
  · rw [Maps.size_put T.tidy, cnt_upd f e h1 h2, T.has, if_neg he]
    have := T.size
    unfold pre
    by_cases h0 : (f b).st = 0
    · simp [h0]; omega
    · simp [h0]; omega
theorem Tie.look {D : DataW Value} {f : F} (T : Tie D f) (hz : ∀ k, (f k).st = 0 → f k = ez) (k : Int) : D.atKey (lk k) (.held (cell ez)) = .held (cell (f k)) := by
  by_cases h : (f k).st = 0
  · rw [Maps.atKey_of_not_has (by rw [T.has]; simp [pre, h]), hz k h]
  · exact T.at_ k h _
def MapIs (w : World) (mo : Option Nat) (f : F) : Prop := (mo = none ∧ f = fz) ∨ ∃ m D, mo = some m ∧ w.ownsMap Tryz.prog 3 Rdv m 200 D ∧ Tie D f
theorem owns_less {w : World} {m n : Nat} {D : DataW Value} {f : F} (h : w.ownsMap Tryz.prog 3 Rdv m n D) (T : Tie D f) : w.ownsMap Tryz.prog 3 Rdv m 200 D := by
  have hf := T.few
  obtain ⟨es, clock, hb, F, _, hD⟩ := h
  refine ⟨es, clock, hb, F, ?_, hD⟩
  rw [hD] at hf
  simp [Maps.size, length_sorted] at hf
  exact hf
theorem owns_keep {w w' : World} {m n : Nat} {D : DataW Value} (h : w.ownsMap Tryz.prog 3 Rdv m n D) (hk : w'.heap[m]? = w.heap[m]?) : w'.ownsMap Tryz.prog 3 Rdv m n D := by
  obtain ⟨es, clock, hb, r⟩ := h
  exact ⟨es, clock, hk.trans hb, r⟩
theorem MapIs.keep {w w' : World} {mo : Option Nat} {f : F} (h : MapIs w mo f) (hk : ∀ m, mo = some m → w'.heap[m]? = w.heap[m]?) : MapIs w' mo f := by
  rcases h with h | ⟨m, D, e, h, T⟩
  · exact .inl h
  · exact .inr ⟨m, D, e, owns_keep h (hk m e), T⟩
theorem map_block {w : World} {m N : Nat} {D : DataW Value} (h : w.ownsMap Tryz.prog 3 Rdv m N D) : ∃ es clock, w.heap[m]? = some (.map es clock) := by
  obtain ⟨es, clock, hb, _⟩ := h
  exact ⟨es, clock, hb⟩
theorem ne_map {w : World} {m N g : Nat} {D : DataW Value} {cs : Array Value} {t : TypeId} {fr : Nat × Nat} (h : w.ownsMap Tryz.prog 3 Rdv m N D) (hg : w.heap[g]? = some (.cells cs t fr)) : g ≠ m := by
  rintro rfl
  obtain ⟨es, clock, hb⟩ := map_block h
  rw [hb] at hg
  injection hg with hg
  cases hg

structure Hb (w : World) (q : Nat) (cap over : Int) (mo : Option Nat) : Prop where
  blk : ∃ cs ty, w.heap[q]? = some (.cells cs ty (0, 0)) ∧ cs[0]? = some (.int .i64 cap) ∧ cs[1]? = some (.int .i64 over) ∧ cs[2]? = some (.map mo)
section
variable {w w' : World} {q : Nat} {cap over : Int} {mo : Option Nat}
theorem Hb.c0 (H : Hb w q cap over mo) : w.cell? ⟨q, 0, none⟩ = some (.int .i64 cap) := by
  obtain ⟨cs, ty, h, h0, _, _⟩ := H.blk
  exact (one_at h).trans h0
theorem Hb.c1 (H : Hb w q cap over mo) : w.cell? ⟨q, 1, none⟩ = some (.int .i64 over) := by
  obtain ⟨cs, ty, h, _, h0, _⟩ := H.blk
  exact (one_at h).trans h0
theorem Hb.c2 (H : Hb w q cap over mo) : w.cell? ⟨q, 2, none⟩ = some (.map mo) := by
  obtain ⟨cs, ty, h, _, _, h0⟩ := H.blk
  exact (one_at h).trans h0
theorem Hb.free (H : Hb w q cap over mo) (i : Nat) : w.frozen? ⟨q, i, none⟩ = false := by
  obtain ⟨cs, ty, h, _⟩ := H.blk
  exact one_free h
theorem Hb.lt (H : Hb w q cap over mo) : q < w.heap.size := by
  obtain ⟨cs, ty, h, _⟩ := H.blk
  exact lt_some h
theorem Hb.keep (H : Hb w q cap over mo) (e : w'.heap[q]? = w.heap[q]?) : Hb w' q cap over mo := by
  obtain ⟨cs, ty, h, r⟩ := H.blk
  exact ⟨cs, ty, e.trans h, r⟩
theorem Hb.of_row {ty : TypeId} {l : List Value} (h : w.heap[q]? = some (.cells (.int .i64 cap :: .int .i64 over :: .map mo :: l).toArray ty (0, 0))) : Hb w q cap over mo :=
  ⟨_, ty, h, by simp, by simp, by simp⟩
theorem Hb.ne_map {m N : Nat} {D : DataW Value} (H : Hb w q cap over mo) (h : w.ownsMap Tryz.prog 3 Rdv m N D) : q ≠ m := by
  obtain ⟨cs, ty, hb, _⟩ := H.blk
  exact St.ne_map h hb
theorem Hb.set (H : Hb w q cap over mo) (mo' : Option Nat) : Hb (w.setCell ⟨q, 2, none⟩ (.map mo')) q cap over mo' := by
  obtain ⟨cs, ty, h, h0, h1, h2⟩ := H.blk
  have h3 : 2 < cs.size := (Array.getElem?_eq_some_iff.1 h2).1
  refine ⟨_, ty, one_set h _, ?_, ?_, ?_⟩
  · rw [Array.getElem?_setIfInBounds_ne (by decide)]; exact h0
  · rw [Array.getElem?_setIfInBounds_ne (by decide)]; exact h1
  · rw [Array.getElem?_setIfInBounds_self_of_lt h3]
theorem Hb.tail (H : Hb w q cap over mo) (u : Value) : Tl q 3 w (w.setCell ⟨q, 2, none⟩ u) := fun i hi => by
  obtain ⟨cs, ty, h, _⟩ := H.blk
  rw [one_at (one_set h _), one_at h, Array.getElem?_setIfInBounds_ne (by omega)]
end
structure Led (w : World) (q : Nat) (cap over : Int) (f : F) (fp : Nat → Prop) : Prop where
  ok : Ok cap over f
  pin : fp q
  size : ∀ g, fp g → g < w.heap.size
  at_ : ∃ mo, Hb w q cap over mo ∧ MapIs w mo f ∧ ∀ m, mo = some m → fp m
def LTo (w : World) (q : Nat) (cap over : Int) (fp : Nat → Prop) (f : F) (w' : World) : Prop := Led w' q cap over f (grq fp w w') ∧ Kt q 3 fp w w'
section
variable {w w' w1 w2 : World} {q : Nat} {cap over : Int} {f f' : F} {fp fp' : Nat → Prop}
theorem Led.keep (L : Led w q cap over f fp) (hs : w.heap.size ≤ w'.heap.size) (hk : ∀ g, fp g → w'.heap[g]? = w.heap[g]?) : Led w' q cap over f fp := by
  obtain ⟨mo, h1, h2, h3⟩ := L.at_
  exact ⟨L.ok, L.pin, fun g hg => Nat.lt_of_lt_of_le (L.size g hg) hs, mo, h1.keep (hk q L.pin), h2.keep fun m e => hk m (h3 m e), h3⟩
theorem Led.below (L : Led w q cap over f fp) (hb : Below w.heap.size w w') : Led w' q cap over f fp := L.keep hb.size fun g hg => hb.block g (L.size g hg)
theorem Led.mono (L : Led w q cap over f fp) (hf : ∀ g, fp g → fp' g) (hs : ∀ g, fp' g → g < w.heap.size) : Led w q cap over f fp' := by
  obtain ⟨mo, h1, h2, h3⟩ := L.at_
  exact ⟨L.ok, hf q L.pin, hs, mo, h1, h2, fun m e => hf m (h3 m e)⟩
theorem LTo.of_below (L : Led w q cap over f fp) (hb : Below w.heap.size w w') : LTo w q cap over fp f w' :=
  ⟨(L.below hb).mono (fun _ h => .inl h) fun g hg => by
    rcases hg with hg | ⟨_, hg⟩
    · exact Nat.lt_of_lt_of_le (L.size g hg) hb.size
    · exact hg, .of_below (L.size q L.pin) hb⟩
theorem LTo.trans (h : LTo w q cap over fp f w1) (k : LTo w1 q cap over (grq fp w w1) f' w2) : LTo w q cap over fp f' w2 := by
  obtain ⟨k1, k2⟩ := k
  rw [grq_grq h.2.size k2.size] at k1
  exact ⟨k1, h.2.trans k2⟩
theorem Led.cells (L : Led w q cap over f fp) : w.cell? ⟨q, 0, none⟩ = some (.int .i64 cap) ∧ w.cell? ⟨q, 1, none⟩ = some (.int .i64 over) ∧ ∃ mo, w.cell? ⟨q, 2, none⟩ = some (.map mo) := by
  obtain ⟨mo, h1, _⟩ := L.at_
  exact ⟨h1.c0, h1.c1, mo, h1.c2⟩
theorem Led.lt (L : Led w q cap over f fp) : q < w.heap.size := L.size q L.pin
end
theorem look_run (w : World) (mo : Option Nat) (f : F) (k : Int) (h : MapIs w mo f) (hz : ∀ k, (f k).st = 0 → f k = ez) (hk : Bd k) :
    (Instr.lookup 158 (.map mo) (.int .i64 k) false).run Tryz.prog w = .ok (cell (f k)) w := by
  rcases h with ⟨rfl, rfl⟩ | ⟨m, D, rfl, h, T⟩
  · exact Maps.look_nil false law Tryz.underlying158 (zero_entry w) (key_of hk)
  · obtain ⟨v, ps, hrun, hv⟩ := h.lookup law Tryz.underlying158 (zero_entry w) (zd := .held (cell ez)) (zp := []) rfl (key_of hk)
    rw [T.look hz k] at hv
    injection hv with hv
    injection hv with hv _
    injection hv with hv
    rw [hrun, hv]
theorem Led.zero {w : World} {q : Nat} {cap over : Int} {f : F} {fp : Nat → Prop} (L : Led w q cap over f fp) : ∀ k, (f k).st = 0 → f k = ez := fun k h => (L.ok.shp k).zero h
end St
end Go.Proofs.YtpkdigegkemogaaGreatDoor
namespace Go.Proofs.YtpkdigegkemogaaGreatDoor
set_option maxRecDepth 100000
open Go.RowKit
open Go.Proofs.YtpkdigegkemogaaGreatDoor.Pk (one_at one_free one_set lt_some grown_set grown_trans grown_refl)
namespace St

def inb (n hi : Int) : Bool := decide (0 ≤ n) && decide (n ≤ hi)
set_option maxHeartbeats 400000 in
theorem mayRoom_any (w : World) (n : Int) : Calls Tryz.prog 114 #[.int .i64 n] w fun e w' => e = .returned (.bool (inb n 1000000)) ∧ w = w' := by
  unfold inb
  obtain ⟨c, hc⟩ : ∃ c, c = decide (n ≤ 1000000) := ⟨_, rfl⟩
  rcases Bool.eq_false_or_eq_true (decide (0 ≤ n)) with h | h
  all_goals
    rw [h, ← hc]
    have h2 := hc.symm
    clear hc
    go_enter Tryz.func114, Tryz.ntmps114
    go_wp2
    go_ret
    exact ⟨rfl, rfl⟩
set_option maxHeartbeats 400000 in
theorem mayTick_any (w : World) (n : Int) : Calls Tryz.prog 84 #[.int .i64 n] w fun e w' => e = .returned (.bool (tick n)) ∧ w = w' := by
  unfold tick
  obtain ⟨c, hc⟩ : ∃ c, c = decide (n ≤ 1099511627776) := ⟨_, rfl⟩
  rcases Bool.eq_false_or_eq_true (decide (0 ≤ n)) with h | h
  all_goals
    rw [h, ← hc]
    have h2 := hc.symm
    clear hc
    go_enter Tryz.func84, Tryz.ntmps84
    go_wp2
    go_ret
    exact ⟨rfl, rfl⟩
set_option maxHeartbeats 400000 in
theorem isOver_any (w : World) (e : E) (now : Int) : Calls Tryz.prog 120 #[cell e, .int .i64 now] w fun r w' => r = .returned (.bool (ovr now e)) ∧ Below w.heap.size w w' := by
  obtain ⟨a, u, t⟩ := e
  unfold ovr cell
  simp only
  have HB : Hid (Below w.heap.size w (w.alloc (.cells #[.int .i64 a, .int .i64 u, .int .i64 t, .int .i64 0, .int .i64 0] 37))) := (Below.refl _ _).alloc (Nat.le_refl _) _
  obtain ⟨c, hc⟩ : ∃ c, c = decide (t ≤ now) := ⟨_, rfl⟩
  rcases Bool.eq_false_or_eq_true (decide (a = 1)) with h | h
  all_goals
    rw [h, ← hc]
    have h2 := hc.symm
    have h3 : (a == 1) = decide (a = 1) := rfl
    rw [h] at h3
    clear hc h
    go_enter Tryz.func120, Tryz.ntmps120
    go_wp2
    go_ret
    exact ⟨rfl, HB.out⟩
theorem entry_info : (Tryz.prog.info? 37).map (·.size) = some 5 := by kernel_rfl
theorem entry_results : Tryz.f62.results = #[.cell 4 37] := by kernel_rfl
set_option maxHeartbeats 400000 in
theorem entry_any (w : World) (q : Nat) (cap over : Int) (f : F) (fp : Nat → Prop) (L : Led w q cap over f fp) (k : Int) (hk : Bd k) :
    Calls Tryz.prog 62 #[.pointer (some ⟨q, 0, none⟩), .int .i64 k] w fun e w' => e = .returned (cell (f k)) ∧ Below w.heap.size w w' := by
  have HB : ∀ cs t, Hid (Below w.heap.size w (w.alloc (.cells cs t))) := fun cs t => (Below.refl _ _).alloc (Nat.le_refl _) _
  obtain ⟨mo, h1, h2, h3⟩ := (L.below (HB #[.int .i64 0, .int .i64 0, .int .i64 0, .int .i64 0, .int .i64 0] 37).out).at_
  have c2 := h1.c2
  have LK := look_run _ mo f k h2 L.zero hk
  unfold cell at LK ⊢
  obtain ⟨a, ha⟩ : ∃ a, a = (f k).st := ⟨_, rfl⟩
  obtain ⟨u, hu⟩ : ∃ a, a = (f k).un := ⟨_, rfl⟩
  obtain ⟨t, ht⟩ : ∃ a, a = (f k).ut := ⟨_, rfl⟩
  rw [← ha, ← hu, ← ht] at LK ⊢
  clear ha hu ht h1 h2 h3 L
  go_enter Tryz.func62, Tryz.ntmps62
  go_wp2
  refine bodyPost_ret (results_cell_row entry_results _ _ w.heap.size 37 #[.int .i64 a, .int .i64 u, .int .i64 t, .int .i64 0, .int .i64 0] (0, 0) _ rfl (heap_alloc_new _ _) Tryz.underlying37 rfl entry_info) rfl ?_
  exact ⟨rfl, (HB _ _).out⟩

theorem below_of_grown {w w' : World} {B : Nat} {row : Option Nat} (hg : w.grownBy w' row) (hB : B ≤ w.heap.size) (hr : ∀ i, row = some i → B ≤ i) : Below B w w' :=
  ⟨hg.os, hg.tape, hg.output, hg.size, fun g hlt => hg.block g (Nat.lt_of_lt_of_le hlt hB) fun e => by have := hr g e.symm; omega⟩
structure Rg (w : World) (b r : Nat) (D : DataW Value) (f : F) (L : Int → Bool) : Prop where
  at_ : ∃ left cnt, w.ranges Tryz.prog 3 Rdv b r 200 D left cnt ∧ ∀ k, L k = left (lk k)
  in_ : ∀ k, L k = true → pre (f k) = true
section
variable {w w' : World} {b r : Nat} {D : DataW Value} {f : F} {L : Int → Bool}
theorem Rg.keep (R : Rg w b r D f L) {row : Option Nat} (hg : w.grownBy w' row) (hb : some b ≠ row) (hr : some r ≠ row) : Rg w' b r D f L := by
  obtain ⟨left, cnt, h, e⟩ := R.at_
  exact ⟨⟨left, cnt, h.kept hg hb hr, e⟩, R.in_⟩
theorem Rg.lt (R : Rg w b r D f L) : r < w.heap.size ∧ b < w.heap.size := by
  obtain ⟨left, cnt, h, e⟩ := R.at_
  exact ⟨h.lt, h.owns.lt⟩
theorem pre_inn {cap over : Int} (O : Ok cap over f) {k : Int} (h : pre (f k) = true) : 1 ≤ k ∧ k ≤ 200 := (O.shp k).inn (by simpa [pre] using h)
variable {ops : Array Oper} {rest : List Oper} {o : Oper} {a : Act} {Q : Exit → Act → World → Prop}
theorem wpList_range_led (hg : o.guard = none) (m : Operand) (t : TypeId) (hop : o.op = Op.range t m) (e : TypeId) (ht : Tryz.prog.underlying t = some (.map 3 e)) (f : F) (D : DataW Value)
    (hm : a.eval m = .map (some b)) (hown : w.ownsMap Tryz.prog 3 Rdv b 200 D) (T : Tie D f)
    (hK : ∀ w', Rg w' b w.heap.size D f (fun k => pre (f k)) → w.grownBy w' none → w'.heap.size = w.heap.size + 1 → wpList Tryz.prog ops Q rest (a.put o.dst (.pointer (some ⟨w.heap.size, 0, none⟩))) w') :
    wpList Tryz.prog ops Q (o :: rest) a w :=
  wpList_range_own w hg m t hop 3 e law ht Rdv b 200 D hm hown fun w' h1 h2 h3 => hK w' ⟨⟨_, _, h1, fun k => (T.has k).symm⟩, fun _ h => h⟩ h2 h3
theorem wpList_next_led (hg : o.guard = none) (it : Operand) (hop : o.op = Op.next it false) (b r : Nat) (D : DataW Value) (f : F) (L : Int → Bool)
    (hit : a.eval it = .pointer (some ⟨r, 0, none⟩)) (h : Rg w b r D f L) (T : Tie D f) (hin : ∀ k, pre (f k) = true → 1 ≤ k ∧ k ≤ 200)
    (hDone : (∀ k, L k = false) → wpList Tryz.prog ops Q rest (a.put o.dst (.tuple #[.bool false])) w)
    (hMore : ∀ (x s u t : Int) (w' : World), 1 ≤ x → x ≤ 200 → L x = true → f x = ⟨s, u, t⟩ → Rg w' b r D f (fun k => L k && !decide (k = x)) → w'.rangeLeft b r < w.rangeLeft b r → w.grownBy w' (some r) → w'.heap.size = w.heap.size →
      (Instr.entry (.pointer (some ⟨r, 0, none⟩))).run Tryz.prog w' = .ok (.tuple #[.int .i64 x, .agg #[.int .i64 s, .int .i64 u, .int .i64 t, .int .i64 0, .int .i64 0]]) w' →
      wpList Tryz.prog ops Q rest (a.put o.dst (.tuple #[.bool true, .int .i64 x, .agg #[.int .i64 s, .int .i64 u, .int .i64 t, .int .i64 0, .int .i64 0]])) w') :
    wpList Tryz.prog ops Q (o :: rest) a w := by
  refine wpList_plain hg fun K' hK' => ?_
  unfold Oper.wp
  obtain ⟨left, cnt, hrg, hL⟩ := h.at_
  rcases hrg.next law o.type with ⟨h0, hl, hrun⟩ | ⟨key, v, kl, y, w', cnt', hkey, hlk, hv, hat, hrun, hrg', hlt, hgr, hsz, hen⟩
  · simp [execOp, hop, hit, hrun, Result.andThen]
    exact hK' _ _ (hDone fun k => by rw [hL k, hl])
  · obtain ⟨x, rfl, rfl, _⟩ := Maps.keyOf_int_inv Tryz.underlying3 hkey
    have hx : L x = true := (hL x).trans hlk
    have hp := h.in_ x hx
    obtain ⟨r1, r2⟩ := hin x hp
    have hv' : v = cell (f x) := by
      injection hv with hv
      have h1 := hat (.held v)
      rw [T.at_ x (by simpa [pre] using hp)] at h1
      rw [← hv] at h1
      injection h1 with h1
      exact h1.symm
    simp [execOp, hop, hit, hrun, Result.andThen]
    obtain ⟨⟨s, u, t⟩, hf⟩ : ∃ z, z = f x := ⟨_, rfl⟩
    rw [← hf] at hv'
    subst hv'
    refine hK' _ _ (hMore x s u t w' r1 r2 hx hf.symm ⟨⟨_, _, hrg', fun k => ?_⟩, fun k hk => h.in_ k ?_⟩ (by rw [hrg'.left_eq, hrg.left_eq]; exact hlt) hgr hsz hen)
    · rw [hL k, lk_same]
    · simp only [Bool.and_eq_true] at hk
      exact hk.1
end
set_option maxHeartbeats 800000 in
theorem units_none (w : World) (q : Nat) (s : Int) (c2 : w.cell? ⟨q, 2, none⟩ = some (.map none)) : Calls Tryz.prog 165 #[.pointer (some ⟨q, 0, none⟩), .int .i64 s] w fun e w' => e = .returned (.int .i64 0) ∧ Below w.heap.size w w' := by
  have hrg := run_range_nilMap (P := Tryz.prog) w 158 3 37 Tryz.underlying158
  have hnx : ∀ ty, (Instr.next (.pointer (some ⟨w.heap.size, 0, none⟩)) false ty).run Tryz.prog (w.alloc (.mapIter none 0 #[] 0)) = _ := fun ty => run_next_nilMap w ty 0 0 #[]
  have HB : Hid (Below w.heap.size w (w.alloc (.mapIter none 0 #[] 0))) := (Below.refl _ _).alloc (Nat.le_refl _) _
  go_enter Tryz.func165, Tryz.ntmps165
  go_wp2
  refine wp_loop_rounds 1 ?_
  rw [rounds_succ]
  go_wp2
  go_ret
  exact ⟨rfl, HB.out⟩
set_option maxHeartbeats 1600000 in
theorem units_some (w : World) (q m : Nat) (s cap over : Int) (f : F) (D : DataW Value) (c2 : w.cell? ⟨q, 2, none⟩ = some (.map (some m))) (hown : w.ownsMap Tryz.prog 3 Rdv m 200 D) (T : Tie D f) (O : Ok cap over f) (hs : s = 1 ∨ s = 2) :
    Calls Tryz.prog 165 #[.pointer (some ⟨q, 0, none⟩), .int .i64 s] w fun e w' => e = .returned (.int .i64 (uni s f)) ∧ Below w.heap.size w w' := by
  have hin : Hid (∀ k, pre (f k) = true → 1 ≤ k ∧ k ≤ 200) := fun k h => pre_inn O h
  have hT := Lib.hid T
  have hO := Lib.hid O
  have hm := hown.lt
  replace hs := Lib.hid hs
  clear T O
  go_enter Tryz.func165, Tryz.ntmps165
  go_wp2_with (first
    | (at_range; refine wpList_range_led rfl _ 158 rfl 37 Tryz.underlying158 f D rfl hown hT.out ?_; intro w0 hrg0 hg0 hs0)
    | go_in)
  go_frame
  go_loopw [5] (fun v wr => ∃ L, v = .int .i64 (so s f L) ∧ Rg wr m w.heap.size D f L ∧ Below w.heap.size w wr) (fun _ wr => wr.rangeLeft m w.heap.size)
  case atStart => exact ⟨_, by rw [so_start (fun k hk => (hO.out.shp k).zero (by simpa [pre] using hk))], hrg0, below_of_grown hg0 (Nat.le_refl _) (fun i h => by cases h)⟩
  case round =>
    clear hrg0 hg0 hs0
    obtain ⟨L, rfl, hrg, hb⟩ := hrel
    have hA := so_bds hO.out hs.out L
    obtain ⟨A, hAe⟩ : ∃ A, A = so s f L := ⟨_, rfl⟩
    rw [← hAe] at hA ⊢
    obtain ⟨hA0, hA1⟩ := hA
    replace hAe := Lib.hid hAe
    replace hb := Lib.hid hb
    go_wp2_with (first
      | (at_next; refine wpList_next_led rfl _ rfl m w.heap.size D f L rfl hrg hT.out hin.out ?_ ?_)
      | go_in)
    · intro hl
      go_wp2
      go_ret
      refine ⟨?_, hb.out⟩
      rw [hAe.out, so_end hl]
      rfl
    · intro x st u t w1 x1 x2 hlx hf hrg1 hlt hg1 hs1 hen
      have hsh := (hO.out.shp x).bds
      have hst := so_step (s := s) (f := f) hlx (left' := fun k => L k && !decide (k = x)) (fun _ => rfl) ⟨x1, x2⟩
      rw [hf] at hsh hst
      obtain ⟨-, -, u0, u1, -, -⟩ := hsh
      replace u0 : 0 ≤ u := u0
      replace u1 : u ≤ 1000 := u1
      rw [← hAe.out] at hst
      have hB1 : Hid (∀ o, Below w.heap.size w (w1.alloc o)) := fun o => (hb.out.trans (below_of_grown hg1 hb.out.size (fun i h => by injection h with h; omega))).alloc (Nat.le_trans hb.out.size hg1.size) _
      have hR1 : Hid (∀ o, Rg (w1.alloc o) m w.heap.size D f (fun k => L k && !decide (k = x))) := fun o => hrg1.keep (World.grownBy_alloc _ _ none) (by simp) (by simp)
      have hM1 : Hid (∀ o, (w1.alloc o).rangeLeft m w.heap.size < wr.rangeLeft m w.heap.size) := fun o => by
        have e : (w1.alloc o).rangeLeft m w.heap.size = w1.rangeLeft m w.heap.size := by
          obtain ⟨left, cnt, h, _⟩ := hrg1.at_
          rw [h.left_eq, (h.alloc o).left_eq]
        rw [e]; exact hlt
      unfold hu at hst
      replace hst := Lib.hid hst
      clear hrg1 hlt hg1 hs1 hf hlx hrg
      go_wp2
      · go_roundw
        case rel => exact ⟨_, by rw [hst.out]; simp_all, hR1.out _, hB1.out _⟩
        case measure => exact hM1.out _
      · go_roundw
        case rel => exact ⟨_, by rw [hst.out]; simp_all, hR1.out _, hB1.out _⟩
        case measure => exact hM1.out _
theorem units_any (w : World) (q : Nat) (cap over : Int) (f : F) (fp : Nat → Prop) (L : Led w q cap over f fp) (s : Int) (hs : s = 1 ∨ s = 2) :
    Calls Tryz.prog 165 #[.pointer (some ⟨q, 0, none⟩), .int .i64 s] w fun e w' => e = .returned (.int .i64 (uni s f)) ∧ Below w.heap.size w w' := by
  obtain ⟨mo, h1, h2, h3⟩ := L.at_
  rcases h2 with ⟨rfl, hf⟩ | ⟨m, D, rfl, ho, T⟩
  · rw [hf, uni_z]
    exact units_none w q s (h1.c2)
  · exact units_some w q m s cap over f D (h1.c2) ho T L.ok hs
end St
end Go.Proofs.YtpkdigegkemogaaGreatDoor
