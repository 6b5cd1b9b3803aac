/- A ledger in memory: its map, its cells; what is kept while others are written. -/
import Derived.Test.YtnjcdlenpcpjaaaStM
import Derived.Test.YtnjcdlenpcpjaaaPk5
import Derived.Maps.Ext
import Derived.Maps.OwnSet
import Derived.Maps.RangeWalk
import Derived.Sort.OwnSorted
import Derived.Lib.Hide
import Derived.Laws.ResultCell
namespace Go.Proofs.Ytnjcdlenpcpjaaa
set_option maxRecDepth 100000
open Go.RowKit
open Go.Proofs.Ytnjcdlenpcpjaaa.Pk (one_at one_free one_set lt_some grown_set grown_trans below_grown grown_refl)
namespace St

/-- All but the blocks S, and what is new, is as it was. -/
structure Kq (S : Nat → Prop) (w w' : World) : Prop where
  os : w'.os = w.os
  tape : w'.tape = w.tape
  output : w'.output = w.output
  size : w.heap.size ≤ w'.heap.size
  block : ∀ g, g < w.heap.size → ¬ S g → w'.heap[g]? = w.heap[g]?
def grq (S : Nat → Prop) (w w' : World) : Nat → Prop := fun g => S g ∨ (w.heap.size ≤ g ∧ g < w'.heap.size)
section
variable {S S' : Nat → Prop} {w w' w1 w2 : World}
theorem Kq.refl (S : Nat → Prop) (w : World) : Kq S w w := ⟨rfl, rfl, rfl, Nat.le_refl _, fun _ _ _ => rfl⟩
theorem Kq.trans (h : Kq S w w1) (k : Kq (grq S w w1) w1 w2) : Kq S w w2 :=
  ⟨k.os.trans h.os, k.tape.trans h.tape, k.output.trans h.output, Nat.le_trans h.size k.size, fun g hg hn =>
    (k.block g (Nat.lt_of_lt_of_le hg h.size) (fun e => by
      rcases e with e | ⟨e, _⟩
      · exact hn e
      · omega)).trans (h.block g hg hn)⟩
theorem Kq.mono (h : Kq S w w') (hs : ∀ g, S g → S' g) : Kq S' w w' := ⟨h.os, h.tape, h.output, h.size, fun g hg hn => h.block g hg fun e => hn (hs g e)⟩
theorem Kq.of_below (h : Below w.heap.size w w') : Kq S w w' := ⟨h.os, h.tape, h.output, h.size, fun g hg _ => h.block g hg⟩
theorem Kq.below {B : Nat} (h : Kq S w w') (hS : ∀ g, S g → B ≤ g) (hB : B ≤ w.heap.size) : Below B w w' :=
  ⟨h.os, h.tape, h.output, h.size, fun g hg => h.block g (by omega) fun e => by have := hS g e; omega⟩
theorem Kq.of_grown {o : Option Nat} (h : w.grownBy w' o) (ho : ∀ g, o = some g → S g) : Kq S w w' :=
  ⟨h.os, h.tape, h.output, h.size, fun g hg hn => h.block g hg fun e => hn (ho g e.symm)⟩
theorem grq_grq (h1 : w.heap.size ≤ w1.heap.size) (h2 : w1.heap.size ≤ w2.heap.size) : grq (grq S w w1) w1 w2 = grq S w w2 := by
  funext g
  unfold grq
  apply propext
  constructor
  · rintro ((h | ⟨h, h'⟩) | ⟨h, h'⟩)
    · exact .inl h
    · exact .inr ⟨h, by omega⟩
    · exact .inr ⟨by omega, h'⟩
  · rintro (h | ⟨h, h'⟩)
    · exact .inl (.inl h)
    · by_cases e : g < w1.heap.size
      · exact .inl (.inr ⟨h, e⟩)
      · exact .inr ⟨by omega, h'⟩
end

/-! ### the map -/
def cell (e : E) : Value := .agg #[.int .i64 e.st, .int .i64 e.un, .int .i64 e.ut, .int .i64 0, .int .i64 0]
def Rdv (v : Value) : Option (DataW Value × List MemPlace) := some (.held v, [])
abbrev lk (k : Int) : Lit := .int .i64 k
theorem law : Maps.Keyed Try.prog 3 := Maps.int_keyed Try.underlying3
theorem zero_entry (w : World) : (zeroValue 41).run Try.prog w = .ok (cell ez) w := by kernel_rfl
def Bd (k : Int) : Prop := -9223372036854775808 ≤ k ∧ k ≤ 9223372036854775807
theorem wf_of {k : Int} (h : Bd k) : (Lit.int .i64 k).wf = true := by
  obtain ⟨h1, h2⟩ := h
  simp [Lit.wf, IntKind.min, IntKind.max, IntKind.signed, IntKind.bits]
  omega
theorem key_of {k : Int} (h : Bd k) : keyOf Try.prog 3 (.int .i64 k) = some (lk k) := Maps.keyOf_int_mk Try.underlying3 (wf_of h)
theorem lit_key {k : Int} (h : Bd k) : WideAt.IsKeyLit (lk k) := law.key (key_of h)
theorem lk_ne {a b : Int} (h : a ≠ b) : lk a ≠ lk b := fun e => h (by injection e)
theorem lk_same (a b : Int) : Lit.sameKey (lk a) (lk b) = decide (a = b) := by
  by_cases e : a = b
  · subst e; simp [Lit.sameKey]
  · rw [Maps.sameKey_ne (lk_ne e)]; simp [e]
structure Tie (D : DataW Value) (f : F) : Prop where
  tidy : Maps.Tidy D
  has : ∀ k : Int, Maps.has D (lk k) = pre (f k)
  at_ : ∀ k : Int, (f k).st ≠ 0 → ∀ z, D.atKey (lk k) z = .held (cell (f k))
  size : (Maps.size D : Int) = cnt f
theorem Tie.start : Tie (.map [] : DataW Value) fz := ⟨Maps.tidy_empty, fun k => by simp [Maps.has_eq, pre, fz, ez], fun k h => absurd rfl h, by rw [cnt_z]; rfl⟩
theorem Tie.few {D : DataW Value} {f : F} (T : Tie D f) : Maps.size D ≤ 200 := by
  have := T.size
  have := cnt_le f
  omega
theorem Tie.put {D : DataW Value} {f : F} {b : Int} {e : E} (T : Tie D f) (h1 : 1 ≤ b) (h2 : b ≤ 200) (he : e.st ≠ 0) : Tie (D.put (lk b) (.held (cell e))) (upd f b e) := by
  have hb : Bd b := ⟨by omega, by omega⟩
  refine ⟨T.tidy.put (lit_key hb) _, fun k => ?_, fun k hk z => ?_, ?_⟩
  · by_cases h : k = b
    · subst h
      rw [Maps.has_put_same T.tidy.isMap (lit_key hb), upd_same]
      simp [pre, he]
    · rw [Maps.has_put_other (lk_ne h), upd_other h, T.has]
  · by_cases h : k = b
    · subst h
      rw [Maps.atKey_put_same T.tidy.isMap (lit_key hb), upd_same]
    · rw [upd_other h] at hk ⊢
      rw [Maps.atKey_put_other (lk_ne h), T.at_ k hk]
  · rw [Maps.size_put T.tidy, cnt_upd f e h1 h2, T.has, if_neg he]
    have := T.size
    unfold pre
    by_cases h0 : (f b).st = 0
    · simp [h0]; omega
    · simp [h0]; omega
theorem Tie.look {D : DataW Value} {f : F} (T : Tie D f) (hz : ∀ k, (f k).st = 0 → f k = ez) (k : Int) : D.atKey (lk k) (.held (cell ez)) = .held (cell (f k)) := by
  by_cases h : (f k).st = 0
  · rw [Maps.atKey_of_not_has (by rw [T.has]; simp [pre, h]), hz k h]
  · exact T.at_ k h _
/-- What stands in the field books. -/
def MapIs (w : World) (mo : Option Nat) (f : F) : Prop := (mo = none ∧ f = fz) ∨ ∃ m D, mo = some m ∧ w.ownsMap Try.prog 3 Rdv m 200 D ∧ Tie D f
theorem owns_less {w : World} {m n : Nat} {D : DataW Value} {f : F} (h : w.ownsMap Try.prog 3 Rdv m n D) (T : Tie D f) : w.ownsMap Try.prog 3 Rdv m 200 D := by
  have hf := T.few
  obtain ⟨es, clock, hb, F, _, hD⟩ := h
  refine ⟨es, clock, hb, F, ?_, hD⟩
  rw [hD] at hf
  simp [Maps.size, length_sorted] at hf
  exact hf
theorem owns_keep {w w' : World} {m n : Nat} {D : DataW Value} (h : w.ownsMap Try.prog 3 Rdv m n D) (hk : w'.heap[m]? = w.heap[m]?) : w'.ownsMap Try.prog 3 Rdv m n D := by
  obtain ⟨es, clock, hb, r⟩ := h
  exact ⟨es, clock, hk.trans hb, r⟩
theorem MapIs.keep {w w' : World} {mo : Option Nat} {f : F} (h : MapIs w mo f) (hk : ∀ m, mo = some m → w'.heap[m]? = w.heap[m]?) : MapIs w' mo f := by
  rcases h with h | ⟨m, D, e, h, T⟩
  · exact .inl h
  · exact .inr ⟨m, D, e, owns_keep h (hk m e), T⟩
theorem map_block {w : World} {m N : Nat} {D : DataW Value} (h : w.ownsMap Try.prog 3 Rdv m N D) : ∃ es clock, w.heap[m]? = some (.map es clock) := by
  obtain ⟨es, clock, hb, _⟩ := h
  exact ⟨es, clock, hb⟩
theorem ne_map {w : World} {m N g : Nat} {D : DataW Value} {cs : Array Value} {t : TypeId} {fr : Nat × Nat} (h : w.ownsMap Try.prog 3 Rdv m N D) (hg : w.heap[g]? = some (.cells cs t fr)) : g ≠ m := by
  rintro rfl
  obtain ⟨es, clock, hb⟩ := map_block h
  rw [hb] at hg
  injection hg with hg
  cases hg

/-! ### the ledger -/
structure Led (w : World) (q : Nat) (cap over : Int) (f : F) (fp : Nat → Prop) : Prop where
  ok : Ok cap over f
  pin : fp q
  size : ∀ g, fp g → g < w.heap.size
  at_ : ∃ mo, w.heap[q]? = some (.cells #[.int .i64 cap, .int .i64 over, .map mo] 63 (0, 0)) ∧ MapIs w mo f ∧ ∀ m, mo = some m → fp m
def LTo (w : World) (q : Nat) (cap over : Int) (fp : Nat → Prop) (f : F) (w' : World) : Prop := Led w' q cap over f (grq fp w w') ∧ Kq fp w w'
section
variable {w w' w1 w2 : World} {q : Nat} {cap over : Int} {f f' : F} {fp fp' : Nat → Prop}
theorem Led.keep (L : Led w q cap over f fp) (hs : w.heap.size ≤ w'.heap.size) (hk : ∀ g, fp g → w'.heap[g]? = w.heap[g]?) : Led w' q cap over f fp := by
  obtain ⟨mo, h1, h2, h3⟩ := L.at_
  exact ⟨L.ok, L.pin, fun g hg => Nat.lt_of_lt_of_le (L.size g hg) hs, mo, (hk q L.pin).trans h1, h2.keep fun m e => hk m (h3 m e), h3⟩
theorem Led.below (L : Led w q cap over f fp) (hb : Below w.heap.size w w') : Led w' q cap over f fp := L.keep hb.size fun g hg => hb.block g (L.size g hg)
theorem Led.mono (L : Led w q cap over f fp) (hf : ∀ g, fp g → fp' g) (hs : ∀ g, fp' g → g < w.heap.size) : Led w q cap over f fp' := by
  obtain ⟨mo, h1, h2, h3⟩ := L.at_
  exact ⟨L.ok, hf q L.pin, hs, mo, h1, h2, fun m e => hf m (h3 m e)⟩
theorem LTo.of_below (L : Led w q cap over f fp) (hb : Below w.heap.size w w') : LTo w q cap over fp f w' :=
  ⟨(L.below hb).mono (fun _ h => .inl h) fun g hg => by
    rcases hg with hg | ⟨_, hg⟩
    · exact Nat.lt_of_lt_of_le (L.size g hg) hb.size
    · exact hg, .of_below hb⟩
theorem LTo.trans (h : LTo w q cap over fp f w1) (k : LTo w1 q cap over (grq fp w w1) f' w2) : LTo w q cap over fp f' w2 := by
  obtain ⟨k1, k2⟩ := k
  rw [grq_grq h.2.size k2.size] at k1
  exact ⟨k1, h.2.trans k2⟩
theorem Led.cells (L : Led w q cap over f fp) : w.cell? ⟨q, 0, none⟩ = some (.int .i64 cap) ∧ w.cell? ⟨q, 1, none⟩ = some (.int .i64 over) ∧ ∃ mo, w.cell? ⟨q, 2, none⟩ = some (.map mo) := by
  obtain ⟨mo, h1, _⟩ := L.at_
  exact ⟨one_at (i := 0) h1, one_at (i := 1) h1, mo, one_at (i := 2) h1⟩
theorem Led.lt (L : Led w q cap over f fp) : q < w.heap.size := L.size q L.pin
end
/-- What is read at a number. -/
theorem look_run (w : World) (mo : Option Nat) (f : F) (k : Int) (h : MapIs w mo f) (hz : ∀ k, (f k).st = 0 → f k = ez) (hk : Bd k) :
    (Instr.lookup 61 (.map mo) (.int .i64 k) false).run Try.prog w = .ok (cell (f k)) w := by
  rcases h with ⟨rfl, rfl⟩ | ⟨m, D, rfl, h, T⟩
  · exact Maps.look_nil false law Try.underlying61 (zero_entry w) (key_of hk)
  · obtain ⟨v, ps, hrun, hv⟩ := h.lookup law Try.underlying61 (zero_entry w) (zd := .held (cell ez)) (zp := []) rfl (key_of hk)
    rw [T.look hz k] at hv
    injection hv with hv
    injection hv with hv _
    injection hv with hv
    rw [hrun, hv]
theorem Led.zero {w : World} {q : Nat} {cap over : Int} {f : F} {fp : Nat → Prop} (L : Led w q cap over f fp) : ∀ k, (f k).st = 0 → f k = ez := fun k h => (L.ok.shp k).zero h
theorem below_drewN (w : World) (n : Nat) {B : Nat} : Below B w (w.drewN n) := ⟨rfl, rfl, rfl, Nat.le_refl _, fun _ _ => rfl⟩
end St
end Go.Proofs.Ytnjcdlenpcpjaaa
