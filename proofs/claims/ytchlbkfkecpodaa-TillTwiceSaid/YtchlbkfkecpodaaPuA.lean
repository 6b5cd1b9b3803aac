/- A purse in memory: its cells, the row of its moves; what is kept while others are written. -/
import Derived.Test.YtchlbkfkecpodaaPuM
import Derived.Test.YtchlbkfkecpodaaPk5
import Derived.Deep.MidRow
import Derived.Maps.AppendAt
import Derived.Lib.Hide
import Derived.Laws.ResultCell
import Derived.Deep.CutRange
import Derived.Deep.CutBlock
import Derived.Deep.QuietTactic
import Derived.BigQuiet
import Derived.Lib.QuietBelow
import Derived.Deep.RegionLaw
import Derived.BigRegion
import Derived.RegionTactic
import Derived.StillTailTactics
namespace Go.Proofs.Ytchlbkfkecpodaa
set_option maxRecDepth 100000
open Go.RowKit
open Go.Proofs.Ytchlbkfkecpodaa.Pk (one_at one_free one_set lt_some grown_set grown_trans below_grown grown_refl)
namespace Pu

/-- All but the blocks S, and what is new, is as it was. -/
structure Kq (S : Nat → Prop) (w w' : World) : Prop where
  os : w'.os = w.os
  tape : w'.tape = w.tape
  output : w'.output = w.output
  size : w.heap.size ≤ w'.heap.size
  block : ∀ g, g < w.heap.size → ¬ S g → w'.heap[g]? = w.heap[g]?
def grq (S : Nat → Prop) (w w' : World) : Nat → Prop := fun g => S g ∨ (w.heap.size ≤ g ∧ g < w'.heap.size)
section
variable {S S' : Nat → Prop} {w w' w1 w2 : World}
theorem Kq.refl (S : Nat → Prop) (w : World) : Kq S w w := ⟨rfl, rfl, rfl, Nat.le_refl _, fun _ _ _ => rfl⟩
theorem Kq.trans (h : Kq S w w1) (k : Kq (grq S w w1) w1 w2) : Kq S w w2 :=
  ⟨k.os.trans h.os, k.tape.trans h.tape, k.output.trans h.output, Nat.le_trans h.size k.size, fun g hg hn =>
    (k.block g (Nat.lt_of_lt_of_le hg h.size) (fun e => by
      rcases e with e | ⟨e, _⟩
      · exact hn e
      · omega)).trans (h.block g hg hn)⟩
theorem Kq.mono (h : Kq S w w') (hs : ∀ g, S g → S' g) : Kq S' w w' := ⟨h.os, h.tape, h.output, h.size, fun g hg hn => h.block g hg fun e => hn (hs g e)⟩
theorem Kq.self (h : Kq S w w1) (k : Kq S w1 w2) : Kq S w w2 := h.trans (k.mono fun _ e => .inl e)
theorem Kq.of_below (h : Below w.heap.size w w') : Kq S w w' := ⟨h.os, h.tape, h.output, h.size, fun g hg _ => h.block g hg⟩
theorem Kq.below {B : Nat} (h : Kq S w w') (hS : ∀ g, S g → B ≤ g) (hB : B ≤ w.heap.size) : Below B w w' :=
  ⟨h.os, h.tape, h.output, h.size, fun g hg => h.block g (by omega) fun e => by have := hS g e; omega⟩
theorem Kq.of_grown {o : Option Nat} (h : w.grownBy w' o) (ho : ∀ g, o = some g → S g) : Kq S w w' :=
  ⟨h.os, h.tape, h.output, h.size, fun g hg hn => h.block g hg fun e => hn (ho g e.symm)⟩
theorem Kq.drew (h : Kq S w w') : Kq S w w'.drew := ⟨h.os, h.tape, h.output, h.size, h.block⟩
theorem grq_grq (h1 : w.heap.size ≤ w1.heap.size) (h2 : w1.heap.size ≤ w2.heap.size) : grq (grq S w w1) w1 w2 = grq S w w2 := by
  funext g
  unfold grq
  apply propext
  constructor
  · rintro ((h | ⟨h, h'⟩) | ⟨h, h'⟩)
    · exact .inl h
    · exact .inr ⟨h, by omega⟩
    · exact .inr ⟨by omega, h'⟩
  · rintro (h | ⟨h, h'⟩)
    · exact .inl (.inl h)
    · by_cases e : g < w1.heap.size
      · exact .inl (.inr ⟨h, e⟩)
      · exact .inr ⟨by omega, h'⟩
end
theorem setCells_block (p : Nat) : ∀ (vs : List Value) (o : Nat) (w : World), (w.setCells p o vs).heap.size = w.heap.size ∧ (w.setCells p o vs).os = w.os ∧ (w.setCells p o vs).tape = w.tape ∧ (w.setCells p o vs).output = w.output ∧ ∀ g, g ≠ p → (w.setCells p o vs).heap[g]? = w.heap[g]?
  | [], _, _ => ⟨rfl, rfl, rfl, rfl, fun _ _ => rfl⟩
  | v :: r, o, w => by
    obtain ⟨h1, h2, h3, h4, h5⟩ := setCells_block p r (o + 1) (w.setCell ⟨p, o, none⟩ v)
    rw [World.setCells]
    exact ⟨h1.trans (by simp [World.setCell]), h2, h3, h4, fun g hg => (h5 g hg).trans (Below.heap_setCell _ _ _ _ (fun e => hg e))⟩
theorem Kq.of_cells (w : World) (p o : Nat) (vs : List Value) : Kq (fun g => g = p) w (w.setCells p o vs) := by
  obtain ⟨h1, h2, h3, h4, h5⟩ := setCells_block p vs o w
  exact ⟨h2, h3, h4, by omega, fun g _ hn => h5 g hn⟩

/-- Besides: of block q the cells behind a purse's are as they were. -/
structure Kt (q : Nat) (S : Nat → Prop) (w w' : World) : Prop extends Kq S w w' where
  tail : ∀ i, 1012 ≤ i → w'.cell? ⟨q, i, none⟩ = w.cell? ⟨q, i, none⟩
  form : ∀ cs ty, w.heap[q]? = some (.cells cs ty (0, 0)) → ∃ cs', w'.heap[q]? = some (.cells cs' ty (0, 0))
theorem setCells_form (p : Nat) : ∀ (vs : List Value) (o : Nat) (w : World) (cs : Array Value) (t : TypeId), w.heap[p]? = some (.cells cs t (0, 0)) → ∃ cs', (w.setCells p o vs).heap[p]? = some (.cells cs' t (0, 0))
  | [], _, _, cs, _, h => ⟨cs, h⟩
  | v :: r, o, w, cs, t, h => by
    rw [World.setCells]
    exact setCells_form p r (o + 1) _ _ t (one_set h v)
section
variable {S S' : Nat → Prop} {w w' w1 w2 : World} {q : Nat}
theorem Kt.refl (q : Nat) (S : Nat → Prop) (w : World) : Kt q S w w := ⟨.refl _ _, fun _ _ => rfl, fun cs _ h => ⟨cs, h⟩⟩
theorem Kt.trans (h : Kt q S w w1) (k : Kt q (grq S w w1) w1 w2) : Kt q S w w2 := ⟨h.toKq.trans k.toKq, fun i hi => (k.tail i hi).trans (h.tail i hi), fun cs ty e => by
    obtain ⟨cs', e'⟩ := h.form cs ty e
    exact k.form cs' ty e'⟩
theorem Kt.mono (h : Kt q S w w') (hs : ∀ g, S g → S' g) : Kt q S' w w' := ⟨h.toKq.mono hs, h.tail, h.form⟩
theorem Kt.self (h : Kt q S w w1) (k : Kt q S w1 w2) : Kt q S w w2 := h.trans (k.mono fun _ e => .inl e)
theorem Kt.of_below (hq : q < w.heap.size) (h : Below w.heap.size w w') : Kt q S w w' := ⟨.of_below h, fun _ _ => World.cell?_of_block (h.block q hq), fun cs _ e => ⟨cs, (h.block q hq).trans e⟩⟩
theorem Kt.of_grown {o : Option Nat} (hq : q < w.heap.size) (hn : some q ≠ o) (h : w.grownBy w' o) (ho : ∀ g, o = some g → S g) : Kt q S w w' := ⟨.of_grown h ho, fun _ _ => World.cell?_of_block (h.block q hq hn), fun cs _ e => ⟨cs, (h.block q hq hn).trans e⟩⟩
theorem Kt.drew (h : Kt q S w w') : Kt q S w w'.drew := ⟨h.toKq.drew, h.tail, h.form⟩
theorem Kt.of_cells (w : World) (p o : Nat) (vs : List Value) (h : o + vs.length ≤ 1012) : Kt p (fun g => g = p) w (w.setCells p o vs) :=
  ⟨.of_cells w p o vs, fun i hi => World.cell?_setCells_out p vs o w ⟨p, i, none⟩ (fun _ _ => .inr (by show o + vs.length ≤ i; omega)), fun cs ty e => setCells_form p vs o w cs ty e⟩
end

/-! ### cells -/
def entc (e : E) : List Value := [.int .i64 e.st, .int .i64 0, .int .i64 0, .int .i64 e.cu, .int .i64 e.am]
def ents (f : F) : Nat → List Value
  | 0 => []
  | n + 1 => ents f n ++ entc (f (n : Int))
theorem ents_len (f : F) (n : Nat) : (ents f n).length = 5 * n := by
  induction n with
  | zero => rfl
  | succ n ih => unfold ents; rw [List.length_append, ih]; show 5 * n + 5 = _; omega
theorem ents_at (f : F) {n k j : Nat} (hk : k < n) (hj : j < 5) : (ents f n)[5 * k + j]? = (entc (f (k : Int)))[j]? := by
  induction n with
  | zero => omega
  | succ n ih =>
    unfold ents
    by_cases e : k = n
    · subst e
      rw [List.getElem?_append_right (by rw [ents_len]; omega), ents_len]
      congr 1
      omega
    · rw [List.getElem?_append_left (by rw [ents_len]; omega), ih (by omega)]
def accs (a : Ac) : List Value := [.int .i64 (a 0), .int .i64 (a 1), .int .i64 (a 2), .int .i64 (a 3), .int .i64 (a 4), .int .i64 (a 5)]
theorem accs_at (a : Ac) {k : Nat} (hk : k ≤ 5) : (accs a)[k]? = some (.int .i64 (a (k : Int))) := by
  rcases (by omega : k = 0 ∨ k = 1 ∨ k = 2 ∨ k = 3 ∨ k = 4 ∨ k = 5) with rfl | rfl | rfl | rfl | rfl | rfl <;> rfl
/-- All the cells of a purse in whose field of moves v stands. -/
def pcs (p : S) (v : Value) : List Value := accs p.a ++ (ents p.f 201 ++ [v])
theorem pcs_len (p : S) (v : Value) : (pcs p v).length = 1012 := by simp [pcs, accs, ents_len]
theorem pcs_acc (p : S) (v : Value) {k : Nat} (hk : k ≤ 5) : (pcs p v)[k]? = some (.int .i64 (p.a (k : Int))) := by
  unfold pcs
  rw [List.getElem?_append_left (by show k < 6; omega), accs_at _ hk]
theorem pcs_ent (p : S) (v : Value) {k j : Nat} (hk : k ≤ 200) (hj : j < 5) : (pcs p v)[6 + k * 5 + j]? = (entc (p.f (k : Int)))[j]? := by
  unfold pcs
  rw [List.getElem?_append_right (by show 6 ≤ _; omega)]
  have e : 6 + k * 5 + j - (accs p.a).length = 5 * k + j := by show 6 + k * 5 + j - 6 = _; omega
  rw [e, List.getElem?_append_left (by rw [ents_len]; omega), ents_at _ (by omega) hj]
theorem pcs_lin (p : S) (v : Value) : (pcs p v)[1011]? = some v := by
  unfold pcs
  rw [List.getElem?_append_right (by show 6 ≤ _; omega), List.getElem?_append_right (by rw [ents_len]; show 5 * 201 ≤ 1011 - 6; omega), ents_len]
  rfl
/-- A purse's cells lie at q. -/
structure Pm (w : World) (q : Nat) (p : S) (v : Value) : Prop where
  lt : q < w.heap.size
  acc : ∀ k : Nat, k ≤ 5 → w.cell? ⟨q, k, none⟩ = some (.int .i64 (p.a (k : Int)))
  ent : ∀ k : Nat, k ≤ 200 → w.rangeAt q (6 + k * 5) (entc (p.f (k : Int)))
  lin : w.cell? ⟨q, 1011, none⟩ = some v
  free : ∀ i, w.frozen? ⟨q, i, none⟩ = false
section
variable {w w' : World} {q : Nat} {p : S} {v : Value}
theorem Pm.of_row {t : TypeId} {r : List Value} (h : w.heap[q]? = some (.cells (pcs p v ++ r).toArray t (0, 0))) : Pm w q p v := by
  have e : ∀ j : Nat, j < 1012 → w.cell? ⟨q, j, none⟩ = (pcs p v)[j]? := fun j hj => by
    rw [one_at (i := j) h, List.getElem?_toArray, List.getElem?_append_left (by rw [pcs_len]; exact hj)]
  exact ⟨lt_some h, fun k hk => by rw [e k (by omega), pcs_acc p v hk], fun k hk j u hj => by
    have h5 : j < 5 := (List.getElem?_eq_some_iff.1 hj).1
    rw [e _ (by omega), pcs_ent p v hk h5, hj], by rw [e 1011 (by omega), pcs_lin], fun i => one_free h⟩
theorem Pm.of_block {t : TypeId} (h : w.heap[q]? = some (.cells (pcs p v).toArray t (0, 0))) : Pm w q p v := .of_row (r := []) (by rw [List.append_nil]; exact h)
theorem Pm.keep (D : Pm w q p v) (h : w'.heap[q]? = w.heap[q]?) : Pm w' q p v := by
  have e : ∀ i, w'.cell? ⟨q, i, none⟩ = w.cell? ⟨q, i, none⟩ := fun i => World.cell?_of_block h
  refine ⟨?_, fun k hk => (e k).trans (D.acc k hk), fun k hk j u hj => (e _).trans (D.ent k hk j u hj), (e _).trans D.lin, fun i => ?_⟩
  · have := Array.getElem?_eq_getElem D.lt
    rw [← h] at this
    exact lt_some this
  · have := D.free i
    unfold World.frozen? at this ⊢
    simp only [h]
    exact this
theorem Pm.below (D : Pm w q p v) (hb : Below w.heap.size w w') : Pm w' q p v := D.keep (hb.block _ D.lt)
theorem Pm.st (D : Pm w q p v) {k : Nat} (hk : k ≤ 200) : w.cell? ⟨q, 6 + k * 5, none⟩ = some (.int .i64 (p.f k).st) := D.ent k hk 0 _ rfl
theorem Pm.z1 (D : Pm w q p v) {k : Nat} (hk : k ≤ 200) : w.cell? ⟨q, 6 + k * 5 + 1, none⟩ = some (.int .i64 0) := D.ent k hk 1 _ rfl
theorem Pm.z2 (D : Pm w q p v) {k : Nat} (hk : k ≤ 200) : w.cell? ⟨q, 6 + k * 5 + 2, none⟩ = some (.int .i64 0) := D.ent k hk 2 _ rfl
theorem Pm.cu (D : Pm w q p v) {k : Nat} (hk : k ≤ 200) : w.cell? ⟨q, 6 + k * 5 + 3, none⟩ = some (.int .i64 (p.f k).cu) := D.ent k hk 3 _ rfl
theorem Pm.am (D : Pm w q p v) {k : Nat} (hk : k ≤ 200) : w.cell? ⟨q, 6 + k * 5 + 4, none⟩ = some (.int .i64 (p.f k).am) := D.ent k hk 4 _ rfl
theorem Pm.there (D : Pm w q p v) {k : Nat} (hk : k ≤ 200) : w.there q (6 + k * 5) 5 := fun j hj => ⟨(D.ent k hk).isSome j hj, D.free _⟩
/-- An entry is put. -/
theorem Pm.put (D : Pm w q p v) {k : Nat} (hk : k ≤ 200) (e : E) : Pm (w.setCells q (6 + k * 5) (entc e)) q (put p (k : Int) e) v := by
  refine ⟨by rw [(setCells_block q _ _ w).1]; exact D.lt, fun j hj => ?_, fun j hj => ?_, ?_, fun i => ?_⟩
  · rw [World.cell?_setCells_out q _ _ w ⟨q, j, none⟩ (fun _ _ => .inl (by show j < 6 + k * 5; omega))]
    exact D.acc j hj
  · show World.rangeAt _ _ _ (entc (upd p.f (k : Int) e (j : Int)))
    by_cases h : j = k
    · subst h
      rw [upd_same]
      exact World.rangeAt_setCells_same w q _ _ (D.there hk)
    · rw [upd_other (by omega)]
      exact World.rangeAt_setCells_apart (D.ent j hj) q _ _ (.inr (by show 6 + j * 5 + 5 ≤ _ ∨ _ + 5 ≤ _; omega))
  · rw [World.cell?_setCells_out q _ _ w ⟨q, 1011, none⟩ (fun _ _ => .inr (by show 6 + k * 5 + 5 ≤ 1011; omega))]
    exact D.lin
  · rw [World.frozen?_setCells]
    exact D.free i
theorem set1 (w : World) (q o : Nat) (u : Value) : w.setCell ⟨q, o, none⟩ u = w.setCells q o [u] := rfl
/-- An account is put. -/
theorem Pm.acct (D : Pm w q p v) {k : Nat} (hk : k ≤ 5) (x : Int) : Pm (w.setCell ⟨q, k, none⟩ (.int .i64 x)) q ⟨upd p.a (k : Int) x, p.f, p.l⟩ v := by
  rw [set1]
  refine ⟨by rw [(setCells_block q _ _ w).1]; exact D.lt, fun j hj => ?_, fun j hj => ?_, ?_, fun i => ?_⟩
  · by_cases h : j = k
    · subst h
      show _ = some (Value.int .i64 (upd p.a (j : Int) x (j : Int)))
      rw [upd_same]
      have := World.cell?_setCells_in q [.int .i64 x] j w (fun i hi => by
        obtain rfl : i = 0 := by simpa using hi
        rw [Nat.add_zero, D.acc j hj]; rfl) 0 (by simp)
      simpa using this
    · show _ = some (Value.int .i64 (upd p.a (k : Int) x (j : Int)))
      rw [upd_other (by omega), World.cell?_setCells_out q _ _ w ⟨q, j, none⟩ (fun _ _ => by show j < k ∨ k + 1 ≤ j; omega)]
      exact D.acc j hj
  · exact World.rangeAt_setCells_apart (D.ent j hj) q _ _ (.inr (by show 6 + j * 5 + 5 ≤ k ∨ k + 1 ≤ 6 + j * 5; omega))
  · rw [World.cell?_setCells_out q _ _ w ⟨q, 1011, none⟩ (fun _ _ => .inr (by show k + 1 ≤ 1011; omega))]
    exact D.lin
  · rw [World.frozen?_setCells]
    exact D.free i
/-- A state is put. -/
theorem Pm.state (D : Pm w q p v) {k : Nat} (hk : k ≤ 200) (x : Int) : Pm (w.setCell ⟨q, 6 + k * 5, none⟩ (.int .i64 x)) q (Pu.put p (k : Int) ⟨x, (p.f k).cu, (p.f k).am⟩) v := by
  rw [set1]
  refine ⟨by rw [(setCells_block q _ _ w).1]; exact D.lt, fun j hj => ?_, fun j hj => ?_, ?_, fun i => ?_⟩
  · rw [World.cell?_setCells_out q _ _ w ⟨q, j, none⟩ (fun _ _ => .inl (by show j < 6 + k * 5; omega))]
    exact D.acc j hj
  · show World.rangeAt _ _ _ (entc (upd p.f (k : Int) _ (j : Int)))
    by_cases h : j = k
    · subst h
      rw [upd_same]
      intro i u hu
      have hi : i < 5 := (List.getElem?_eq_some_iff.1 hu).1
      by_cases h0 : i = 0
      · subst h0
        have := World.cell?_setCells_in q [.int .i64 x] (6 + j * 5) w (fun i hi => by
          obtain rfl : i = 0 := by simpa using hi
          rw [Nat.add_zero, D.st hk]; rfl) 0 (by simp)
        rw [this]
        exact hu
      · rw [World.cell?_setCells_out q _ _ w ⟨q, 6 + j * 5 + i, none⟩ (fun _ _ => .inr (by show 6 + j * 5 + 1 ≤ 6 + j * 5 + i; omega))]
        refine D.ent j hk i u ?_
        rw [← hu]
        rcases (by omega : i = 1 ∨ i = 2 ∨ i = 3 ∨ i = 4) with rfl | rfl | rfl | rfl <;> rfl
    · rw [upd_other (by omega)]
      exact World.rangeAt_setCells_apart (D.ent j hj) q _ _ (.inr (by show 6 + j * 5 + 5 ≤ 6 + k * 5 ∨ 6 + k * 5 + 1 ≤ 6 + j * 5; omega))
  · rw [World.cell?_setCells_out q _ _ w ⟨q, 1011, none⟩ (fun _ _ => .inr (by show 6 + k * 5 + 1 ≤ 1011; omega))]
    exact D.lin
  · rw [World.frozen?_setCells]
    exact D.free i
/-- The moves are put. -/
theorem Pm.lines (D : Pm w q p v) (v' : Value) (l : List Ln) : Pm (w.setCell ⟨q, 1011, none⟩ v') q ⟨p.a, p.f, l⟩ v' := by
  rw [set1]
  refine ⟨by rw [(setCells_block q _ _ w).1]; exact D.lt, fun j hj => ?_, fun j hj => ?_, ?_, fun i => ?_⟩
  · rw [World.cell?_setCells_out q _ _ w ⟨q, j, none⟩ (fun _ _ => .inl (by show j < 1011; omega))]
    exact D.acc j hj
  · exact World.rangeAt_setCells_apart (D.ent j hj) q _ _ (.inr (by show 6 + j * 5 + 5 ≤ 1011 ∨ 1011 + 1 ≤ 6 + j * 5; omega))
  · have := World.cell?_setCells_in q [v'] 1011 w (fun i hi => by
      obtain rfl : i = 0 := by simpa using hi
      rw [Nat.add_zero, D.lin]; rfl) 0 (by simp)
    simpa using this
  · rw [World.frozen?_setCells]
    exact D.free i
/-- All its cells. -/
theorem Pm.all (D : Pm w q p v) : w.rangeAt q 0 (pcs p v) := fun j u hj => by
  have hl : j < 1012 := by have := (List.getElem?_eq_some_iff.1 hj).1; rwa [pcs_len] at this
  rw [Nat.zero_add]
  by_cases h1 : j ≤ 5
  · rw [pcs_acc p v h1] at hj
    rw [D.acc j h1, hj]
  · by_cases h2 : j = 1011
    · subst h2
      rw [pcs_lin] at hj
      rw [D.lin, hj]
    · obtain ⟨k, i, hk, hi, rfl⟩ : ∃ k i, k ≤ 200 ∧ i < 5 ∧ j = 6 + k * 5 + i := ⟨(j - 6) / 5, (j - 6) % 5, by omega, by omega, by omega⟩
      rw [pcs_ent p v hk hi] at hj
      exact D.ent k hk i u hj
/-- The bookings' cells. -/
theorem Pm.books (D : Pm w q p v) : w.rangeAt q 6 (ents p.f 201) := fun j u hj => by
  have hl : j < 1005 := by have := (List.getElem?_eq_some_iff.1 hj).1; rwa [ents_len] at this
  obtain ⟨k, i, hk, hi, rfl⟩ : ∃ k i, k ≤ 200 ∧ i < 5 ∧ j = 5 * k + i := ⟨j / 5, j % 5, by omega, by omega, by omega⟩
  rw [ents_at p.f (by omega) hi] at hj
  have := D.ent k hk i u hj
  rw [← this]
  congr 2
  omega
end
theorem entry_size : (Try.prog.info? 41).map (·.size) = some 5 := by kernel_rfl
theorem entc_one (e : E) : (entc e).toArray.all (·.oneCell') = true := by simp [entc, Value.oneCell']
theorem upd_comm {α : Type} (f : Int → α) {b c : Int} (x y : α) (h : b ≠ c) : upd (upd f b x) c y = upd (upd f c y) b x := by
  funext k
  unfold upd
  by_cases h1 : k = c
  · subst h1
    rw [if_pos rfl, if_neg (fun e => h e.symm), if_pos rfl]
  · simp [h1]

/-! ### moves in a row -/
def lnc (x : Ln) : List Value := [.int .i64 x.bk, .int .i64 x.fr, .int .i64 x.tg, .int .i64 x.am]
def fll (l : List Ln) : List Value := l.flatMap lnc
theorem fll_len (l : List Ln) : (fll l).length = l.length * 4 := by
  induction l with
  | nil => rfl
  | cons x l ih => rw [fll, List.flatMap_cons, List.length_append]; show 4 + (fll l).length = _; rw [ih, List.length_cons]; omega
theorem fll_app (a b : List Ln) : fll (a ++ b) = fll a ++ fll b := by simp [fll]
theorem fll_one (l : List Ln) : ∀ u ∈ fll l, u.oneCell' = true := by
  intro u hu
  obtain ⟨x, _, hx⟩ := List.mem_flatMap.1 hu
  simp [lnc] at hx
  rcases hx with rfl | rfl | rfl | rfl <;> rfl
theorem fll_at {l : List Ln} {k : Nat} {x : Ln} (h : l[k]? = some x) {j : Nat} (hj : j < 4) : (fll l)[k * 4 + j]? = (lnc x)[j]? := by
  obtain ⟨hl, rfl⟩ := List.getElem?_eq_some_iff.1 h
  have e : l = l.take k ++ l[k] :: l.drop (k + 1) := by rw [← List.drop_eq_getElem_cons hl, List.take_append_drop]
  have e2 : fll l = fll (l.take k) ++ (lnc l[k] ++ fll (l.drop (k + 1))) := by
    conv => lhs; rw [e]
    rw [fll_app]
    congr 1
  have e3 : (fll (l.take k)).length = k * 4 := by rw [fll_len, List.length_take]; congr 1; omega
  rw [e2, List.getElem?_append_right (by omega), e3, List.getElem?_append_left (by show _ < 4; omega)]
  congr 1
  omega
/-- A row of moves, their type named. -/
abbrev RowT (t : TypeId) (w : World) (base : Nat) (v : Value) (n : Nat) (l : List Ln) : Prop := w.ownsRow base t 4 v n (fll l)
section
variable {t : TypeId} {w w' : World} {v v' : Value} {n base : Nat} {l : List Ln}
theorem rt_same (h : RowT t w base v n l) (hk : ∀ g, v.ownBlock = some g → w'.heap[g]? = w.heap[g]?) : RowT t w' base v n l := by
  refine ⟨h.1, ?_⟩
  rcases h.2 with h0 | ⟨g, cap, cur, hv, hb, hh, h2⟩
  · exact .inl h0
  · exact .inr ⟨g, cap, cur, hv, hb, (hk g (by rw [hv]; rfl)).trans hh, h2⟩
theorem rt_block {g : Nat} (h : RowT t w base v n l) (hg : v.ownBlock = some g) : base ≤ g ∧ ∃ cur, w.heap[g]? = some (.cells cur t (0, 0)) := by
  rcases h.2 with ⟨rfl, _⟩ | ⟨g', cap, cur, rfl, hb, hh, _⟩
  · simp [Value.ownBlock] at hg
  · have : g' = g := by simpa [Value.ownBlock] using hg
    subst this
    exact ⟨hb, cur, hh⟩
theorem rt_lt {g : Nat} (h : RowT t w base v n l) (hg : v.ownBlock = some g) : g < w.heap.size := by
  obtain ⟨_, cur, hc⟩ := rt_block h hg
  exact lt_some hc
theorem rt_below (h : RowT t w base v n l) (hb : Below w.heap.size w w') : RowT t w' base v n l := rt_same h fun g hg => hb.block g (rt_lt h hg)
theorem rt_form (h : RowT t w base v n l) : ∃ A c, v = .slice A n c ∧ n ≤ c ∧ c ≤ 9223372036854775807 ∧ (A = none → c = 0) := by
  rcases h.2 with ⟨rfl, rfl⟩ | ⟨g, cap, cur, rfl, hb, hh, h1, h2, _⟩
  · exact ⟨_, _, rfl, Nat.le_refl _, by omega, fun _ => rfl⟩
  · unfold maxLen at h2
    exact ⟨_, _, rfl, h1, h2, fun h => by cases h⟩
theorem rt_len (h : RowT t w base v n l) : l.length = n := by have := h.1; rw [fll_len] at this; omega
theorem rt_mono {base' : Nat} (h : RowT t w base v n l) (hb : base' ≤ base) : RowT t w base' v n l := by
  refine ⟨h.1, ?_⟩
  rcases h.2 with h0 | ⟨g, cap, cur, hv, hB, hh, h2⟩
  · exact .inl h0
  · exact .inr ⟨g, cap, cur, hv, Nat.le_trans hb hB, hh, h2⟩
/-- What is read of it. -/
theorem rt_cell {A : Option Addr} {c : Nat} (h : RowT t w base (.slice A n c) n l) {k : Nat} {x : Ln} (hx : l[k]? = some x) : ∃ g, A = some ⟨g, 0, none⟩ ∧ w.cell? ⟨g, k * 4, none⟩ = some (.int .i64 x.bk) ∧ w.cell? ⟨g, k * 4 + 1, none⟩ = some (.int .i64 x.fr) ∧ w.cell? ⟨g, k * 4 + 2, none⟩ = some (.int .i64 x.tg) ∧ w.cell? ⟨g, k * 4 + 3, none⟩ = some (.int .i64 x.am) := by
  have hkn : k < n := by rw [← rt_len h]; exact (List.getElem?_eq_some_iff.1 hx).1
  rcases h.2 with ⟨e, e0⟩ | ⟨g, cap, cur, e, hb, hh, h1, h2, h3, h4⟩
  · omega
  · injection e with eA _ _
    have hc : ∀ j, j < 4 → w.cell? ⟨g, k * 4 + j, none⟩ = (lnc x)[j]? := fun j hj => by
      have ht : (cur.toList.take (n * 4))[k * 4 + j]? = (lnc x)[j]? := by rw [h4, fll_at hx hj]
      rw [List.getElem?_take_of_lt (by omega), Array.getElem?_toList] at ht
      rw [one_at hh, ht]
    exact ⟨g, eA, hc 0 (by omega), hc 1 (by omega), hc 2 (by omega), hc 3 (by omega)⟩
end

/-! ### the ledger -/
/-- A purse's cells and its row, whatever its numbers are. -/
structure Lax (t : TypeId) (w : World) (q : Nat) (p : S) (fp : Nat → Prop) : Prop where
  pin : fp q
  size : ∀ g, fp g → g < w.heap.size
  at_ : ∃ v, Pm w q p v ∧ RowT t w 0 v p.l.length p.l ∧ v.ownBlock ≠ some q ∧ ∀ g, v.ownBlock = some g → fp g
structure Led (t : TypeId) (w : World) (q : Nat) (p : S) (fp : Nat → Prop) : Prop extends Lax t w q p fp where
  ok : Ok p
section
variable {t : TypeId} {w w' w1 w2 : World} {q : Nat} {p p' : S} {fp fp' X : Nat → Prop}
theorem Lax.keep (L : Lax t w q p fp) (hs : w.heap.size ≤ w'.heap.size) (hk : ∀ g, fp g → w'.heap[g]? = w.heap[g]?) : Lax t w' q p fp := by
  obtain ⟨v, h1, h2, h3, h4⟩ := L.at_
  exact ⟨L.pin, fun g hg => Nat.lt_of_lt_of_le (L.size g hg) hs, v, h1.keep (hk q L.pin), rt_same h2 fun g hg => hk g (h4 g hg), h3, h4⟩
theorem Lax.below (L : Lax t w q p fp) (hb : Below w.heap.size w w') : Lax t w' q p fp := L.keep hb.size fun g hg => hb.block g (L.size g hg)
theorem Lax.mono (L : Lax t w q p fp) (hf : ∀ g, fp g → fp' g) (hs : ∀ g, fp' g → g < w.heap.size) : Lax t w q p fp' := by
  obtain ⟨v, h1, h2, h3, h4⟩ := L.at_
  exact ⟨hf q L.pin, hs, v, h1, h2, h3, fun g hg => hf g (h4 g hg)⟩
/-- An entry is put. -/
theorem Lax.put (L : Lax t w q p fp) {k : Nat} (hk : k ≤ 200) (e : E) : Lax t (w.setCells q (6 + k * 5) (entc e)) q (Pu.put p (k : Int) e) fp := by
  obtain ⟨v, h1, h2, h3, h4⟩ := L.at_
  have hs := setCells_block q (entc e) (6 + k * 5) w
  exact ⟨L.pin, fun g hg => by rw [hs.1]; exact L.size g hg, v, h1.put hk e, rt_same h2 fun g hg => hs.2.2.2.2 g fun e => h3 (by rw [hg, e]), h3, h4⟩
/-- A state is put. -/
theorem Lax.state (L : Lax t w q p fp) {k : Nat} (hk : k ≤ 200) (x : Int) : Lax t (w.setCell ⟨q, 6 + k * 5, none⟩ (.int .i64 x)) q (Pu.put p (k : Int) ⟨x, (p.f k).cu, (p.f k).am⟩) fp := by
  obtain ⟨v, h1, h2, h3, h4⟩ := L.at_
  have hs := setCells_block q [.int .i64 x] (6 + k * 5) w
  exact ⟨L.pin, fun g hg => by rw [set1, hs.1]; exact L.size g hg, v, h1.state hk x, rt_same h2 fun g hg => hs.2.2.2.2 g fun e => h3 (by rw [hg, e]), h3, h4⟩
end
def MvTo (t : TypeId) (X : Nat → Prop) (w : World) (q : Nat) (fp : Nat → Prop) (p : S) (w' : World) : Prop := Lax t w' q p (grq fp w w') ∧ Kt q X w w'
/-- What a writing call leaves: it wrote X of its own, and made new blocks. -/
def LTo (t : TypeId) (X : Nat → Prop) (w : World) (q : Nat) (fp : Nat → Prop) (p : S) (w' : World) : Prop := Led t w' q p (grq fp w w') ∧ Kt q X w w'
section
variable {t : TypeId} {w w' w1 w2 : World} {q : Nat} {p p' : S} {fp fp' X : Nat → Prop}
theorem Lax.lt (L : Lax t w q p fp) : q < w.heap.size := L.size q L.pin
theorem Led.keep (L : Led t w q p fp) (hs : w.heap.size ≤ w'.heap.size) (hk : ∀ g, fp g → w'.heap[g]? = w.heap[g]?) : Led t w' q p fp := ⟨L.toLax.keep hs hk, L.ok⟩
theorem Led.below (L : Led t w q p fp) (hb : Below w.heap.size w w') : Led t w' q p fp := ⟨L.toLax.below hb, L.ok⟩
theorem Led.mono (L : Led t w q p fp) (hf : ∀ g, fp g → fp' g) (hs : ∀ g, fp' g → g < w.heap.size) : Led t w q p fp' := ⟨L.toLax.mono hf hs, L.ok⟩
theorem MvTo.of_below (L : Lax t w q p fp) (hb : Below w.heap.size w w') : MvTo t X w q fp p w' :=
  ⟨(L.below hb).mono (fun _ h => .inl h) fun g hg => by
    rcases hg with hg | ⟨_, hg⟩
    · exact Nat.lt_of_lt_of_le (L.size g hg) hb.size
    · exact hg, .of_below L.lt hb⟩
theorem MvTo.after (hq : q < w.heap.size) (hb : Below w.heap.size w w1) (h : MvTo t X w1 q fp p w2) : MvTo t X w q fp p w2 := by
  obtain ⟨h1, h2⟩ := h
  refine ⟨h1.mono (fun g hg => ?_) (fun g hg => ?_), (Kt.of_below hq hb).self h2⟩
  · rcases hg with hg | ⟨hg, hg'⟩
    · exact .inl hg
    · exact .inr ⟨Nat.le_trans hb.size hg, hg'⟩
  · rcases hg with hg | ⟨hg, hg'⟩
    · exact h1.size g (.inl hg)
    · exact hg'
theorem MvTo.then (h : MvTo t X w q fp p w1) (k : MvTo t X w1 q (grq fp w w1) p' w2) : MvTo t X w q fp p' w2 := by
  obtain ⟨h1, h2⟩ := h
  obtain ⟨k1, k2⟩ := k
  rw [grq_grq h2.size k2.size] at k1
  exact ⟨k1, h2.self k2⟩
theorem MvTo.below (h : MvTo t X w q fp p w1) (hb : Below w1.heap.size w1 w2) : MvTo t X w q fp p w2 := by
  obtain ⟨h1, h2⟩ := h
  refine ⟨(h1.below hb).mono (fun g hg => ?_) fun g hg => ?_, h2.self (Kt.of_below (h1.size q h1.pin) hb)⟩
  · rcases hg with hg | ⟨hg, hg'⟩
    · exact .inl hg
    · exact .inr ⟨hg, Nat.lt_of_lt_of_le hg' hb.size⟩
  · rcases hg with hg | ⟨hg, hg'⟩
    · exact Nat.lt_of_lt_of_le (h1.size g (.inl hg)) hb.size
    · exact hg'
/-- A store in its own cells alone. -/
theorem MvTo.of_same (h : Lax t w' q p fp) (k : Kt q X w w') : MvTo t X w q fp p w' := ⟨h.mono (fun _ h => .inl h) (fun g hg => by
    rcases hg with hg | ⟨_, hg⟩
    · exact h.size g hg
    · exact hg), k⟩
theorem MvTo.led (h : MvTo t X w q fp p w') (ho : Ok p) : LTo t X w q fp p w' := ⟨⟨h.1, ho⟩, h.2⟩
theorem LTo.mv (h : LTo t X w q fp p w') : MvTo t X w q fp p w' := ⟨h.1.toLax, h.2⟩
theorem LTo.of_below (L : Led t w q p fp) (hb : Below w.heap.size w w') : LTo t X w q fp p w' := (MvTo.of_below L.toLax hb).led L.ok
theorem LTo.after (hq : q < w.heap.size) (hb : Below w.heap.size w w1) (h : LTo t X w1 q fp p w2) : LTo t X w q fp p w2 := (MvTo.after hq hb h.mv).led h.1.ok
theorem LTo.below (h : LTo t X w q fp p w1) (hb : Below w1.heap.size w1 w2) : LTo t X w q fp p w2 := (h.mv.below hb).led h.1.ok
theorem LTo.then (h : LTo t X w q fp p w1) (k : LTo t X w1 q (grq fp w w1) p' w2) : LTo t X w q fp p' w2 := (h.mv.then k.mv).led k.1.ok
end
end Pu
end Go.Proofs.Ytchlbkfkecpodaa
