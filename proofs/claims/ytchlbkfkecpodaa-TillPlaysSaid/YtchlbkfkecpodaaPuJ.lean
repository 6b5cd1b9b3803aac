/- A purse of the call's own, kept out of X; what each call on it leaves. -/
import Derived.Test.YtchlbkfkecpodaaPuH
import Derived.Test.YtchlbkfkecpodaaPuI
namespace Go.Proofs.Ytchlbkfkecpodaa
set_option maxRecDepth 100000
open Go.RowKit
open Go.Sort (grow)
open Go.Proofs.Ytchlbkfkecpodaa.Pk (one_at one_free one_set lt_some grown_set grown_trans below_grown grown_refl)
namespace Pu
open Wt (Opn mayOp)

/-- A purse of the call's own: it lies behind B, out of X. -/
structure Ow (B : Nat) (X : Nat → Prop) (w0 w : World) (q : Nat) (p : S) : Prop where
  ex : ∃ fp, LedP w q p fp ∧ ∀ g, fp g → B ≤ g ∧ ¬ X g
  be : Below B w0 w
  bs : B ≤ w.heap.size
  xs : ∀ g, X g → g < w.heap.size
def Kx (X : Nat → Prop) (w w' : World) : Prop := w.heap.size ≤ w'.heap.size ∧ ∀ g, X g → w'.heap[g]? = w.heap[g]?
def OwTo (B : Nat) (X : Nat → Prop) (w0 w : World) (q : Nat) (p : S) (w' : World) : Prop := Ow B X w0 w' q p ∧ Kx X w w'
section
variable {B : Nat} {X X' : Nat → Prop} {w0 w w' : World} {q : Nat} {p p' : S}
theorem Ow.below (O : Ow B X w0 w q p) (hb : Below w.heap.size w w') : Ow B X w0 w' q p := by
  obtain ⟨fp, L, hf⟩ := O.ex
  exact ⟨⟨fp, L.below hb, hf⟩, O.be.trans (hb.mono O.bs), Nat.le_trans O.bs hb.size, fun g hg => Nat.lt_of_lt_of_le (O.xs g hg) hb.size⟩
theorem Ow.less (O : Ow B X w0 w q p) (h : ∀ g, X' g → X g) : Ow B X' w0 w q p := by
  obtain ⟨fp, L, hf⟩ := O.ex
  exact ⟨⟨fp, L, fun g hg => ⟨(hf g hg).1, fun hx => (hf g hg).2 (h g hx)⟩⟩, O.be, O.bs, fun g hg => O.xs g (h g hg)⟩
/-- What is new is kept too. -/
theorem Ow.add (O : Ow B X w0 w q p) (hb : Below w.heap.size w w') : Ow B (fun g => X g ∨ (w.heap.size ≤ g ∧ g < w'.heap.size)) w0 w' q p := by
  obtain ⟨fp, L, hf⟩ := O.ex
  refine ⟨⟨fp, L.below hb, fun g hg => ⟨(hf g hg).1, fun hx => ?_⟩⟩, O.be.trans (hb.mono O.bs), Nat.le_trans O.bs hb.size, fun g hg => ?_⟩
  · rcases hx with hx | ⟨hx, _⟩
    · exact (hf g hg).2 hx
    · have := L.size g hg
      omega
  · rcases hg with hg | ⟨_, hg⟩
    · exact Nat.lt_of_lt_of_le (O.xs g hg) hb.size
    · exact hg
theorem Ow.ok (O : Ow B X w0 w q p) : Ok p := by
  obtain ⟨fp, L, hf⟩ := O.ex
  exact L.ok
theorem Kx.of_below (O : Ow B X w0 w q p) (hb : Below w.heap.size w w') : Kx X w w' := ⟨hb.size, fun g hg => hb.block g (O.xs g hg)⟩
theorem Ow.to {fp : Nat → Prop} (O : Ow B X w0 w q p) (L : LedP w q p fp) (hf : ∀ g, fp g → B ≤ g ∧ ¬ X g) (h : LTo LineT (fun g => g = q) w q fp p' w') : OwTo B X w0 w q p' w' := by
  obtain ⟨h1, h2⟩ := h
  refine ⟨⟨⟨_, h1, fun g hg => ?_⟩, O.be.trans (h2.below (fun g hg => by rw [hg]; exact (hf q L.pin).1) O.bs), Nat.le_trans O.bs h2.size, fun g hg => Nat.lt_of_lt_of_le (O.xs g hg) h2.size⟩, h2.size, fun g hg => h2.block g (O.xs g hg) fun hp => (hf q L.pin).2 (by rw [← hp]; exact hg)⟩
  rcases hg with hg | ⟨hg, _⟩
  · exact hf g hg
  · exact ⟨Nat.le_trans O.bs hg, fun hx => by have := O.xs g hx; omega⟩
theorem ow_do (O : Ow B X w0 w q p) (o : Opn) : Calls Try.prog 30 #[.pointer (some ⟨q, 0, none⟩), opv o] w fun e w' => e = .returned (.int .i64 (dstp p o).2) ∧ OwTo B X w0 w q (dstp p o).1 w' := by
  obtain ⟨fp, L, hf⟩ := O.ex
  refine (do_any w q p fp L o).mono ?_
  rintro e w' ⟨rfl, h⟩
  exact ⟨rfl, O.to L hf h⟩
theorem ow_entry (O : Ow B X w0 w q p) (k : Int) : Calls Try.prog 34 #[.pointer (some ⟨q, 0, none⟩), .int .i64 k] w fun e w' => e = .returned (cell (p.f k)) ∧ Below w.heap.size w w' := by
  obtain ⟨fp, L, hf⟩ := O.ex
  exact entry_any w q p fp L k
theorem ow_bal (O : Ow B X w0 w q p) (c : Int) : Calls Try.prog 35 #[.pointer (some ⟨q, 0, none⟩), .int .i64 c] w fun e w' => e = .returned (.int .i64 (bal p c)) ∧ w = w' := by
  obtain ⟨fp, L, hf⟩ := O.ex
  obtain ⟨v, D, _⟩ := L.at_
  exact bal_pm w q p v D c
theorem ow_res (O : Ow B X w0 w q p) : Calls Try.prog 36 #[.pointer (some ⟨q, 0, none⟩)] w fun e w' => e = .returned (.int .i64 (p.a 4)) ∧ w = w' := by
  obtain ⟨fp, L, hf⟩ := O.ex
  obtain ⟨v, D, _⟩ := L.at_
  exact res_pm w q p v D
theorem ow_tak (O : Ow B X w0 w q p) : Calls Try.prog 37 #[.pointer (some ⟨q, 0, none⟩)] w fun e w' => e = .returned (.int .i64 (p.a 5)) ∧ w = w' := by
  obtain ⟨fp, L, hf⟩ := O.ex
  obtain ⟨v, D, _⟩ := L.at_
  exact tak_pm w q p v D
theorem ow_lines (O : Ow B X w0 w q p) : Calls Try.prog 38 #[.pointer (some ⟨q, 0, none⟩)] w (LinTo w p.l.length p.l) := by
  obtain ⟨fp, L, hf⟩ := O.ex
  exact lines_any w q p fp L
end
theorem ow_new (w : World) (a b c d : Int) (hI : ∀ z ∈ [a, b, c, d], Cs.I z) (h : mayF a b c d = true) : Calls Try.prog 26 #[.agg #[.int .i64 a, .int .i64 b, .int .i64 c, .int .i64 d]] w fun e w' => ∃ q, e = .returned (.tuple #[.pointer (some ⟨q, 0, none⟩), .int .i64 0]) ∧ Ow w.heap.size (fun g => g < w.heap.size) w w' q (new a b c d) := by
  refine (new_yes w a b c d hI h).mono ?_
  rintro e w' ⟨q, rfl, hq, L, hb⟩
  exact ⟨q, rfl, ⟨_, L, fun g hg => by subst hg; exact ⟨hq, by omega⟩⟩, hb, hb.size, fun g hg => Nat.lt_of_lt_of_le hg hb.size⟩
theorem state_run (e : E) (w : World) : (Instr.field 41 (cell e) 0).run Try.prog w = .ok (.int .i64 e.st) w := by
  cases e
  kernel_rfl
/-! ### == -/
theorem eq_ent_run (w : World) (a u t a' u' t' : Int) : (Op.equalIn 10000 41 (.agg #[.int .i64 a, .int .i64 0, .int .i64 0, .int .i64 u, .int .i64 t]) (.agg #[.int .i64 a', .int .i64 0, .int .i64 0, .int .i64 u', .int .i64 t'])).run Try.prog w = .ok (decide ((⟨a, u, t⟩ : E) = ⟨a', u', t'⟩)) w := by
  have u3 := Try.underlying3
  have a3 := Try.isAgg3
  have z3 := Try.sizeOf3
  have u2 := Try.underlying2
  have a2 := Try.isAgg2
  have z2 := Try.sizeOf2
  have hS : Try.prog.underlying 41 = some (.struct (Try.prog.fieldsOf 41)) := by kernel_rfl
  rw [show (10000 : Nat) = 9999 + 1 from rfl, run_equalIn_agg w 9999 41 _ _ hS Try.stoodInHeld41]
  simp only [Program.fieldsOf, Try.underlying41]
  go_simp
  by_cases h0 : a = a' <;> by_cases h1 : u = u' <;> by_cases h2 : t = t' <;> simp [h0, h1, h2]
theorem eq_lin_run (w : World) (a b c d a' b' c' d' : Int) : (Op.equalIn 10000 115 (.agg #[.int .i64 a, .int .i64 b, .int .i64 c, .int .i64 d]) (.agg #[.int .i64 a', .int .i64 b', .int .i64 c', .int .i64 d'])).run Try.prog w = .ok (decide ((⟨a, b, c, d⟩ : Ln) = ⟨a', b', c', d'⟩)) w := by
  have u3 := Try.underlying3
  have a3 := Try.isAgg3
  have z3 := Try.sizeOf3
  have u2 := Try.underlying2
  have a2 := Try.isAgg2
  have z2 := Try.sizeOf2
  have hS : Try.prog.underlying 115 = some (.struct (Try.prog.fieldsOf 115)) := by kernel_rfl
  rw [show (10000 : Nat) = 9999 + 1 from rfl, run_equalIn_agg w 9999 115 _ _ hS Try.stoodInHeld115]
  simp only [Program.fieldsOf, Try.underlying115]
  go_simp
  by_cases h0 : a = a' <;> by_cases h1 : b = b' <;> by_cases h2 : c = c' <;> by_cases h3 : d = d' <;> simp [h0, h1, h2, h3]
end Pu
end Go.Proofs.Ytchlbkfkecpodaa
