/- A table of the call's own, kept out of X; what each call on it leaves. -/
import Derived.Test.YtiplhdeomlmpkaaTbD
import Derived.Test.YtiplhdeomlmpkaaTbG
namespace Go.Proofs.Ytiplhdeomlmpkaa
set_option maxRecDepth 100000
open Go.RowKit
open Go.Sort (grow)
open Go.Proofs.Ytiplhdeomlmpkaa.Pk (one_at one_free one_set lt_some grown_set grown_trans below_grown grown_refl)
namespace Tb
open Wt (Opn mayOp)

/-- A table of the call's own: it lies behind B, out of X. -/
structure Ow (B : Nat) (X : Nat → Prop) (w0 w : World) (q : Nat) (f : F) : Prop where
  ex : ∃ fp, Tab w q f fp ∧ ∀ g, fp g → B ≤ g ∧ ¬ X g
  be : Below B w0 w
  bs : B ≤ w.heap.size
  xs : ∀ g, X g → g < w.heap.size
def Kx (X : Nat → Prop) (w w' : World) : Prop := w.heap.size ≤ w'.heap.size ∧ ∀ g, X g → w'.heap[g]? = w.heap[g]?
def OwTo (B : Nat) (X : Nat → Prop) (w0 w : World) (q : Nat) (f : F) (w' : World) : Prop := Ow B X w0 w' q f ∧ Kx X w w'
section
variable {B : Nat} {X X' : Nat → Prop} {w0 w w' : World} {q : Nat} {f f' : F}
theorem Ow.below (O : Ow B X w0 w q f) (hb : Below w.heap.size w w') : Ow B X w0 w' q f := by
  obtain ⟨fp, L, hf⟩ := O.ex
  exact ⟨⟨fp, L.below hb, hf⟩, O.be.trans (hb.mono O.bs), Nat.le_trans O.bs hb.size, fun g hg => Nat.lt_of_lt_of_le (O.xs g hg) hb.size⟩
theorem Kx.of_below (O : Ow B X w0 w q f) (hb : Below w.heap.size w w') : Kx X w w' := ⟨hb.size, fun g hg => hb.block g (O.xs g hg)⟩
/-- What is made behind it is out of its reach. -/
theorem Ow.beside (O : Ow B X w0 w q f) (hb : Below w.heap.size w w') : Ow B (grq X w w') w0 w' q f := by
  obtain ⟨fp, L, hf⟩ := O.ex
  refine ⟨⟨fp, L.below hb, fun g hg => ⟨(hf g hg).1, fun hx => ?_⟩⟩, O.be.trans (hb.mono O.bs), Nat.le_trans O.bs hb.size, fun g hg => ?_⟩
  · have := L.size g hg
    rcases hx with hx | ⟨hx, _⟩
    · exact (hf g hg).2 hx
    · omega
  · rcases hg with hg | ⟨_, hg⟩
    · exact Nat.lt_of_lt_of_le (O.xs g hg) hb.size
    · exact hg
theorem Ow.less (O : Ow B X w0 w q f) (h : ∀ g, X' g → X g) : Ow B X' w0 w q f := by
  obtain ⟨fp, L, hf⟩ := O.ex
  exact ⟨⟨fp, L, fun g hg => ⟨(hf g hg).1, fun hx => (hf g hg).2 (h g hx)⟩⟩, O.be, O.bs, fun g hg => O.xs g (h g hg)⟩
theorem Ow.ok (O : Ow B X w0 w q f) : Ok f := by
  obtain ⟨fp, L, hf⟩ := O.ex
  exact L.ok
end
section
variable {B : Nat} {X : Nat → Prop} {w0 w : World} {q : Nat} {f : F}
theorem ow_put (O : Ow B X w0 w q f) (o : Opn) (a : Int) : Calls Try.prog 7 #[.pointer (some ⟨q, 0, none⟩), opv o, .int .i64 a] w fun e w' => e = .returned (.bool (put? f o a)) ∧ OwTo B X w0 w q (putF f o a) w' := by
  obtain ⟨fp, L, hf⟩ := O.ex
  refine (put_any w q f fp L o a).mono ?_
  rintro e w' ⟨rfl, h1, h2⟩
  refine ⟨rfl, ⟨⟨_, h1, fun g hg => ?_⟩, O.be.trans (h2.below (fun g hg => (hf g hg).1) O.bs), Nat.le_trans O.bs h2.size, fun g hg => Nat.lt_of_lt_of_le (O.xs g hg) h2.size⟩, h2.size, fun g hg => h2.block g (O.xs g hg) fun hp => (hf g hp).2 hg⟩
  rcases hg with hg | ⟨hg, _⟩
  · exact hf g hg
  · exact ⟨Nat.le_trans O.bs hg, fun hx => by have := O.xs g hx; omega⟩
theorem ow_find (O : Ow B X w0 w q f) (o : Opn) (hb : Bp (o.book, o.kind)) : Calls Try.prog 10 #[.pointer (some ⟨q, 0, none⟩), opv o] w fun e w' => e = .returned (.tuple #[.int .i64 (f o.book o.kind), .bool (ne0 (f o.book o.kind))]) ∧ Below w.heap.size w w' := by
  obtain ⟨fp, L, hf⟩ := O.ex
  exact find_any w q f fp L o hb
theorem ow_len (O : Ow B X w0 w q f) : Calls Try.prog 9 #[.pointer (some ⟨q, 0, none⟩)] w fun e w' => e = .returned (.int .i64 (cnt f : Nat)) ∧ w = w' := by
  obtain ⟨fp, L, hf⟩ := O.ex
  exact len_any w q f fp L
theorem ow_keys (O : Ow B X w0 w q f) : Calls Try.prog 12 #[.pointer (some ⟨q, 0, none⟩)] w (RisTo w (keys f)) := by
  obtain ⟨fp, L, hf⟩ := O.ex
  exact keys_any w q f fp L
end
theorem ow_new (w : World) : Calls Try.prog 6 #[] w fun e w' => ∃ q, e = .returned (.pointer (some ⟨q, 0, none⟩)) ∧ Ow w.heap.size (fun g => g < w.heap.size) w w' q fz := by
  refine (new_any w).mono ?_
  rintro e w' ⟨q, rfl, hq, L, hb⟩
  exact ⟨q, rfl, ⟨_, L, fun g hg => by subst hg; exact ⟨hq, by omega⟩⟩, hb, hb.size, fun g hg => Nat.lt_of_lt_of_le hg hb.size⟩
/-- Whether two keys are one. -/
theorem eq_key_run (w : World) (a b x y : Int) : (Op.equalIn 10000 40 (.agg #[.int .i64 a, .int .i64 b]) (.agg #[.int .i64 x, .int .i64 y])).run Try.prog w = .ok (a == x && b == y) w := by
  have u3 := Try.underlying3
  have a3 := Try.isAgg3
  have z3 := Try.sizeOf3
  rw [show (10000 : Nat) = 9999 + 1 from rfl, Op.equalIn]
  simp only [Sem.run_bind, run_underlying Try.underlying40, Result.andThen_ok]
  simp only [Std.Legacy.Range.forIn_eq_forIn_range', Std.Legacy.Range.size, Nat.sub_zero, Nat.add_sub_cancel, Nat.div_one, List.range'_succ, List.range'_zero, List.forIn_cons, List.forIn_nil]
  go_simp
  by_cases h1 : a = x <;> by_cases h2 : b = y <;> simp [h1, h2]
end Tb
end Go.Proofs.Ytiplhdeomlmpkaa
