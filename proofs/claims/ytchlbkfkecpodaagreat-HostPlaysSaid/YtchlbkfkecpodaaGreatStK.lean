/- A ledger of the call's own, kept out of X; what each call on it leaves. -/
import Derived.Test.YtchlbkfkecpodaaGreatStJ
namespace Go.Proofs.YtchlbkfkecpodaaGreat
set_option maxRecDepth 100000
open Go.RowKit
open Go.Sort (grow)
open Go.Proofs.YtchlbkfkecpodaaGreat.Pk (one_at one_free one_set lt_some grown_set grown_trans below_grown grown_refl u8s adr_block own_form)
namespace St
open Wt (Opn mayOp)

/-- A ledger of the call's own: it lies behind B, out of X. -/
structure Ow (B : Nat) (X : Nat → Prop) (w0 w : World) (q : Nat) (cap over : Int) (f : F) : Prop where
  ex : ∃ fp, Led w q cap over f fp ∧ ∀ g, fp g → B ≤ g ∧ ¬ X g
  be : Below B w0 w
  bs : B ≤ w.heap.size
  xs : ∀ g, X g → g < w.heap.size
def Kx (X : Nat → Prop) (w w' : World) : Prop := w.heap.size ≤ w'.heap.size ∧ ∀ g, X g → w'.heap[g]? = w.heap[g]?
def OwTo (B : Nat) (X : Nat → Prop) (w0 w : World) (q : Nat) (cap over : Int) (f : F) (w' : World) : Prop := Ow B X w0 w' q cap over f ∧ Kx X w w'
section
variable {B : Nat} {X X' : Nat → Prop} {w0 w w' : World} {q : Nat} {cap over : Int} {f f' : F}
theorem Ow.below (O : Ow B X w0 w q cap over f) (hb : Below w.heap.size w w') : Ow B X w0 w' q cap over f := by
  obtain ⟨fp, L, hf⟩ := O.ex
  exact ⟨⟨fp, L.below hb, hf⟩, O.be.trans (hb.mono O.bs), Nat.le_trans O.bs hb.size, fun g hg => Nat.lt_of_lt_of_le (O.xs g hg) hb.size⟩
theorem Kx.of_below (O : Ow B X w0 w q cap over f) (hb : Below w.heap.size w w') : Kx X w w' := ⟨hb.size, fun g hg => hb.block g (O.xs g hg)⟩
theorem Ow.step (O : Ow B X w0 w q cap over f) (h : ∀ fp, Led w q cap over f fp → LTo w q cap over fp f' w') : OwTo B X w0 w q cap over f' w' := by
  obtain ⟨fp, L, hf⟩ := O.ex
  obtain ⟨h1, h2⟩ := h fp L
  refine ⟨⟨⟨_, h1, fun g hg => ?_⟩, O.be.trans (h2.below (fun g hg => (hf g hg).1) O.bs), Nat.le_trans O.bs h2.size, fun g hg => Nat.lt_of_lt_of_le (O.xs g hg) h2.size⟩, h2.size, fun g hg => h2.block g (O.xs g hg) fun hp => (hf g hp).2 hg⟩
  rcases hg with hg | ⟨hg, _⟩
  · exact hf g hg
  · exact ⟨Nat.le_trans O.bs hg, fun hx => by have := O.xs g hx; omega⟩
end
section
variable {B : Nat} {X : Nat → Prop} {w0 w : World} {q : Nat} {cap over : Int} {f : F}
theorem ow_do (O : Ow B X w0 w q cap over f) (o : Opn) (now : Int) : Calls Tryz.prog 16 #[.pointer (some ⟨q, 0, none⟩), opv o, .int .i64 now] w fun e w' => e = .returned (.int .i64 (dstp cap over f o now).2) ∧ OwTo B X w0 w q cap over (dstp cap over f o now).1 w' := by
  obtain ⟨fp, L, hf⟩ := O.ex
  refine (do_any w q cap over f fp L o now).mono ?_
  rintro e w' ⟨rfl, h1, h2⟩
  refine ⟨rfl, ⟨⟨_, h1, fun g hg => ?_⟩, O.be.trans (h2.below (fun g hg => (hf g hg).1) O.bs), Nat.le_trans O.bs h2.size, fun g hg => Nat.lt_of_lt_of_le (O.xs g hg) h2.size⟩, h2.size, fun g hg => h2.block g (O.xs g hg) fun hp => (hf g hp).2 hg⟩
  rcases hg with hg | ⟨hg, _⟩
  · exact hf g hg
  · exact ⟨Nat.le_trans O.bs hg, fun hx => by have := O.xs g hx; omega⟩
theorem ow_sweep (O : Ow B X w0 w q cap over f) (now : Int) : Calls Tryz.prog 19 #[.pointer (some ⟨q, 0, none⟩), .int .i64 now] w fun e w' => ∃ v, e = .returned v ∧ RowI w' w.heap.size v (swL f now).length (ivs (swL f now)) ∧ OwTo B X w0 w q cap over (swF f now) w' := by
  obtain ⟨fp, L, hf⟩ := O.ex
  refine (sweep_any w q cap over f fp L now).mono ?_
  rintro e w' ⟨v, rfl, hr, h1, h2⟩
  refine ⟨v, rfl, hr, ⟨⟨_, h1, fun g hg => ?_⟩, O.be.trans (h2.below (fun g hg => (hf g hg).1) O.bs), Nat.le_trans O.bs h2.size, fun g hg => Nat.lt_of_lt_of_le (O.xs g hg) h2.size⟩, h2.size, fun g hg => h2.block g (O.xs g hg) fun hp => (hf g hp).2 hg⟩
  rcases hg with hg | ⟨hg, _⟩
  · exact hf g hg
  · exact ⟨Nat.le_trans O.bs hg, fun hx => by have := O.xs g hx; omega⟩
theorem ow_entry (O : Ow B X w0 w q cap over f) (k : Int) (hk : Bd k) : Calls Tryz.prog 38 #[.pointer (some ⟨q, 0, none⟩), .int .i64 k] w fun e w' => e = .returned (cell (f k)) ∧ Below w.heap.size w w' := by
  obtain ⟨fp, L, hf⟩ := O.ex
  exact entry_any w q cap over f fp L k hk
theorem ow_free (O : Ow B X w0 w q cap over f) : Calls Tryz.prog 18 #[.pointer (some ⟨q, 0, none⟩)] w fun e w' => e = .returned (.int .i64 (room cap over f)) ∧ Below w.heap.size w w' := by
  obtain ⟨fp, L, hf⟩ := O.ex
  exact free_any w q cap over f fp L
theorem ow_held (O : Ow B X w0 w q cap over f) : Calls Tryz.prog 36 #[.pointer (some ⟨q, 0, none⟩)] w fun e w' => e = .returned (.int .i64 (uni 1 f)) ∧ Below w.heap.size w w' := by
  obtain ⟨fp, L, hf⟩ := O.ex
  exact held_any w q cap over f fp L
theorem ow_conf (O : Ow B X w0 w q cap over f) : Calls Tryz.prog 37 #[.pointer (some ⟨q, 0, none⟩)] w fun e w' => e = .returned (.int .i64 (uni 2 f)) ∧ Below w.heap.size w w' := by
  obtain ⟨fp, L, hf⟩ := O.ex
  exact conf_any w q cap over f fp L
theorem ow_bytes (O : Ow B X w0 w q cap over f) : Calls Tryz.prog 31 #[.pointer (some ⟨q, 0, none⟩)] w (ByTo w (bts cap over f 200)) := by
  obtain ⟨fp, L, hf⟩ := O.ex
  exact bytes_any w q cap over f fp L
theorem Ow.ok (O : Ow B X w0 w q cap over f) : Ok cap over f := by
  obtain ⟨fp, L, hf⟩ := O.ex
  exact L.ok
end
theorem ow_new (w : World) (cap over : Int) (h : mayS cap over = true) : Calls Tryz.prog 17 #[.agg #[.int .i64 cap, .int .i64 over]] w fun e w' => ∃ q, e = .returned (.tuple #[.pointer (some ⟨q, 0, none⟩), .int .i64 0]) ∧ Ow w.heap.size (fun g => g < w.heap.size) w w' q cap over fz := by
  refine (new_yes w cap over h).mono ?_
  rintro e w' ⟨q, rfl, hq, L, hb⟩
  exact ⟨q, rfl, ⟨_, L, fun g hg => by subst hg; exact ⟨hq, by omega⟩⟩, hb, hb.size, fun g hg => Nat.lt_of_lt_of_le hg hb.size⟩
theorem state_run (e : E) (w : World) : (Instr.field 32 (cell e) 0).run Tryz.prog w = .ok (.int .i64 e.st) w := by
  cases e
  kernel_rfl
end St
end Go.Proofs.YtchlbkfkecpodaaGreat
