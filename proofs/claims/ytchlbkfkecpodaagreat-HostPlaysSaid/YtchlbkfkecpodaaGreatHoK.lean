/- A host of the call's own, kept out of X; what each call on it leaves. -/
import Derived.Test.YtchlbkfkecpodaaGreatHoF
import Derived.Test.YtchlbkfkecpodaaGreatStK
namespace Go.Proofs.YtchlbkfkecpodaaGreat
set_option maxRecDepth 100000
open Go.RowKit
open Go.Sort (grow)
open Go.Proofs.YtchlbkfkecpodaaGreat.Pk (one_at one_free one_set lt_some grown_set grown_trans below_grown grown_refl)
namespace Ho
open Wt (Opn mayOp)
open St (Kq grq Led dstp tick swF swL RowI ivs Kx ByTo)
open Tb (cnt)

/-- A host of the call's own: it lies behind B, out of X. -/
structure Ow (B : Nat) (X : Nat → Prop) (w0 w : World) (q : Nat) (cap over : Int) (s : S) : Prop where
  ex : ∃ fp, Hst w q cap over s fp ∧ ∀ g, fp g → B ≤ g ∧ ¬ X g
  be : Below B w0 w
  bs : B ≤ w.heap.size
  xs : ∀ g, X g → g < w.heap.size
def OwTo (B : Nat) (X : Nat → Prop) (w0 w : World) (q : Nat) (cap over : Int) (s : S) (w' : World) : Prop := Ow B X w0 w' q cap over s ∧ Kx X w w'
section
variable {B : Nat} {X X' : Nat → Prop} {w0 w w' : World} {q : Nat} {cap over : Int} {s s' : S}
theorem Ow.below (O : Ow B X w0 w q cap over s) (hb : Below w.heap.size w w') : Ow B X w0 w' q cap over s := by
  obtain ⟨fp, L, hf⟩ := O.ex
  exact ⟨⟨fp, L.below hb, hf⟩, O.be.trans (hb.mono O.bs), Nat.le_trans O.bs hb.size, fun g hg => Nat.lt_of_lt_of_le (O.xs g hg) hb.size⟩
theorem kx_below (O : Ow B X w0 w q cap over s) (hb : Below w.heap.size w w') : Kx X w w' := ⟨hb.size, fun g hg => hb.block g (O.xs g hg)⟩
/-- What is made behind it is out of its reach. -/
theorem Ow.beside (O : Ow B X w0 w q cap over s) (hb : Below w.heap.size w w') : Ow B (grq X w w') w0 w' q cap over s := by
  obtain ⟨fp, L, hf⟩ := O.ex
  refine ⟨⟨fp, L.below hb, fun g hg => ⟨(hf g hg).1, fun hx => ?_⟩⟩, O.be.trans (hb.mono O.bs), Nat.le_trans O.bs hb.size, fun g hg => ?_⟩
  · have := L.size g hg
    rcases hx with hx | ⟨hx, _⟩
    · exact (hf g hg).2 hx
    · omega
  · rcases hg with hg | ⟨_, hg⟩
    · exact Nat.lt_of_lt_of_le (O.xs g hg) hb.size
    · exact hg
theorem Ow.less (O : Ow B X w0 w q cap over s) (h : ∀ g, X' g → X g) : Ow B X' w0 w q cap over s := by
  obtain ⟨fp, L, hf⟩ := O.ex
  exact ⟨⟨fp, L, fun g hg => ⟨(hf g hg).1, fun hx => (hf g hg).2 (h g hx)⟩⟩, O.be, O.bs, fun g hg => O.xs g (h g hg)⟩
theorem Ow.ok (O : Ow B X w0 w q cap over s) : Ok cap over s := by
  obtain ⟨fp, L, hf⟩ := O.ex
  exact L.ok
theorem Ow.to (O : Ow B X w0 w q cap over s) {fp : Nat → Prop} (hf : ∀ g, fp g → B ≤ g ∧ ¬ X g) (h : HTo w q cap over fp s' w') : OwTo B X w0 w q cap over s' w' := by
  obtain ⟨h1, h2⟩ := h
  refine ⟨⟨⟨_, h1, fun g hg => ?_⟩, O.be.trans (h2.below (fun g hg => (hf g hg).1) O.bs), Nat.le_trans O.bs h2.size, fun g hg => Nat.lt_of_lt_of_le (O.xs g hg) h2.size⟩, h2.size, fun g hg => h2.block g (O.xs g hg) fun hp => (hf g hp).2 hg⟩
  rcases hg with hg | ⟨hg, _⟩
  · exact hf g hg
  · exact ⟨Nat.le_trans O.bs hg, fun hx => by have := O.xs g hx; omega⟩
/-- Something else is written beside it. -/
theorem Ow.side {d : Nat} (O : Ow B X w0 w q cap over s) (K : Kq (fun g => g = d) w w') (hX : X d) (hB : B ≤ d) : Ow B X w0 w' q cap over s := by
  obtain ⟨fp, L, hf⟩ := O.ex
  exact ⟨⟨fp, L.keep K.size fun g hg => K.block g (L.size g hg) fun e => (hf g hg).2 (by rw [e]; exact hX), hf⟩, O.be.trans (K.below (fun g hg => by rw [hg]; exact hB) O.bs), Nat.le_trans O.bs K.size, fun g hg => Nat.lt_of_lt_of_le (O.xs g hg) K.size⟩
end
section
variable {B : Nat} {X : Nat → Prop} {w0 w : World} {q : Nat} {cap over : Int} {s : S}
theorem ow_ask (O : Ow B X w0 w q cap over s) (o : Opn) (now : Int) : Calls Tryz.prog 9 #[.pointer (some ⟨q, 0, none⟩), opv o, .int .i64 now] w fun e w' => e = .returned (.tuple #[.int .i64 (ans cap over s o now), .bool (isNew s o now)]) ∧ OwTo B X w0 w q cap over (asked cap over s o now) w' := by
  obtain ⟨fp, L, hf⟩ := O.ex
  refine (ask_any w q cap over s fp o now L).mono ?_
  rintro e w' ⟨rfl, h1⟩
  exact ⟨rfl, O.to hf h1⟩
theorem ow_sweep (O : Ow B X w0 w q cap over s) (now : Int) : Calls Tryz.prog 7 #[.pointer (some ⟨q, 0, none⟩), .int .i64 now] w fun e w' => ∃ v, e = .returned v ∧ RowI w' w.heap.size v (swL s.f now).length (ivs (swL s.f now)) ∧ OwTo B X w0 w q cap over ⟨swF s.f now, s.g⟩ w' := by
  obtain ⟨fp, L, hf⟩ := O.ex
  refine (sweep_any w q cap over s fp now L).mono ?_
  rintro e w' ⟨v, rfl, hr, h1⟩
  exact ⟨v, rfl, hr, O.to hf h1⟩
/-- What Stock answers: another ledger, in blocks that were not there. -/
theorem ow_stock (O : Ow B X w0 w q cap over s) : Calls Tryz.prog 12 #[.pointer (some ⟨q, 0, none⟩)] w fun e w' => ∃ q', e = .returned (.pointer (some ⟨q', 0, none⟩)) ∧ St.Ow w.heap.size (fun g => g < w.heap.size) w w' q' cap over s.f := by
  obtain ⟨fp, L, hf⟩ := O.ex
  refine (stock_any w q cap over s fp L).mono ?_
  rintro e w' ⟨q', fp', rfl, hn, L', hb⟩
  exact ⟨q', rfl, ⟨⟨fp', L', fun g hg => ⟨hn g hg, by have := hn g hg; omega⟩⟩, hb, hb.size, fun g hg => Nat.lt_of_lt_of_le hg hb.size⟩⟩
theorem ow_answers (O : Ow B X w0 w q cap over s) : Calls Tryz.prog 11 #[.pointer (some ⟨q, 0, none⟩)] w fun e w' => e = .returned (.int .i64 (cnt s.g : Nat)) ∧ w = w' := by
  obtain ⟨fp, L, hf⟩ := O.ex
  exact answers_any w q cap over s fp L
theorem ow_bytes (O : Ow B X w0 w q cap over s) : Calls Tryz.prog 13 #[.pointer (some ⟨q, 0, none⟩)] w (ByTo w (hbts cap over s)) := by
  obtain ⟨fp, L, hf⟩ := O.ex
  exact bytes_any w q cap over s fp L
end
theorem ow_new (w : World) (cap over : Int) (h : St.mayS cap over = true) : Calls Tryz.prog 4 #[.agg #[.int .i64 cap, .int .i64 over]] w fun e w' => ∃ q, e = .returned (.tuple #[.pointer (some ⟨q, 0, none⟩), .int .i64 0]) ∧ Ow w.heap.size (fun g => g < w.heap.size) w w' q cap over sz := by
  refine (hnew_yes w cap over h).mono ?_
  rintro e w' ⟨q, rfl, hq, L, hb⟩
  exact ⟨q, rfl, ⟨_, L, fun g hg => by subst hg; exact ⟨hq, by omega⟩⟩, hb, hb.size, fun g hg => Nat.lt_of_lt_of_le hg hb.size⟩
end Ho
end Go.Proofs.YtchlbkfkecpodaaGreat
