/- Two ledgers of the call's own, apart from each other. -/
import Derived.Test.YtchlbkfkecpodaaStS
namespace Go.Proofs.Ytchlbkfkecpodaa
set_option maxRecDepth 100000
open Go.RowKit
open Go.Proofs.Ytchlbkfkecpodaa.Pk (one_at one_free one_set lt_some adr_block)
namespace St
open Wt (Opn mayOp)

structure Tw (B : Nat) (w0 w : World) (qa qc : Nat) (cap over : Int) (fa fc : F) : Prop where
  ex : ∃ pa pc, Led w qa cap over fa pa ∧ Led w qc cap over fc pc ∧ (∀ g, pa g → B ≤ g) ∧ (∀ g, pc g → B ≤ g) ∧ ∀ g, pa g → ¬ pc g
  be : Below B w0 w
  bs : B ≤ w.heap.size
section
variable {B : Nat} {w0 w w' : World} {qa qc : Nat} {cap over : Int} {fa fc : F}
theorem Tw.swap (T : Tw B w0 w qa qc cap over fa fc) : Tw B w0 w qc qa cap over fc fa := by
  obtain ⟨pa, pc, h1, h2, h3, h4, h5⟩ := T.ex
  exact ⟨⟨pc, pa, h2, h1, h4, h3, fun g hc ha => h5 g ha hc⟩, T.be, T.bs⟩
theorem Tw.below (T : Tw B w0 w qa qc cap over fa fc) (hb : Below w.heap.size w w') : Tw B w0 w' qa qc cap over fa fc := by
  obtain ⟨pa, pc, h1, h2, h3, h4, h5⟩ := T.ex
  exact ⟨⟨pa, pc, h1.below hb, h2.below hb, h3, h4, h5⟩, T.be.trans (hb.mono T.bs), Nat.le_trans T.bs hb.size⟩
theorem Tw.one (T : Tw B w0 w qa qc cap over fa fc) : ∃ pa, Led w qa cap over fa pa ∧ (∀ g, pa g → B ≤ g) ∧ Ow B pa w0 w qc cap over fc := by
  obtain ⟨pa, pc, h1, h2, h3, h4, h5⟩ := T.ex
  exact ⟨pa, h1, h3, ⟨pc, h2, fun g hg => ⟨h4 g hg, fun ha => h5 g ha hg⟩⟩, T.be, T.bs, fun g hg => h1.size g hg⟩
theorem Tw.of_ow {f' : F} {pa : Nat → Prop} (h1 : Led w qa cap over fa pa) (h3 : ∀ g, pa g → B ≤ g) (O : OwTo B pa w0 w qc cap over f' w') : Tw B w0 w' qa qc cap over fa f' := by
  obtain ⟨⟨⟨pc, L, hf⟩, be, bs, xs⟩, K⟩ := O
  exact ⟨⟨pa, pc, h1.keep K.1 K.2, L, h3, fun g hg => (hf g hg).1, fun g ha hc => (hf g hc).2 ha⟩, be, bs⟩
theorem tw_do (T : Tw B w0 w qa qc cap over fa fc) (o : Opn) (now : Int) : Calls Try.prog 12 #[.pointer (some ⟨qc, 0, none⟩), opv o, .int .i64 now] w fun e w' => e = .returned (.int .i64 (dstp cap over fc o now).2) ∧ Tw B w0 w' qa qc cap over fa (dstp cap over fc o now).1 := by
  obtain ⟨pa, h1, h3, O⟩ := T.one
  refine (ow_do O o now).mono ?_
  rintro e w' ⟨rfl, h⟩
  exact ⟨rfl, .of_ow h1 h3 h⟩
theorem tw_sweep (T : Tw B w0 w qa qc cap over fa fc) (now : Int) : Calls Try.prog 15 #[.pointer (some ⟨qc, 0, none⟩), .int .i64 now] w fun e w' => ∃ v, e = .returned v ∧ RowI w' w.heap.size v (swL fc now).length (ivs (swL fc now)) ∧ Tw B w0 w' qa qc cap over fa (swF fc now) := by
  obtain ⟨pa, h1, h3, O⟩ := T.one
  refine (ow_sweep O now).mono ?_
  rintro e w' ⟨v, rfl, hr, h⟩
  exact ⟨v, rfl, hr, .of_ow h1 h3 h⟩
theorem tw_bytes (T : Tw B w0 w qa qc cap over fa fc) : Calls Try.prog 13 #[.pointer (some ⟨qc, 0, none⟩)] w (ByTo w (bts cap over fc 200)) := by
  obtain ⟨pa, h1, h3, O⟩ := T.one
  exact ow_bytes O
theorem tw_entry (T : Tw B w0 w qa qc cap over fa fc) (k : Int) (hk : Bd k) : Calls Try.prog 17 #[.pointer (some ⟨qc, 0, none⟩), .int .i64 k] w fun e w' => e = .returned (cell (fc k)) ∧ Below w.heap.size w w' := by
  obtain ⟨pa, h1, h3, O⟩ := T.one
  exact ow_entry O k hk
end
/-- What a copy leaves. -/
theorem ow_copy {B : Nat} {X : Nat → Prop} {w0 w : World} {q : Nat} {cap over : Int} {f : F} (O : Ow B X w0 w q cap over f) : Calls Try.prog 14 #[.pointer (some ⟨q, 0, none⟩)] w fun e w' => ∃ q', e = .returned (.pointer (some ⟨q', 0, none⟩)) ∧ Tw B w0 w' q q' cap over f f := by
  obtain ⟨fp, L, hf⟩ := O.ex
  refine (copy_any w q cap over f fp L).mono ?_
  rintro e w' ⟨q', fp', rfl, hn, L', hb⟩
  exact ⟨q', rfl, ⟨fp, fp', L.below hb, L', fun g hg => (hf g hg).1, fun g hg => Nat.le_trans O.bs (hn g hg), fun g hg hg' => by
    have := L.size g hg
    have := hn g hg'
    omega⟩, O.be.trans (hb.mono O.bs), Nat.le_trans O.bs hb.size⟩
/-- A row of bytes, as a string. -/
theorem by_str {w w' : World} {bs : Bs} {e : Ending} (h : ByTo w bs e w') : ∃ A n c, e = .returned (.slice A n c) ∧ (convert 34 9 (.slice A n c)).run Try.prog w' = .ok (.string (Pk.str bs)) w' ∧ Below w.heap.size w w' := by
  obtain ⟨v, rfl, hr, hb⟩ := h
  obtain ⟨A, c, rfl⟩ := Pk.own_form hr
  exact ⟨A, _, c, rfl, Pk.str_run (Pk.Rb.of_own hr), hb⟩
end St
end Go.Proofs.Ytchlbkfkecpodaa
