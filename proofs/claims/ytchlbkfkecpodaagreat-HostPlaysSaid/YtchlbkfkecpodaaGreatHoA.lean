/- A host in memory: a ledger at the head of its block, a table behind it. -/
import Derived.Test.YtchlbkfkecpodaaGreatHoM
import Derived.Test.YtchlbkfkecpodaaGreatStJ
namespace Go.Proofs.YtchlbkfkecpodaaGreat
set_option maxRecDepth 100000
open Go.RowKit
open Go.Proofs.YtchlbkfkecpodaaGreat.Pk (one_at one_free one_set lt_some grown_set grown_trans below_grown grown_refl)
namespace Ho
open Wt (Opn mayOp)
open St (Kq grq grq_grq Led Kt dstp)
open Tb (Tab Kz)

section
variable {w w' : World} {h : Nat} {cap over : Int} {f f' : St.F} {g g' : Tb.F} {fl ft : Nat → Prop}
/-- A table stays where its block's cell and its map stay. -/
theorem tab_side (T : Tab w h 3 g ft) (hs : w.heap.size ≤ w'.heap.size) (hb : ∀ x, ft x → x ≠ h → w'.heap[x]? = w.heap[x]?) (hc : ∃ cs ty, w'.heap[h]? = some (.cells cs ty (0, 0))) (ht : w'.cell? ⟨h, 3, none⟩ = w.cell? ⟨h, 3, none⟩) : Tab w' h 3 g ft := by
  obtain ⟨mo, h1, h2, h3⟩ := T.at_
  obtain ⟨cs, ty, hc⟩ := hc
  refine ⟨T.ok, T.pin, fun x hx => Nat.lt_of_lt_of_le (T.size x hx) hs, mo, ⟨cs, ty, hc, ?_⟩, ?_, h3⟩
  · rw [← one_at (i := 3) hc, ht]
    exact h1.c
  · rcases h2 with h2 | ⟨m, D, e, ho, TT⟩
    · exact .inl h2
    · exact .inr ⟨m, D, e, Tb.owns_keep ho (hb m (h3 m e) fun e2 => h1.ne_map ho e2.symm), TT⟩
/-- A ledger stays where its cells and its map stay. -/
theorem led_side (L : Led w h cap over f fl) (hs : w.heap.size ≤ w'.heap.size) (hb : ∀ x, fl x → x ≠ h → w'.heap[x]? = w.heap[x]?) (hc : ∃ cs ty, w'.heap[h]? = some (.cells cs ty (0, 0))) (ht : ∀ i, i ≠ 3 → w'.cell? ⟨h, i, none⟩ = w.cell? ⟨h, i, none⟩) : Led w' h cap over f fl := by
  obtain ⟨mo, h1, h2, h3⟩ := L.at_
  obtain ⟨cs, ty, hc⟩ := hc
  refine ⟨L.ok, L.pin, fun x hx => Nat.lt_of_lt_of_le (L.size x hx) hs, mo, ⟨cs, ty, hc, ?_, ?_, ?_⟩, ?_, h3⟩
  · rw [← one_at (i := 0) hc, ht 0 (by decide)]
    exact h1.c0
  · rw [← one_at (i := 1) hc, ht 1 (by decide)]
    exact h1.c1
  · rw [← one_at (i := 2) hc, ht 2 (by decide)]
    exact h1.c2
  · rcases h2 with h2 | ⟨m, D, e, ho, TT⟩
    · exact .inl h2
    · exact .inr ⟨m, D, e, St.owns_keep ho (hb m (h3 m e) fun e2 => h1.ne_map ho e2.symm), TT⟩
end
/-- A host at block h: fp is what it writes. -/
structure Hst (w : World) (h : Nat) (cap over : Int) (s : S) (fp : Nat → Prop) : Prop where
  ex : ∃ fl ft, Led w h cap over s.f fl ∧ Tab w h 3 s.g ft ∧ (∀ x, fl x → ft x → x = h) ∧ (∀ x, fl x → fp x) ∧ ∀ x, ft x → fp x
  size : ∀ x, fp x → x < w.heap.size
def HTo (w : World) (h : Nat) (cap over : Int) (fp : Nat → Prop) (s : S) (w' : World) : Prop := Hst w' h cap over s (grq fp w w') ∧ Kq fp w w'
section
variable {w w' w1 w2 : World} {h : Nat} {cap over : Int} {s s' : S} {fp fp' : Nat → Prop}
theorem Hst.keep (H : Hst w h cap over s fp) (hs : w.heap.size ≤ w'.heap.size) (hk : ∀ x, fp x → w'.heap[x]? = w.heap[x]?) : Hst w' h cap over s fp := by
  obtain ⟨fl, ft, L, T, a, b, c⟩ := H.ex
  exact ⟨⟨fl, ft, L.keep hs fun x hx => hk x (b x hx), T.keep hs fun x hx => hk x (c x hx), a, b, c⟩, fun x hx => Nat.lt_of_lt_of_le (H.size x hx) hs⟩
theorem Hst.below (H : Hst w h cap over s fp) (hb : Below w.heap.size w w') : Hst w' h cap over s fp := H.keep hb.size fun x hx => hb.block x (H.size x hx)
theorem Hst.mono (H : Hst w h cap over s fp) (hf : ∀ x, fp x → fp' x) (hs : ∀ x, fp' x → x < w.heap.size) : Hst w h cap over s fp' := by
  obtain ⟨fl, ft, L, T, a, b, c⟩ := H.ex
  exact ⟨⟨fl, ft, L, T, a, fun x hx => hf x (b x hx), fun x hx => hf x (c x hx)⟩, hs⟩
theorem Hst.pin (H : Hst w h cap over s fp) : fp h := by
  obtain ⟨fl, ft, L, T, a, b, c⟩ := H.ex
  exact b h L.pin
theorem Hst.lt (H : Hst w h cap over s fp) : h < w.heap.size := H.size h H.pin
theorem Hst.ok (H : Hst w h cap over s fp) : Ok cap over s := by
  obtain ⟨fl, ft, L, T, a, b, c⟩ := H.ex
  exact ⟨L.ok, T.ok⟩
theorem HTo.of_below (H : Hst w h cap over s fp) (hb : Below w.heap.size w w') : HTo w h cap over fp s w' :=
  ⟨(H.below hb).mono (fun _ h => .inl h) fun x hx => by
    rcases hx with hx | ⟨_, hx⟩
    · exact Nat.lt_of_lt_of_le (H.size x hx) hb.size
    · exact hx, .of_below hb⟩
theorem HTo.trans (a : HTo w h cap over fp s w1) (b : HTo w1 h cap over (grq fp w w1) s' w2) : HTo w h cap over fp s' w2 := by
  obtain ⟨b1, b2⟩ := b
  rw [grq_grq a.2.size b2.size] at b1
  exact ⟨b1, a.2.trans b2⟩
theorem HTo.wide (a : HTo w h cap over fp s w') (hf : ∀ g, fp g → fp' g) (hs : ∀ g, fp' g → g < w.heap.size) : HTo w h cap over fp' s w' :=
  ⟨a.1.mono (fun g hg => by
    rcases hg with hg | hg
    · exact .inl (hf g hg)
    · exact .inr hg) fun g hg => by
    rcases hg with hg | ⟨_, hg⟩
    · exact Nat.lt_of_lt_of_le (hs g hg) a.2.size
    · exact hg, a.2.mono hf⟩
theorem HTo.after (H : Hst w h cap over s fp) (hb : Below w.heap.size w w1) (a : HTo w1 h cap over fp s' w2) : HTo w h cap over fp s' w2 := by
  have h0 := HTo.of_below H hb
  refine h0.trans (a.wide (fun g hg => .inl hg) fun g hg => ?_)
  rcases hg with hg | ⟨_, hg⟩
  · exact Nat.lt_of_lt_of_le (H.size g hg) hb.size
  · exact hg
/-- The ledger goes on. -/
theorem Hst.ledger (H : Hst w h cap over s fp) : ∃ fl, Led w h cap over s.f fl ∧ (∀ x, fl x → fp x) ∧ ∀ f' w', St.LTo w h cap over fl f' w' → HTo w h cap over fp ⟨f', s.g⟩ w' := by
  obtain ⟨fl, ft, L, T, a, b, c⟩ := H.ex
  refine ⟨fl, L, b, fun f' w' X => ?_⟩
  obtain ⟨L', K⟩ := X
  have T' : Tab w' h 3 s.g ft := by
    refine tab_side T K.size (fun x hx hn => K.block x (T.size x hx) fun hf => hn (a x hf hx)) ?_ (K.tail 3 (Nat.le_refl _))
    obtain ⟨mo, h1, _⟩ := L'.at_
    obtain ⟨cs, ty, hb, _⟩ := h1.blk
    exact ⟨cs, ty, hb⟩
  refine ⟨⟨⟨grq fl w w', ft, L', T', fun x hx ht => ?_, fun x hx => ?_, fun x hx => .inl (c x hx)⟩, fun x hx => ?_⟩, K.toKq.mono b⟩
  · rcases hx with hx | ⟨hx, _⟩
    · exact a x hx ht
    · exact absurd (T.size x ht) (by omega)
  · rcases hx with hx | hx
    · exact .inl (b x hx)
    · exact .inr hx
  · rcases hx with hx | ⟨_, hx⟩
    · exact Nat.lt_of_lt_of_le (H.size x hx) K.size
    · exact hx
/-- The table goes on. -/
theorem Hst.table (H : Hst w h cap over s fp) : ∃ ft, Tab w h 3 s.g ft ∧ (∀ x, ft x → fp x) ∧ ∀ g' w', Tb.LTo w h 3 ft g' w' → HTo w h cap over fp ⟨s.f, g'⟩ w' := by
  obtain ⟨fl, ft, L, T, a, b, c⟩ := H.ex
  refine ⟨ft, T, c, fun g' w' X => ?_⟩
  obtain ⟨T', K⟩ := X
  have L' : Led w' h cap over s.f fl := by
    refine led_side L K.size (fun x hx hn => K.block x (L.size x hx) fun hf => hn (a x hx hf)) ?_ K.rest
    obtain ⟨mo, h1, _⟩ := T'.at_
    obtain ⟨cs, ty, hb, _⟩ := h1.blk
    exact ⟨cs, ty, hb⟩
  refine ⟨⟨⟨fl, grq ft w w', L', T', fun x hl hx => ?_, fun x hx => .inl (b x hx), fun x hx => ?_⟩, fun x hx => ?_⟩, ⟨K.os, K.tape, K.output, K.size, fun g hg hn => K.block g hg fun e => hn (c g e)⟩⟩
  · rcases hx with hx | ⟨hx, _⟩
    · exact a x hl hx
    · exact absurd (L.size x hl) (by omega)
  · rcases hx with hx | hx
    · exact .inl (c x hx)
    · exact .inr hx
  · rcases hx with hx | ⟨_, hx⟩
    · exact Nat.lt_of_lt_of_le (H.size x hx) K.size
    · exact hx
/-- A new one. -/
theorem Hst.start {ty : TypeId} (O : Ok cap over sz) (e : w.heap[h]? = some (.cells #[.int .i64 cap, .int .i64 over, .map none, .map none] ty (0, 0))) : Hst w h cap over sz (fun x => x = h) :=
  ⟨⟨fun x => x = h, fun x => x = h, ⟨O.f, rfl, fun x hx => by rw [hx]; exact lt_some e, none, .of_row (l := [.map none]) e, .inl ⟨rfl, rfl⟩, fun m hm => (nomatch hm)⟩,
    ⟨O.g, rfl, fun x hx => by rw [hx]; exact lt_some e, none, ⟨_, _, e, rfl⟩, .inl ⟨rfl, rfl⟩, fun m hm => (nomatch hm)⟩, fun x hx _ => hx, fun x hx => hx, fun x hx => hx⟩, fun x hx => by rw [hx]; exact lt_some e⟩
end
end Ho
end Go.Proofs.YtchlbkfkecpodaaGreat
