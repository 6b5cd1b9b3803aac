/- All that the laws lean on: what the program's calls answer. -/
import Derived.Test.YtakicogelkdofaaDoorSgQ5
import Derived.Test.YtakicogelkdofaaDoorSgQ6
import Derived.Test.YtakicogelkdofaaDoorSgP
import Derived.Test.YtakicogelkdofaaDoorWtE
namespace Go.Proofs.YtakicogelkdofaaDoor
set_option maxRecDepth 100000
open Go.RowKit
open Go.Proofs.YtakicogelkdofaaDoor.Pk (one_at one_free one_set lt_some grown_set grown_trans below_grown grown_refl)
namespace Sg
open Wt (Wan may Opn mayOp may_any inR put_any PutTo)
open Pl (Stp fwd bck cap z0 wanv spv)

set_option maxHeartbeats 6400000 in
theorem qputE_any (w : World) (t : Tab w) (s : Sag) (hs : smay s = false) : Calls Tryd.prog 27 #[sgv s] w fun e w' => e = .returned (.tuple #[.slice none 0 0, .int .i64 1]) ∧ Below w.heap.size w w' := by
  obtain ⟨W0, hW0⟩ : ∃ W0, W0 = w.alloc (.cells (sgc s) 26) := ⟨_, rfl⟩
  have B0 : BoxS W0 w.heap.size s := by rw [hW0]; exact heap_alloc_new _ _
  have be0 : Hid (Below w.heap.size w W0) := by rw [hW0]; exact (Below.refl _ w).alloc (Nat.le_refl _) _
  have M := put_any W0 s.w
  have T0 := t.below be0.out
  have V : Hid (∀ w', Below W0.heap.size W0 w' → Calls Tryd.prog 12 #[sgv s] w' fun e w'' => e = .returned (.bool false) ∧ Below w'.heap.size w' w'') := fun w' h => by
    have := smay_any w' (T0.below h) s
    rw [hs] at this
    exact this
  have C0 := B0.cells
  unfold sgv sgc at *
  clear t hs T0
  have hwl : w.heap.size < W0.heap.size := B0.lt
  replace hW0 := Lib.hid hW0
  replace M := Lib.hid M
  obtain ⟨c0, c1, c2, c3, c4, c5, c6, c7, c8, c9, ca⟩ := C0
  go_enter Tryd.func27, Tryd.ntmps27
  go_upto_region 1 with fail
  rw [← hW0.out]
  go_wp2_with fail
  refine M.out.mono ?_
  intro e w1 h1
  clear M hW0 c0 c1 c2 c3 c4 c5 c6 c7 c8 c9 ca
  cases hm : may s.w with
  | false =>
    obtain rfl := h1.no hm
    have b1 : Hid (Below w.heap.size w w1) := be0.out.trans (h1.be.mono be0.out.size)
    clear h1 V B0 be0 hm
    go_wp2_with fail
    go_ret2
    exact ⟨rfl, b1.out⟩
  | true =>
    obtain ⟨v, rfl, -⟩ := h1.yes hm
    have B1 := B0.below h1.be B0.lt
    obtain ⟨c0, c1, c2, c3, c4, c5, c6, c7, c8, c9, ca⟩ := B1.cells
    have hwl1 : w.heap.size < w1.heap.size := B1.lt
    have K := Lib.hid (V.out w1 h1.be)
    have b1 : Hid (Below w.heap.size w w1) := be0.out.trans (h1.be.mono be0.out.size)
    clear h1 V B0 be0 hm B1
    go_wp2_with fail
    refine K.out.mono ?_
    rintro e w2 ⟨rfl, h2⟩
    have b2 : Hid (Below w.heap.size w w2) := b1.out.trans (h2.mono b1.out.size)
    clear h2 K c0 c1 c2 c3 c4 c5 c6 c7 c8 c9 ca
    go_wp2_with fail
    go_ret2
    exact ⟨rfl, b2.out⟩
theorem qputN_any (w : World) (t : Tab w) (s : Sag) (hs : smay s = false) : Calls Tryd.prog 27 #[sgv s] w fun e w' => (∃ A c, e = .returned (.tuple #[.slice A 0 c, .int .i64 1])) ∧ Below w.heap.size w w' :=
  (qputE_any w t s hs).mono fun _ _ ⟨h1, h2⟩ => ⟨⟨_, _, h1⟩, h2⟩
/-- What the program's calls answer. -/
theorem prg : Prg where
  new := fun w _ x now => qnew_any w x now
  may := smay_any
  next := qnext_any
  ans := qans_any
  can := qcan_any
  late := qlate_any
  over := qover_any
  tells := qtells_any
  putN := qputN_any
end Sg
end Go.Proofs.YtakicogelkdofaaDoor
