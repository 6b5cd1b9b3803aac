/- Part of the claim: SgL -/
import Derived.ProofKit
import Derived.LaidMore
import Derived.OpenShut
import Derived.Stop.Joined
import Derived.Test.YtpkdigegkemogaaGreatDoorSgQ0T
namespace Go.Proofs.YtpkdigegkemogaaGreatDoor
set_option maxRecDepth 100000
open Go.ChangeShapes Go.WideShapes Go.ChangeAt Go.WideMaps Go.WideElems Go.RowKit
namespace Sg

abbrev laids {H : Type} : List (String × DataW H) := [("sojourn/saga.phases", Rows.laid_sojourn_saga_phases)]
theorem gPhases : Tryz.prog.globalNamed "sojourn/saga.phases" = some 0 := by kernel_rfl
theorem tPhases : (Tryz.prog.globals[0]?).map (·.type) = some 206 := by kernel_rfl
theorem door_met (os : Os) (args : Array Value) : laidMetH Tryz.prog laids ((World.doorLaid Tryz.prog 400 os).forCall (fun _ _ => 0) ⟨#[], args, []⟩).memory :=
  laidMetH_of_parts3 (fuel := 8) (laidMet_of_run' 8 (by kernel_rfl) (by kernel_rfl)) (by kernel_rfl) (by kernel_rfl)
section
variable {H : Type} {enc : TypeId × Value → H} {w : World} {base : Nat} {spare : Nat → Bool} {held : Bool} {fuel : Nat}
theorem row_of {cs : List Value} {x : DataW H × List MemPlace} {a b : Int} {c : Bool} (h : DataW.trod enc Tryz.prog w base spare held fuel 205 cs = some x) (hx : x.1 = .agg [.lit (.int .i64 a), .lit (.int .i64 b), .lit (.bool c)]) :
    cs[0]? = some (.int .i64 a) ∧ cs[1]? = some (.int .i64 b) ∧ cs[2]? = some (.bool c) := by
  obtain ⟨xs, n, _, rfl, hl, hlen, hf⟩ := DataW.trod_struct Tryz.underlying205 h
  match xs, hlen with
  | [y0, y1, y2], _ =>
    have f0 : DataW.trod enc Tryz.prog w base spare held n 3 ((cs.drop 0).take (Tryz.prog.cellsOf 3)) = some y0 := hf 0 _ rfl
    have f1 : DataW.trod enc Tryz.prog w base spare held n 3 ((cs.drop 1).take (Tryz.prog.cellsOf 3)) = some y1 := hf 1 _ rfl
    have f2 : DataW.trod enc Tryz.prog w base spare held n 4 ((cs.drop 2).take (Tryz.prog.cellsOf 4)) = some y2 := hf 2 _ rfl
    have c1 : Tryz.prog.cellsOf 3 = 1 := by kernel_rfl
    have c2 : Tryz.prog.cellsOf 4 = 1 := by kernel_rfl
    rw [c1] at f0 f1
    rw [c2] at f2
    obtain ⟨k0, e0, rfl, _⟩ := DataW.trod_int Tryz.underlying3 f0
    obtain ⟨k1, e1, rfl, _⟩ := DataW.trod_int Tryz.underlying3 f1
    obtain ⟨k2, e2, rfl⟩ := DataW.trod_bool Tryz.underlying4 f2
    simp only [List.map_cons, List.map_nil, DataW.agg.injEq, List.cons.injEq, DataW.lit.injEq, Lit.int.injEq, Lit.bool.injEq, true_and, and_true] at hx
    obtain ⟨rfl, rfl, rfl⟩ := hx
    have g0 := congrArg (fun z : List Value => z[0]?) e0
    have g1 := congrArg (fun z : List Value => z[0]?) e1
    have g2 := congrArg (fun z : List Value => z[0]?) e2
    simp only [List.getElem?_take, List.getElem?_drop, Nat.add_zero, List.getElem?_cons_zero] at g0 g1 g2
    exact ⟨by simpa using g0, by simpa using g1, by simpa using g2⟩
end
theorem of_laid {W : World} (h : laidMetH Tryz.prog laids W) : Tab W := by
  rw [MakeChecks.laidMetH_plain _ _ _ (by kernel_rfl)] at h
  obtain ⟨ps, ⟨g0, t0, cs0, f0, p0, q0, hg0, ht0, hv0, hd0, _⟩, _⟩ := h
  obtain rfl := Option.some.inj (gPhases.symm.trans hg0)
  obtain rfl := Option.some.inj (tPhases.symm.trans ht0)
  obtain ⟨xs, m1, rfl, hx1, hlen, hn3, hel⟩ := DataW.trod_array Tryz.underlying206 hd0
  have c1 : Tryz.prog.cellsOf 205 = 3 := by kernel_rfl
  rw [c1] at hel
  have hx2 := (DataW.agg.inj (Prod.mk.inj hx1).1).symm
  have R : ∀ i a b c, i < 6 → (xs.map (·.1))[i]? = some (.agg [.lit (.int .i64 a), .lit (.int .i64 b), .lit (.bool c)]) →
      W.cell? ⟨0, i * 3, none⟩ = some (.int .i64 a) ∧ W.cell? ⟨0, i * 3 + 1, none⟩ = some (.int .i64 b) ∧ W.cell? ⟨0, i * 3 + 2, none⟩ = some (.bool c) := by
    intro i a b c hi hd
    obtain ⟨y, hy⟩ : ∃ y, xs[i]? = some y := ⟨_, List.getElem?_eq_getElem (by omega)⟩
    rw [List.getElem?_map, hy] at hd
    have hE := hel i hi
    rw [hy] at hE
    obtain ⟨r0, r1, r2⟩ := row_of hE (Option.some.inj hd)
    simp only [List.getElem?_take, List.getElem?_drop, Nat.add_zero] at r0 r1 r2
    rw [World.var?_cell hg0 hv0 _, World.var?_cell hg0 hv0 _, World.var?_cell hg0 hv0 _, ← Array.getElem?_toList, ← Array.getElem?_toList, ← Array.getElem?_toList]
    exact ⟨by simpa using r0, by simpa using r1, by simpa using r2⟩
  rw [hx2] at R
  obtain ⟨c0, c1, c2⟩ := R 1 2 2 false (by omega) rfl
  obtain ⟨d0, d1, d2⟩ := R 2 4 2 false (by omega) rfl
  obtain ⟨e0, e1, e2⟩ := R 3 5 2 true (by omega) rfl
  obtain ⟨f0, f1, f2⟩ := R 4 0 3 false (by omega) rfl
  obtain ⟨g0, g1, g2⟩ := R 5 0 4 true (by omega) rfl
  exact ⟨c0, c1, c2, d0, d1, d2, e0, e1, e2, f0, f1, f2, g0, g1, g2⟩
end Sg
end Go.Proofs.YtpkdigegkemogaaGreatDoor
