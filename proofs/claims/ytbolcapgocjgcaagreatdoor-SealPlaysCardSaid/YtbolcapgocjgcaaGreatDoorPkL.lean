/- What the listed variable gives: the table of Sum; and small words for the rows. -/
import Derived.Test.YtbolcapgocjgcaaGreatDoorPk9
import Derived.ProofKit
import Derived.LaidMore
import Derived.OpenShut
import Derived.ShutString
import Derived.Stop.Joined
namespace Go.Proofs.YtbolcapgocjgcaaGreatDoor
open Go.ChangeShapes Go.WideShapes Go.ChangeAt Go.WideMaps Go.WideElems Go.RowKit
namespace Pk

abbrev laids {H : Type} : List (String × DataW H) := [("sojourn/pack.crcOf", Rows.laid_sojourn_pack_crcOf)]
theorem own : ownKnob Tryz.prog.godebug = none := by kernel_rfl
theorem gCrc : Tryz.prog.globalNamed "sojourn/pack.crcOf" = some 0 := by kernel_rfl
theorem tCrc : (Tryz.prog.globals[0]?).map (·.type) = some 125 := by kernel_rfl
theorem door_met (os : Os) (args : Array Value) : laidMetH Tryz.prog laids ((World.doorLaid Tryz.prog 400 os).forCall (fun _ _ => 0) ⟨#[], args, []⟩).memory :=
  laidMetH_of_parts3 (fuel := 8) (laidMet_of_run' 8 (by kernel_rfl) (by kernel_rfl)) (by kernel_rfl) (by kernel_rfl)

theorem of_laid {W : World} (h : laidMetH Tryz.prog laids W) : Tab W := by
  rw [MakeChecks.laidMetH_plain _ _ _ (by kernel_rfl)] at h
  obtain ⟨ps, ⟨g0, t0, cs0, f0, p0, q0, hg0, ht0, hv0, hd0, _⟩, _⟩ := h
  obtain rfl := Option.some.inj (gCrc.symm.trans hg0)
  obtain rfl := Option.some.inj (tCrc.symm.trans ht0)
  obtain ⟨xs, m1, rfl, hx1, hlen, hn3, hel⟩ := DataW.trod_array Tryz.underlying125 hd0
  have c1 : Tryz.prog.cellsOf 108 = 1 := by kernel_rfl
  rw [c1] at hel
  have hx2 := (Prod.mk.inj hx1).1
  intro i hi
  have hE := hel i hi
  obtain ⟨y, hy⟩ : ∃ y, xs[i]? = some y := ⟨_, List.getElem?_eq_getElem (by omega)⟩
  rw [hy, Nat.mul_one] at hE
  obtain ⟨k, e1, e2, _⟩ := DataW.trod_int Tryz.underlying108 hE
  have hk : (xs.map (·.1))[i]? = some (.lit (.int .u32 k)) := by rw [List.getElem?_map, hy, e2]; rfl
  rw [show (xs.map (·.1)) = _ from (DataW.agg.inj hx2).symm] at hk
  have hk2 : k = (tab i : Nat) := by
    match i, hi with
    | 0, _ | 1, _ | 2, _ | 3, _ | 4, _ | 5, _ | 6, _ | 7, _ | 8, _ | 9, _ | 10, _ | 11, _ | 12, _ | 13, _ | 14, _ | 15, _ =>
      simp at hk
      rw [← hk]; rfl
    | i + 16, h => omega
  rw [World.var?_cell hg0 hv0 i, ← Array.getElem?_toList]
  have := congrArg (fun z : List Value => z[0]?) e1
  simp only [List.getElem?_take, List.getElem?_drop, Nat.add_zero] at this
  rw [← hk2]
  simpa using this

variable {H : Type} {enc : TypeId × Value → H} {P : Program}
/-- The row's last step where all that was there is as it was. -/
theorem post_below {f : Func} {s : ChangeSpec} {apart fresh handsOn again : Bool} {W W' : World} {args : Array Value} {v : Value} {ds gs : List (DataW H)} {before pa pv : List MemPlace}
    (hW : DataW.Whole enc P f.params.toList s.vars apart W args.toList ds gs before)
    (hres : ∀ (b : Nat) (sp : Nat → Bool) (hd : Bool), DataW.TrodAll enc P W' b sp hd f.resultTypes.toList (v.resultList f.resultTypes.size) (s.fn H (ds ++ gs)).results [])
    (hargs : ∀ sp : Nat → Bool, (∀ p ∈ before, sp p.block = true) → DataW.TrodAll enc P W' 0 sp true f.params.toList args.toList (s.fn H (ds ++ gs)).args pa)
    (hvars : ∀ sp : Nat → Bool, (∀ p ∈ before, sp p.block = true) → DataW.TrodVars enc P W' sp s.vars (s.fn H (ds ++ gs)).vars pv)
    (hps : before = pa ++ pv) (hb : Below W.heap.size W W')
    (hok : ∀ (j : Nat) (t : TypeId) (r : Value), f.resultTypes[j]? = some t → (v.resultList f.resultTypes.size)[j]? = some r → Value.okWide P W' .any 0 t r) :
    s.post enc P f apart fresh handsOn again W args v W' := by
  have lower : ∀ p ∈ before, p.block < W.heap.size := fun p hp => hW.lt p hp
  have within : ∀ p ∈ before, (fun b => decide (b < W.heap.size)) p.block = true := fun p hp => decide_eq_true (lower p hp)
  have frame : W.keptBut W' (fun p => p ∈ before ∧ p ∈ [] ++ (pa ++ pv)) := World.keptBut_mono (fun p hp => ⟨hp, by simpa [hps] using hp⟩) (hb.frame (· ∈ before))
  refine ⟨ds, gs, before, [], pa, pv, hW, hres _ _ _, hargs _ within, hvars _ within, ?_, fun _ => ?_⟩
  · refine World.keptBut_mono (fun p hp => ⟨hp, ?_⟩) (hb.frame (· ∈ before))
    rw [hps, List.mem_append] at hp
    exact .inr hp
  · clear frame
    obtain ⟨_, _, _, _, _, marks, once⟩ := hW
    refine ⟨hok, _, _, ([] ++ pa) ++ pv, ⟨[] ++ pa, pv, trodAll_append (hargs _ (fun _ _ => rfl)) (hres _ _ _), hvars _ (fun _ _ => rfl), rfl, fun b off hp => ?_, fun ha => ?_⟩, fun p hp _ => ?_⟩
    · have hin : MemPlace.cell b off ∈ before := by simpa [hps] using hp
      exact (hb.frozen (lower _ hin)).trans (marks b off hin)
    · simpa [hps] using once ha
    · simpa [hps] using hp
end Pk
end Go.Proofs.YtbolcapgocjgcaaGreatDoor
