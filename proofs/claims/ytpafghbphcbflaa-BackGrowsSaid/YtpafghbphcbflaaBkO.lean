/- Small words for the rows; numbers brought small; what waiting and trying come to. -/
import Derived.Test.YtpafghbphcbflaaBkA
import Derived.ProofKit
import Derived.OpenShut
import Derived.Deep.Slices
import Derived.Carry
import Derived.Laws.BitsLemmas
namespace Go.Proofs.Ytpafghbphcbflaa
set_option maxRecDepth 100000
open Go.ChangeShapes Go.WideShapes Go.ChangeAt Go.WideMaps Go.WideElems Go.RowKit
namespace Bk

theorem own : ownKnob Try.prog.godebug = none := by kernel_rfl
theorem laidOut : laidOutB Try.prog = true := by kernel_rfl
theorem bnd {x : Int} (h : (Lit.int .i64 x).wf = true) : -9223372036854775808 ≤ x ∧ x ≤ 9223372036854775807 := by
  simp [Lit.wf, IntKind.min, IntKind.max, IntKind.signed, IntKind.bits] at h
  omega
section
variable {H : Type} {enc : TypeId × Value → H} {P : Program}
/-- The row's last step where all that was there is as it was. -/
theorem post_below {f : Func} {s : ChangeSpec} {apart fresh handsOn again : Bool} {W W' : World} {args : Array Value} {v : Value} {ds gs : List (DataW H)} {before pa pv : List MemPlace}
    (hW : DataW.Whole enc P f.params.toList s.vars apart W args.toList ds gs before)
    (hres : ∀ (b : Nat) (sp : Nat → Bool) (hd : Bool), DataW.TrodAll enc P W' b sp hd f.resultTypes.toList (v.resultList f.resultTypes.size) (s.fn H (ds ++ gs)).results [])
    (hargs : ∀ sp : Nat → Bool, (∀ p ∈ before, sp p.block = true) → DataW.TrodAll enc P W' 0 sp true f.params.toList args.toList (s.fn H (ds ++ gs)).args pa)
    (hvars : ∀ sp : Nat → Bool, (∀ p ∈ before, sp p.block = true) → DataW.TrodVars enc P W' sp s.vars (s.fn H (ds ++ gs)).vars pv)
    (hps : before = pa ++ pv) (hb : Below W.heap.size W W')
    (hok : ∀ (j : Nat) (t : TypeId) (r : Value), f.resultTypes[j]? = some t → (v.resultList f.resultTypes.size)[j]? = some r → Value.okWide P W' .any 0 t r) :
    s.post enc P f apart fresh handsOn again W args v W' := by
  have lower : ∀ p ∈ before, p.block < W.heap.size := fun p hp => hW.lt p hp
  have within : ∀ p ∈ before, (fun b => decide (b < W.heap.size)) p.block = true := fun p hp => decide_eq_true (lower p hp)
  refine ⟨ds, gs, before, [], pa, pv, hW, hres _ _ _, hargs _ within, hvars _ within, ?_, fun _ => ?_⟩
  · refine World.keptBut_mono (fun p hp => ⟨hp, ?_⟩) (hb.frame (· ∈ before))
    rw [hps, List.mem_append] at hp
    exact .inr hp
  · obtain ⟨_, _, _, _, _, marks, once⟩ := hW
    refine ⟨hok, _, _, ([] ++ pa) ++ pv, ⟨[] ++ pa, pv, trodAll_append (hargs _ (fun _ _ => rfl)) (hres _ _ _), hvars _ (fun _ _ => rfl), rfl, fun b off hp => ?_, fun ha => ?_⟩, fun p hp _ => ?_⟩
    · have hin : MemPlace.cell b off ∈ before := by simpa [hps] using hp
      exact (hb.frozen (lower _ hin)).trans (marks b off hin)
    · simpa [hps] using once ha
    · simpa [hps] using hp
end
/-- int(uint(z) % n). -/
def usm (z : Int) (n : Nat) : Nat := ((z % 18446744073709551616) % (n : Int)).toNat
theorem usm_lt (z : Int) {n : Nat} (hn : 0 < n) : usm z n < n := by
  have h1 := Int.emod_nonneg (z % 18446744073709551616) (b := (n : Int)) (by omega)
  have h2 := Int.emod_lt_of_pos (z % 18446744073709551616) (b := (n : Int)) (by omega)
  unfold usm
  omega
theorem usm_is (z : Int) {n : Nat} (hn : 0 < n) : ((z % 18446744073709551616) % (n : Int)) = (usm z n : Int) := by
  have h1 := Int.emod_nonneg (z % 18446744073709551616) (b := (n : Int)) (by omega)
  unfold usm
  omega
theorem usm_slot (z : Int) {n : Nat} (hn : 0 < n) (hs : n ≤ 1000000) : wrap64 ((IntKind.u64.wrap z).tmod (n : Int)) = (usm z n : Int) := by
  have h0 : 0 ≤ IntKind.u64.wrap z := by rw [IntKind.wrap_u64]; omega
  have h1 := usm_lt z hn
  rw [Int.tmod_eq_emod_of_nonneg h0, IntKind.wrap_u64, usm_is z hn, IntWalk.wrap64_in _ (by omega)]
theorem wt_grows {n : Int} (h : 1 ≤ n) : 4 ≤ wt n ∧ wt n ≤ wt (n + 1) ∧ wt (n + 1) ≤ 2 * wt n ∧ wt (n + 1) ≤ 32 := by
  unfold wt
  repeat (split <;> try omega)
theorem mo_within {n : Int} (h : 1 ≤ n) (h2 : n ≤ 1000) : 4 * n ≤ mo n ∧ mo n ≤ 32 * n := by
  unfold mo
  repeat (split <;> try omega)
theorem mo_four {n : Int} (h : 4 ≤ n) (h2 : n ≤ 1000) : mo n = 60 + 32 * (n - 4) := by
  unfold mo
  repeat (split <;> try omega)
theorem mo_over {n : Int} (h : 0 ≤ n) : mo (1000 + n) = mo 1000 := by
  unfold mo
  repeat (split <;> try omega)
theorem due_from {s d n : Int} (hs : 0 ≤ s) (hd : 0 ≤ d) : due (s + d) s n = decide (wt n ≤ d) := by
  unfold due
  have e : s + d - s = d := by omega
  simp [e, hs, show 0 ≤ s + d by omega]
end Bk
end Go.Proofs.Ytpafghbphcbflaa
