/- Parts of the claim: FoL, SgO, FoR, FoS -/
import Derived.ProofKit
import Derived.OpenShut
import Derived.Deep.Slices
import Derived.Carry
import Derived.Laws.IdiomArrays
import Derived.Laws.BitsLemmas
import Derived.Maps.AppendAt
import Derived.Deep.MidRow
import Derived.Great.BuildSlice
import Derived.Test.YtpkdigegkemogaaGreatDoorReXaT
import Derived.Test.YtpkdigegkemogaaGreatDoorSgXbT
import Derived.Test.YtpkdigegkemogaaGreatDoorSmXT
import Derived.Test.YtpkdigegkemogaaGreatDoorPkXT
namespace Go.Proofs.YtpkdigegkemogaaGreatDoor
namespace Fo
open Re (Rec)
section
variable {S : Type} (ap : S → Rec → Bool × S)
def apl (s : S) : List Rec → Option S
  | [] => some s
  | r :: l => if (ap s r).1 = true then apl (ap s r).2 l else none
def run (s : S) : List Rec → S × List Rec
  | [] => (s, [])
  | r :: l => if (ap s r).1 = true then ((run (ap s r).2 l).1, r :: (run (ap s r).2 l).2) else run s l
end
section
variable {S : Type} {ap : S → Rec → Bool × S} {s s' : S} {r : Rec} {l m : List Rec}
theorem apl_app : apl ap s (l ++ m) = (apl ap s l).bind fun s' => apl ap s' m := by
  induction l generalizing s with
  | nil => rfl
  | cons r l ih =>
    rw [List.cons_append]
    show (if (ap s r).1 = true then apl ap (ap s r).2 (l ++ m) else none) = (if (ap s r).1 = true then apl ap (ap s r).2 l else none).bind _
    split
    · exact ih
    · rfl
theorem apl_cut (h : apl ap s (l ++ m) = some s') : ∃ x, apl ap s l = some x ∧ apl ap x m = some s' := by
  rw [apl_app] at h
  cases hx : apl ap s l with
  | none => rw [hx] at h; cases h
  | some x => rw [hx] at h; exact ⟨x, rfl, h⟩
theorem apl_cons (h : apl ap s (r :: l) = some s') : (ap s r).1 = true ∧ apl ap (ap s r).2 l = some s' := by
  unfold apl at h
  split at h
  · rename_i h1
    exact ⟨h1, h⟩
  · cases h
theorem apl_at (h : apl ap s l = some s') {k : Nat} (hk : k < l.length) : ∃ x, apl ap s (l.take k) = some x ∧ (ap x l[k]).1 = true ∧ apl ap s (l.take (k + 1)) = some (ap x l[k]).2 := by
  have e : l = l.take k ++ (l[k] :: l.drop (k + 1)) := by
    conv => lhs; rw [← List.take_append_drop k l, List.drop_eq_getElem_cons hk]
  have h2 := h
  rw [e] at h2
  obtain ⟨x, h3, h4⟩ := apl_cut h2
  obtain ⟨h5, -⟩ := apl_cons h4
  refine ⟨x, h3, h5, ?_⟩
  rw [List.take_add_one, List.getElem?_eq_getElem hk, apl_app, h3]
  show apl ap x [l[k]] = _
  unfold apl
  rw [if_pos h5]
  rfl
end
end Fo
end Go.Proofs.YtpkdigegkemogaaGreatDoor
namespace Go.Proofs.YtpkdigegkemogaaGreatDoor
set_option maxRecDepth 100000
open Go.ChangeShapes Go.WideShapes Go.ChangeAt Go.WideMaps Go.WideElems Go.RowKit
namespace Sg
open Wt (Wan may Opn mayOp)
open Pl (Stp spv)

theorem own : ownKnob Tryz.prog.godebug = none := by kernel_rfl
theorem laidOut : laidOutB Tryz.prog = true := by kernel_rfl
section
variable {H : Type} {enc : TypeId × Value → H} {P : Program}
theorem post_below {f : Func} {s : ChangeSpec} {apart fresh handsOn again : Bool} {W W' : World} {args : Array Value} {v : Value} {ds gs : List (DataW H)} {before pa pv : List MemPlace}
    (hW : DataW.Whole enc P f.params.toList s.vars apart W args.toList ds gs before)
    (hres : ∀ (b : Nat) (sp : Nat → Bool) (hd : Bool), DataW.TrodAll enc P W' b sp hd f.resultTypes.toList (v.resultList f.resultTypes.size) (s.fn H (ds ++ gs)).results [])
    (hargs : ∀ sp : Nat → Bool, (∀ p ∈ before, sp p.block = true) → DataW.TrodAll enc P W' 0 sp true f.params.toList args.toList (s.fn H (ds ++ gs)).args pa)
    (hvars : ∀ sp : Nat → Bool, (∀ p ∈ before, sp p.block = true) → DataW.TrodVars enc P W' sp s.vars (s.fn H (ds ++ gs)).vars pv)
    (hps : before = pa ++ pv) (hb : Below W.heap.size W W')
    (hok : ∀ (j : Nat) (t : TypeId) (r : Value), f.resultTypes[j]? = some t → (v.resultList f.resultTypes.size)[j]? = some r → Value.okWide P W' .any 0 t r) :
    s.post enc P f apart fresh handsOn again W args v W' := by
  have lower : ∀ p ∈ before, p.block < W.heap.size := fun p hp => hW.lt p hp
  have within : ∀ p ∈ before, (fun b => decide (b < W.heap.size)) p.block = true := fun p hp => decide_eq_true (lower p hp)
  refine ⟨ds, gs, before, [], pa, pv, hW, hres _ _ _, hargs _ within, hvars _ within, ?_, fun _ => ?_⟩
  · refine World.keptBut_mono (fun p hp => ⟨hp, ?_⟩) (hb.frame (· ∈ before))
    rw [hps, List.mem_append] at hp
    exact .inr hp
  · obtain ⟨_, _, _, _, _, marks, once⟩ := hW
    refine ⟨hok, _, _, ([] ++ pa) ++ pv, ⟨[] ++ pa, pv, trodAll_append (hargs _ (fun _ _ => rfl)) (hres _ _ _), hvars _ (fun _ _ => rfl), rfl, fun b off hp => ?_, fun ha => ?_⟩, fun p hp _ => ?_⟩
    · have hin : MemPlace.cell b off ∈ before := by simpa [hps] using hp
      exact (hb.frozen (lower _ hin)).trans (marks b off hin)
    · simpa [hps] using once ha
    · simpa [hps] using hp
end
def usm (z : Int) (n : Nat) : Nat := ((z % 18446744073709551616) % (n : Int)).toNat
end Sg
end Go.Proofs.YtpkdigegkemogaaGreatDoor
namespace Go.Proofs.YtpkdigegkemogaaGreatDoor
set_option maxRecDepth 100000
open Go.ChangeShapes Go.WideShapes Go.ChangeAt Go.WideMaps Go.WideElems Go.RowKit
open Go.Proofs.YtpkdigegkemogaaGreatDoor.Pk (one_at one_free one_set lt_some grown_set grown_trans adr_block)
namespace Fo
open Re (Rec rcc rcv BoxR rec_size)

def frl (l : List Rec) : List Value := l.flatMap fun r => (rcc r).toList
theorem rcc_len (r : Rec) : (rcc r).toList.length = 19 := rfl
theorem frl_len (l : List Rec) : (frl l).length = l.length * 19 := by
  induction l with
  | nil => rfl
  | cons x l ih => rw [frl, List.flatMap_cons, List.length_append]; show 19 + (frl l).length = _; rw [ih, List.length_cons]; omega
theorem frl_app (a b : List Rec) : frl (a ++ b) = frl a ++ frl b := by simp [frl]
theorem frl_one (l : List Rec) : ∀ u ∈ frl l, u.oneCell' = true := by
  intro u hu
  obtain ⟨r, -, hr⟩ := List.mem_flatMap.1 hu
  have := Array.all_eq_true_iff_forall_mem.1 (Re.one19 r) u (by simpa using hr)
  exact this
theorem frl_at {l : List Rec} {k : Nat} {x : Rec} (h : l[k]? = some x) {j : Nat} (hj : j < 19) : (frl l)[k * 19 + j]? = (rcc x).toList[j]? := by
  obtain ⟨hk, e⟩ := List.getElem?_eq_some_iff.1 h
  subst e
  have e2 : frl l = frl (l.take k) ++ ((rcc l[k]).toList ++ frl (l.drop (k + 1))) := by
    conv => lhs; rw [← List.take_append_drop k l, List.drop_eq_getElem_cons hk]
    rw [frl_app]
    rfl
  have e3 : (frl (l.take k)).length = k * 19 := by rw [frl_len, List.length_take]; congr 1; omega
  rw [e2, List.getElem?_append_right (by omega), e3, List.getElem?_append_left (by rw [rcc_len]; omega)]
  congr 1
  omega
def RAt (w : World) (a : Addr) (i : Nat) (r : Rec) : Prop := ∀ (j : Nat) (v : Value), (rcc r).toList[j]? = some v → w.cell? ((a.add (i * 19)).add j) = some v
theorem add_block (a : Addr) (n : Nat) : (a.add n).block = a.block := by unfold Addr.add; split <;> rfl
theorem RAt.same {w w' : World} {a : Addr} {i : Nat} {r : Rec} (h : RAt w a i r) (hb : w'.heap[a.block]? = w.heap[a.block]?) : RAt w' a i r := fun j v hj =>
  (World.cell?_of_block (by rw [add_block, add_block]; exact hb)).trans (h j v hj)
structure Rin (w : World) (T : Nat → Prop) (A : Option Addr) (n : Nat) (l : List Rec) : Prop where
  len : l.length = n
  at_ : 0 < n → ∃ a, A = some a ∧ T a.block ∧ ∀ i r, l[i]? = some r → RAt w a i r
theorem Rin.keep {w w' : World} {T T' : Nat → Prop} {A : Option Addr} {n : Nat} {l : List Rec} (h : Rin w T A n l) (hk : ∀ g, T g → w'.heap[g]? = w.heap[g]?) (hT : ∀ g, T g → T' g) : Rin w' T' A n l :=
  ⟨h.len, fun hn => by
    obtain ⟨a, e, hT1, ha⟩ := h.at_ hn
    exact ⟨a, e, hT _ hT1, fun i r hi => (ha i r hi).same (hk _ hT1)⟩⟩
abbrev RowR (w : World) (base : Nat) (v : Value) (n : Nat) (l : List Rec) : Prop := w.ownsRow base 64 19 v n (frl l)
section
variable {w w' : World} {v v' : Value} {n base : Nat} {l : List Rec}
theorem rr_same (h : RowR w base v n l) (hk : ∀ g, v.ownBlock = some g → w'.heap[g]? = w.heap[g]?) : RowR w' base v n l := by
  refine ⟨h.1, ?_⟩
  rcases h.2 with h0 | ⟨g, cap, cur, hv, hb, hh, h2⟩
  · exact .inl h0
  · exact .inr ⟨g, cap, cur, hv, hb, (hk g (by rw [hv]; rfl)).trans hh, h2⟩
theorem rr_block {g : Nat} (h : RowR w base v n l) (hg : v.ownBlock = some g) : base ≤ g ∧ ∃ cur, w.heap[g]? = some (.cells cur 64 (0, 0)) := by
  rcases h.2 with ⟨rfl, _⟩ | ⟨g', cap, cur, rfl, hb, hh, _⟩
  · simp [Value.ownBlock] at hg
  · have : g' = g := by simpa [Value.ownBlock] using hg
    subst this
    exact ⟨hb, cur, hh⟩
theorem rr_lt {g : Nat} (h : RowR w base v n l) (hg : v.ownBlock = some g) : g < w.heap.size := by
  obtain ⟨_, cur, hc⟩ := rr_block h hg
  exact lt_some hc
theorem rr_below (h : RowR w base v n l) (hb : Below w.heap.size w w') : RowR w' base v n l := rr_same h fun g hg => hb.block g (rr_lt h hg)
theorem rr_form (h : RowR w base v n l) : ∃ A c, v = .slice A n c ∧ n ≤ c ∧ c ≤ 9223372036854775807 ∧ (A = none → c = 0) := by
  rcases h.2 with ⟨rfl, rfl⟩ | ⟨g, cap, cur, rfl, hb, hh, h1, h2, _⟩
  · exact ⟨_, _, rfl, Nat.le_refl _, by omega, fun _ => rfl⟩
  · unfold maxLen at h2
    exact ⟨_, _, rfl, h1, h2, fun h => by cases h⟩
theorem rr_len (h : RowR w base v n l) : l.length = n := by have := h.1; rw [frl_len] at this; omega
theorem rr_in {A : Option Addr} {c : Nat} (h : RowR w base (.slice A n c) n l) : Rin w (fun g => (Value.slice A n c).ownBlock = some g) A n l := by
  refine ⟨rr_len h, fun hn => ?_⟩
  rcases h.2 with ⟨e, e0⟩ | ⟨g, cap, cur, e, hb, hh, h1, h2, h3, h4⟩
  · omega
  · injection e with eA _ _
    subst eA
    refine ⟨⟨g, 0, none⟩, rfl, rfl, fun i r hi j u hj => ?_⟩
    have hj19 : j < 19 := by have := (List.getElem?_eq_some_iff.1 hj).1; rw [rcc_len] at this; exact this
    have hin : i < n := by rw [← rr_len h]; exact (List.getElem?_eq_some_iff.1 hi).1
    have ht : (cur.toList.take (n * 19))[i * 19 + j]? = (rcc r).toList[j]? := by rw [h4, frl_at hi hj19]
    rw [List.getElem?_take_of_lt (by omega), Array.getElem?_toList] at ht
    rw [Addr.add_lit, Addr.add_mid, Nat.zero_add, one_at hh, ht, hj]
theorem recs_under : Tryz.prog.underlying 32 = some (.slice 64) := Tryz.underlying32
theorem rec_info : (Tryz.prog.info? 64).map (fun i => (i.zero, i.size, i.bytes)) = some (some (.agg #[.int .i64 0, .int .i64 0, .int .i64 0, .int .i64 0, .int .i64 0, .int .i64 0, .int .i64 0, .int .i64 0, .int .i64 0, .int .i64 0, .int .i64 0, .int .i64 0, .int .i64 0, .int .i64 0, .int .i64 0, .int .i64 0, .int .i64 0, .int .i64 0, .int .i64 0]), 19, 152) := by kernel_rfl
theorem info_parts3 : ∃ i, Tryz.prog.info? 64 = some i ∧ i.zero = some (.agg #[.int .i64 0, .int .i64 0, .int .i64 0, .int .i64 0, .int .i64 0, .int .i64 0, .int .i64 0, .int .i64 0, .int .i64 0, .int .i64 0, .int .i64 0, .int .i64 0, .int .i64 0, .int .i64 0, .int .i64 0, .int .i64 0, .int .i64 0, .int .i64 0, .int .i64 0]) ∧ i.size = 19 ∧ i.bytes = 152 := by
  have := rec_info
  cases hq : Tryz.prog.info? 64 with
  | none => rw [hq] at this; cases this
  | some i =>
    rw [hq] at this
    simp only [Option.map_some, Option.some.injEq, Prod.mk.injEq] at this
    exact ⟨i, rfl, this.1, this.2.1, this.2.2⟩
theorem rr_app1 (w : World) (base : Nat) (v : Value) (n : Nat) (l : List Rec) (hown : RowR w base v n l) (x : Rec) (g : Nat) (hg : w.heap[g]? = some (.cells (rcc x) 64 (0, 0))) (hb : n + 1 ≤ 1000000) (hbase : base ≤ w.heap.size) :
    ∃ A' c' w', (Builtin.append_ #[32, 32] 32 #[v, .slice (some ⟨g, 0, none⟩) 1 1]).run Tryz.prog w = .ok (.slice A' (n + 1) c') w' ∧ RowR w' base (.slice A' (n + 1) c') (n + 1) (l ++ [x]) ∧ w.grownBy w' v.ownBlock ∧ ((Value.slice A' (n + 1) c').ownBlock = v.ownBlock ∨ (Value.slice A' (n + 1) c').ownBlock = some w.heap.size) := by
  obtain ⟨i0, hi, hz0, hz1, hz2⟩ := info_parts3
  obtain ⟨v', w', h1, h2, h3, _, h5⟩ := run_append_own_at (P := Tryz.prog) w base 32 32 64 i0 _ 19 152 recs_under hi hz0 hz1 hz2 rfl (by decide) v n (frl l) hown ⟨g, 0, none⟩ 1 1 (frl [x]) (by rw [frl_len]; rfl) (fun j u hu => by
    rw [Addr.add_lit, Nat.zero_add, one_at hg, ← Array.getElem?_toList]
    simpa [frl] using hu) (frl_one _) (by unfold maxLen; omega) (by omega) hbase
  rw [← frl_app] at h2
  obtain ⟨A', c', rfl, _⟩ := rr_form h2
  exact ⟨A', c', w', h1, h2, h3, h5⟩
end
theorem run_rload_at (w : World) (a : Addr) (r : Rec) (h : ∀ (j : Nat) (v : Value), (rcc r).toList[j]? = some v → w.cell? (a.add j) = some v) : (Instr.loadAt 64 (.pointer (some a))).run Tryz.prog w = .ok (rcv r) w := by
  have hl := run_loadCells_list (P := Tryz.prog) w a (rcc r).toList h
  obtain ⟨i, hq, -, hs, -⟩ := info_parts3
  have hagg : (isAgg 64).run Tryz.prog w = .ok true w := by
    unfold isAgg
    rw [Sem.run_bind, run_underlying Tryz.underlying64 w]
    rfl
  rw [rcc_len] at hl
  simp [Instr.loadAt, Instr.sureAddr, loadVar, Sem.run_bind, hagg, sizeOf, typeInfo, hq, hs, hl]
section
variable {ops : Array Oper} {rest : List Oper} {o : Oper} {a : Act} {w : World} {Q : Exit → Act → World → Prop} {K : Act → World → Prop}
theorem wpList_rload_at (hgd : o.guard = none) (x : Operand) (ho : o.op = .load 64 x) (p : Addr) (hx : a.eval x = .pointer (some p)) (r : Rec) (h : ∀ (j : Nat) (v : Value), (rcc r).toList[j]? = some v → w.cell? (p.add j) = some v)
    (hk : wpList Tryz.prog ops Q rest (a.put o.dst (rcv r)) w) : wpList Tryz.prog ops Q (o :: rest) a w :=
  wpList_plain hgd fun K hK => by
    unfold Oper.wp execOp
    simp only [ho, hx, Sem.run_bind, Sem.run_pure, Result.andThen_ok, run_rload_at w p r h]
    exact hK _ _ hk
end
end Fo
end Go.Proofs.YtpkdigegkemogaaGreatDoor
namespace Go.Proofs.YtpkdigegkemogaaGreatDoor
set_option maxRecDepth 100000
open Go.RowKit
open Go.Proofs.YtpkdigegkemogaaGreatDoor.Pk (one_at one_free one_set lt_some grown_set grown_trans u8s Copied Rb)
namespace Fo
open Re (Rec rcc rcv r0)
open St (Kq grq)

def usm (z : Int) (n : Nat) : Nat := ((z % 18446744073709551616) % (n : Int)).toNat
theorem usm_lt (z : Int) {n : Nat} (hn : 0 < n) : usm z n < n := by
  have h1 := Int.emod_nonneg (z % 18446744073709551616) (b := (n : Int)) (by omega)
  have h2 := Int.emod_lt_of_pos (z % 18446744073709551616) (b := (n : Int)) (by omega)
  unfold usm
  omega
theorem usm_is (z : Int) {n : Nat} (hn : 0 < n) : ((z % 18446744073709551616) % (n : Int)) = (usm z n : Int) := by
  have h1 := Int.emod_nonneg (z % 18446744073709551616) (b := (n : Int)) (by omega)
  unfold usm
  omega
theorem usm_slot (z : Int) {n : Nat} (hn : 0 < n) (hs : n ≤ 1000000) : wrap64 ((IntKind.u64.wrap z).tmod (n : Int)) = (usm z n : Int) := by
  have h0 : 0 ≤ IntKind.u64.wrap z := by rw [IntKind.wrap_u64]; omega
  have h1 := usm_lt z hn
  rw [Int.tmod_eq_emod_of_nonneg h0, IntKind.wrap_u64, usm_is z hn, IntWalk.wrap64_in _ (by omega)]

theorem wpList_app {w : World} {ops : Array Oper} {rest : List Oper} {o : Oper} {a : Act} {Q : Exit → Act → World → Prop} {t : TypeId} (hgd : o.guard = none) (s x : Operand) (ho : o.op = .call { callee := .builtin .append, args := #[s, x], argTypes := #[t, t] }) (hty : o.type = t)
    (v0 x0 : Value) (hs : a.eval s = v0) (hx : a.eval x = x0) {v' : Value} {w' : World} (hrun : (Builtin.append_ #[t, t] t #[v0, x0]).run Tryz.prog w = .ok v' w') (h : wpList Tryz.prog ops Q rest (a.put o.dst v') w') :
    wpList Tryz.prog ops Q (o :: rest) a w := by
  refine wpList_plain hgd fun K hK' => ?_
  unfold Oper.wp execOp
  simp only [ho, resolve, invoke, builtin, Sem.run_bind, Sem.run_pure, Result.andThen_ok, List.map_toArray, List.map_cons, List.map_nil, hs, hx, hty, hrun]
  exact hK' _ _ h
theorem fill_rec (r : Rec) (n : Nat) (hn : n = 19) : Instr.fill (fun i => some (i * n, n)) ((Array.range (1 * n)).map fun i => ((Value.agg #[.int .i64 0, .int .i64 0, .int .i64 0, .int .i64 0, .int .i64 0, .int .i64 0, .int .i64 0, .int .i64 0, .int .i64 0, .int .i64 0, .int .i64 0, .int .i64 0, .int .i64 0, .int .i64 0, .int .i64 0, .int .i64 0, .int .i64 0, .int .i64 0, .int .i64 0]).cells)[i % (Value.agg #[.int .i64 0, .int .i64 0, .int .i64 0, .int .i64 0, .int .i64 0, .int .i64 0, .int .i64 0, .int .i64 0, .int .i64 0, .int .i64 0, .int .i64 0, .int .i64 0, .int .i64 0, .int .i64 0, .int .i64 0, .int .i64 0, .int .i64 0, .int .i64 0, .int .i64 0]).cells.size]!) [(0, rcv r)] = some (rcc r) := by
  subst hn
  kernel_rfl
theorem run_bslice1 (w : World) (r : Rec) : (Instr.buildSlice 32 1 #[(0, rcv r)]).run Tryz.prog w = .ok (.slice (some ⟨w.heap.size, 0, none⟩) 1 1) (w.alloc (.cells (rcc r) 64)) := by
  obtain ⟨i, hi, hz, hs, -⟩ := info_parts3
  exact run_buildSlice w _ _ 1 _ _ i _ recs_under hi hz (by rw [hs]; decide) (by rw [hs]; decide) (fill_rec r i.size hs)
theorem wpList_bslice1 {w : World} {ops : Array Oper} {rest : List Oper} {o : Oper} {a : Act} {Q : Exit → Act → World → Prop} (hgd : o.guard = none) (x : Operand) (ho : o.op = .buildSlice 32 1 #[(0, x)]) (r : Rec) (hx : a.eval x = rcv r)
    (h : wpList Tryz.prog ops Q rest (a.put o.dst (.slice (some ⟨w.heap.size, 0, none⟩) 1 1)) (w.alloc (.cells (rcc r) 64))) : wpList Tryz.prog ops Q (o :: rest) a w := by
  refine wpList_plain hgd fun K hK' => ?_
  unfold Oper.wp execOp
  simp only [ho, hx, Sem.run_bind, Sem.run_pure, List.map_toArray, List.map_cons, List.map_nil, run_bslice1, Result.andThen_ok]
  exact hK' _ _ h
theorem own_str {w : World} {base : Nat} {A : Option Addr} {c : Nat} {bs : List UInt8} (ow : w.ownsRow base 5 1 (.slice A bs.length c) bs.length (u8s bs)) : (convert 70 9 (.slice A bs.length c)).run Tryz.prog w = .ok (.string (Pk.str bs)) w := Pk.str_run (Rb.of_own ow)
theorem strs_eq (a : List UInt8) : ((Pk.str a).toList == (Pk.str a).toList) = true := by simp
end Fo
end Go.Proofs.YtpkdigegkemogaaGreatDoor
