/- Parts of the claim: FoL, FoR, FoP, FoS -/
import Derived.Maps.AppendAt
import Derived.Deep.MidRow
import Derived.Great.BuildSlice
import Derived.Test.YtpkdigegkemogaaGreatDoorReXP
import Derived.Test.YtpkdigegkemogaaGreatDoorSmXP
import Derived.Test.YtpkdigegkemogaaGreatDoorPkXP
namespace Go.Proofs.YtpkdigegkemogaaGreatDoor
namespace Fo
open Re (Rec)
section
variable {S : Type} (ap : S → Rec → Bool × S)
def apl (s : S) : List Rec → Option S
  | [] => some s
  | r :: l => if (ap s r).1 = true then apl (ap s r).2 l else none
def run (s : S) : List Rec → S × List Rec
  | [] => (s, [])
  | r :: l => if (ap s r).1 = true then ((run (ap s r).2 l).1, r :: (run (ap s r).2 l).2) else run s l
end
section
variable {S : Type} {ap : S → Rec → Bool × S} {s s' : S} {r : Rec} {l m : List Rec}
theorem apl_app : apl ap s (l ++ m) = (apl ap s l).bind fun s' => apl ap s' m := by
  induction l generalizing s with
  | nil => rfl
  | cons r l ih =>
    rw [List.cons_append]
    show (if (ap s r).1 = true then apl ap (ap s r).2 (l ++ m) else none) = (if (ap s r).1 = true then apl ap (ap s r).2 l else none).bind _
    split
    · exact ih
    · rfl
theorem run_snoc : run ap s (l ++ [r]) = (if (ap (run ap s l).1 r).1 = true then ((ap (run ap s l).1 r).2, (run ap s l).2 ++ [r]) else run ap s l) := by
  induction l generalizing s with
  | nil => rfl
  | cons x l ih =>
    rw [List.cons_append]
    unfold run
    split
    · rw [ih]
      split
      · rfl
      · rfl
    · exact ih
theorem apl_run : apl ap s (run ap s l).2 = some (run ap s l).1 := by
  induction l generalizing s with
  | nil => rfl
  | cons r l ih =>
    unfold run
    split
    · rename_i h
      unfold apl
      rw [if_pos h]
      exact ih
    · exact ih
theorem run_len : (run ap s l).2.length ≤ l.length := by
  induction l generalizing s with
  | nil => exact Nat.le_refl _
  | cons r l ih =>
    unfold run
    split
    · exact Nat.succ_le_succ ih
    · exact Nat.le_succ_of_le ih
theorem apl_cut (h : apl ap s (l ++ m) = some s') : ∃ x, apl ap s l = some x ∧ apl ap x m = some s' := by
  rw [apl_app] at h
  cases hx : apl ap s l with
  | none => rw [hx] at h; cases h
  | some x => rw [hx] at h; exact ⟨x, rfl, h⟩
theorem apl_cons (h : apl ap s (r :: l) = some s') : (ap s r).1 = true ∧ apl ap (ap s r).2 l = some s' := by
  unfold apl at h
  split at h
  · rename_i h1
    exact ⟨h1, h⟩
  · cases h
theorem apl_at (h : apl ap s l = some s') {k : Nat} (hk : k < l.length) : ∃ x, apl ap s (l.take k) = some x ∧ (ap x l[k]).1 = true ∧ apl ap s (l.take (k + 1)) = some (ap x l[k]).2 := by
  have e : l = l.take k ++ (l[k] :: l.drop (k + 1)) := by
    conv => lhs; rw [← List.take_append_drop k l, List.drop_eq_getElem_cons hk]
  have h2 := h
  rw [e] at h2
  obtain ⟨x, h3, h4⟩ := apl_cut h2
  obtain ⟨h5, -⟩ := apl_cons h4
  refine ⟨x, h3, h5, ?_⟩
  rw [List.take_add_one, List.getElem?_eq_getElem hk, apl_app, h3]
  show apl ap x [l[k]] = _
  unfold apl
  rw [if_pos h5]
  rfl
end
end Fo
end Go.Proofs.YtpkdigegkemogaaGreatDoor
namespace Go.Proofs.YtpkdigegkemogaaGreatDoor
set_option maxRecDepth 100000
open Go.ChangeShapes Go.WideShapes Go.ChangeAt Go.WideMaps Go.WideElems Go.RowKit
open Go.Proofs.YtpkdigegkemogaaGreatDoor.Pk (one_at one_free one_set lt_some grown_set grown_trans adr_block)
namespace Fo
open Re (Rec rcc rcv BoxR rec_size seen_saga)
open Sg (seen_op)

def frl (l : List Rec) : List Value := l.flatMap fun r => (rcc r).toList
theorem rcc_len (r : Rec) : (rcc r).toList.length = 19 := rfl
theorem frl_len (l : List Rec) : (frl l).length = l.length * 19 := by
  induction l with
  | nil => rfl
  | cons x l ih => rw [frl, List.flatMap_cons, List.length_append]; show 19 + (frl l).length = _; rw [ih, List.length_cons]; omega
theorem frl_app (a b : List Rec) : frl (a ++ b) = frl a ++ frl b := by simp [frl]
theorem frl_one (l : List Rec) : ∀ u ∈ frl l, u.oneCell' = true := by
  intro u hu
  obtain ⟨r, -, hr⟩ := List.mem_flatMap.1 hu
  have := Array.all_eq_true_iff_forall_mem.1 (Re.one19 r) u (by simpa using hr)
  exact this
theorem frl_at {l : List Rec} {k : Nat} {x : Rec} (h : l[k]? = some x) {j : Nat} (hj : j < 19) : (frl l)[k * 19 + j]? = (rcc x).toList[j]? := by
  obtain ⟨hk, e⟩ := List.getElem?_eq_some_iff.1 h
  subst e
  have e2 : frl l = frl (l.take k) ++ ((rcc l[k]).toList ++ frl (l.drop (k + 1))) := by
    conv => lhs; rw [← List.take_append_drop k l, List.drop_eq_getElem_cons hk]
    rw [frl_app]
    rfl
  have e3 : (frl (l.take k)).length = k * 19 := by rw [frl_len, List.length_take]; congr 1; omega
  rw [e2, List.getElem?_append_right (by omega), e3, List.getElem?_append_left (by rw [rcc_len]; omega)]
  congr 1
  omega
def RAt (w : World) (a : Addr) (i : Nat) (r : Rec) : Prop := ∀ (j : Nat) (v : Value), (rcc r).toList[j]? = some v → w.cell? ((a.add (i * 19)).add j) = some v
theorem add_block (a : Addr) (n : Nat) : (a.add n).block = a.block := by unfold Addr.add; split <;> rfl
theorem RAt.same {w w' : World} {a : Addr} {i : Nat} {r : Rec} (h : RAt w a i r) (hb : w'.heap[a.block]? = w.heap[a.block]?) : RAt w' a i r := fun j v hj =>
  (World.cell?_of_block (by rw [add_block, add_block]; exact hb)).trans (h j v hj)
structure Rin (w : World) (T : Nat → Prop) (A : Option Addr) (n : Nat) (l : List Rec) : Prop where
  len : l.length = n
  at_ : 0 < n → ∃ a, A = some a ∧ T a.block ∧ ∀ i r, l[i]? = some r → RAt w a i r
theorem Rin.keep {w w' : World} {T T' : Nat → Prop} {A : Option Addr} {n : Nat} {l : List Rec} (h : Rin w T A n l) (hk : ∀ g, T g → w'.heap[g]? = w.heap[g]?) (hT : ∀ g, T g → T' g) : Rin w' T' A n l :=
  ⟨h.len, fun hn => by
    obtain ⟨a, e, hT1, ha⟩ := h.at_ hn
    exact ⟨a, e, hT _ hT1, fun i r hi => (ha i r hi).same (hk _ hT1)⟩⟩
theorem Rin.take {w : World} {T : Nat → Prop} {A : Option Addr} {n : Nat} {l : List Rec} (h : Rin w T A n l) {k : Nat} (hk : k ≤ n) : Rin w T A k (l.take k) :=
  ⟨by rw [List.length_take, h.len]; omega, fun hn => by
    obtain ⟨a, e, hT, ha⟩ := h.at_ (by omega)
    refine ⟨a, e, hT, fun i r hi => ha i r ?_⟩
    rw [List.getElem?_take] at hi
    split at hi
    · exact hi
    · cases hi⟩
abbrev RowR (w : World) (base : Nat) (v : Value) (n : Nat) (l : List Rec) : Prop := w.ownsRow base 64 19 v n (frl l)
section
variable {w w' : World} {v v' : Value} {n base : Nat} {l : List Rec}
theorem rr_same (h : RowR w base v n l) (hk : ∀ g, v.ownBlock = some g → w'.heap[g]? = w.heap[g]?) : RowR w' base v n l := by
  refine ⟨h.1, ?_⟩
  rcases h.2 with h0 | ⟨g, cap, cur, hv, hb, hh, h2⟩
  · exact .inl h0
  · exact .inr ⟨g, cap, cur, hv, hb, (hk g (by rw [hv]; rfl)).trans hh, h2⟩
theorem rr_block {g : Nat} (h : RowR w base v n l) (hg : v.ownBlock = some g) : base ≤ g ∧ ∃ cur, w.heap[g]? = some (.cells cur 64 (0, 0)) := by
  rcases h.2 with ⟨rfl, _⟩ | ⟨g', cap, cur, rfl, hb, hh, _⟩
  · simp [Value.ownBlock] at hg
  · have : g' = g := by simpa [Value.ownBlock] using hg
    subst this
    exact ⟨hb, cur, hh⟩
theorem rr_lt {g : Nat} (h : RowR w base v n l) (hg : v.ownBlock = some g) : g < w.heap.size := by
  obtain ⟨_, cur, hc⟩ := rr_block h hg
  exact lt_some hc
theorem rr_below (h : RowR w base v n l) (hb : Below w.heap.size w w') : RowR w' base v n l := rr_same h fun g hg => hb.block g (rr_lt h hg)
theorem rr_form (h : RowR w base v n l) : ∃ A c, v = .slice A n c ∧ n ≤ c ∧ c ≤ 9223372036854775807 ∧ (A = none → c = 0) := by
  rcases h.2 with ⟨rfl, rfl⟩ | ⟨g, cap, cur, rfl, hb, hh, h1, h2, _⟩
  · exact ⟨_, _, rfl, Nat.le_refl _, by omega, fun _ => rfl⟩
  · unfold maxLen at h2
    exact ⟨_, _, rfl, h1, h2, fun h => by cases h⟩
theorem rr_len (h : RowR w base v n l) : l.length = n := by have := h.1; rw [frl_len] at this; omega
theorem rr_in {A : Option Addr} {c : Nat} (h : RowR w base (.slice A n c) n l) : Rin w (fun g => (Value.slice A n c).ownBlock = some g) A n l := by
  refine ⟨rr_len h, fun hn => ?_⟩
  rcases h.2 with ⟨e, e0⟩ | ⟨g, cap, cur, e, hb, hh, h1, h2, h3, h4⟩
  · omega
  · injection e with eA _ _
    subst eA
    refine ⟨⟨g, 0, none⟩, rfl, rfl, fun i r hi j u hj => ?_⟩
    have hj19 : j < 19 := by have := (List.getElem?_eq_some_iff.1 hj).1; rw [rcc_len] at this; exact this
    have hin : i < n := by rw [← rr_len h]; exact (List.getElem?_eq_some_iff.1 hi).1
    have ht : (cur.toList.take (n * 19))[i * 19 + j]? = (rcc r).toList[j]? := by rw [h4, frl_at hi hj19]
    rw [List.getElem?_take_of_lt (by omega), Array.getElem?_toList] at ht
    rw [Addr.add_lit, Addr.add_mid, Nat.zero_add, one_at hh, ht, hj]
theorem recs_under : Tryz.prog.underlying 32 = some (.slice 64) := Tryz.underlying32
theorem rec_info : (Tryz.prog.info? 64).map (fun i => (i.zero, i.size, i.bytes)) = some (some (.agg #[.int .i64 0, .int .i64 0, .int .i64 0, .int .i64 0, .int .i64 0, .int .i64 0, .int .i64 0, .int .i64 0, .int .i64 0, .int .i64 0, .int .i64 0, .int .i64 0, .int .i64 0, .int .i64 0, .int .i64 0, .int .i64 0, .int .i64 0, .int .i64 0, .int .i64 0]), 19, 152) := by kernel_rfl
theorem info_parts3 : ∃ i, Tryz.prog.info? 64 = some i ∧ i.zero = some (.agg #[.int .i64 0, .int .i64 0, .int .i64 0, .int .i64 0, .int .i64 0, .int .i64 0, .int .i64 0, .int .i64 0, .int .i64 0, .int .i64 0, .int .i64 0, .int .i64 0, .int .i64 0, .int .i64 0, .int .i64 0, .int .i64 0, .int .i64 0, .int .i64 0, .int .i64 0]) ∧ i.size = 19 ∧ i.bytes = 152 := by
  have := rec_info
  cases hq : Tryz.prog.info? 64 with
  | none => rw [hq] at this; cases this
  | some i =>
    rw [hq] at this
    simp only [Option.map_some, Option.some.injEq, Prod.mk.injEq] at this
    exact ⟨i, rfl, this.1, this.2.1, this.2.2⟩
theorem rr_app1 (w : World) (base : Nat) (v : Value) (n : Nat) (l : List Rec) (hown : RowR w base v n l) (x : Rec) (g : Nat) (hg : w.heap[g]? = some (.cells (rcc x) 64 (0, 0))) (hb : n + 1 ≤ 1000000) (hbase : base ≤ w.heap.size) :
    ∃ A' c' w', (Builtin.append_ #[32, 32] 32 #[v, .slice (some ⟨g, 0, none⟩) 1 1]).run Tryz.prog w = .ok (.slice A' (n + 1) c') w' ∧ RowR w' base (.slice A' (n + 1) c') (n + 1) (l ++ [x]) ∧ w.grownBy w' v.ownBlock ∧ ((Value.slice A' (n + 1) c').ownBlock = v.ownBlock ∨ (Value.slice A' (n + 1) c').ownBlock = some w.heap.size) := by
  obtain ⟨i0, hi, hz0, hz1, hz2⟩ := info_parts3
  obtain ⟨v', w', h1, h2, h3, _, h5⟩ := run_append_own_at (P := Tryz.prog) w base 32 32 64 i0 _ 19 152 recs_under hi hz0 hz1 hz2 rfl (by decide) v n (frl l) hown ⟨g, 0, none⟩ 1 1 (frl [x]) (by rw [frl_len]; rfl) (fun j u hu => by
    rw [Addr.add_lit, Nat.zero_add, one_at hg, ← Array.getElem?_toList]
    simpa [frl] using hu) (frl_one _) (by unfold maxLen; omega) (by omega) hbase
  rw [← frl_app] at h2
  obtain ⟨A', c', rfl, _⟩ := rr_form h2
  exact ⟨A', c', w', h1, h2, h3, h5⟩
end
theorem run_rload_at (w : World) (a : Addr) (r : Rec) (h : ∀ (j : Nat) (v : Value), (rcc r).toList[j]? = some v → w.cell? (a.add j) = some v) : (Instr.loadAt 64 (.pointer (some a))).run Tryz.prog w = .ok (rcv r) w := by
  have hl := run_loadCells_list (P := Tryz.prog) w a (rcc r).toList h
  obtain ⟨i, hq, -, hs, -⟩ := info_parts3
  have hagg : (isAgg 64).run Tryz.prog w = .ok true w := by
    unfold isAgg
    rw [Sem.run_bind, run_underlying Tryz.underlying64 w]
    rfl
  rw [rcc_len] at hl
  simp [Instr.loadAt, Instr.sureAddr, loadVar, Sem.run_bind, hagg, sizeOf, typeInfo, hq, hs, hl]
section
variable {ops : Array Oper} {rest : List Oper} {o : Oper} {a : Act} {w : World} {Q : Exit → Act → World → Prop} {K : Act → World → Prop}
theorem wpList_rload_at (hgd : o.guard = none) (x : Operand) (ho : o.op = .load 64 x) (p : Addr) (hx : a.eval x = .pointer (some p)) (r : Rec) (h : ∀ (j : Nat) (v : Value), (rcc r).toList[j]? = some v → w.cell? (p.add j) = some v)
    (hk : wpList Tryz.prog ops Q rest (a.put o.dst (rcv r)) w) : wpList Tryz.prog ops Q (o :: rest) a w :=
  wpList_plain hgd fun K hK => by
    unfold Oper.wp execOp
    simp only [ho, hx, Sem.run_bind, Sem.run_pure, Result.andThen_ok, run_rload_at w p r h]
    exact hK _ _ hk
end
theorem seen_rec {H : Type} {enc : TypeId × Value → H} {W : World} {sp : Nat → Bool} {held : Bool} {fuel : Nat} {x0 x1 x2 x3 x4 x5 x6 x7 x8 x9 x10 x11 x12 x13 x14 x15 x16 x17 x18 : Value} {d : DataW H} {p : List MemPlace} (hf' : DataW.trod enc Tryz.prog W 0 sp held fuel 64 [x0, x1, x2, x3, x4, x5, x6, x7, x8, x9, x10, x11, x12, x13, x14, x15, x16, x17, x18] = some (d, p)) :
    ∃ x : Rec, [x0, x1, x2, x3, x4, x5, x6, x7, x8, x9, x10, x11, x12, x13, x14, x15, x16, x17, x18] = (rcc x).toList := by
  have k3 : Tryz.prog.cellsOf 3 = 1 := by kernel_rfl
  have k5 : Tryz.prog.cellsOf 34 = 5 := by kernel_rfl
  have k11 : Tryz.prog.cellsOf 57 = 11 := by kernel_rfl
  obtain ⟨xs, fn, _, _, _, hxl, hg⟩ := DataW.trod_struct Tryz.underlying64 hf'
  have e0 : DataW.trod enc Tryz.prog W 0 sp held fn 3 (([x0, x1, x2, x3, x4, x5, x6, x7, x8, x9, x10, x11, x12, x13, x14, x15, x16, x17, x18].drop 0).take (Tryz.prog.cellsOf 3)) = xs[0]? := hg 0 _ rfl
  have e1 : DataW.trod enc Tryz.prog W 0 sp held fn 3 (([x0, x1, x2, x3, x4, x5, x6, x7, x8, x9, x10, x11, x12, x13, x14, x15, x16, x17, x18].drop 1).take (Tryz.prog.cellsOf 3)) = xs[1]? := hg 1 _ rfl
  have e2 : DataW.trod enc Tryz.prog W 0 sp held fn 3 (([x0, x1, x2, x3, x4, x5, x6, x7, x8, x9, x10, x11, x12, x13, x14, x15, x16, x17, x18].drop 2).take (Tryz.prog.cellsOf 3)) = xs[2]? := hg 2 _ rfl
  have e3 : DataW.trod enc Tryz.prog W 0 sp held fn 34 (([x0, x1, x2, x3, x4, x5, x6, x7, x8, x9, x10, x11, x12, x13, x14, x15, x16, x17, x18].drop 3).take (Tryz.prog.cellsOf 34)) = xs[3]? := hg 3 _ rfl
  have e4 : DataW.trod enc Tryz.prog W 0 sp held fn 57 (([x0, x1, x2, x3, x4, x5, x6, x7, x8, x9, x10, x11, x12, x13, x14, x15, x16, x17, x18].drop 8).take (Tryz.prog.cellsOf 57)) = xs[4]? := hg 4 _ rfl
  rw [k3] at e0 e1 e2
  rw [k5] at e3
  rw [k11] at e4
  simp only [List.drop_zero, List.drop_succ_cons, List.take_succ_cons, List.take_zero] at e0 e1 e2 e3 e4
  have hx : ∀ j, j < 5 → ∃ y, xs[j]? = some y := fun j hj => ⟨_, List.getElem?_eq_getElem (by rw [hxl]; exact hj)⟩
  obtain ⟨y0, z0⟩ := hx 0 (by omega)
  obtain ⟨m0, g0, _, _⟩ := DataW.trod_int Tryz.underlying3 (e0.trans z0)
  obtain ⟨y1, z1⟩ := hx 1 (by omega)
  obtain ⟨m1, g1, _, _⟩ := DataW.trod_int Tryz.underlying3 (e1.trans z1)
  obtain ⟨y2, z2⟩ := hx 2 (by omega)
  obtain ⟨m2, g2, _, _⟩ := DataW.trod_int Tryz.underlying3 (e2.trans z2)
  obtain ⟨y3, z3⟩ := hx 3 (by omega)
  obtain ⟨o, f0, f1, f2, f3, f4⟩ := seen_op (e3.trans z3)
  obtain ⟨y4, z4⟩ := hx 4 (by omega)
  obtain ⟨s, s0, s1, s2, s3, s4, s5, s6, s7, s8, s9, s10⟩ := seen_saga (e4.trans z4)
  simp only [List.cons.injEq, and_true] at g0 g1 g2
  exact ⟨⟨m0, m1, m2, o, s⟩, by rw [g0, g1, g2, f0, f1, f2, f3, f4, s0, s1, s2, s3, s4, s5, s6, s7, s8, s9, s10]⟩
def Rsrc (w : World) (v : Value) (l : List Rec) : Prop := ∃ A n c, v = .slice A n c ∧ n ≤ c ∧ c ≤ 9223372036854775807 ∧ (A = none → c = 0) ∧ Rin w (fun g => g < w.heap.size) A n l
theorem view_recs {H : Type} {enc : TypeId × Value → H} {W : World} {sp : Nat → Bool} {held : Bool} {v : Value} {d : DataW H} {p : List MemPlace} {r : Reach} {b0 : Nat}
    (hv : Value.okWide Tryz.prog W r b0 32 v) (h : DataW.Trod enc Tryz.prog W 0 sp held 32 v d p) : ∃ l, Rsrc W v l := by
  obtain ⟨A, n, c, rfl⟩ := okWide_slice Tryz.underlying32 hv
  obtain ⟨fuel, hf⟩ := h
  have c19 : Tryz.prog.cellsOf 64 = 19 := by kernel_rfl
  rcases Go.Deep.open_slice Tryz.underlying32 hf with ⟨hcs, _⟩ | ⟨a, len, cap, m, fu, D, Pl, hcs, _, hl, hm, hmm, _, hi⟩
  · obtain ⟨rfl, rfl, rfl⟩ : A = none ∧ n = 0 ∧ c = 0 := by simpa [Value.cells] using hcs
    exact ⟨[], none, 0, 0, rfl, Nat.le_refl _, by omega, fun _ => rfl, ⟨rfl, fun h => absurd h (by omega)⟩⟩
  · obtain ⟨rfl, rfl, rfl⟩ : A = some a ∧ n = len ∧ c = cap := by simpa [Value.cells] using hcs
    have hle : n ≤ m := by rw [hmm]; split <;> omega
    unfold maxLen at hm
    have one : ∀ i, i < n → ∃ r, RAt W a i r := by
      intro i hin
      obtain ⟨cs', h1, h2⟩ := hi i (by omega)
      rw [c19] at h1
      obtain ⟨_, hlen, hat⟩ := World.cells?_some h1
      match cs', hlen with
      | [x0, x1, x2, x3, x4, x5, x6, x7, x8, x9, x10, x11, x12, x13, x14, x15, x16, x17, x18], _ =>
        obtain ⟨r, e⟩ := seen_rec h2
        refine ⟨r, fun j u hj => ?_⟩
        have hj19 : j < 19 := (List.getElem?_eq_some_iff.1 hj).1
        have := hat j hj19
        rw [e, hj] at this
        exact this
    have all : ∀ k, k ≤ n → ∃ l : List Rec, l.length = k ∧ (∀ i o, l[i]? = some o → RAt W a i o) := by
      intro k
      induction k with
      | zero => intro _; exact ⟨[], rfl, fun i o h => by simp at h⟩
      | succ k ih =>
        intro hk
        obtain ⟨l, h1, h2⟩ := ih (by omega)
        obtain ⟨o, h4⟩ := one k (by omega)
        refine ⟨l ++ [o], by simp [h1], fun i o' hi => ?_⟩
        rw [List.getElem?_append] at hi
        split at hi
        · exact h2 i o' hi
        · rename_i hge
          have hi0 : i - l.length = 0 := by
            rcases Nat.eq_zero_or_pos (i - l.length) with e | e
            · exact e
            · rw [List.getElem?_eq_none (by simp; omega)] at hi; cases hi
          rw [hi0] at hi
          simp only [List.getElem?_cons_zero, Option.some.injEq] at hi
          subst hi
          obtain rfl : i = k := by omega
          exact h4
    obtain ⟨l, h1, h2⟩ := all n (Nat.le_refl _)
    refine ⟨l, some a, n, c, rfl, hl, by omega, (fun e => by cases e), ⟨h1, fun hn => ⟨a, rfl, ?_, h2⟩⟩⟩
    obtain ⟨o, h4⟩ := one 0 hn
    have := block_lt_of_cell (h4 0 _ rfl)
    rwa [add_block, add_block] at this
end Fo
end Go.Proofs.YtpkdigegkemogaaGreatDoor
namespace Go.Proofs.YtpkdigegkemogaaGreatDoor
set_option maxRecDepth 100000
open Go.RowKit
open Go.Proofs.YtpkdigegkemogaaGreatDoor.Pk (one_at one_free one_set lt_some grown_set grown_trans u8s Copied)
namespace Fo
open Re (Rec rcv r0)
open St (Kq grq)

abbrev cfP : Array Value := #[.int .i64 9, .int .i64 1, .int .i64 5, .int .i64 0, .int .i64 3, .int .i64 0, .int .i64 100, .int .i64 10, .int .i64 1000, .int .i64 0]
structure Prg where
  S : Type
  tb : World → Prop
  tb_lt : ∀ {w}, tb w → 0 < w.heap.size
  tb_sub : ∀ {w w' : World} {B : Nat}, tb w → Below B w w' → 0 < B → tb w'
  ini : Int → S
  ap : S → Rec → Bool × S
  no : ∀ {s r}, (ap s r).1 = false → (ap s r).2 = s
  bys : S → List UInt8
  R : World → Nat → S → (Nat → Prop) → Prop
  size : ∀ {w q s fp}, R w q s fp → ∀ g, fp g → g < w.heap.size
  keep : ∀ {w w' : World} {q s fp}, R w q s fp → w.heap.size ≤ w'.heap.size → (∀ g, fp g → w'.heap[g]? = w.heap[g]?) → R w' q s fp
  new : ∀ w, tb w → ∀ n : Int, 0 ≤ n → n ≤ 4 → Calls Tryz.prog 13 #[.int .i64 n, .agg cfP] w fun e w' => ∃ q fp, e = .returned (.tuple #[.pointer (some ⟨q, 0, none⟩), .int .i64 0]) ∧ R w' q (ini n) fp ∧ (∀ g, fp g → w.heap.size ≤ g) ∧ Below w.heap.size w w'
  apply : ∀ {w q s fp}, tb w → R w q s fp → ∀ r : Rec, Calls Tryz.prog 14 #[.pointer (some ⟨q, 0, none⟩), rcv r] w fun e w' => e = .returned (.bool (ap s r).1) ∧ R w' q (ap s r).2 (grq fp w w') ∧ Kq fp w w'
  bytes : ∀ {w q s fp}, tb w → R w q s fp → Calls Tryz.prog 11 #[.pointer (some ⟨q, 0, none⟩)] w (Copied w (bys s).length (bys s))
  fold : ∀ w, tb w → ∀ n : Int, 0 ≤ n → n ≤ 4 → ∀ (A : Option Addr) (m c : Nat) (l : List Rec) (s : S), Rin w (fun g => g < w.heap.size) A m l → m ≤ 1000 → m ≤ c → c ≤ 9223372036854775807 → (A = none → c = 0) → apl ap (ini n) l = some s →
    Calls Tryz.prog 9 #[.int .i64 n, .agg cfP, .slice A m c] w fun e w' => ∃ q fp, e = .returned (.tuple #[.pointer (some ⟨q, 0, none⟩), .int .i64 0]) ∧ R w' q s fp ∧ (∀ g, fp g → w.heap.size ≤ g) ∧ Below w.heap.size w w'
  apply0 : ∀ w, tb w → ∀ r : Rec, Calls Tryz.prog 14 #[.pointer none, rcv r] w fun e w' => e = .returned (.bool false) ∧ Below w.heap.size w w'
  entry0 : ∀ w, tb w → ∀ k : Int, Calls Tryz.prog 16 #[.pointer none, .int .i64 k] w fun e w' => e = .returned (.agg #[.int .i64 0, .int .i64 0, .int .i64 0, .int .i64 0, .int .i64 0]) ∧ Below w.heap.size w w'
  saga0 : ∀ w, tb w → ∀ k : Int, Calls Tryz.prog 15 #[.pointer none, .int .i64 k] w fun e w' => e = .returned (.tuple #[.agg #[.int .i64 0, .int .i64 0, .int .i64 0, .int .i64 0, .int .i64 0, .int .i64 0, .int .i64 0, .int .i64 0, .int .i64 0, .int .i64 0, .int .i64 0], .bool false]) ∧ Below w.heap.size w w'
  books0 : ∀ w, tb w → Calls Tryz.prog 17 #[.pointer none] w fun e w' => (∃ A c, e = .returned (.slice A 0 c)) ∧ Below w.heap.size w w'
  bytes0 : ∀ w, tb w → Calls Tryz.prog 11 #[.pointer none] w fun e w' => (∃ A c, e = .returned (.slice A 0 c)) ∧ Below w.heap.size w w'
  told : ∀ w, tb w → Calls Tryz.prog 10 #[] w fun e w' => e = .returned (.bool true) ∧ Below w.heap.size w w'

structure Ow (P : Prg) (B : Nat) (X : Nat → Prop) (w0 w : World) (q : Nat) (s : P.S) : Prop where
  ex : ∃ fp, P.R w q s fp ∧ ∀ g, fp g → B ≤ g ∧ ¬ X g
  be : Below B w0 w
  bs : B ≤ w.heap.size
  xs : ∀ g, X g → g < w.heap.size
def Kx (X : Nat → Prop) (w w' : World) : Prop := w.heap.size ≤ w'.heap.size ∧ ∀ g, X g → w'.heap[g]? = w.heap[g]?
section
variable {P : Prg} {B : Nat} {X X' : Nat → Prop} {w0 w w' : World} {q : Nat} {s s' : P.S}
theorem Ow.below (O : Ow P B X w0 w q s) (hb : Below w.heap.size w w') : Ow P B X w0 w' q s := by
  obtain ⟨fp, L, hf⟩ := O.ex
  exact ⟨⟨fp, P.keep L hb.size fun g hg => hb.block g (P.size L g hg), hf⟩, O.be.trans (hb.mono O.bs), Nat.le_trans O.bs hb.size, fun g hg => Nat.lt_of_lt_of_le (O.xs g hg) hb.size⟩
theorem ow_apply (O : Ow P B X w0 w q s) (t : P.tb w) (r : Rec) : Calls Tryz.prog 14 #[.pointer (some ⟨q, 0, none⟩), rcv r] w fun e w' => e = .returned (.bool (P.ap s r).1) ∧ Ow P B X w0 w' q (P.ap s r).2 ∧ Kx X w w' := by
  obtain ⟨fp, L, hf⟩ := O.ex
  refine (P.apply t L r).mono ?_
  rintro e w' ⟨rfl, h1, h2⟩
  refine ⟨rfl, ⟨⟨_, h1, fun g hg => ?_⟩, O.be.trans (h2.below (fun g hg => (hf g hg).1) O.bs), Nat.le_trans O.bs h2.size, fun g hg => Nat.lt_of_lt_of_le (O.xs g hg) h2.size⟩, h2.size, fun g hg => h2.block g (O.xs g hg) fun hp => (hf g hp).2 hg⟩
  rcases hg with hg | ⟨hg, _⟩
  · exact hf g hg
  · exact ⟨Nat.le_trans O.bs hg, fun hx => by have := O.xs g hx; omega⟩
theorem ow_bytes (O : Ow P B X w0 w q s) (t : P.tb w) : Calls Tryz.prog 11 #[.pointer (some ⟨q, 0, none⟩)] w (Copied w (P.bys s).length (P.bys s)) := by
  obtain ⟨fp, L, hf⟩ := O.ex
  exact P.bytes t L
end
theorem ow_new (P : Prg) (w : World) (t : P.tb w) (n : Int) (h0 : 0 ≤ n) (h1 : n ≤ 4) : Calls Tryz.prog 13 #[.int .i64 n, .agg cfP] w fun e w' => ∃ q, e = .returned (.tuple #[.pointer (some ⟨q, 0, none⟩), .int .i64 0]) ∧ Ow P w.heap.size (fun g => g < w.heap.size) w w' q (P.ini n) := by
  refine (P.new w t n h0 h1).mono ?_
  rintro e w' ⟨q, fp, rfl, L, hn, hb⟩
  exact ⟨q, rfl, ⟨fp, L, fun g hg => ⟨hn g hg, by have := hn g hg; omega⟩⟩, hb, hb.size, fun g hg => Nat.lt_of_lt_of_le hg hb.size⟩
theorem ow_fold (P : Prg) (w : World) (t : P.tb w) (n : Int) (h0 : 0 ≤ n) (h1 : n ≤ 4) {A : Option Addr} {m c : Nat} {l : List Rec} {s : P.S} (hr : Rin w (fun g => g < w.heap.size) A m l) (hm : m ≤ 1000) (hmc : m ≤ c) (hc : c ≤ 9223372036854775807) (hA : A = none → c = 0) (ha : apl P.ap (P.ini n) l = some s) :
    Calls Tryz.prog 9 #[.int .i64 n, .agg cfP, .slice A m c] w fun e w' => ∃ q, e = .returned (.tuple #[.pointer (some ⟨q, 0, none⟩), .int .i64 0]) ∧ Ow P w.heap.size (fun g => g < w.heap.size) w w' q s := by
  refine (P.fold w t n h0 h1 A m c l s hr hm hmc hc hA ha).mono ?_
  rintro e w' ⟨q, fp, rfl, L, hn, hb⟩
  exact ⟨q, rfl, ⟨fp, L, fun g hg => ⟨hn g hg, by have := hn g hg; omega⟩⟩, hb, hb.size, fun g hg => Nat.lt_of_lt_of_le hg hb.size⟩
end Fo
end Go.Proofs.YtpkdigegkemogaaGreatDoor
namespace Go.Proofs.YtpkdigegkemogaaGreatDoor
set_option maxRecDepth 100000
open Go.RowKit
open Go.Proofs.YtpkdigegkemogaaGreatDoor.Pk (one_at one_free one_set lt_some grown_set grown_trans u8s Copied Rb)
namespace Fo
open Re (Rec rcc rcv r0)
open St (Kq grq)

def usm (z : Int) (n : Nat) : Nat := ((z % 18446744073709551616) % (n : Int)).toNat
theorem usm_lt (z : Int) {n : Nat} (hn : 0 < n) : usm z n < n := by
  have h1 := Int.emod_nonneg (z % 18446744073709551616) (b := (n : Int)) (by omega)
  have h2 := Int.emod_lt_of_pos (z % 18446744073709551616) (b := (n : Int)) (by omega)
  unfold usm
  omega
theorem usm_is (z : Int) {n : Nat} (hn : 0 < n) : ((z % 18446744073709551616) % (n : Int)) = (usm z n : Int) := by
  have h1 := Int.emod_nonneg (z % 18446744073709551616) (b := (n : Int)) (by omega)
  unfold usm
  omega
theorem usm_slot (z : Int) {n : Nat} (hn : 0 < n) (hs : n ≤ 1000000) : wrap64 ((IntKind.u64.wrap z).tmod (n : Int)) = (usm z n : Int) := by
  have h0 : 0 ≤ IntKind.u64.wrap z := by rw [IntKind.wrap_u64]; omega
  have h1 := usm_lt z hn
  rw [Int.tmod_eq_emod_of_nonneg h0, IntKind.wrap_u64, usm_is z hn, IntWalk.wrap64_in _ (by omega)]

structure Sr (P : Prg) (w : World) (kc q : Nat) (x : P.S × List Rec) (v : Value) (W : World) : Prop where
  ow : Ow P w.heap.size (fun g => g < w.heap.size ∨ g = kc ∨ v.ownBlock = some g) w W q x.1
  row : RowR W w.heap.size v x.2.length x.2
  cf : W.heap[kc]? = some (.cells cfP 29 (0, 0))
  kl : w.heap.size ≤ kc
section
variable {P : Prg} {w W W' : World} {kc q : Nat} {x : P.S × List Rec} {v : Value}
theorem Sr.below (S : Sr P w kc q x v W) (hb : Below W.heap.size W W') : Sr P w kc q x v W' :=
  ⟨S.ow.below hb, rr_below S.row hb, (hb.block _ (lt_some S.cf)).trans S.cf, S.kl⟩
theorem Sr.tb (S : Sr P w kc q x v W) (ht : P.tb w) : P.tb W := P.tb_sub ht S.ow.be (P.tb_lt ht)
theorem Sr.far (S : Sr P w kc q x v W) : v.ownBlock ≠ some kc := fun e => by
  obtain ⟨_, cur, h⟩ := rr_block S.row e
  rw [S.cf] at h
  injection h with h
  injection h with _ h
  exact absurd h (by decide)
theorem sr_apply (S : Sr P w kc q x v W) (ht : P.tb w) (r : Rec) : Calls Tryz.prog 14 #[.pointer (some ⟨q, 0, none⟩), rcv r] W fun e w' => e = .returned (.bool (P.ap x.1 r).1) ∧ Sr P w kc q ((P.ap x.1 r).2, x.2) v w' := by
  refine (ow_apply S.ow (S.tb ht) r).mono ?_
  rintro e w' ⟨rfl, h1, h2⟩
  exact ⟨rfl, h1, rr_same S.row fun g hg => h2.2 g (.inr (.inr hg)), (h2.2 kc (.inr (.inl rfl))).trans S.cf, S.kl⟩
theorem sr_bytes (S : Sr P w kc q x v W) (ht : P.tb w) : Calls Tryz.prog 11 #[.pointer (some ⟨q, 0, none⟩)] W (Copied W (P.bys x.1).length (P.bys x.1)) := ow_bytes S.ow (S.tb ht)
theorem Sr.start {B : Nat} {W0 : World} {s : P.S} (O : Ow P B (fun g => g < B) W0 W q s) (hB : B = W0.heap.size) (hk : Below w.heap.size w W0) (hc : W0.heap[kc]? = some (.cells cfP 29 (0, 0))) (hl : w.heap.size ≤ kc) : Sr P w kc q (s, []) (.slice none 0 0) W := by
  subst hB
  obtain ⟨fp, L, hf⟩ := O.ex
  have hkl := lt_some hc
  refine ⟨⟨⟨fp, L, fun g hg => ⟨Nat.le_trans hk.size (hf g hg).1, ?_⟩⟩, hk.trans (O.be.mono hk.size), Nat.le_trans hk.size O.bs, ?_⟩, World.ownsRow_nil _ _ _ _, (O.be.block _ hkl).trans hc, hl⟩
  · rintro (h | h | h)
    · have := (hf g hg).1; have := hk.size; omega
    · have := (hf g hg).1; omega
    · simp [Value.ownBlock] at h
  · rintro g (h | h | h)
    · have := hk.size; have := O.bs; omega
    · subst h; exact Nat.lt_of_lt_of_le hkl O.bs
    · simp [Value.ownBlock] at h
theorem Sr.app (S : Sr P w kc q x v W) (r : Rec) (few : x.2.length ≤ 1000) : ∃ A' c' w', (Builtin.append_ #[32, 32] 32 #[v, .slice (some ⟨W.heap.size, 0, none⟩) 1 1]).run Tryz.prog (W.alloc (.cells (rcc r) 64)) = .ok (.slice A' (x.2.length + 1) c') w' ∧ Sr P w kc q (x.1, x.2 ++ [r]) (.slice A' (x.2.length + 1) c') w' := by
  have hb : Below W.heap.size W (W.alloc (.cells (rcc r) 64)) := (Below.refl _ _).alloc (Nat.le_refl _) _
  have X1 := S.below hb
  have hfar := S.far
  obtain ⟨A', c', w', h1, h2, h3, h5⟩ := rr_app1 _ w.heap.size v x.2.length x.2 X1.row r W.heap.size (heap_alloc_new _ _) (by omega) X1.ow.bs
  refine ⟨A', c', w', h1, ?_, by rw [List.length_append]; exact h2, ?_, S.kl⟩
  · obtain ⟨fp, H, hf⟩ := X1.ow.ex
    refine ⟨⟨fp, P.keep H h3.size fun g hg => h3.block g (P.size H g hg) fun e => (hf g hg).2 (.inr (.inr e.symm)), fun g hg => ⟨(hf g hg).1, fun hx => ?_⟩⟩, X1.ow.be.trans ⟨h3.os, h3.tape, h3.output, h3.size, fun i hi => h3.block i (Nat.lt_of_lt_of_le hi X1.ow.bs) fun e => by have := (rr_block X1.row e.symm).1; omega⟩, Nat.le_trans X1.ow.bs h3.size, fun g hg => ?_⟩
    · rcases hx with hx | hx | hx
      · exact (hf g hg).2 (.inl hx)
      · exact (hf g hg).2 (.inr (.inl hx))
      · rcases h5 with h5 | h5
        · rw [h5] at hx
          exact (hf g hg).2 (.inr (.inr hx))
        · rw [h5] at hx
          injection hx with hx
          have := P.size H g hg
          omega
    · rcases hg with hg | hg | hg
      · exact Nat.lt_of_lt_of_le (X1.ow.xs g (.inl hg)) h3.size
      · exact Nat.lt_of_lt_of_le (X1.ow.xs g (.inr (.inl hg))) h3.size
      · obtain ⟨_, cur, hc⟩ := rr_block h2 hg
        exact lt_some hc
  · exact (h3.block _ (lt_some X1.cf) (fun e => hfar e.symm)).trans X1.cf
end
theorem wpList_app {w : World} {ops : Array Oper} {rest : List Oper} {o : Oper} {a : Act} {Q : Exit → Act → World → Prop} {t : TypeId} (hgd : o.guard = none) (s x : Operand) (ho : o.op = .call { callee := .builtin .append, args := #[s, x], argTypes := #[t, t] }) (hty : o.type = t)
    (v0 x0 : Value) (hs : a.eval s = v0) (hx : a.eval x = x0) {v' : Value} {w' : World} (hrun : (Builtin.append_ #[t, t] t #[v0, x0]).run Tryz.prog w = .ok v' w') (h : wpList Tryz.prog ops Q rest (a.put o.dst v') w') :
    wpList Tryz.prog ops Q (o :: rest) a w := by
  refine wpList_plain hgd fun K hK' => ?_
  unfold Oper.wp execOp
  simp only [ho, resolve, invoke, builtin, Sem.run_bind, Sem.run_pure, Result.andThen_ok, List.map_toArray, List.map_cons, List.map_nil, hs, hx, hty, hrun]
  exact hK' _ _ h
theorem fill_rec (r : Rec) (n : Nat) (hn : n = 19) : Instr.fill (fun i => some (i * n, n)) ((Array.range (1 * n)).map fun i => ((Value.agg #[.int .i64 0, .int .i64 0, .int .i64 0, .int .i64 0, .int .i64 0, .int .i64 0, .int .i64 0, .int .i64 0, .int .i64 0, .int .i64 0, .int .i64 0, .int .i64 0, .int .i64 0, .int .i64 0, .int .i64 0, .int .i64 0, .int .i64 0, .int .i64 0, .int .i64 0]).cells)[i % (Value.agg #[.int .i64 0, .int .i64 0, .int .i64 0, .int .i64 0, .int .i64 0, .int .i64 0, .int .i64 0, .int .i64 0, .int .i64 0, .int .i64 0, .int .i64 0, .int .i64 0, .int .i64 0, .int .i64 0, .int .i64 0, .int .i64 0, .int .i64 0, .int .i64 0, .int .i64 0]).cells.size]!) [(0, rcv r)] = some (rcc r) := by
  subst hn
  kernel_rfl
theorem run_bslice1 (w : World) (r : Rec) : (Instr.buildSlice 32 1 #[(0, rcv r)]).run Tryz.prog w = .ok (.slice (some ⟨w.heap.size, 0, none⟩) 1 1) (w.alloc (.cells (rcc r) 64)) := by
  obtain ⟨i, hi, hz, hs, -⟩ := info_parts3
  exact run_buildSlice w _ _ 1 _ _ i _ recs_under hi hz (by rw [hs]; decide) (by rw [hs]; decide) (fill_rec r i.size hs)
theorem wpList_bslice1 {w : World} {ops : Array Oper} {rest : List Oper} {o : Oper} {a : Act} {Q : Exit → Act → World → Prop} (hgd : o.guard = none) (x : Operand) (ho : o.op = .buildSlice 32 1 #[(0, x)]) (r : Rec) (hx : a.eval x = rcv r)
    (h : wpList Tryz.prog ops Q rest (a.put o.dst (.slice (some ⟨w.heap.size, 0, none⟩) 1 1)) (w.alloc (.cells (rcc r) 64))) : wpList Tryz.prog ops Q (o :: rest) a w := by
  refine wpList_plain hgd fun K hK' => ?_
  unfold Oper.wp execOp
  simp only [ho, hx, Sem.run_bind, Sem.run_pure, List.map_toArray, List.map_cons, List.map_nil, run_bslice1, Result.andThen_ok]
  exact hK' _ _ h
theorem copied_str {w w' : World} {bs : List UInt8} {e : Ending} (h : Copied w bs.length bs e w') : ∃ A c, e = .returned (.slice A bs.length c) ∧ (convert 70 9 (.slice A bs.length c)).run Tryz.prog w' = .ok (.string (Pk.str bs)) w' ∧ w'.ownsRow w.heap.size 5 1 (.slice A bs.length c) bs.length (u8s bs) ∧ Below w.heap.size w w' := by
  obtain ⟨v, rfl, ow, hb⟩ := h
  obtain ⟨A, c, rfl⟩ := Pk.own_form ow
  exact ⟨A, c, rfl, Pk.str_run (Rb.of_own ow), ow, hb⟩
theorem own_str {w : World} {base : Nat} {A : Option Addr} {c : Nat} {bs : List UInt8} (ow : w.ownsRow base 5 1 (.slice A bs.length c) bs.length (u8s bs)) : (convert 70 9 (.slice A bs.length c)).run Tryz.prog w = .ok (.string (Pk.str bs)) w := Pk.str_run (Rb.of_own ow)
theorem strs_eq (a : List UInt8) : ((Pk.str a).toList == (Pk.str a).toList) = true := by simp
end Fo
end Go.Proofs.YtpkdigegkemogaaGreatDoor
