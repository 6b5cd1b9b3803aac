/- told: what the program tells of a few. -/
import Derived.Test.YtchlbkfkecpodaaPuH
import Derived.Test.YtchlbkfkecpodaaTbD
import Derived.Laws.Tables
import Derived.Lib.Hide
import Derived.Test.YtchlbkfkecpodaaPuI
import Derived.Deep.RegionWith
import Derived.Test.YtchlbkfkecpodaaNoY
import Derived.Test.YtchlbkfkecpodaaPsY
import Derived.Test.YtchlbkfkecpodaaPuJ
namespace Go.Proofs.Ytchlbkfkecpodaa
namespace Ti
open Wt (Opn mayOp)
open Pu (dstp)

/-- Its purse, its answers. -/
structure S where
  p : Pu.S
  g : Tb.F
/-- May a purse be asked that? -/
def mayT (o : Opn) : Bool := mayOp o && decide (4 ≤ o.kind)
def asked (s : S) (o : Opn) : S := if mayT o = true ∧ s.g o.book o.kind = 0 then ⟨(dstp s.p o).1, Tb.putF s.g o (dstp s.p o).2⟩ else s
def ans (s : S) (o : Opn) : Int := if mayT o = true then (if s.g o.book o.kind = 0 then (dstp s.p o).2 else s.g o.book o.kind) else 2
def isNew (s : S) (o : Opn) : Bool := mayT o && s.g o.book o.kind == 0
structure Ok (s : S) : Prop where
  p : Pu.Ok s.p
  g : Tb.Ok s.g
section
variable {s : S} {o : Opn}
theorem mayt_iff : mayT o = true ↔ mayOp o = true ∧ 4 ≤ o.kind := by simp [mayT]
theorem dstp_ans (p : Pu.S) (o : Opn) : (dstp p o).2 = 1 ∨ (dstp p o).2 = 2 := by
  unfold dstp Pu.stp Pu.auth Pu.capt
  (repeat' split) <;> simp
theorem put_is (hm : mayT o = true) (hg : s.g o.book o.kind = 0) : Tb.put? s.g o (dstp s.p o).2 = true :=
  Tb.put_iff.2 ⟨(mayt_iff.1 hm).1, Tb.maya_iff.2 (dstp_ans s.p o), hg⟩
theorem asked_no (h : mayT o = false) : asked s o = s := by unfold asked; rw [if_neg (fun e => by rw [h] at e; exact absurd e.1 (by decide))]
theorem asked_old (h : s.g o.book o.kind ≠ 0) : asked s o = s := by unfold asked; rw [if_neg (fun e => h e.2)]
theorem asked_yes (h : mayT o = true) (hg : s.g o.book o.kind = 0) : asked s o = ⟨(dstp s.p o).1, Tb.putF s.g o (dstp s.p o).2⟩ := by unfold asked; rw [if_pos ⟨h, hg⟩]
theorem ans_no (h : mayT o = false) : ans s o = 2 := by unfold ans; rw [if_neg (by rw [h]; decide)]
theorem ans_old (h : mayT o = true) (hg : s.g o.book o.kind ≠ 0) : ans s o = s.g o.book o.kind := by unfold ans; rw [if_pos h, if_neg hg]
theorem ans_yes (h : mayT o = true) (hg : s.g o.book o.kind = 0) : ans s o = (dstp s.p o).2 := by unfold ans; rw [if_pos h, if_pos hg]
theorem new_no (h : mayT o = false) : isNew s o = false := by unfold isNew; rw [h]; rfl
theorem new_old (h : s.g o.book o.kind ≠ 0) : isNew s o = false := by unfold isNew; rw [beq_eq_false_iff_ne.2 h, Bool.and_false]
theorem new_yes (h : mayT o = true) (hg : s.g o.book o.kind = 0) : isNew s o = true := by unfold isNew; rw [h, hg]; rfl
theorem Ok.asked (h : Ok s) (o : Opn) : Ok (asked s o) := by
  unfold Ti.asked
  split
  · exact ⟨Pu.dstp_ok h.p o, h.g.put _ _⟩
  · exact h
theorem Ok.start {a b c d : Int} (h : Pu.Ok (Pu.new a b c d)) : Ok ⟨Pu.new a b c d, Tb.fz⟩ := ⟨h, Tb.ok_z⟩
end
end Ti
end Go.Proofs.Ytchlbkfkecpodaa

namespace Go.Proofs.Ytchlbkfkecpodaa
namespace Ti

theorem fold_size {o : Nat} : ∀ (l : List (Value × Nat)) (a : Array Value), (l.foldl (fun cs x => cs.setIfInBounds (o + x.2) x.1) a).size = a.size
  | [], _ => rfl
  | x :: l, a => by rw [List.foldl_cons, fold_size l]; simp
theorem fold_get {o : Nat} : ∀ (l : List Value) (k : Nat) (a : Array Value) (i : Nat), i < a.size → ((l.zipIdx k).foldl (fun cs x => cs.setIfInBounds (o + x.2) x.1) a)[i]? = if o + k ≤ i ∧ i < o + k + l.length then l[i - (o + k)]? else a[i]?
  | [], k, a, i, _ => by
    rw [if_neg (by simp only [List.length_nil]; omega)]
    rfl
  | x :: l, k, a, i, hi => by
    rw [List.zipIdx_cons, List.foldl_cons, fold_get l (k + 1) _ i (by simpa using hi)]
    by_cases h1 : i = o + k
    · subst h1
      rw [if_neg (by omega), if_pos (by simp only [List.length_cons]; omega)]
      simp [hi]
    · by_cases h2 : o + (k + 1) ≤ i ∧ i < o + (k + 1) + l.length
      · rw [if_pos h2, if_pos (by simp only [List.length_cons]; omega), show i - (o + k) = (i - (o + (k + 1))) + 1 by omega, List.getElem?_cons_succ]
      · rw [if_neg h2, if_neg (by simp only [List.length_cons]; omega)]
        rw [Array.getElem?_setIfInBounds_ne (by show o + k ≠ i; omega)]
theorem fill_head (place : Nat → Option (Nat × Nat)) (cells cs : Array Value) (hp : place 0 = some (0, cs.size)) (hle : cs.size ≤ cells.size) :
    Instr.fill place cells [(0, .agg cs)] = some (cs.toList ++ cells.toList.drop cs.size).toArray := by
  have e : Instr.fill place cells [(0, .agg cs)] = some (cs.zipIdx.foldl (fun cs x => cs.setIfInBounds (0 + x.2) x.1) cells) := by
    have h1 : (Value.agg cs).cells = cs := rfl
    simp [Instr.fill, hp, h1, Nat.not_lt.2 hle]
  rw [e]
  congr 1
  rw [← Array.foldl_toList, Array.toList_zipIdx]
  refine Array.ext_getElem? fun i => ?_
  by_cases hi : i < cells.size
  · have := fold_get (o := 0) cs.toList 0 cells i hi
    refine this.trans ?_
    have r : (cs.toList ++ cells.toList.drop cs.size).toArray[i]? = (cs.toList ++ cells.toList.drop cs.size)[i]? := List.getElem?_toArray ..
    have hc : cs.toList.length = cs.size := Array.length_toList
    rw [r]
    by_cases h : i < cs.size
    · rw [if_pos (by omega), List.getElem?_append_left (by omega)]
      congr 1
    · rw [if_neg (by omega), List.getElem?_append_right (by omega), List.getElem?_drop, Array.getElem?_toList]
      congr 1
      omega
  · have h1 : ∀ a : Array Value, a.size = cells.size → a[i]? = none := fun a ha => by rw [Array.getElem?_eq_none_iff]; omega
    rw [h1 _ (fold_size (o := 0) (cs.toList.zipIdx 0) cells), h1 _ (by simp; omega)]
end Ti
end Go.Proofs.Ytchlbkfkecpodaa

namespace Go.Proofs.Ytchlbkfkecpodaa
set_option maxRecDepth 100000
open Go.RowKit
open Go.Proofs.Ytchlbkfkecpodaa.Pk (one_at one_free one_set lt_some grown_set grown_trans below_grown grown_refl)
namespace Ti
open Wt (Opn mayOp)
open Pu (Kq grq Led LedP Kt Pm pcs dstp)
open Tb (Tab Kz)

section
variable {w w' : World} {h : Nat} {p p' : Pu.S} {g g' : Tb.F} {fl ft : Nat → Prop}
/-- A table stays where its block's cell and its map stay. -/
theorem tab_side (T : Tab w h 1012 g ft) (hs : w.heap.size ≤ w'.heap.size) (hb : ∀ x, ft x → x ≠ h → w'.heap[x]? = w.heap[x]?) (hc : ∀ cs ty, w.heap[h]? = some (.cells cs ty (0, 0)) → ∃ cs', w'.heap[h]? = some (.cells cs' ty (0, 0))) (ht : w'.cell? ⟨h, 1012, none⟩ = w.cell? ⟨h, 1012, none⟩) : Tab w' h 1012 g ft := by
  obtain ⟨mo, h1, h2, h3⟩ := T.at_
  obtain ⟨cs0, ty, hc0, -⟩ := h1.blk
  obtain ⟨cs, hc⟩ := hc cs0 ty hc0
  refine ⟨T.ok, T.pin, fun x hx => Nat.lt_of_lt_of_le (T.size x hx) hs, mo, ⟨cs, ty, hc, ?_⟩, ?_, h3⟩
  · rw [← one_at (i := 1012) hc, ht]
    exact h1.c
  · rcases h2 with h2 | ⟨m, D, e, ho, TT⟩
    · exact .inl h2
    · exact .inr ⟨m, D, e, Tb.owns_keep ho (hb m (h3 m e) fun e2 => h1.ne_map ho e2.symm), TT⟩
/-- A purse's cells stay where the others of its block are written. -/
theorem pm_low {v : Value} (D : Pm w h p v) (hl : h < w'.heap.size) (ht : ∀ i, i ≠ 1012 → w'.cell? ⟨h, i, none⟩ = w.cell? ⟨h, i, none⟩) (hf : ∀ i, w'.frozen? ⟨h, i, none⟩ = false) : Pm w' h p v := by
  refine ⟨hl, fun k hk => (ht _ (by omega)).trans (D.acc k hk), fun k hk j v hj => ?_, (ht _ (by decide)).trans D.lin, hf⟩
  have h5 : j < 5 := (List.getElem?_eq_some_iff.1 hj).1
  exact (ht _ (by omega)).trans (D.ent k hk j v hj)
/-- A purse stays where its cells and its row stay. -/
theorem led_side {t : TypeId} (L : Led t w h p fl) (hs : w.heap.size ≤ w'.heap.size) (hb : ∀ x, fl x → x ≠ h → w'.heap[x]? = w.heap[x]?) (ht : ∀ i, i ≠ 1012 → w'.cell? ⟨h, i, none⟩ = w.cell? ⟨h, i, none⟩) (hf : ∀ i, w'.frozen? ⟨h, i, none⟩ = false) : Led t w' h p fl := by
  obtain ⟨v, D, R, hne, hv⟩ := L.at_
  exact ⟨⟨L.pin, fun x hx => Nat.lt_of_lt_of_le (L.size x hx) hs, v, pm_low D (Nat.lt_of_lt_of_le L.lt hs) ht hf, Pu.rt_same R fun x hx => hb x (hv x hx) (fun e => hne (by rw [hx, e])), hne, hv⟩, L.ok⟩
end
/-- A till at block h: fp is what it has. -/
structure Til (w : World) (h : Nat) (s : S) (fp : Nat → Prop) : Prop where
  ex : ∃ fl ft, LedP w h s.p fl ∧ Tab w h 1012 s.g ft ∧ (∀ x, fl x → ft x → x = h) ∧ (∀ x, fl x → fp x) ∧ ∀ x, ft x → fp x
  size : ∀ x, fp x → x < w.heap.size
def TTo (w : World) (h : Nat) (fp : Nat → Prop) (s : S) (w' : World) : Prop := Til w' h s (grq fp w w') ∧ Kq fp w w'
section
variable {w w' w1 w2 : World} {h : Nat} {s s' : S} {fp fp' : Nat → Prop}
theorem Til.keep (H : Til w h s fp) (hs : w.heap.size ≤ w'.heap.size) (hk : ∀ x, fp x → w'.heap[x]? = w.heap[x]?) : Til w' h s fp := by
  obtain ⟨fl, ft, L, T, a, b, c⟩ := H.ex
  exact ⟨⟨fl, ft, L.keep hs fun x hx => hk x (b x hx), T.keep hs fun x hx => hk x (c x hx), a, b, c⟩, fun x hx => Nat.lt_of_lt_of_le (H.size x hx) hs⟩
theorem Til.below (H : Til w h s fp) (hb : Below w.heap.size w w') : Til w' h s fp := H.keep hb.size fun x hx => hb.block x (H.size x hx)
theorem Til.mono (H : Til w h s fp) (hf : ∀ x, fp x → fp' x) (hs : ∀ x, fp' x → x < w.heap.size) : Til w h s fp' := by
  obtain ⟨fl, ft, L, T, a, b, c⟩ := H.ex
  exact ⟨⟨fl, ft, L, T, a, fun x hx => hf x (b x hx), fun x hx => hf x (c x hx)⟩, hs⟩
theorem Til.pin (H : Til w h s fp) : fp h := by
  obtain ⟨fl, ft, L, T, a, b, c⟩ := H.ex
  exact b h L.pin
theorem Til.lt (H : Til w h s fp) : h < w.heap.size := H.size h H.pin
theorem Til.ok (H : Til w h s fp) : Ok s := by
  obtain ⟨fl, ft, L, T, a, b, c⟩ := H.ex
  exact ⟨L.ok, T.ok⟩
theorem TTo.of_below (H : Til w h s fp) (hb : Below w.heap.size w w') : TTo w h fp s w' :=
  ⟨(H.below hb).mono (fun _ h => .inl h) fun x hx => by
    rcases hx with hx | ⟨_, hx⟩
    · exact Nat.lt_of_lt_of_le (H.size x hx) hb.size
    · exact hx, .of_below hb⟩
theorem TTo.trans (a : TTo w h fp s w1) (b : TTo w1 h (grq fp w w1) s' w2) : TTo w h fp s' w2 := by
  obtain ⟨b1, b2⟩ := b
  rw [Pu.grq_grq a.2.size b2.size] at b1
  exact ⟨b1, a.2.trans b2⟩
theorem TTo.wide (a : TTo w h fp s w') (hf : ∀ g, fp g → fp' g) (hs : ∀ g, fp' g → g < w.heap.size) : TTo w h fp' s w' :=
  ⟨a.1.mono (fun g hg => by
    rcases hg with hg | hg
    · exact .inl (hf g hg)
    · exact .inr hg) fun g hg => by
    rcases hg with hg | ⟨_, hg⟩
    · exact Nat.lt_of_lt_of_le (hs g hg) a.2.size
    · exact hg, a.2.mono hf⟩
theorem TTo.after (H : Til w h s fp) (hb : Below w.heap.size w w1) (a : TTo w1 h fp s' w2) : TTo w h fp s' w2 := by
  have h0 := TTo.of_below H hb
  refine h0.trans (a.wide (fun g hg => .inl hg) fun g hg => ?_)
  rcases hg with hg | ⟨_, hg⟩
  · exact Nat.lt_of_lt_of_le (H.size g hg) hb.size
  · exact hg
theorem TTo.drew (a : TTo w h fp s w1) : TTo w h fp s w1.drew := a.trans (TTo.of_below a.1 ⟨rfl, rfl, rfl, Nat.le_refl _, fun _ _ => rfl⟩)
/-- The purse goes on. -/
theorem Til.purse (H : Til w h s fp) : ∃ fl, LedP w h s.p fl ∧ (∀ x, fl x → fp x) ∧ ∀ p' w', Pu.LTo Pu.LineT (fun x => x = h) w h fl p' w' → TTo w h fp ⟨p', s.g⟩ w' := by
  obtain ⟨fl, ft, L, T, a, b, c⟩ := H.ex
  refine ⟨fl, L, b, fun p' w' X => ?_⟩
  obtain ⟨L', K⟩ := X
  have T' : Tab w' h 1012 s.g ft := tab_side T K.size (fun x hx hn => K.block x (T.size x hx) hn) K.form (K.tail 1012 (Nat.le_refl _))
  refine ⟨⟨⟨grq fl w w', ft, L', T', fun x hx ht => ?_, fun x hx => ?_, fun x hx => .inl (c x hx)⟩, fun x hx => ?_⟩, K.toKq.mono fun x hx => by rw [hx]; exact b h L.pin⟩
  · rcases hx with hx | ⟨hx, _⟩
    · exact a x hx ht
    · exact absurd (T.size x ht) (by omega)
  · rcases hx with hx | hx
    · exact .inl (b x hx)
    · exact .inr hx
  · rcases hx with hx | ⟨_, hx⟩
    · exact Nat.lt_of_lt_of_le (H.size x hx) K.size
    · exact hx
/-- The table goes on. -/
theorem Til.table (H : Til w h s fp) : ∃ ft, Tab w h 1012 s.g ft ∧ (∀ x, ft x → fp x) ∧ ∀ g' w', Tb.LTo w h 1012 ft g' w' → TTo w h fp ⟨s.p, g'⟩ w' := by
  obtain ⟨fl, ft, L, T, a, b, c⟩ := H.ex
  refine ⟨ft, T, c, fun g' w' X => ?_⟩
  obtain ⟨T', K⟩ := X
  have L' : LedP w' h s.p fl := by
    obtain ⟨mo, h1, _⟩ := T'.at_
    exact led_side L K.size (fun x hx hn => K.block x (L.size x hx) fun hf => hn (a x hx hf)) K.rest h1.free
  refine ⟨⟨⟨fl, grq ft w w', L', T', fun x hl hx => ?_, fun x hx => .inl (b x hx), fun x hx => ?_⟩, fun x hx => ?_⟩, ⟨K.os, K.tape, K.output, K.size, fun g hg hn => K.block g hg fun e => hn (c g e)⟩⟩
  · rcases hx with hx | ⟨hx, _⟩
    · exact a x hl hx
    · exact absurd (L.size x hl) (by omega)
  · rcases hx with hx | hx
    · exact .inl (c x hx)
    · exact .inr hx
  · rcases hx with hx | ⟨_, hx⟩
    · exact Nat.lt_of_lt_of_le (H.size x hx) K.size
    · exact hx
/-- A new one. -/
theorem Til.start {ty : TypeId} {p : Pu.S} {v : Value} (O : Ok ⟨p, Tb.fz⟩) (R : Pu.RowT Pu.LineT w 0 v p.l.length p.l) (hv : v.ownBlock = none) (e : w.heap[h]? = some (.cells (pcs p v ++ [Value.map none]).toArray ty (0, 0))) : Til w h ⟨p, Tb.fz⟩ (fun x => x = h) := by
  refine ⟨⟨fun x => x = h, fun x => x = h, ⟨⟨rfl, fun x hx => by rw [hx]; exact lt_some e, v, Pm.of_row e, R, by rw [hv]; simp, fun g hg => by rw [hv] at hg; cases hg⟩, O.p⟩,
    ⟨O.g, rfl, fun x hx => by rw [hx]; exact lt_some e, none, ⟨_, _, e, ?_⟩, .inl ⟨rfl, rfl⟩, fun m hm => (nomatch hm)⟩, fun x hx _ => hx, fun x hx => hx, fun x hx => hx⟩, fun x hx => by rw [hx]; exact lt_some e⟩
  rw [List.getElem?_toArray, List.getElem?_append_right (by rw [Pu.pcs_len]; exact Nat.le_refl _), Pu.pcs_len]
  rfl
end
end Ti
end Go.Proofs.Ytchlbkfkecpodaa

namespace Go.Proofs.Ytchlbkfkecpodaa
set_option maxRecDepth 100000
open Go.RowKit
open Go.Sort (grow)
open Go.Proofs.Ytchlbkfkecpodaa.Pk (one_at one_free one_set lt_some grown_set grown_trans below_grown grown_refl)
namespace Ti
open Wt (Opn mayOp)
open Pu (Kq grq Led LedP Kt Pm pcs dstp mayF zero)
open Tb (Tab Kz)

abbrev opv (o : Opn) : Value := .agg #[.int .i64 o.kind, .int .i64 o.book, .int .i64 o.units, .int .i64 o.cust, .int .i64 o.amount]
abbrev opc (o : Opn) : Array Value := #[.int .i64 o.kind, .int .i64 o.book, .int .i64 o.units, .int .i64 o.cust, .int .i64 o.amount]
/-! ### New -/
theorem till_built (parts : List (Nat × Value)) : Try.prog.built 131 parts = Instr.fill (#[(0, 1012), (1012, 1)][·]?) (pcs zero (.slice none 0 0) ++ [Value.map none]).toArray parts := by kernel_rfl
theorem tbuild_run (w : World) (p : Pu.S) (v : Value) : (Instr.build 131 #[(0, .agg (pcs p v).toArray)]).run Try.prog w = .ok (.agg (pcs p v ++ [Value.map none]).toArray) w := by
  refine run_build w _ _ _ ?_
  rw [till_built]
  have h := fill_head (#[(0, 1012), (1012, 1)][·]?) (pcs zero (.slice none 0 0) ++ [Value.map none]).toArray (pcs p v).toArray (by rw [List.size_toArray, Pu.pcs_len]; rfl) (by rw [List.size_toArray, List.size_toArray, List.length_append, Pu.pcs_len, Pu.pcs_len]; exact Nat.le_add_right _ _)
  refine h.trans ?_
  rw [List.size_toArray, Pu.pcs_len]
  congr 3
theorem tbox_run (w : World) (cs : Array Value) : (Instr.box 131 (.agg cs)).run Try.prog w = .ok (.pointer (some ⟨w.heap.size, 0, none⟩)) (w.alloc (.cells cs 131)) := by
  simp only [Instr.box, newVar, newRow, Sem.run_bind]
  kernel_rfl
section
variable {ops : Array Oper} {rest : List Oper} {o : Oper} {a : Act} {w : World} {Q : Exit → Act → World → Prop}
theorem wpList_tbuild (hg : o.guard = none) (x : Operand) (ho : o.op = .build 131 #[(0, x)]) (p : Pu.S) (v : Value) (hx : a.eval x = .agg (pcs p v).toArray)
    (h : wpList Try.prog ops Q rest (a.put o.dst (.agg (pcs p v ++ [Value.map none]).toArray)) w) : wpList Try.prog ops Q (o :: rest) a w := by
  refine wpList_plain hg fun K hK => ?_
  unfold Oper.wp execOp
  simp only [ho, hx, Sem.run_bind, List.map_toArray, List.map_cons, List.map_nil, tbuild_run, Sem.run_pure, Result.andThen_ok]
  exact hK _ _ h
theorem wpList_tbox (hg : o.guard = none) (x : Operand) (ho : o.op = .box 131 x) (cs : Array Value) (hx : a.eval x = .agg cs)
    (h : wpList Try.prog ops Q rest (a.put o.dst (.pointer (some ⟨w.heap.size, 0, none⟩))) (w.alloc (.cells cs 131))) : wpList Try.prog ops Q (o :: rest) a w := by
  refine wpList_plain hg fun K hK => ?_
  unfold Oper.wp execOp
  simp only [ho, hx, Sem.run_bind, tbox_run, Sem.run_pure, Result.andThen_ok]
  exact hK _ _ h
end
set_option maxHeartbeats 800000 in
theorem tnew_no (w : World) (a b c d : Int) (hI : ∀ z ∈ [a, b, c, d], Cs.I z) (hm : mayF a b c d = false) : Calls Try.prog 47 #[.agg #[.int .i64 a, .int .i64 b, .int .i64 c, .int .i64 d]] w fun e w' => e = .returned (.tuple #[.pointer none, .int .i64 1]) ∧ Below w.heap.size w w' := by
  have HB : Hid (∀ w1, Below (w.alloc (.cells #[.int .i64 a, .int .i64 b, .int .i64 c, .int .i64 d] 54)).heap.size (w.alloc (.cells #[.int .i64 a, .int .i64 b, .int .i64 c, .int .i64 d] 54)) w1 → Below w.heap.size w w1) := fun w1 h1 =>
    ((Below.refl _ _).alloc (Nat.le_refl _) _).trans (h1.mono (by simp))
  have NW := fun w => Pu.new_no w a b c d hI hm
  clear hm hI
  go_enter Try.func47, Try.ntmps47
  go_wp2_with fail
  refine (NW _).mono ?_
  rintro e w1 ⟨rfl, h1⟩
  have B1 := Lib.hid (HB.out w1 h1)
  clear h1 HB NW
  go_wp2
  go_ret2
  exact ⟨rfl, B1.out⟩
set_option maxHeartbeats 1600000 in
theorem tnew_yes (w : World) (a b c d : Int) (hI : ∀ z ∈ [a, b, c, d], Cs.I z) (hm : mayF a b c d = true) : Calls Try.prog 47 #[.agg #[.int .i64 a, .int .i64 b, .int .i64 c, .int .i64 d]] w fun e w' => ∃ q, e = .returned (.tuple #[.pointer (some ⟨q, 0, none⟩), .int .i64 0]) ∧ w.heap.size ≤ q ∧ Til w' q ⟨Pu.new a b c d, Tb.fz⟩ (fun x => x = q) ∧ Below w.heap.size w w' := by
  have HB : Hid (∀ w1, Below (w.alloc (.cells #[.int .i64 a, .int .i64 b, .int .i64 c, .int .i64 d] 54)).heap.size (w.alloc (.cells #[.int .i64 a, .int .i64 b, .int .i64 c, .int .i64 d] 54)) w1 → Below w.heap.size w w1) := fun w1 h1 =>
    ((Below.refl _ _).alloc (Nat.le_refl _) _).trans (h1.mono (by simp))
  have NW := fun w => Pu.new_yes w a b c d hI hm
  generalize Pu.new a b c d = p at *
  clear hm hI
  go_enter Try.func47, Try.ntmps47
  go_wp2_with fail
  refine (NW _).mono ?_
  rintro e w1 ⟨q, rfl, hq, L, h1⟩
  have B1 := Lib.hid (HB.out w1 h1)
  have O : Hid (Ok ⟨p, Tb.fz⟩) := ⟨L.ok, Tb.ok_z⟩
  obtain ⟨v, D, R, hne, hv⟩ := L.at_
  have hn : v.ownBlock = none := by
    cases e : v.ownBlock with
    | none => rfl
    | some g =>
      have h2 : g = q := hv g e
      exact absurd (e.trans (by rw [h2])) hne
  have hall := Lib.hid D.all
  obtain ⟨dd, hu, hd⟩ := Pu.led_under
  replace hu := Lib.hid hu
  replace hd := Lib.hid hd
  have hi : Hid ((Try.prog.info? 113).map (·.size) = some (pcs p v).length) := by rw [Pu.pcs_len]; exact Pu.led_size
  have E : Hid (w.heap.size ≤ w1.heap.size ∧ Til (w1.alloc (.cells (pcs p v ++ [Value.map none]).toArray 131)) w1.heap.size ⟨p, Tb.fz⟩ (fun x => x = w1.heap.size) ∧ Below w.heap.size w (w1.alloc (.cells (pcs p v ++ [Value.map none]).toArray 131))) :=
    ⟨B1.out.size, .start O.out (Pu.rt_below R ((Below.refl _ _).alloc (Nat.le_refl _) _)) hn (heap_alloc_new _ _), B1.out.alloc B1.out.size _⟩
  clear h1 HB NW L hq D R hne hv hn O
  go_wp2_with (first
    | (refine wpList_load_mid rfl 113 (.tmp 15) rfl q 0 rfl (pcs p v) dd hall.out hu.out hd.out hi.out ?_)
    | (refine wpList_tbuild rfl (.tmp 16) rfl p v rfl ?_)
    | (refine wpList_tbox rfl (.tmp 17) rfl _ rfl ?_))
  go_ret2
  exact ⟨_, rfl, E.out⟩
/-! ### mayAsk -/
set_option maxHeartbeats 1600000 in
theorem mayask_any (w : World) (o : Opn) : Calls Try.prog 88 #[opv o] w fun e w' => e = .returned (.bool (mayT o)) ∧ Below w.heap.size w w' := by
  have MO : ∀ W, Calls Try.prog 57 #[.agg #[.int .i64 o.kind, .int .i64 o.book, .int .i64 o.units, .int .i64 o.cust, .int .i64 o.amount]] W _ := fun W => Wt.mayop_any W o
  obtain ⟨W, hW⟩ : ∃ W, W = w.alloc (.cells (opc o) 30) := ⟨_, rfl⟩
  have HB : Hid (Below w.heap.size w W) := by rw [hW]; exact (Below.refl _ _).alloc (Nat.le_refl _) _
  have N0 : Hid (W.heap[w.heap.size]? = some (.cells (opc o) 30 (0, 0))) := by rw [hW]; exact heap_alloc_new _ _
  have MW := Lib.hid (MO W)
  have z0 := one_at (i := 0) N0.out
  have z1 := one_at (i := 1) N0.out
  have z2 := one_at (i := 2) N0.out
  have z3 := one_at (i := 3) N0.out
  have z4 := one_at (i := 4) N0.out
  have F : Hid (mayT o = (mayOp o && decide (4 ≤ o.kind))) := rfl
  have bd := fun h => (Tb.mayop_bds (o := o) h).2
  replace hW := Lib.hid hW
  clear MO
  obtain ⟨k, b, u, c, m⟩ := o
  simp only at *
  cases hm : mayOp ⟨k, b, u, c, m⟩ with
  | false =>
    rw [hm] at MW F
    clear bd hm
    go_enter Try.func88, Try.ntmps88
    go_wp2_with fail
    rw [← hW.out]
    go_wp2_with fail
    refine MW.out.mono ?_
    rintro e w1 ⟨rfl, h1⟩
    have B1 : Hid (Below w.heap.size w w1) := HB.out.trans (h1.mono HB.out.size)
    clear h1 MW z0 z1 z2 z3 z4
    go_wp2
    go_ret
    rw [F.out, Bool.false_and]
    exact ⟨rfl, B1.out⟩
  | true =>
    obtain ⟨k1, k6⟩ := bd hm
    rw [hm, Bool.true_and] at F
    rw [hm] at MW
    clear bd hm
    by_cases k4 : 4 ≤ k
    · rw [decide_eq_true k4] at F
      by_cases h4 : k = 4
      · have n4 : (k == 4) = true := beq_iff_eq.2 h4
        clear k1 k6 k4 h4
        go_enter Try.func88, Try.ntmps88
        go_wp2_with fail
        rw [← hW.out]
        go_wp2_with fail
        refine MW.out.mono ?_
        rintro e w1 ⟨rfl, h1⟩
        have B1 : Hid (Below w.heap.size w w1) := HB.out.trans (h1.mono HB.out.size)
        have y0 := one_at (i := 0) ((h1.block _ (lt_some N0.out)).trans N0.out)
        clear h1 MW z0 z1 z2 z3 z4
        go_wp2
        go_ret
        rw [F.out]
        exact ⟨rfl, B1.out⟩
      · have n4 : (k == 4) = false := beq_eq_false_iff_ne.2 h4
        by_cases h5 : k = 5
        · have n5 : (k == 5) = true := beq_iff_eq.2 h5
          clear k1 k6 k4 h4 h5
          go_enter Try.func88, Try.ntmps88
          go_wp2_with fail
          rw [← hW.out]
          go_wp2_with fail
          refine MW.out.mono ?_
          rintro e w1 ⟨rfl, h1⟩
          have B1 : Hid (Below w.heap.size w w1) := HB.out.trans (h1.mono HB.out.size)
          have y0 := one_at (i := 0) ((h1.block _ (lt_some N0.out)).trans N0.out)
          clear h1 MW z0 z1 z2 z3 z4
          go_wp2
          go_ret
          rw [F.out]
          exact ⟨rfl, B1.out⟩
        · have n5 : (k == 5) = false := beq_eq_false_iff_ne.2 h5
          have n6 : (k == 6) = true := beq_iff_eq.2 (by omega)
          clear k1 k6 k4 h4 h5
          go_enter Try.func88, Try.ntmps88
          go_wp2_with fail
          rw [← hW.out]
          go_wp2_with fail
          refine MW.out.mono ?_
          rintro e w1 ⟨rfl, h1⟩
          have B1 : Hid (Below w.heap.size w w1) := HB.out.trans (h1.mono HB.out.size)
          have y0 := one_at (i := 0) ((h1.block _ (lt_some N0.out)).trans N0.out)
          clear h1 MW z0 z1 z2 z3 z4
          go_wp2
          go_ret
          rw [F.out]
          exact ⟨rfl, B1.out⟩
    · rw [decide_eq_false k4] at F
      have n4 : (k == 4) = false := beq_eq_false_iff_ne.2 (by omega)
      have n5 : (k == 5) = false := beq_eq_false_iff_ne.2 (by omega)
      have n6 : (k == 6) = false := beq_eq_false_iff_ne.2 (by omega)
      clear k1 k6 k4
      go_enter Try.func88, Try.ntmps88
      go_wp2_with fail
      rw [← hW.out]
      go_wp2_with fail
      refine MW.out.mono ?_
      rintro e w1 ⟨rfl, h1⟩
      have B1 : Hid (Below w.heap.size w w1) := HB.out.trans (h1.mono HB.out.size)
      have y0 := one_at (i := 0) ((h1.block _ (lt_some N0.out)).trans N0.out)
      clear h1 MW z0 z1 z2 z3 z4
      go_wp2
      go_ret
      rw [F.out]
      exact ⟨rfl, B1.out⟩
end Ti
end Go.Proofs.Ytchlbkfkecpodaa

namespace Go.Proofs.Ytchlbkfkecpodaa
set_option maxRecDepth 100000
open Go.RowKit
open Go.Sort (grow)
open Go.Proofs.Ytchlbkfkecpodaa.Pk (one_at one_free one_set lt_some grown_set grown_trans below_grown grown_refl)
namespace Ti
open Wt (Opn mayOp)
open Pu (Kq grq Led Kt dstp)
open Tb (Tab Kz ne0)

/-- The boxes that the closure has. -/
structure Bxs (w : World) (p q h : Nat) (o : Opn) : Prop where
  a : w.heap[p]? = some (.cells #[.pointer (some ⟨h, 0, none⟩)] 77 (0, 0))
  b : w.heap[q]? = some (.cells (opc o) 30 (0, 0))
theorem Bxs.below {w w' : World} {p q h : Nat} {o : Opn} (X : Bxs w p q h o) (hb : Below w.heap.size w w') : Bxs w' p q h o :=
  ⟨(hb.block _ (lt_some X.a)).trans X.a, (hb.block _ (lt_some X.b)).trans X.b⟩
set_option maxHeartbeats 800000 in
theorem clo_any (w : World) (p q h : Nat) (s : S) (fp : Nat → Prop) (o : Opn) (X : Bxs w p q h o) (H : Til w h s fp) :
    Calls Try.prog 89 #[.pointer (some ⟨p, 0, none⟩), .pointer (some ⟨q, 0, none⟩)] w fun e w' => e = .returned (.int .i64 (dstp s.p o).2) ∧ TTo w h fp ⟨(dstp s.p o).1, s.g⟩ w' := by
  obtain ⟨fl, L, hf, GO⟩ := H.purse
  have D : Hid (∀ W, W.heap.size = w.heap.size → Below w.heap.size w W → Calls Try.prog 30 #[.pointer (some ⟨h, 0, none⟩), .agg #[.int .i64 o.kind, .int .i64 o.book, .int .i64 o.units, .int .i64 o.cust, .int .i64 o.amount]] W fun e w' => e = .returned (.int .i64 (dstp s.p o).2) ∧ TTo w h fp ⟨(dstp s.p o).1, s.g⟩ w') := fun W _ hb => by
    refine (Pu.do_any W h s.p fl (L.below hb) o).mono ?_
    rintro e w' ⟨rfl, h1⟩
    exact ⟨rfl, GO _ _ (Pu.LTo.after L.lt hb h1)⟩
  have DW := Lib.hid (D.out w.drew rfl ⟨rfl, rfl, rfl, Nat.le_refl _, fun _ _ => rfl⟩)
  have y0 := one_at (i := 0) X.a
  have x0 := one_at (i := 0) X.b
  have x1 := one_at (i := 1) X.b
  have x2 := one_at (i := 2) X.b
  have x3 := one_at (i := 3) X.b
  have x4 := one_at (i := 4) X.b
  generalize (dstp s.p o).2 = a at *
  generalize (⟨(dstp s.p o).1, s.g⟩ : S) = s' at *
  clear X H L hf GO D
  obtain ⟨k, b, u, c, m⟩ := o
  simp only at *
  go_enter Try.func89, Try.ntmps89
  go_wp2_with fail
  go_region_with (first
    | (go_at_call 30; refine DW.out.mono ?_; rintro e w1 ⟨rfl, h1⟩; have E := Lib.hid h1; clear h1))
  all_goals
    go_wp2
    go_ret
    exact ⟨rfl, E.out⟩
set_option maxHeartbeats 1600000 in
theorem once_any (w : World) (p q h : Nat) (s : S) (fp : Nat → Prop) (o : Opn) (X : Bxs w p q h o) (H : Til w h s fp) (hm : mayT o = true) :
    Calls Try.prog 84 #[.pointer (some ⟨h, 1012, none⟩), opv o, .func (.func 89) #[] #[.pointer (some ⟨p, 0, none⟩), .pointer (some ⟨q, 0, none⟩)]] w fun e w' => e = .returned (.tuple #[.int .i64 (ans s o), .bool (isNew s o)]) ∧ TTo w h fp (asked s o) w' := by
  obtain ⟨W, hW⟩ : ∃ W, W = w.alloc (.cells (opc o) 30) := ⟨_, rfl⟩
  have HB : Hid (Below w.heap.size w W) := by rw [hW]; exact (Below.refl _ _).alloc (Nat.le_refl _) _
  have N0 : Hid (W.heap[w.heap.size]? = some (.cells (opc o) 30 (0, 0))) := by rw [hW]; exact heap_alloc_new _ _
  have hbk := Tb.mayop_bds (mayt_iff.1 hm).1
  have FD : Hid (Calls Try.prog 102 #[.pointer (some ⟨h, 1012, none⟩), .agg #[.int .i64 o.kind, .int .i64 o.book, .int .i64 o.units, .int .i64 o.cust, .int .i64 o.amount]] W.drew fun e w' => e = .returned (.tuple #[.int .i64 (s.g o.book o.kind), .bool (ne0 (s.g o.book o.kind))]) ∧ Below W.heap.size W w') := by
    obtain ⟨ft, T, _, _⟩ := (H.below HB.out).table
    refine (Tb.find_any W.drew h 1012 s.g ft (T.keep (Nat.le_refl _) fun _ _ => rfl) o (Tb.bp_in hbk.1 hbk.2)).mono ?_
    rintro e w' ⟨he, hw⟩
    exact ⟨he, ⟨hw.os, hw.tape, hw.output, hw.size, hw.block⟩⟩
  have CL : Hid (∀ w1, Below w.heap.size w w1 → Calls Try.prog 89 #[.pointer (some ⟨p, 0, none⟩), .pointer (some ⟨q, 0, none⟩)] w1 fun e w' => e = .returned (.int .i64 (dstp s.p o).2) ∧ TTo w h fp ⟨(dstp s.p o).1, s.g⟩ w' ∧ Kq fp w1 w') := fun w1 hb => by
    refine (clo_any w1 p q h s fp o (X.below hb) (H.below hb)).mono ?_
    rintro e w' ⟨rfl, h1⟩
    exact ⟨rfl, TTo.after H hb h1, h1.2⟩
  have PU : Hid (∀ w1 a, s.g o.book o.kind = 0 → (dstp s.p o).2 = a → TTo w h fp ⟨(dstp s.p o).1, s.g⟩ w1 → Calls Try.prog 103 #[.pointer (some ⟨h, 1012, none⟩), .agg #[.int .i64 o.kind, .int .i64 o.book, .int .i64 o.units, .int .i64 o.cust, .int .i64 o.amount], .int .i64 a] w1.drew fun e w' => e = .returned (.bool true) ∧ TTo w h fp (asked s o) w') := fun w1 a h0 ha hT0 => by
    have hT := hT0.trans (TTo.of_below hT0.1 (w' := w1.drew) ⟨rfl, rfl, rfl, Nat.le_refl _, fun _ _ => rfl⟩)
    obtain ⟨ft, T, _, GO⟩ := hT.1.table
    refine (Tb.put_any w1.drew h 1012 s.g ft T o a).mono ?_
    rintro e w' ⟨rfl, h1⟩
    rw [← ha, put_is hm h0, asked_yes hm h0]
    rw [← ha] at h1
    exact ⟨rfl, hT.trans (GO _ _ h1)⟩
  have F0 : Hid (s.g o.book o.kind = 0 → ans s o = (dstp s.p o).2 ∧ isNew s o = true) := fun h0 => ⟨ans_yes hm h0, new_yes hm h0⟩
  have F1 : Hid (s.g o.book o.kind ≠ 0 → ans s o = s.g o.book o.kind ∧ isNew s o = false ∧ asked s o = s) := fun h0 => ⟨ans_old hm h0, new_old h0, asked_old h0⟩
  have EB : Hid (∀ w1, Below w.heap.size w w1 → TTo w h fp s w1) := fun w1 hb => TTo.of_below H hb
  have pl : Hid (w.heap.size < W.heap.size ∧ ∀ x, fp x → x < w.heap.size) := ⟨lt_some N0.out, H.size⟩
  have z0 := one_at (i := 0) N0.out
  have z1 := one_at (i := 1) N0.out
  have z2 := one_at (i := 2) N0.out
  have z3 := one_at (i := 3) N0.out
  have z4 := one_at (i := 4) N0.out
  replace hW := Lib.hid hW
  generalize (dstp s.p o).2 = a at *
  generalize (⟨(dstp s.p o).1, s.g⟩ : S) = s1 at *
  generalize s.g o.book o.kind = g at *
  generalize asked s o = s' at *
  generalize ans s o = rr at *
  generalize isNew s o = nn at *
  clear X H hm hbk
  obtain ⟨k, b, u, c, m⟩ := o
  simp only at *
  by_cases g0 : g = 0
  · obtain ⟨e1, e2⟩ := F0.out g0
    subst g0
    rw [show ne0 0 = false from rfl] at FD
    rw [e1, e2]
    clear F0 F1 EB e1 e2
    go_enter Try.func84, Try.ntmps84
    go_upto_region 1 with fail
    rw [← hW.out]
    go_region_with (first
      | (go_at_call 102; refine FD.out.mono ?_; rintro e w1 ⟨rfl, h1⟩; have B1 : Below w.heap.size w w1 := HB.out.trans (h1.mono HB.out.size); have N1 : Hid (w1.heap[w.heap.size]? = some (.cells (opc ⟨k, b, u, c, m⟩) 30 (0, 0))) := (h1.block _ (lt_some N0.out)).trans N0.out; have C1 := Lib.hid (CL.out w1 B1); clear h1 B1))
    all_goals
      clear FD z0 z1 z2 z3 z4 CL
      go_wp2_with fail
      refine C1.out.mono ?_
      rintro e w2 ⟨rfl, h2, h3⟩
      have N2 := (h3.block _ (lt_some N1.out) fun e => by have := pl.out.2 _ e; omega).trans N1.out
      have P2 := Lib.hid (PU.out w2 a (by first | trivial | rfl) (by first | trivial | rfl) h2)
      have y0 := one_at (i := 0) N2
      have y1 := one_at (i := 1) N2
      have y2 := one_at (i := 2) N2
      have y3 := one_at (i := 3) N2
      have y4 := one_at (i := 4) N2
      clear C1 h2 h3 PU N2
      go_upto_region 5 with fail
      go_region_with (first
        | (go_at_call 103; refine P2.out.mono ?_; rintro e w3 ⟨rfl, h4⟩; replace h4 := Lib.hid h4))
      all_goals
        clear P2 y0 y1 y2 y3 y4
        go_wp2
        go_ret2
        exact ⟨rfl, h4.out⟩
  · obtain ⟨e1, e2, e3⟩ := F1.out g0
    rw [Tb.ne0_iff.2 g0] at FD
    rw [e1, e2, e3]
    clear F0 F1 PU CL e1 e2 e3
    go_enter Try.func84, Try.ntmps84
    go_upto_region 1 with fail
    rw [← hW.out]
    go_region_with (first
      | (go_at_call 102; refine FD.out.mono ?_; rintro e w1 ⟨rfl, h1⟩; have E := Lib.hid (EB.out w1 (HB.out.trans (h1.mono HB.out.size))); clear h1))
    all_goals
      clear FD z0 z1 z2 z3 z4
      go_wp2
      go_ret2
      exact ⟨rfl, E.out⟩

/-! ### Ask -/
theorem ask_nil (w : World) (o : Opn) : Calls Try.prog 49 #[.pointer none, opv o] w fun e w' => e = .returned (.tuple #[.int .i64 2, .bool false]) ∧ Below w.heap.size w w' := by
  have HB : Hid (Below w.heap.size w ((w.alloc (.cells #[.pointer none] 77)).alloc (.cells (opc o) 30))) := ((Below.refl _ _).alloc (Nat.le_refl _) _).alloc (by simp) _
  go_enter Try.func49, Try.ntmps49
  go_wp2_with fail
  go_ret2
  exact ⟨rfl, HB.out⟩
set_option maxHeartbeats 1600000 in
theorem ask_any (w : World) (h : Nat) (s : S) (fp : Nat → Prop) (o : Opn) (H : Til w h s fp) :
    Calls Try.prog 49 #[.pointer (some ⟨h, 0, none⟩), opv o] w fun e w' => e = .returned (.tuple #[.int .i64 (ans s o), .bool (isNew s o)]) ∧ TTo w h fp (asked s o) w' := by
  obtain ⟨W, hW⟩ : ∃ W, W = (w.alloc (.cells #[.pointer (some ⟨h, 0, none⟩)] 77)).alloc (.cells (opc o) 30) := ⟨_, rfl⟩
  have HB : Hid (Below w.heap.size w W) := by rw [hW]; exact ((Below.refl _ _).alloc (Nat.le_refl _) _).alloc (by simp) _
  have X : Hid (Bxs W w.heap.size (w.heap.size + 1) h o) := by
    rw [hW]
    refine ⟨?_, ?_⟩
    · rw [heap_alloc_old _ _ (by simp)]
      exact heap_alloc_new _ _
    · have := heap_alloc_new (w.alloc (.cells #[.pointer (some ⟨h, 0, none⟩)] 77)) (.cells (opc o) 30)
      simpa using this
  have MA := Lib.hid (mayask_any W o)
  have x0 := one_at (i := 0) X.out.a
  have y0 := one_at (i := 0) X.out.b
  have y1 := one_at (i := 1) X.out.b
  have y2 := one_at (i := 2) X.out.b
  have y3 := one_at (i := 3) X.out.b
  have y4 := one_at (i := 4) X.out.b
  have EB : Hid (∀ w1, Below w.heap.size w w1 → TTo w h fp s w1) := fun w1 hb => TTo.of_below H hb
  have ON : Hid (∀ w1, mayT o = true → Below W.heap.size W w1 → Calls Try.prog 84 #[.pointer (some ⟨h, 1012, none⟩), .agg #[.int .i64 o.kind, .int .i64 o.book, .int .i64 o.units, .int .i64 o.cust, .int .i64 o.amount], .func (.func 89) #[] #[.pointer (some ⟨w.heap.size, 0, none⟩), .pointer (some ⟨w.heap.size + 1, 0, none⟩)]] w1 fun e w' => e = .returned (.tuple #[.int .i64 (ans s o), .bool (isNew s o)]) ∧ TTo w h fp (asked s o) w') := fun w1 hm hb => by
    have hb' := HB.out.trans (hb.mono HB.out.size)
    refine (once_any w1 _ _ h s fp o (X.out.below hb) (H.below hb') hm).mono ?_
    rintro e w' ⟨rfl, h1⟩
    exact ⟨rfl, TTo.after H hb' h1⟩
  have F0 : Hid (mayT o = false → ans s o = 2 ∧ isNew s o = false ∧ asked s o = s) := fun h0 => ⟨ans_no h0, new_no h0, asked_no h0⟩
  replace hW := Lib.hid hW
  generalize asked s o = s' at *
  generalize ans s o = rr at *
  generalize isNew s o = nn at *
  cases hm : mayT o with
  | false =>
    obtain ⟨e1, e2, e3⟩ := F0.out hm
    rw [hm] at MA
    rw [e1, e2, e3]
    clear F0 ON hm e1 e2 e3 H
    obtain ⟨k, b, u, c, m⟩ := o
    try simp only at *
    go_enter Try.func49, Try.ntmps49
    go_wp2_with fail
    rw [← hW.out]
    go_wp2_with fail
    refine MA.out.mono ?_
    rintro e w1 ⟨rfl, h1⟩
    have E := Lib.hid (EB.out w1 (HB.out.trans (h1.mono HB.out.size)))
    clear MA h1 x0 y0 y1 y2 y3 y4
    go_wp2
    go_ret2
    exact ⟨rfl, E.out⟩
  | true =>
    rw [hm] at MA
    replace ON : Hid (∀ w1, Below W.heap.size W w1 → _) := fun w1 hb => ON.out w1 hm hb
    clear F0 EB hm H
    obtain ⟨k, b, u, c, m⟩ := o
    try simp only at *
    go_enter Try.func49, Try.ntmps49
    go_wp2_with fail
    rw [← hW.out]
    go_wp2_with fail
    refine MA.out.mono ?_
    rintro e w1 ⟨rfl, h1⟩
    have X1 := X.out.below h1
    have a0 := one_at (i := 0) X1.a
    have b0 := one_at (i := 0) X1.b
    have b1 := one_at (i := 1) X1.b
    have b2 := one_at (i := 2) X1.b
    have b3 := one_at (i := 3) X1.b
    have b4 := one_at (i := 4) X1.b
    have O1 := Lib.hid (ON.out w1.drew ⟨h1.os, h1.tape, h1.output, h1.size, h1.block⟩)
    clear MA h1 x0 y0 y1 y2 y3 y4 X1 ON
    go_wp2_with fail
    go_region_with (first
      | (go_at_call 84; refine O1.out.mono ?_; rintro e w2 ⟨rfl, h2⟩; have E := Lib.hid h2; clear h2))
    all_goals
      go_wp2
      go_ret2
      exact ⟨rfl, E.out⟩
end Ti
end Go.Proofs.Ytchlbkfkecpodaa

namespace Go.Proofs.Ytchlbkfkecpodaa
set_option maxRecDepth 100000
open Go.RowKit
open Go.Sort (grow)
open Go.Proofs.Ytchlbkfkecpodaa.Pk (one_at one_free one_set lt_some grown_set grown_trans below_grown grown_refl)
namespace Ti
open Wt (Opn mayOp)
open Pu (Kq grq Led LedP dstp)
open St (Bs cat RowB Gu ByTo)
open Tb (Tab Kz ne0 cnt keys)
open Nd (kb)

theorem purse_nil (w : World) : Calls Try.prog 52 #[.pointer none] w fun e w' => e = .returned (.pointer none) ∧ w = w' := by
  go_enter Try.func52, Try.ntmps52
  go_wp2
  go_ret
  exact ⟨rfl, rfl⟩
theorem purse_any (w : World) (h : Nat) (s : S) (fp : Nat → Prop) (H : Til w h s fp) :
    Calls Try.prog 52 #[.pointer (some ⟨h, 0, none⟩)] w (Pu.CpTo w s.p fp) := by
  have CP : Hid (Calls Try.prog 32 #[.pointer (some ⟨h, 0, none⟩)] w (Pu.CpTo w s.p fp)) := by
    obtain ⟨fl, L, hf, _⟩ := H.purse
    refine (Pu.copy_any w h s.p fl L).mono ?_
    rintro e w' ⟨q', rfl, hq, L', hb⟩
    refine ⟨q', rfl, hq, L'.mono (fun g hg => ?_) fun g hg => ?_, hb⟩
    · rcases hg with hg | ⟨hg, hg'⟩
      · exact .inl hg
      · exact .inr ⟨hf g hg, hg'⟩
    · rcases hg with hg | ⟨_, hg⟩
      · exact L'.size g (.inl hg)
      · exact Nat.lt_of_lt_of_le hg hb.size
  generalize s.p = p at *
  clear H
  go_enter Try.func52, Try.ntmps52
  go_wp2_with fail
  refine CP.out.mono ?_
  rintro e w1 ⟨q, rfl, h1⟩
  have E : Hid (Pu.CpTo w p fp (.returned (.pointer (some ⟨q, 0, none⟩))) w1) := ⟨q, rfl, h1⟩
  clear CP h1
  go_wp2
  go_ret
  exact E.out
theorem answers_nil (w : World) : Calls Try.prog 51 #[.pointer none] w fun e w' => e = .returned (.int .i64 0) ∧ w = w' := by
  go_enter Try.func51, Try.ntmps51
  go_wp2
  go_ret
  exact ⟨rfl, rfl⟩
theorem answers_any (w : World) (h : Nat) (s : S) (fp : Nat → Prop) (H : Til w h s fp) :
    Calls Try.prog 51 #[.pointer (some ⟨h, 0, none⟩)] w fun e w' => e = .returned (.int .i64 (cnt s.g : Nat)) ∧ w = w' := by
  have LN : Hid (Calls Try.prog 87 #[.pointer (some ⟨h, 1012, none⟩)] w fun e w' => e = .returned (.int .i64 (cnt s.g : Nat)) ∧ w = w') := by
    obtain ⟨ft, T, _, _⟩ := H.table
    exact Nd.len_any w h 1012 s.g ft T
  generalize cnt s.g = n at *
  clear H
  go_enter Try.func51, Try.ntmps51
  go_wp2_with fail
  refine LN.out.mono ?_
  rintro e w1 ⟨rfl, rfl⟩
  clear LN
  go_wp2
  go_ret
  exact ⟨rfl, rfl⟩
theorem bytes_nil (w : World) : Calls Try.prog 53 #[.pointer none] w fun e w' => e = .returned (.slice none 0 0) ∧ w = w' := by
  go_enter Try.func53, Try.ntmps53
  go_wp2
  go_ret
  exact ⟨rfl, rfl⟩
def tlbts (s : S) : Bs := Pu.bts s.p 200 ++ Pk.encI (cnt s.g : Nat) ++ kb s.g (keys s.g)
set_option maxHeartbeats 1600000 in
theorem bytes_any (w : World) (h : Nat) (s : S) (fp : Nat → Prop) (H : Til w h s fp) :
    Calls Try.prog 53 #[.pointer (some ⟨h, 0, none⟩)] w (ByTo w (tlbts s)) := by
  have hd : Below w.heap.size w w.drew := ⟨rfl, rfl, rfl, Nat.le_refl _, fun _ _ => rfl⟩
  have LB : Hid (Calls Try.prog 39 #[.pointer (some ⟨h, 0, none⟩)] w.drew fun e w' => ∃ v, e = .returned v ∧ RowB w' w.heap.size v (Pu.bts s.p 200) ∧ Below w.heap.size w w') := by
    obtain ⟨fl, L, _, _⟩ := (H.below hd).purse
    refine (Pu.bytes_any w.drew h s.p fl L).mono ?_
    rintro e w' ⟨v, rfl, h1, h2⟩
    exact ⟨v, rfl, h1, hd.trans h2⟩
  have AP : Hid (∀ w2 v2, RowB w2 w.heap.size v2 (Pu.bts s.p 200) → Below w.heap.size w w2 → Calls Try.prog 86 #[.pointer (some ⟨h, 1012, none⟩), v2] w2 (ByTo w (tlbts s))) := fun w2 v2 r2 b2 => by
    obtain ⟨ft, T, _, _⟩ := H.table
    have hl := Pu.bts_len H.ok.p (n := 200) (Nat.le_refl _)
    refine (Nd.append_any w2 w.heap.size h 1012 s.g ft (T.below b2) T.size v2 _ r2 b2.size (by omega)).mono ?_
    rintro e w' ⟨v, rfl, r3, g3, s3⟩
    exact ⟨v, rfl, r3, b2.trans (g3.below b2.size)⟩
  generalize Pu.bts s.p 200 = b0 at *
  generalize tlbts s = bf at *
  clear H hd
  go_enter Try.func53, Try.ntmps53
  go_upto_region 3 with fail
  go_region_with (first
    | (go_at_call 39; refine LB.out.mono ?_; rintro e w2 ⟨v2, rfl, r2, b2⟩; have AW := Lib.hid (AP.out w2 v2 r2 b2); clear r2 b2)
    | (go_at_call 86; refine AW.out.mono ?_; rintro e w3 ⟨v3, rfl, r3, b3⟩; have F : Hid (ByTo w bf (.returned v3) w3) := ⟨v3, rfl, r3, b3⟩; clear r3 b3))
  all_goals
    clear LB AP AW
    go_wp2
    go_ret
    exact F.out
end Ti
end Go.Proofs.Ytchlbkfkecpodaa

namespace Go.Proofs.Ytchlbkfkecpodaa
set_option maxRecDepth 100000
open Go.RowKit
open Go.Sort (grow)
open Go.Proofs.Ytchlbkfkecpodaa.Pk (one_at one_free one_set lt_some grown_set grown_trans below_grown grown_refl)
namespace Ti
open Wt (Opn mayOp)
open Pu (Kq grq Led LedP dstp Kx mayF)
open St (ByTo)
open Tb (cnt)

/-- A till of the call's own: it lies behind B, out of X. -/
structure Ow (B : Nat) (X : Nat → Prop) (w0 w : World) (q : Nat) (s : S) : Prop where
  ex : ∃ fp, Til w q s fp ∧ ∀ g, fp g → B ≤ g ∧ ¬ X g
  be : Below B w0 w
  bs : B ≤ w.heap.size
  xs : ∀ g, X g → g < w.heap.size
def OwTo (B : Nat) (X : Nat → Prop) (w0 w : World) (q : Nat) (s : S) (w' : World) : Prop := Ow B X w0 w' q s ∧ Kx X w w'
section
variable {B : Nat} {X X' : Nat → Prop} {w0 w w' : World} {q : Nat} {s s' : S}
theorem Ow.below (O : Ow B X w0 w q s) (hb : Below w.heap.size w w') : Ow B X w0 w' q s := by
  obtain ⟨fp, L, hf⟩ := O.ex
  exact ⟨⟨fp, L.below hb, hf⟩, O.be.trans (hb.mono O.bs), Nat.le_trans O.bs hb.size, fun g hg => Nat.lt_of_lt_of_le (O.xs g hg) hb.size⟩
theorem kx_below (O : Ow B X w0 w q s) (hb : Below w.heap.size w w') : Kx X w w' := ⟨hb.size, fun g hg => hb.block g (O.xs g hg)⟩
/-- What is made behind it is out of its reach. -/
theorem Ow.beside (O : Ow B X w0 w q s) (hb : Below w.heap.size w w') : Ow B (grq X w w') w0 w' q s := by
  obtain ⟨fp, L, hf⟩ := O.ex
  refine ⟨⟨fp, L.below hb, fun g hg => ⟨(hf g hg).1, fun hx => ?_⟩⟩, O.be.trans (hb.mono O.bs), Nat.le_trans O.bs hb.size, fun g hg => ?_⟩
  · have := L.size g hg
    rcases hx with hx | ⟨hx, _⟩
    · exact (hf g hg).2 hx
    · omega
  · rcases hg with hg | ⟨_, hg⟩
    · exact Nat.lt_of_lt_of_le (O.xs g hg) hb.size
    · exact hg
theorem Ow.less (O : Ow B X w0 w q s) (h : ∀ g, X' g → X g) : Ow B X' w0 w q s := by
  obtain ⟨fp, L, hf⟩ := O.ex
  exact ⟨⟨fp, L, fun g hg => ⟨(hf g hg).1, fun hx => (hf g hg).2 (h g hx)⟩⟩, O.be, O.bs, fun g hg => O.xs g (h g hg)⟩
theorem Ow.ok (O : Ow B X w0 w q s) : Ok s := by
  obtain ⟨fp, L, hf⟩ := O.ex
  exact L.ok
theorem Ow.to (O : Ow B X w0 w q s) {fp : Nat → Prop} (hf : ∀ g, fp g → B ≤ g ∧ ¬ X g) (h : TTo w q fp s' w') : OwTo B X w0 w q s' w' := by
  obtain ⟨h1, h2⟩ := h
  refine ⟨⟨⟨_, h1, fun g hg => ?_⟩, O.be.trans (h2.below (fun g hg => (hf g hg).1) O.bs), Nat.le_trans O.bs h2.size, fun g hg => Nat.lt_of_lt_of_le (O.xs g hg) h2.size⟩, h2.size, fun g hg => h2.block g (O.xs g hg) fun hp => (hf g hp).2 hg⟩
  rcases hg with hg | ⟨hg, _⟩
  · exact hf g hg
  · exact ⟨Nat.le_trans O.bs hg, fun hx => by have := O.xs g hx; omega⟩
/-- Something else is written beside it. -/
theorem Ow.side {d : Nat} (O : Ow B X w0 w q s) (K : Kq (fun g => g = d) w w') (hX : X d) (hB : B ≤ d) : Ow B X w0 w' q s := by
  obtain ⟨fp, L, hf⟩ := O.ex
  exact ⟨⟨fp, L.keep K.size fun g hg => K.block g (L.size g hg) fun e => (hf g hg).2 (by rw [e]; exact hX), hf⟩, O.be.trans (K.below (fun g hg => by rw [hg]; exact hB) O.bs), Nat.le_trans O.bs K.size, fun g hg => Nat.lt_of_lt_of_le (O.xs g hg) K.size⟩
end
section
variable {B : Nat} {X : Nat → Prop} {w0 w : World} {q : Nat} {s : S}
theorem ow_ask (O : Ow B X w0 w q s) (o : Opn) : Calls Try.prog 49 #[.pointer (some ⟨q, 0, none⟩), opv o] w fun e w' => e = .returned (.tuple #[.int .i64 (ans s o), .bool (isNew s o)]) ∧ OwTo B X w0 w q (asked s o) w' := by
  obtain ⟨fp, L, hf⟩ := O.ex
  refine (ask_any w q s fp o L).mono ?_
  rintro e w' ⟨rfl, h1⟩
  exact ⟨rfl, O.to hf h1⟩
/-- What Purse answers: another ledger, whose own block is new. -/
theorem ow_purse (O : Ow B X w0 w q s) : Calls Try.prog 52 #[.pointer (some ⟨q, 0, none⟩)] w fun e w' => ∃ q', e = .returned (.pointer (some ⟨q', 0, none⟩)) ∧ w.heap.size ≤ q' ∧ Pu.Ow B X w0 w' q' s.p ∧ Below w.heap.size w w' := by
  obtain ⟨fp, L, hf⟩ := O.ex
  refine (purse_any w q s fp L).mono ?_
  rintro e w' ⟨q', rfl, hq, L', hb⟩
  refine ⟨q', rfl, hq, ⟨⟨_, L', fun g hg => ?_⟩, O.be.trans (hb.mono O.bs), Nat.le_trans O.bs hb.size, fun g hg => Nat.lt_of_lt_of_le (O.xs g hg) hb.size⟩, hb⟩
  rcases hg with hg | ⟨hg, _⟩
  · subst hg
    exact ⟨Nat.le_trans O.bs hq, fun hx => by have := O.xs _ hx; omega⟩
  · exact hf g hg
theorem ow_answers (O : Ow B X w0 w q s) : Calls Try.prog 51 #[.pointer (some ⟨q, 0, none⟩)] w fun e w' => e = .returned (.int .i64 (cnt s.g : Nat)) ∧ w = w' := by
  obtain ⟨fp, L, hf⟩ := O.ex
  exact answers_any w q s fp L
theorem ow_bytes (O : Ow B X w0 w q s) : Calls Try.prog 53 #[.pointer (some ⟨q, 0, none⟩)] w (ByTo w (tlbts s)) := by
  obtain ⟨fp, L, hf⟩ := O.ex
  exact bytes_any w q s fp L
end
theorem ow_new (w : World) (a b c d : Int) (hI : ∀ z ∈ [a, b, c, d], Cs.I z) (h : mayF a b c d = true) : Calls Try.prog 47 #[.agg #[.int .i64 a, .int .i64 b, .int .i64 c, .int .i64 d]] w fun e w' => ∃ q, e = .returned (.tuple #[.pointer (some ⟨q, 0, none⟩), .int .i64 0]) ∧ Ow w.heap.size (fun g => g < w.heap.size) w w' q ⟨Pu.new a b c d, Tb.fz⟩ := by
  refine (tnew_yes w a b c d hI h).mono ?_
  rintro e w' ⟨q, rfl, hq, L, hb⟩
  exact ⟨q, rfl, ⟨_, L, fun g hg => by subst hg; exact ⟨hq, by omega⟩⟩, hb, hb.size, fun g hg => Nat.lt_of_lt_of_le hg hb.size⟩
end Ti
end Go.Proofs.Ytchlbkfkecpodaa

namespace Go.Proofs.Ytchlbkfkecpodaa
set_option maxRecDepth 100000
open Go.RowKit
open Go.Sort (grow)
open Go.Proofs.Ytchlbkfkecpodaa.Pk (one_at one_free one_set lt_some grown_set grown_trans below_grown grown_refl)
namespace Ti
open Wt (Opn mayOp)
open Pu (grq Kx bal)
open Tb (cnt)

def ts0 : S := ⟨Pu.new 9 0 0 0, Tb.fz⟩
def ts1 : S := asked ts0 ⟨4, 1, 0, 0, 4⟩
def ts2 : S := asked ts1 ⟨4, 1, 0, 0, 4⟩
def ts3 : S := asked ts2 ⟨1, 1, 1, 0, 0⟩
def ts4 : S := asked ts3 ⟨5, 1, 0, 0, 0⟩
theorem ta1 : ans ts0 ⟨4, 1, 0, 0, 4⟩ = 1 := by kernel_rfl
theorem tb1 : isNew ts0 ⟨4, 1, 0, 0, 4⟩ = true := by kernel_rfl
theorem ta2 : ans ts1 ⟨4, 1, 0, 0, 4⟩ = 1 := by kernel_rfl
theorem tb2 : isNew ts1 ⟨4, 1, 0, 0, 4⟩ = false := by kernel_rfl
theorem ta3 : ans ts2 ⟨1, 1, 1, 0, 0⟩ = 2 := by kernel_rfl
theorem tb3 : isNew ts2 ⟨1, 1, 1, 0, 0⟩ = false := by kernel_rfl
theorem ta4 : ans ts3 ⟨5, 1, 0, 0, 0⟩ = 1 := by kernel_rfl
theorem tb4 : isNew ts3 ⟨5, 1, 0, 0, 0⟩ = true := by kernel_rfl
theorem tc4 : bal ts4.p 0 = 5 := by kernel_rfl
theorem td4 : ts4.p.a 5 = 4 := by kernel_rfl
theorem te4 : cnt ts4.g = 2 := by kernel_rfl
/-- An operation in a box. -/
def Bx (w : World) (g : Nat) (o : Opn) : Prop := w.heap[g]? = some (.cells (opc o) 30 (0, 0))
theorem Bx.cells {w : World} {g : Nat} {o : Opn} (h : Bx w g o) : w.cell? ⟨g, 0, none⟩ = some (.int .i64 o.kind) ∧ w.cell? ⟨g, 1, none⟩ = some (.int .i64 o.book) ∧ w.cell? ⟨g, 2, none⟩ = some (.int .i64 o.units) ∧ w.cell? ⟨g, 3, none⟩ = some (.int .i64 o.cust) ∧ w.cell? ⟨g, 4, none⟩ = some (.int .i64 o.amount) :=
  ⟨one_at (i := 0) h, one_at (i := 1) h, one_at (i := 2) h, one_at (i := 3) h, one_at (i := 4) h⟩
theorem Bx.lt {w : World} {g : Nat} {o : Opn} (h : Bx w g o) : g < w.heap.size := lt_some h
theorem Bx.below {w w' : World} {g : Nat} {o : Opn} (h : Bx w g o) (hb : Below w.heap.size w w') : Bx w' g o := (hb.block g h.lt).trans h
theorem Bx.kx {w w' : World} {g : Nat} {o : Opn} {X : Nat → Prop} (h : Bx w g o) (hk : Kx X w w') (hx : X g) : Bx w' g o := (hk.2 g hx).trans h
set_option maxHeartbeats 6400000 in
theorem told_any (w : World) : Calls Try.prog 48 #[] w fun e w' => e = .returned (.bool true) ∧ Below w.heap.size w w' := by
  have N := ow_new w 9 0 0 0 (fun z hz => by simp at hz; rcases hz with rfl | rfl <;> exact ⟨by decide, by decide⟩) (by decide)
  rw [show (⟨Pu.new 9 0 0 0, Tb.fz⟩ : S) = ts0 from rfl] at N
  go_enter Try.func48, Try.ntmps48
  go_wp2_with fail
  refine N.mono ?_
  rintro e w1 ⟨q, rfl, N1⟩
  clear N
  obtain ⟨W, hW⟩ : ∃ W, W = w1.alloc (.cells #[.int .i64 4, .int .i64 1, .int .i64 0, .int .i64 0, .int .i64 4] 30) := ⟨_, rfl⟩
  obtain ⟨X, hX⟩ : ∃ X, X = grq (fun g => g < w.heap.size) w1 W := ⟨_, rfl⟩
  have bW : Below w1.heap.size w1 W := by rw [hW]; exact (Below.refl _ _).alloc (Nat.le_refl _) _
  have O0 : Ow w.heap.size X w W q ts0 := by rw [hX]; exact N1.beside bW
  have BW : Bx W w1.heap.size ⟨4, 1, 0, 0, 4⟩ := by rw [hW]; exact heap_alloc_new _ _
  have xg : Hid (X w1.heap.size) := by rw [hX]; exact .inr ⟨Nat.le_refl _, BW.lt⟩
  obtain ⟨z0, z1, z2, z3, z4⟩ := BW.cells
  replace BW := Lib.hid BW
  replace hW := Lib.hid hW
  clear hX bW N1
  have D : Calls Try.prog 49 #[.pointer (some ⟨q, 0, none⟩), .agg #[.int .i64 4, .int .i64 1, .int .i64 0, .int .i64 0, .int .i64 4]] W fun e w' => e = .returned (.tuple #[.int .i64 1, .bool true]) ∧ OwTo w.heap.size X w W q ts1 w' := by
    have := ow_ask O0 ⟨4, 1, 0, 0, 4⟩
    rw [ta1, tb1] at this
    exact this
  clear O0
  go_wp2_with fail
  rw [← hW.out]
  go_wp2_with fail
  refine D.mono ?_
  rintro e w2 ⟨rfl, O1, K1⟩
  clear D
  have B2 := Lib.hid (BW.out.kx K1 xg.out)
  clear z0 z1 z2 z3 z4 BW hW K1
  obtain ⟨z0, z1, z2, z3, z4⟩ := B2.out.cells
  have D : Calls Try.prog 49 #[.pointer (some ⟨q, 0, none⟩), .agg #[.int .i64 4, .int .i64 1, .int .i64 0, .int .i64 0, .int .i64 4]] w2 fun e w' => e = .returned (.tuple #[.int .i64 1, .bool false]) ∧ OwTo w.heap.size X w w2 q ts2 w' := by
    have := ow_ask O1 ⟨4, 1, 0, 0, 4⟩
    rw [ta2, tb2] at this
    exact this
  clear O1
  go_wp2_with fail
  refine D.mono ?_
  rintro e w3 ⟨rfl, O2, K2⟩
  clear D
  clear z0 z1 z2 z3 z4 B2 K2
  have D : Calls Try.prog 49 #[.pointer (some ⟨q, 0, none⟩), .agg #[.int .i64 1, .int .i64 1, .int .i64 1, .int .i64 0, .int .i64 0]] w3 fun e w' => e = .returned (.tuple #[.int .i64 2, .bool false]) ∧ OwTo w.heap.size X w w3 q ts3 w' := by
    have := ow_ask O2 ⟨1, 1, 1, 0, 0⟩
    rw [ta3, tb3] at this
    exact this
  clear O2
  go_wp2_with fail
  refine D.mono ?_
  rintro e w4 ⟨rfl, O3, K3⟩
  clear D
  clear K3
  have D : Calls Try.prog 49 #[.pointer (some ⟨q, 0, none⟩), .agg #[.int .i64 5, .int .i64 1, .int .i64 0, .int .i64 0, .int .i64 0]] w4 fun e w' => e = .returned (.tuple #[.int .i64 1, .bool true]) ∧ OwTo w.heap.size X w w4 q ts4 w' := by
    have := ow_ask O3 ⟨5, 1, 0, 0, 0⟩
    rw [ta4, tb4] at this
    exact this
  clear O3
  go_wp2_with fail
  refine D.mono ?_
  rintro e w5 ⟨rfl, O4, K4⟩
  clear D
  clear K4
  have SC := ow_purse O4
  replace O4 := Lib.hid O4
  go_wp2_with fail
  refine SC.mono ?_
  rintro e w6 ⟨q2, rfl, hq2, S6, b6⟩
  have BA := Pu.ow_bal S6 0
  rw [tc4] at BA
  have TA := Pu.ow_tak S6
  rw [td4] at TA
  have AN := ow_answers (O4.out.below b6)
  rw [te4] at AN
  have B6 : Hid (Below w.heap.size w w6) := S6.be
  clear SC O4 S6 b6 hq2
  replace TA := Lib.hid TA
  replace AN := Lib.hid AN
  go_wp2_with fail
  refine BA.mono ?_
  rintro e w7 ⟨rfl, rfl⟩
  clear BA
  replace TA := TA.out
  go_wp2_with fail
  refine TA.mono ?_
  rintro e w8 ⟨rfl, rfl⟩
  clear TA
  replace AN := AN.out
  go_wp2_with fail
  refine AN.mono ?_
  rintro e w9 ⟨rfl, rfl⟩
  clear AN
  go_wp2
  go_ret
  exact ⟨rfl, B6.out⟩
end Ti
end Go.Proofs.Ytchlbkfkecpodaa
