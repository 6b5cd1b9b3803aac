/- Parts of the claim: TiM, TiA, TiN, TiB -/
import Derived.Laws.Tables
import Derived.Lib.Hide
import Derived.Deep.RegionWith
import Derived.Test.YtpkdigegkemogaaGreatDoorPuXcT
import Derived.Test.YtpkdigegkemogaaGreatDoorTbXbT
import Derived.Test.YtpkdigegkemogaaGreatDoorPuXdT
namespace Go.Proofs.YtpkdigegkemogaaGreatDoor
namespace Ti
open Wt (Opn mayOp)
open Pu (dstp)

structure S where
  p : Pu.S
  g : Tb.F
def mayT (o : Opn) : Bool := mayOp o && decide (4 ≤ o.kind)
def asked (s : S) (o : Opn) : S := if mayT o = true ∧ s.g o.book o.kind = 0 then ⟨(dstp s.p o).1, Tb.putF s.g o (dstp s.p o).2⟩ else s
def ans (s : S) (o : Opn) : Int := if mayT o = true then (if s.g o.book o.kind = 0 then (dstp s.p o).2 else s.g o.book o.kind) else 2
def isNew (s : S) (o : Opn) : Bool := mayT o && s.g o.book o.kind == 0
structure Ok (s : S) : Prop where
  p : Pu.Ok s.p
  g : Tb.Ok s.g
section
variable {s : S} {o : Opn}
theorem mayt_iff : mayT o = true ↔ mayOp o = true ∧ 4 ≤ o.kind := by simp [mayT]
theorem dstp_ans (p : Pu.S) (o : Opn) : (dstp p o).2 = 1 ∨ (dstp p o).2 = 2 := by
  unfold dstp Pu.stp Pu.auth Pu.capt
  (repeat' split) <;> simp
theorem put_is (hm : mayT o = true) (hg : s.g o.book o.kind = 0) : Tb.put? s.g o (dstp s.p o).2 = true :=
  Tb.put_iff.2 ⟨(mayt_iff.1 hm).1, Tb.maya_iff.2 (dstp_ans s.p o), hg⟩
theorem asked_no (h : mayT o = false) : asked s o = s := by unfold asked; rw [if_neg (fun e => by rw [h] at e; exact absurd e.1 (by decide))]
theorem asked_old (h : s.g o.book o.kind ≠ 0) : asked s o = s := by unfold asked; rw [if_neg (fun e => h e.2)]
theorem asked_yes (h : mayT o = true) (hg : s.g o.book o.kind = 0) : asked s o = ⟨(dstp s.p o).1, Tb.putF s.g o (dstp s.p o).2⟩ := by unfold asked; rw [if_pos ⟨h, hg⟩]
theorem ans_no (h : mayT o = false) : ans s o = 2 := by unfold ans; rw [if_neg (by rw [h]; decide)]
theorem ans_old (h : mayT o = true) (hg : s.g o.book o.kind ≠ 0) : ans s o = s.g o.book o.kind := by unfold ans; rw [if_pos h, if_neg hg]
theorem ans_yes (h : mayT o = true) (hg : s.g o.book o.kind = 0) : ans s o = (dstp s.p o).2 := by unfold ans; rw [if_pos h, if_pos hg]
theorem new_no (h : mayT o = false) : isNew s o = false := by unfold isNew; rw [h]; rfl
theorem new_old (h : s.g o.book o.kind ≠ 0) : isNew s o = false := by unfold isNew; rw [beq_eq_false_iff_ne.2 h, Bool.and_false]
theorem new_yes (h : mayT o = true) (hg : s.g o.book o.kind = 0) : isNew s o = true := by unfold isNew; rw [h, hg]; rfl
end
end Ti
end Go.Proofs.YtpkdigegkemogaaGreatDoor
namespace Go.Proofs.YtpkdigegkemogaaGreatDoor
set_option maxRecDepth 100000
open Go.RowKit
open Go.Proofs.YtpkdigegkemogaaGreatDoor.Pk (one_at one_free one_set lt_some grown_set grown_trans grown_refl)
namespace Ti
open Wt (Opn mayOp)
open Pu (Kq grq Led LedP Kt Pm pcs dstp)
open Tb (Tab Kz)

section
variable {w w' : World} {h : Nat} {p p' : Pu.S} {g g' : Tb.F} {fl ft : Nat → Prop}
theorem tab_side (T : Tab w h 1012 g ft) (hs : w.heap.size ≤ w'.heap.size) (hb : ∀ x, ft x → x ≠ h → w'.heap[x]? = w.heap[x]?) (hc : ∀ cs ty, w.heap[h]? = some (.cells cs ty (0, 0)) → ∃ cs', w'.heap[h]? = some (.cells cs' ty (0, 0))) (ht : w'.cell? ⟨h, 1012, none⟩ = w.cell? ⟨h, 1012, none⟩) : Tab w' h 1012 g ft := by
  obtain ⟨mo, h1, h2, h3⟩ := T.at_
  obtain ⟨cs0, ty, hc0, -⟩ := h1.blk
  obtain ⟨cs, hc⟩ := hc cs0 ty hc0
  refine ⟨T.ok, T.pin, fun x hx => Nat.lt_of_lt_of_le (T.size x hx) hs, mo, ⟨cs, ty, hc, ?_⟩, ?_, h3⟩
  · rw [← one_at (i := 1012) hc, ht]
    exact h1.c
  · rcases h2 with h2 | ⟨m, D, e, ho, TT⟩
    · exact .inl h2
    · exact .inr ⟨m, D, e, Tb.owns_keep ho (hb m (h3 m e) fun e2 => h1.ne_map ho e2.symm), TT⟩
theorem pm_low {v : Value} (D : Pm w h p v) (hl : h < w'.heap.size) (ht : ∀ i, i ≠ 1012 → w'.cell? ⟨h, i, none⟩ = w.cell? ⟨h, i, none⟩) (hf : ∀ i, w'.frozen? ⟨h, i, none⟩ = false) : Pm w' h p v := by
  refine ⟨hl, fun k hk => (ht _ (by omega)).trans (D.acc k hk), fun k hk j v hj => ?_, (ht _ (by decide)).trans D.lin, hf⟩
  have h5 : j < 5 := (List.getElem?_eq_some_iff.1 hj).1
  exact (ht _ (by omega)).trans (D.ent k hk j v hj)
theorem led_side {t : TypeId} (L : Led t w h p fl) (hs : w.heap.size ≤ w'.heap.size) (hb : ∀ x, fl x → x ≠ h → w'.heap[x]? = w.heap[x]?) (ht : ∀ i, i ≠ 1012 → w'.cell? ⟨h, i, none⟩ = w.cell? ⟨h, i, none⟩) (hf : ∀ i, w'.frozen? ⟨h, i, none⟩ = false) : Led t w' h p fl := by
  obtain ⟨v, D, R, hne, hv⟩ := L.at_
  exact ⟨⟨L.pin, fun x hx => Nat.lt_of_lt_of_le (L.size x hx) hs, v, pm_low D (Nat.lt_of_lt_of_le L.lt hs) ht hf, Pu.rt_same R fun x hx => hb x (hv x hx) (fun e => hne (by rw [hx, e])), hne, hv⟩, L.ok⟩
end
structure Til (w : World) (h : Nat) (s : S) (fp : Nat → Prop) : Prop where
  ex : ∃ fl ft, LedP w h s.p fl ∧ Tab w h 1012 s.g ft ∧ (∀ x, fl x → ft x → x = h) ∧ (∀ x, fl x → fp x) ∧ ∀ x, ft x → fp x
  size : ∀ x, fp x → x < w.heap.size
def TTo (w : World) (h : Nat) (fp : Nat → Prop) (s : S) (w' : World) : Prop := Til w' h s (grq fp w w') ∧ Kq fp w w'
section
variable {w w' w1 w2 : World} {h : Nat} {s s' : S} {fp fp' : Nat → Prop}
theorem Til.keep (H : Til w h s fp) (hs : w.heap.size ≤ w'.heap.size) (hk : ∀ x, fp x → w'.heap[x]? = w.heap[x]?) : Til w' h s fp := by
  obtain ⟨fl, ft, L, T, a, b, c⟩ := H.ex
  exact ⟨⟨fl, ft, L.keep hs fun x hx => hk x (b x hx), T.keep hs fun x hx => hk x (c x hx), a, b, c⟩, fun x hx => Nat.lt_of_lt_of_le (H.size x hx) hs⟩
theorem Til.below (H : Til w h s fp) (hb : Below w.heap.size w w') : Til w' h s fp := H.keep hb.size fun x hx => hb.block x (H.size x hx)
theorem Til.mono (H : Til w h s fp) (hf : ∀ x, fp x → fp' x) (hs : ∀ x, fp' x → x < w.heap.size) : Til w h s fp' := by
  obtain ⟨fl, ft, L, T, a, b, c⟩ := H.ex
  exact ⟨⟨fl, ft, L, T, a, fun x hx => hf x (b x hx), fun x hx => hf x (c x hx)⟩, hs⟩
theorem Til.pin (H : Til w h s fp) : fp h := by
  obtain ⟨fl, ft, L, T, a, b, c⟩ := H.ex
  exact b h L.pin
theorem Til.lt (H : Til w h s fp) : h < w.heap.size := H.size h H.pin
theorem Til.ok (H : Til w h s fp) : Ok s := by
  obtain ⟨fl, ft, L, T, a, b, c⟩ := H.ex
  exact ⟨L.ok, T.ok⟩
theorem TTo.of_below (H : Til w h s fp) (hb : Below w.heap.size w w') : TTo w h fp s w' :=
  ⟨(H.below hb).mono (fun _ h => .inl h) fun x hx => by
    rcases hx with hx | ⟨_, hx⟩
    · exact Nat.lt_of_lt_of_le (H.size x hx) hb.size
    · exact hx, .of_below hb⟩
theorem TTo.trans (a : TTo w h fp s w1) (b : TTo w1 h (grq fp w w1) s' w2) : TTo w h fp s' w2 := by
  obtain ⟨b1, b2⟩ := b
  rw [Pu.grq_grq a.2.size b2.size] at b1
  exact ⟨b1, a.2.trans b2⟩
theorem TTo.wide (a : TTo w h fp s w') (hf : ∀ g, fp g → fp' g) (hs : ∀ g, fp' g → g < w.heap.size) : TTo w h fp' s w' :=
  ⟨a.1.mono (fun g hg => by
    rcases hg with hg | hg
    · exact .inl (hf g hg)
    · exact .inr hg) fun g hg => by
    rcases hg with hg | ⟨_, hg⟩
    · exact Nat.lt_of_lt_of_le (hs g hg) a.2.size
    · exact hg, a.2.mono hf⟩
theorem TTo.after (H : Til w h s fp) (hb : Below w.heap.size w w1) (a : TTo w1 h fp s' w2) : TTo w h fp s' w2 := by
  have h0 := TTo.of_below H hb
  refine h0.trans (a.wide (fun g hg => .inl hg) fun g hg => ?_)
  rcases hg with hg | ⟨_, hg⟩
  · exact Nat.lt_of_lt_of_le (H.size g hg) hb.size
  · exact hg
theorem Til.purse (H : Til w h s fp) : ∃ fl, LedP w h s.p fl ∧ (∀ x, fl x → fp x) ∧ ∀ p' w', Pu.LTo Pu.LineT (fun x => x = h) w h fl p' w' → TTo w h fp ⟨p', s.g⟩ w' := by
  obtain ⟨fl, ft, L, T, a, b, c⟩ := H.ex
  refine ⟨fl, L, b, fun p' w' X => ?_⟩
  obtain ⟨L', K⟩ := X
  have T' : Tab w' h 1012 s.g ft := tab_side T K.size (fun x hx hn => K.block x (T.size x hx) hn) K.form (K.tail 1012 (Nat.le_refl _))
  refine ⟨⟨⟨grq fl w w', ft, L', T', fun x hx ht => ?_, fun x hx => ?_, fun x hx => .inl (c x hx)⟩, fun x hx => ?_⟩, K.toKq.mono fun x hx => by rw [hx]; exact b h L.pin⟩
  · rcases hx with hx | ⟨hx, _⟩
    · exact a x hx ht
    · exact absurd (T.size x ht) (by omega)
  · rcases hx with hx | hx
    · exact .inl (b x hx)
    · exact .inr hx
  · rcases hx with hx | ⟨_, hx⟩
    · exact Nat.lt_of_lt_of_le (H.size x hx) K.size
    · exact hx
theorem Til.table (H : Til w h s fp) : ∃ ft, Tab w h 1012 s.g ft ∧ (∀ x, ft x → fp x) ∧ ∀ g' w', Tb.LTo w h 1012 ft g' w' → TTo w h fp ⟨s.p, g'⟩ w' := by
  obtain ⟨fl, ft, L, T, a, b, c⟩ := H.ex
  refine ⟨ft, T, c, fun g' w' X => ?_⟩
  obtain ⟨T', K⟩ := X
  have L' : LedP w' h s.p fl := by
    obtain ⟨mo, h1, _⟩ := T'.at_
    exact led_side L K.size (fun x hx hn => K.block x (L.size x hx) fun hf => hn (a x hx hf)) K.rest h1.free
  refine ⟨⟨⟨fl, grq ft w w', L', T', fun x hl hx => ?_, fun x hx => .inl (b x hx), fun x hx => ?_⟩, fun x hx => ?_⟩, ⟨K.os, K.tape, K.output, K.size, fun g hg hn => K.block g hg fun e => hn (c g e)⟩⟩
  · rcases hx with hx | ⟨hx, _⟩
    · exact a x hl hx
    · exact absurd (L.size x hl) (by omega)
  · rcases hx with hx | hx
    · exact .inl (c x hx)
    · exact .inr hx
  · rcases hx with hx | ⟨_, hx⟩
    · exact Nat.lt_of_lt_of_le (H.size x hx) K.size
    · exact hx
theorem Til.start {ty : TypeId} {p : Pu.S} {v : Value} (O : Ok ⟨p, Tb.fz⟩) (R : Pu.RowT Pu.LineT w 0 v p.l.length p.l) (hv : v.ownBlock = none) (e : w.heap[h]? = some (.cells (pcs p v ++ [Value.map none]).toArray ty (0, 0))) : Til w h ⟨p, Tb.fz⟩ (fun x => x = h) := by
  refine ⟨⟨fun x => x = h, fun x => x = h, ⟨⟨rfl, fun x hx => by rw [hx]; exact lt_some e, v, Pm.of_row e, R, by rw [hv]; simp, fun g hg => by rw [hv] at hg; cases hg⟩, O.p⟩,
    ⟨O.g, rfl, fun x hx => by rw [hx]; exact lt_some e, none, ⟨_, _, e, ?_⟩, .inl ⟨rfl, rfl⟩, fun m hm => (nomatch hm)⟩, fun x hx _ => hx, fun x hx => hx, fun x hx => hx⟩, fun x hx => by rw [hx]; exact lt_some e⟩
  rw [List.getElem?_toArray, List.getElem?_append_right (by rw [Pu.pcs_len]; exact Nat.le_refl _), Pu.pcs_len]
  rfl
end
end Ti
end Go.Proofs.YtpkdigegkemogaaGreatDoor
namespace Go.Proofs.YtpkdigegkemogaaGreatDoor
namespace Ti

theorem fold_size {o : Nat} : ∀ (l : List (Value × Nat)) (a : Array Value), (l.foldl (fun cs x => cs.setIfInBounds (o + x.2) x.1) a).size = a.size
  | [], _ => rfl
  | x :: l, a => by rw [List.foldl_cons, fold_size l]; simp
theorem fold_get {o : Nat} : ∀ (l : List Value) (k : Nat) (a : Array Value) (i : Nat), i < a.size → ((l.zipIdx k).foldl (fun cs x => cs.setIfInBounds (o + x.2) x.1) a)[i]? = if o + k ≤ i ∧ i < o + k + l.length then l[i - (o + k)]? else a[i]?
  | [], k, a, i, _ => by
    rw [if_neg (by simp only [List.length_nil]; omega)]
    rfl
  | x :: l, k, a, i, hi => by
    rw [List.zipIdx_cons, List.foldl_cons, fold_get l (k + 1) _ i (by simpa using hi)]
    by_cases h1 : i = o + k
    · subst h1
      rw [if_neg (by omega), if_pos (by simp only [List.length_cons]; omega)]
      simp [hi]
    · by_cases h2 : o + (k + 1) ≤ i ∧ i < o + (k + 1) + l.length
      · rw [if_pos h2, if_pos (by simp only [List.length_cons]; omega), show i - (o + k) = (i - (o + (k + 1))) + 1 by omega, List.getElem?_cons_succ]
      · rw [if_neg h2, if_neg (by simp only [List.length_cons]; omega)]
        rw [Array.getElem?_setIfInBounds_ne (by show o + k ≠ i; omega)]
theorem fill_head (place : Nat → Option (Nat × Nat)) (cells cs : Array Value) (hp : place 0 = some (0, cs.size)) (hle : cs.size ≤ cells.size) :
    Instr.fill place cells [(0, .agg cs)] = some (cs.toList ++ cells.toList.drop cs.size).toArray := by
  have e : Instr.fill place cells [(0, .agg cs)] = some (cs.zipIdx.foldl (fun cs x => cs.setIfInBounds (0 + x.2) x.1) cells) := by
    have h1 : (Value.agg cs).cells = cs := rfl
    simp [Instr.fill, hp, h1, Nat.not_lt.2 hle]
  rw [e]
  congr 1
  rw [← Array.foldl_toList, Array.toList_zipIdx]
  refine Array.ext_getElem? fun i => ?_
  by_cases hi : i < cells.size
  · have := fold_get (o := 0) cs.toList 0 cells i hi
    refine this.trans ?_
    have r : (cs.toList ++ cells.toList.drop cs.size).toArray[i]? = (cs.toList ++ cells.toList.drop cs.size)[i]? := List.getElem?_toArray ..
    have hc : cs.toList.length = cs.size := Array.length_toList
    rw [r]
    by_cases h : i < cs.size
    · rw [if_pos (by omega), List.getElem?_append_left (by omega)]
      congr 1
    · rw [if_neg (by omega), List.getElem?_append_right (by omega), List.getElem?_drop, Array.getElem?_toList]
      congr 1
      omega
  · have h1 : ∀ a : Array Value, a.size = cells.size → a[i]? = none := fun a ha => by rw [Array.getElem?_eq_none_iff]; omega
    rw [h1 _ (fold_size (o := 0) (cs.toList.zipIdx 0) cells), h1 _ (by simp; omega)]
end Ti
end Go.Proofs.YtpkdigegkemogaaGreatDoor
namespace Go.Proofs.YtpkdigegkemogaaGreatDoor
set_option maxRecDepth 100000
open Go.RowKit
open Go.Sort (grow)
open Go.Proofs.YtpkdigegkemogaaGreatDoor.Pk (one_at one_free one_set lt_some grown_set grown_trans grown_refl)
namespace Ti
open Wt (Opn mayOp)
open Pu (Kq grq Led LedP Kt Pm pcs dstp mayF zero)
open Tb (Tab Kz)

abbrev opv (o : Opn) : Value := .agg #[.int .i64 o.kind, .int .i64 o.book, .int .i64 o.units, .int .i64 o.cust, .int .i64 o.amount]
abbrev opc (o : Opn) : Array Value := #[.int .i64 o.kind, .int .i64 o.book, .int .i64 o.units, .int .i64 o.cust, .int .i64 o.amount]
theorem till_built (parts : List (Nat × Value)) : Tryz.prog.built 175 parts = Instr.fill (#[(0, 1012), (1012, 1)][·]?) (pcs zero (.slice none 0 0) ++ [Value.map none]).toArray parts := by kernel_rfl
theorem tbuild_run (w : World) (p : Pu.S) (v : Value) : (Instr.build 175 #[(0, .agg (pcs p v).toArray)]).run Tryz.prog w = .ok (.agg (pcs p v ++ [Value.map none]).toArray) w := by
  refine run_build w _ _ _ ?_
  rw [till_built]
  have h := fill_head (#[(0, 1012), (1012, 1)][·]?) (pcs zero (.slice none 0 0) ++ [Value.map none]).toArray (pcs p v).toArray (by rw [List.size_toArray, Pu.pcs_len]; rfl) (by rw [List.size_toArray, List.size_toArray, List.length_append, Pu.pcs_len, Pu.pcs_len]; exact Nat.le_add_right _ _)
  refine h.trans ?_
  rw [List.size_toArray, Pu.pcs_len]
  congr 3
theorem tbox_run (w : World) (cs : Array Value) : (Instr.box 175 (.agg cs)).run Tryz.prog w = .ok (.pointer (some ⟨w.heap.size, 0, none⟩)) (w.alloc (.cells cs 175)) := by
  simp only [Instr.box, newVar, newRow, Sem.run_bind]
  kernel_rfl
section
variable {ops : Array Oper} {rest : List Oper} {o : Oper} {a : Act} {w : World} {Q : Exit → Act → World → Prop}
theorem wpList_tbuild (hg : o.guard = none) (x : Operand) (ho : o.op = .build 175 #[(0, x)]) (p : Pu.S) (v : Value) (hx : a.eval x = .agg (pcs p v).toArray)
    (h : wpList Tryz.prog ops Q rest (a.put o.dst (.agg (pcs p v ++ [Value.map none]).toArray)) w) : wpList Tryz.prog ops Q (o :: rest) a w := by
  refine wpList_plain hg fun K hK => ?_
  unfold Oper.wp execOp
  simp only [ho, hx, Sem.run_bind, List.map_toArray, List.map_cons, List.map_nil, tbuild_run, Sem.run_pure, Result.andThen_ok]
  exact hK _ _ h
theorem wpList_tbox (hg : o.guard = none) (x : Operand) (ho : o.op = .box 175 x) (cs : Array Value) (hx : a.eval x = .agg cs)
    (h : wpList Tryz.prog ops Q rest (a.put o.dst (.pointer (some ⟨w.heap.size, 0, none⟩))) (w.alloc (.cells cs 175))) : wpList Tryz.prog ops Q (o :: rest) a w := by
  refine wpList_plain hg fun K hK => ?_
  unfold Oper.wp execOp
  simp only [ho, hx, Sem.run_bind, tbox_run, Sem.run_pure, Result.andThen_ok]
  exact hK _ _ h
end
set_option maxHeartbeats 1600000 in
theorem tnew_yes (w : World) (a b c d : Int) (hI : ∀ z ∈ [a, b, c, d], Cs.I z) (hm : mayF a b c d = true) : Calls Tryz.prog 57 #[.agg #[.int .i64 a, .int .i64 b, .int .i64 c, .int .i64 d]] w fun e w' => ∃ q, e = .returned (.tuple #[.pointer (some ⟨q, 0, none⟩), .int .i64 0]) ∧ w.heap.size ≤ q ∧ Til w' q ⟨Pu.new a b c d, Tb.fz⟩ (fun x => x = q) ∧ Below w.heap.size w w' := by
  have HB : Hid (∀ w1, Below (w.alloc (.cells #[.int .i64 a, .int .i64 b, .int .i64 c, .int .i64 d] 27)).heap.size (w.alloc (.cells #[.int .i64 a, .int .i64 b, .int .i64 c, .int .i64 d] 27)) w1 → Below w.heap.size w w1) := fun w1 h1 =>
    ((Below.refl _ _).alloc (Nat.le_refl _) _).trans (h1.mono (by simp))
  have NW := fun w => Pu.new_yes w a b c d hI hm
  generalize Pu.new a b c d = p at *
  clear hm hI
  go_enter Tryz.func57, Tryz.ntmps57
  go_wp2_with fail
  refine (NW _).mono ?_
  rintro e w1 ⟨q, rfl, hq, L, h1⟩
  have B1 := Lib.hid (HB.out w1 h1)
  have O : Hid (Ok ⟨p, Tb.fz⟩) := ⟨L.ok, Tb.ok_z⟩
  obtain ⟨v, D, R, hne, hv⟩ := L.at_
  have hn : v.ownBlock = none := by
    cases e : v.ownBlock with
    | none => rfl
    | some g =>
      have h2 : g = q := hv g e
      exact absurd (e.trans (by rw [h2])) hne
  have hall := Lib.hid D.all
  obtain ⟨dd, hu, hd⟩ := Pu.led_under
  replace hu := Lib.hid hu
  replace hd := Lib.hid hd
  have hi : Hid ((Tryz.prog.info? 173).map (·.size) = some (pcs p v).length) := by rw [Pu.pcs_len]; exact Pu.led_size
  have E : Hid (w.heap.size ≤ w1.heap.size ∧ Til (w1.alloc (.cells (pcs p v ++ [Value.map none]).toArray 175)) w1.heap.size ⟨p, Tb.fz⟩ (fun x => x = w1.heap.size) ∧ Below w.heap.size w (w1.alloc (.cells (pcs p v ++ [Value.map none]).toArray 175))) :=
    ⟨B1.out.size, .start O.out (Pu.rt_below R ((Below.refl _ _).alloc (Nat.le_refl _) _)) hn (heap_alloc_new _ _), B1.out.alloc B1.out.size _⟩
  clear h1 HB NW L hq D R hne hv hn O
  go_wp2_with (first
    | (refine wpList_load_mid rfl 173 (.tmp 15) rfl q 0 rfl (pcs p v) dd hall.out hu.out hd.out hi.out ?_)
    | (refine wpList_tbuild rfl (.tmp 16) rfl p v rfl ?_)
    | (refine wpList_tbox rfl (.tmp 17) rfl _ rfl ?_))
  go_ret2
  exact ⟨_, rfl, E.out⟩
set_option maxHeartbeats 1600000 in
theorem mayask_any (w : World) (o : Opn) : Calls Tryz.prog 96 #[opv o] w fun e w' => e = .returned (.bool (mayT o)) ∧ Below w.heap.size w w' := by
  have MO : ∀ W, Calls Tryz.prog 70 #[.agg #[.int .i64 o.kind, .int .i64 o.book, .int .i64 o.units, .int .i64 o.cust, .int .i64 o.amount]] W _ := fun W => Wt.mayop_any W o
  obtain ⟨W, hW⟩ : ∃ W, W = w.alloc (.cells (opc o) 34) := ⟨_, rfl⟩
  have HB : Hid (Below w.heap.size w W) := by rw [hW]; exact (Below.refl _ _).alloc (Nat.le_refl _) _
  have N0 : Hid (W.heap[w.heap.size]? = some (.cells (opc o) 34 (0, 0))) := by rw [hW]; exact heap_alloc_new _ _
  have MW := Lib.hid (MO W)
  have z0 := one_at (i := 0) N0.out
  have z1 := one_at (i := 1) N0.out
  have z2 := one_at (i := 2) N0.out
  have z3 := one_at (i := 3) N0.out
  have z4 := one_at (i := 4) N0.out
  have F : Hid (mayT o = (mayOp o && decide (4 ≤ o.kind))) := rfl
  have bd := fun h => (Tb.mayop_bds (o := o) h).2
  replace hW := Lib.hid hW
  clear MO
  obtain ⟨k, b, u, c, m⟩ := o
  simp only at *
  cases hm : mayOp ⟨k, b, u, c, m⟩ with
  | false =>
    rw [hm] at MW F
    clear bd hm
    go_enter Tryz.func96, Tryz.ntmps96
    go_wp2_with fail
    rw [← hW.out]
    go_wp2_with fail
    refine MW.out.mono ?_
    rintro e w1 ⟨rfl, h1⟩
    have B1 : Hid (Below w.heap.size w w1) := HB.out.trans (h1.mono HB.out.size)
    clear h1 MW z0 z1 z2 z3 z4
    go_wp2
    go_ret
    rw [F.out, Bool.false_and]
    exact ⟨rfl, B1.out⟩
  | true =>
    obtain ⟨k1, k6⟩ := bd hm
    rw [hm, Bool.true_and] at F
    rw [hm] at MW
    clear bd hm
    by_cases k4 : 4 ≤ k
    · rw [decide_eq_true k4] at F
      by_cases h4 : k = 4
      · have n4 : (k == 4) = true := beq_iff_eq.2 h4
        clear k1 k6 k4 h4
        go_enter Tryz.func96, Tryz.ntmps96
        go_wp2_with fail
        rw [← hW.out]
        go_wp2_with fail
        refine MW.out.mono ?_
        rintro e w1 ⟨rfl, h1⟩
        have B1 : Hid (Below w.heap.size w w1) := HB.out.trans (h1.mono HB.out.size)
        have y0 := one_at (i := 0) ((h1.block _ (lt_some N0.out)).trans N0.out)
        clear h1 MW z0 z1 z2 z3 z4
        go_wp2
        go_ret
        rw [F.out]
        exact ⟨rfl, B1.out⟩
      · have n4 : (k == 4) = false := beq_eq_false_iff_ne.2 h4
        by_cases h5 : k = 5
        · have n5 : (k == 5) = true := beq_iff_eq.2 h5
          clear k1 k6 k4 h4 h5
          go_enter Tryz.func96, Tryz.ntmps96
          go_wp2_with fail
          rw [← hW.out]
          go_wp2_with fail
          refine MW.out.mono ?_
          rintro e w1 ⟨rfl, h1⟩
          have B1 : Hid (Below w.heap.size w w1) := HB.out.trans (h1.mono HB.out.size)
          have y0 := one_at (i := 0) ((h1.block _ (lt_some N0.out)).trans N0.out)
          clear h1 MW z0 z1 z2 z3 z4
          go_wp2
          go_ret
          rw [F.out]
          exact ⟨rfl, B1.out⟩
        · have n5 : (k == 5) = false := beq_eq_false_iff_ne.2 h5
          have n6 : (k == 6) = true := beq_iff_eq.2 (by omega)
          clear k1 k6 k4 h4 h5
          go_enter Tryz.func96, Tryz.ntmps96
          go_wp2_with fail
          rw [← hW.out]
          go_wp2_with fail
          refine MW.out.mono ?_
          rintro e w1 ⟨rfl, h1⟩
          have B1 : Hid (Below w.heap.size w w1) := HB.out.trans (h1.mono HB.out.size)
          have y0 := one_at (i := 0) ((h1.block _ (lt_some N0.out)).trans N0.out)
          clear h1 MW z0 z1 z2 z3 z4
          go_wp2
          go_ret
          rw [F.out]
          exact ⟨rfl, B1.out⟩
    · rw [decide_eq_false k4] at F
      have n4 : (k == 4) = false := beq_eq_false_iff_ne.2 (by omega)
      have n5 : (k == 5) = false := beq_eq_false_iff_ne.2 (by omega)
      have n6 : (k == 6) = false := beq_eq_false_iff_ne.2 (by omega)
      clear k1 k6 k4
      go_enter Tryz.func96, Tryz.ntmps96
      go_wp2_with fail
      rw [← hW.out]
      go_wp2_with fail
      refine MW.out.mono ?_
      rintro e w1 ⟨rfl, h1⟩
      have B1 : Hid (Below w.heap.size w w1) := HB.out.trans (h1.mono HB.out.size)
      have y0 := one_at (i := 0) ((h1.block _ (lt_some N0.out)).trans N0.out)
      clear h1 MW z0 z1 z2 z3 z4
      go_wp2
      go_ret
      rw [F.out]
      exact ⟨rfl, B1.out⟩
end Ti
end Go.Proofs.YtpkdigegkemogaaGreatDoor
