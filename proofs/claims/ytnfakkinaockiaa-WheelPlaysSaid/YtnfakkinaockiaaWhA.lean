/- A heap of timers in memory: its row, its places; what is kept while others are written. -/
import Derived.Test.YtnfakkinaockiaaPkW
import Derived.Test.YtnfakkinaockiaaWhM
import Derived.Maps.OwnSet
import Derived.Maps.Range
import Derived.Lib.Hide
import Derived.Laws.OwnMore
import Derived.WalkSmall
namespace Go.Proofs.Ytnfakkinaockiaa
set_option maxRecDepth 100000
open Go.RowKit
open Go.Proofs.Ytnfakkinaockiaa.Pk (one_at one_free one_set lt_some grown_set grown_trans below_grown grown_refl)
namespace Wh

/-- All but the blocks S, and what is new, is as it was. -/
structure Kq (S : Nat → Prop) (w w' : World) : Prop where
  os : w'.os = w.os
  tape : w'.tape = w.tape
  output : w'.output = w.output
  size : w.heap.size ≤ w'.heap.size
  block : ∀ g, g < w.heap.size → ¬ S g → w'.heap[g]? = w.heap[g]?
section
variable {S S' : Nat → Prop} {w w' w1 w2 : World}
theorem Kq.refl (S : Nat → Prop) (w : World) : Kq S w w := ⟨rfl, rfl, rfl, Nat.le_refl _, fun _ _ _ => rfl⟩
theorem Kq.trans (h : Kq S w w1) (k : Kq S' w1 w2) (hs : ∀ g, S' g → S g ∨ w.heap.size ≤ g) : Kq S w w2 :=
  ⟨k.os.trans h.os, k.tape.trans h.tape, k.output.trans h.output, Nat.le_trans h.size k.size, fun g hg hn =>
    (k.block g (Nat.lt_of_lt_of_le hg h.size) (fun e => by
      rcases hs g e with e | e
      · exact hn e
      · omega)).trans (h.block g hg hn)⟩
theorem Kq.trans' (h : Kq S w w1) (k : Kq S w1 w2) : Kq S w w2 := h.trans k fun _ h => .inl h
theorem Kq.mono (h : Kq S w w') (hs : ∀ g, S g → S' g ∨ w.heap.size ≤ g) : Kq S' w w' := ⟨h.os, h.tape, h.output, h.size, fun g hg hn => h.block g hg fun e => by
  rcases hs g e with e | e
  · exact hn e
  · omega⟩
theorem Kq.of_below (h : Below w.heap.size w w') : Kq S w w' := ⟨h.os, h.tape, h.output, h.size, fun g hg _ => h.block g hg⟩
theorem Kq.below {B : Nat} (h : Kq S w w') (hS : ∀ g, S g → B ≤ g) (hB : B ≤ w.heap.size) : Below B w w' :=
  ⟨h.os, h.tape, h.output, h.size, fun g hg => h.block g (by omega) fun e => by have := hS g e; omega⟩
theorem Kq.of_grown {o : Option Nat} (h : w.grownBy w' o) (ho : ∀ g, o = some g → S g) : Kq S w w' :=
  ⟨h.os, h.tape, h.output, h.size, fun g hg hn => h.block g hg fun e => hn (ho g e.symm)⟩
end

/-! ### the row -/
def ent (t : Tm) : List Value := [.int .i64 t.1, .int .i64 t.2]
def agt (t : Tm) : Value := .agg #[.int .i64 t.1, .int .i64 t.2]
def flt (l : List Tm) : List Value := l.flatMap ent
theorem flt_len (l : List Tm) : (flt l).length = l.length * 2 := by
  induction l with
  | nil => rfl
  | cons q r ih => simp only [flt, List.flatMap_cons, List.length_append, ent, List.length_cons, List.length_nil] at ih ⊢; omega
theorem flt_app (X Y : List Tm) : flt (X ++ Y) = flt X ++ flt Y := by simp [flt]
theorem flt_cons (q : Tm) (r : List Tm) : flt (q :: r) = .int .i64 q.1 :: .int .i64 q.2 :: flt r := rfl
theorem flt_at : ∀ {l : List Tm} {i : Nat}, i < l.length → (flt l)[i * 2]? = some (.int .i64 (gt l i).1) ∧ (flt l)[i * 2 + 1]? = some (.int .i64 (gt l i).2)
  | q :: r, 0, _ => ⟨rfl, rfl⟩
  | q :: r, i + 1, h => by
    have := flt_at (l := r) (i := i) (by simpa using h)
    have e1 : (i + 1) * 2 = i * 2 + 1 + 1 := by omega
    have e2 : gt (q :: r) (i + 1) = gt r i := by simp [gt]
    rw [flt_cons, e2, e1]
    simpa using this
theorem flt_set : ∀ {l : List Tm} {i : Nat} (t : Tm), flt (l.set i t) = ((flt l).set (i * 2) (.int .i64 t.1)).set (i * 2 + 1) (.int .i64 t.2)
  | [], i, t => by simp [flt]
  | q :: r, 0, t => rfl
  | q :: r, i + 1, t => by
    have e1 : (i + 1) * 2 = i * 2 + 1 + 1 := by omega
    rw [List.set_cons_succ, flt_cons, flt_cons, flt_set t, e1]
    simp
theorem flt_one (l : List Tm) : ∀ u ∈ flt l, u.oneCell' = true := by
  intro u hu
  obtain ⟨p, _, hp⟩ := List.mem_flatMap.1 hu
  simp only [ent, List.mem_cons, List.not_mem_nil, or_false] at hp
  rcases hp with rfl | rfl <;> rfl
abbrev RowW (w : World) (base : Nat) (v : Value) (n : Nat) (l : List Tm) : Prop := w.ownsRow base 57 2 v n (flt l)
section
variable {w w' : World} {v : Value} {n base : Nat} {l : List Tm}
theorem rw_form (h : RowW w base v n l) : ∃ A c, v = .slice A n c ∧ n ≤ c ∧ c ≤ 9223372036854775807 ∧ (A = none → c = 0) := by
  rcases h.2 with ⟨rfl, rfl⟩ | ⟨g, cap, cur, rfl, hb, hh, h1, h2, _⟩
  · exact ⟨_, _, rfl, Nat.le_refl _, by omega, fun _ => rfl⟩
  · unfold maxLen at h2
    exact ⟨_, _, rfl, h1, h2, fun h => by cases h⟩
theorem rw_some (h : RowW w base v n l) (hn : 0 < n) : ∃ g c, v = .slice (some ⟨g, 0, none⟩) n c ∧ n ≤ c ∧ c ≤ 9223372036854775807 := by
  rcases h.2 with ⟨rfl, rfl⟩ | ⟨g, cap, cur, rfl, hb, hh, h1, h2, _⟩
  · omega
  · unfold maxLen at h2
    exact ⟨_, _, rfl, h1, h2⟩
theorem rw_block {g : Nat} (h : RowW w base v n l) (hg : v.ownBlock = some g) : base ≤ g ∧ ∃ cur, w.heap[g]? = some (.cells cur 57 (0, 0)) := by
  rcases h.2 with ⟨rfl, _⟩ | ⟨g', cap, cur, rfl, hb, hh, _⟩
  · simp [Value.ownBlock] at hg
  · have : g' = g := by simpa [Value.ownBlock] using hg
    subst this
    exact ⟨hb, cur, hh⟩
theorem rw_same (h : RowW w base v n l) (hk : ∀ g, v.ownBlock = some g → w'.heap[g]? = w.heap[g]?) : RowW w' base v n l := by
  refine ⟨h.1, ?_⟩
  rcases h.2 with h0 | ⟨g, cap, cur, hv, hb, hh, h2⟩
  · exact .inl h0
  · exact .inr ⟨g, cap, cur, hv, hb, (hk g (by rw [hv]; rfl)).trans hh, h2⟩
theorem rw_cell {g c i : Nat} (h : RowW w base (.slice (some ⟨g, 0, none⟩) l.length c) l.length l) (hi : i < l.length) : w.cell? ⟨g, i * 2, none⟩ = some (.int .i64 (gt l i).1) ∧ w.cell? ⟨g, i * 2 + 1, none⟩ = some (.int .i64 (gt l i).2) :=
  ⟨(h.cellAt _ (by omega)).trans (flt_at hi).1, (h.cellAt _ (by omega)).trans (flt_at hi).2⟩
/-- One timer stored. -/
theorem rw_store {g c i : Nat} (h : RowW w base (.slice (some ⟨g, 0, none⟩) l.length c) l.length l) (t : Tm) : RowW ((w.setCell ⟨g, i * 2, none⟩ (.int .i64 t.1)).setCell ⟨g, i * 2 + 1, none⟩ (.int .i64 t.2)) base (.slice (some ⟨g, 0, none⟩) l.length c) l.length (l.set i t) ∧
    w.grownBy ((w.setCell ⟨g, i * 2, none⟩ (.int .i64 t.1)).setCell ⟨g, i * 2 + 1, none⟩ (.int .i64 t.2)) (some g) := by
  obtain ⟨h1, g1⟩ := h.stored (i * 2) (.int .i64 t.1)
  obtain ⟨h2, g2⟩ := h1.stored (i * 2 + 1) (.int .i64 t.2)
  refine ⟨?_, grown_trans g1 g2⟩
  unfold RowW
  rw [flt_set]
  exact h2
end

/-! ### the places -/
def Rdw (v : Value) : Option (DataW Value × List MemPlace) := some (.held v, [])
def kid (t : Tm) : Lit := .int .i64 t.1
structure Pl (D : DataW Value) (l : List Tm) : Prop where
  im : Maps.IsMap D
  at_ : ∀ i, i < l.length → Maps.has D (kid (gt l i)) = true ∧ ∀ z, D.atKey (kid (gt l i)) z = .held (.int .i64 i)
  only : ∀ k, Maps.has D k = true → ∃ i, i < l.length ∧ k = kid (gt l i)
theorem isk (t : Tm) : WideAt.IsKeyLit (kid t) := trivial
theorem kid_ne {a b : Tm} (h : a.1 ≠ b.1) : kid a ≠ kid b := fun e => by
  unfold kid at e
  injection e with _ e
  exact h e
theorem pl_nil : Pl (.map []) [] := ⟨⟨[], rfl⟩, fun i hi => by simp at hi, fun k hk => by simp [Maps.has] at hk⟩
theorem pl_put {D : DataW Value} {l l' : List Tm} {i j : Nat} (h : Pl D l) (hn : Nd l) (hi : i < l.length) (hj : j < l.length) (hne : i ≠ j) (hl : l'.length = l.length) (he : ∀ k, gt l' k = if k = j then gt l i else if k = i then gt l j else gt l k) :
    Pl ((D.put (kid (gt l' i)) (.held (.int .i64 (i : Nat)))).put (kid (gt l' j)) (.held (.int .i64 (j : Nat)))) l' := by
  have ei : gt l' i = gt l j := by rw [he, if_neg hne, if_pos rfl]
  have ej : gt l' j = gt l i := by rw [he, if_pos rfl]
  have hij : (gt l i).1 ≠ (gt l j).1 := fun e => hne (nd_same hn hi hj e)
  rw [ei, ej]
  refine ⟨(h.im.put _ _).put _ _, fun k hk => ?_, fun k hk => ?_⟩
  · rw [hl] at hk
    rw [he]
    by_cases e1 : k = j
    · subst e1
      rw [if_pos rfl]
      exact ⟨Maps.has_put_same (h.im.put _ _) (isk _) _, fun z => Maps.atKey_put_same (h.im.put _ _) (isk _) _ _⟩
    · rw [if_neg e1]
      by_cases e2 : k = i
      · subst e2
        rw [if_pos rfl, Maps.has_put_other (kid_ne hij.symm)]
        refine ⟨Maps.has_put_same h.im (isk _) _, fun z => ?_⟩
        rw [Maps.atKey_put_other (kid_ne hij.symm)]
        exact Maps.atKey_put_same h.im (isk _) _ _
      · rw [if_neg e2]
        have n1 : (gt l k).1 ≠ (gt l i).1 := fun e => e2 (nd_same hn hk hi e)
        have n2 : (gt l k).1 ≠ (gt l j).1 := fun e => e1 (nd_same hn hk hj e)
        rw [Maps.has_put_other (kid_ne n1), Maps.has_put_other (kid_ne n2)]
        refine ⟨(h.at_ k hk).1, fun z => ?_⟩
        rw [Maps.atKey_put_other (kid_ne n1), Maps.atKey_put_other (kid_ne n2)]
        exact (h.at_ k hk).2 z
  · have hk' : k = kid (gt l i) ∨ k = kid (gt l j) ∨ Maps.has D k = true := by
      by_cases e1 : k = kid (gt l i)
      · exact .inl e1
      · rw [Maps.has_put_other e1] at hk
        by_cases e2 : k = kid (gt l j)
        · exact .inr (.inl e2)
        · rw [Maps.has_put_other e2] at hk
          exact .inr (.inr hk)
    have back : ∀ m, m < l.length → ∃ i', i' < l'.length ∧ kid (gt l m) = kid (gt l' i') := fun m hm => by
      by_cases e1 : m = i
      · exact ⟨j, by omega, by rw [ej, e1]⟩
      · by_cases e2 : m = j
        · exact ⟨i, by omega, by rw [ei, e2]⟩
        · exact ⟨m, by omega, by rw [he, if_neg e2, if_neg e1]⟩
    rcases hk' with rfl | rfl | hk'
    · exact back i hi
    · exact back j hj
    · obtain ⟨m, hm, rfl⟩ := h.only k hk'
      exact back m hm
theorem gt_app_old {l : List Tm} {t : Tm} {k : Nat} (hk : k < l.length) : gt (l ++ [t]) k = gt l k := by
  unfold gt
  simp [List.getElem?_append_left hk]
theorem gt_app_new (l : List Tm) (t : Tm) : gt (l ++ [t]) l.length = t := by simp [gt]
theorem pl_push {D : DataW Value} {l : List Tm} (h : Pl D l) (t : Tm) (hn : ∀ u ∈ l, u.1 ≠ t.1) : Pl (D.put (kid t) (.held (.int .i64 (l.length : Nat)))) (l ++ [t]) := by
  refine ⟨h.im.put _ _, fun k hk => ?_, fun k hk => ?_⟩
  · by_cases e : k = l.length
    · subst e
      rw [gt_app_new]
      exact ⟨Maps.has_put_same h.im (isk _) _, fun z => Maps.atKey_put_same h.im (isk _) _ _⟩
    · have hk2 : k < l.length := by simp at hk; omega
      rw [gt_app_old hk2]
      have n1 : (gt l k).1 ≠ t.1 := hn _ (gt_mem hk2)
      rw [Maps.has_put_other (kid_ne n1)]
      exact ⟨(h.at_ k hk2).1, fun z => by rw [Maps.atKey_put_other (kid_ne n1)]; exact (h.at_ k hk2).2 z⟩
  · by_cases e : k = kid t
    · exact ⟨l.length, by simp, by rw [gt_app_new]; exact e⟩
    · rw [Maps.has_put_other e] at hk
      obtain ⟨m, hm, rfl⟩ := h.only k hk
      exact ⟨m, by simp; omega, by rw [gt_app_old hm]⟩
theorem pl_pop {D : DataW Value} {l : List Tm} {n : Nat} (h : Pl D l) (hn : Nd l) (hl : l.length = n + 1) : Pl (D.del (kid (gt l n))) (l.take n) := by
  refine ⟨h.im.del _, fun k hk => ?_, fun k hk => ?_⟩
  · have hk2 : k < n := by simp at hk; omega
    rw [gt_take hk2]
    have n1 : (gt l k).1 ≠ (gt l n).1 := fun e => by have := nd_same hn (by omega) (by omega) e; omega
    rw [Maps.has_del_other (kid_ne n1)]
    exact ⟨(h.at_ k (by omega)).1, fun z => by rw [Maps.atKey_del_other (kid_ne n1)]; exact (h.at_ k (by omega)).2 z⟩
  · by_cases e : k = kid (gt l n)
    · rw [e, Maps.has_del_same] at hk
      cases hk
    · rw [Maps.has_del_other e] at hk
      obtain ⟨m, hm, rfl⟩ := h.only k hk
      have : m ≠ n := fun e2 => e (by rw [e2])
      exact ⟨m, by simp; omega, by rw [gt_take (by omega)]⟩
theorem pl_set {D : DataW Value} {l : List Tm} {i : Nat} (h : Pl D l) (hi : i < l.length) (t : Tm) (ht : t.1 = (gt l i).1) : Pl D (l.set i t) := by
  have e : ∀ k, kid (gt (l.set i t) k) = kid (gt l k) := fun k => by
    rw [gt_set hi]
    split
    · rename_i e
      unfold kid
      rw [ht, e]
    · rfl
  refine ⟨h.im, fun k hk => ?_, fun k hk => ?_⟩
  · rw [e]
    exact h.at_ k (by simpa using hk)
  · obtain ⟨m, hm, rfl⟩ := h.only k hk
    exact ⟨m, by simpa using hm, (e m).symm⟩
open Classical in
theorem nodup_sub {α : Type} : ∀ {a b : List α}, a.Nodup → (∀ x ∈ a, x ∈ b) → a.length ≤ b.length
  | [], b, _, _ => Nat.zero_le _
  | x :: a, b, h, hs => by
    obtain ⟨h1, h2⟩ := List.nodup_cons.1 h
    have hx : x ∈ b := hs x (by simp)
    have := nodup_sub (a := a) (b := b.erase x) h2 fun y hy => (List.mem_erase_of_ne (fun e => h1 (by rw [← e]; exact hy))).2 (hs y (by simp [hy]))
    rw [List.length_erase_of_mem hx] at this
    have h0 : 0 < b.length := List.length_pos_of_mem hx
    simp only [List.length_cons]
    omega
theorem law : Maps.Keyed Try.prog 3 := Maps.int_keyed Try.underlying3
theorem tight {w : World} {m n : Nat} {D : DataW Value} {l : List Tm} (h : w.ownsMap Try.prog 3 Rdw m n D) (hp : Pl D l) : w.ownsMap Try.prog 3 Rdw m l.length D := by
  obtain ⟨es', e', hpw⟩ := h.tidy law
  have hle : es'.length ≤ l.length := by
    have hnd : (es'.map (·.1)).Nodup := by
      rw [List.Nodup, List.pairwise_map]
      exact hpw
    have := nodup_sub (a := es'.map (·.1)) (b := l.map kid) hnd fun k hk => by
      obtain ⟨p, hp1, rfl⟩ := List.mem_map.1 hk
      have hh : Maps.has D p.1 = true := by
        rw [e', Maps.has_eq, List.any_eq_true]
        refine ⟨p, hp1, ?_⟩
        have : WideAt.IsKeyLit p.1 := by
          obtain ⟨es2, e2, _, h3⟩ := h.entries law
          rw [e'] at e2
          injection e2 with e2
          subst e2
          exact h3 p hp1
        exact WideAt.sameKey_self this
      obtain ⟨i, hi, e⟩ := hp.only _ hh
      rw [e]
      exact List.mem_map.2 ⟨_, gt_mem hi, rfl⟩
    simpa using this
  obtain ⟨es, clock, hb, F, _, hD⟩ := h
  refine ⟨es, clock, hb, F, ?_, hD⟩
  have : Maps.size D = es.size := by rw [hD]; simp [Maps.size, length_sorted]
  rw [e'] at this
  simp [Maps.size] at this
  omega
/-- What stands in the field places. -/
def MapW (w : World) (mo : Option Nat) (l : List Tm) : Prop := (mo = none ∧ l = []) ∨ ∃ m D, mo = some m ∧ w.ownsMap Try.prog 3 Rdw m l.length D ∧ Pl D l
theorem MapW.keep {w w' : World} {mo : Option Nat} {l : List Tm} (h : MapW w mo l) (hk : ∀ m, mo = some m → w'.heap[m]? = w.heap[m]?) : MapW w' mo l := by
  rcases h with h | ⟨m, D, e, ⟨es, clock, hb, r⟩, hp⟩
  · exact .inl h
  · exact .inr ⟨m, D, e, ⟨es, clock, (hk m e).trans hb, r⟩, hp⟩

/-! ### the heap -/
def wfT (t : Tm) : Prop := (-9223372036854775808 ≤ t.1 ∧ t.1 ≤ 9223372036854775807) ∧ 0 ≤ t.2 ∧ t.2 ≤ 1099511627776
structure Hpo (w : World) (h : Nat) (l : List Tm) (v : Value) (mo : Option Nat) : Prop where
  cells : w.heap[h]? = some (.cells #[v, .map mo] 65 (0, 0))
  row : RowW w 0 v l.length l
  map : MapW w mo l
  nd : Nd l
  wf : ∀ t ∈ l, wfT t
  few : l.length ≤ 1000000
/-- The blocks of a heap. -/
def inn (h : Nat) (v : Value) (mo : Option Nat) : Nat → Prop := fun g => g = h ∨ v.ownBlock = some g ∨ mo = some g
section
variable {w w' : World} {h : Nat} {l : List Tm} {v : Value} {mo : Option Nat}
theorem Hpo.keep (H : Hpo w h l v mo) (hk : ∀ g, inn h v mo g → w'.heap[g]? = w.heap[g]?) : Hpo w' h l v mo :=
  ⟨(hk h (.inl rfl)).trans H.cells, rw_same H.row fun g hg => hk g (.inr (.inl hg)), H.map.keep fun m e => hk m (.inr (.inr e)), H.nd, H.wf, H.few⟩
theorem map_at {m : Nat} (h : MapW w (some m) l) : ∃ es clock, w.heap[m]? = some (.map es clock) := by
  rcases h with ⟨h, _⟩ | ⟨m', D, e, ⟨es, clock, hb, _⟩, _⟩
  · cases h
  · injection e with e
    subst e
    exact ⟨es, clock, hb⟩
theorem Hpo.lt (H : Hpo w h l v mo) : ∀ g, inn h v mo g → g < w.heap.size := by
  rintro g (rfl | hg | rfl)
  · exact lt_some H.cells
  · exact lt_some (rw_block H.row hg).2.choose_spec
  · obtain ⟨es, clock, hb⟩ := map_at H.map
    exact lt_some hb
theorem Hpo.below (H : Hpo w h l v mo) (hb : Below w.heap.size w w') : Hpo w' h l v mo := H.keep fun g hg => hb.block g (H.lt g hg)
theorem Hpo.row_ne (H : Hpo w h l v mo) : v.ownBlock ≠ some h := fun e => by
  obtain ⟨_, cur, hc⟩ := rw_block H.row e
  have := H.cells
  rw [hc] at this
  injection this with this
  injection this with _ e
  exact absurd e (by decide)
theorem Hpo.map_ne (H : Hpo w h l v mo) : mo ≠ some h := fun e => by
  subst e
  obtain ⟨es, clock, hb⟩ := map_at H.map
  have := H.cells
  rw [hb] at this
  injection this with this
  cases this
theorem Hpo.row_map {g : Nat} (H : Hpo w h l v mo) (hg : v.ownBlock = some g) : mo ≠ some g := fun e => by
  subst e
  obtain ⟨es, clock, hb⟩ := map_at H.map
  obtain ⟨_, cur, hc⟩ := rw_block H.row hg
  rw [hb] at hc
  injection hc with hc
  cases hc
theorem Hpo.wf_at (H : Hpo w h l v mo) {i : Nat} (hi : i < l.length) : wfT (gt l i) := H.wf _ (gt_mem hi)
end
theorem wf_key {t : Tm} (h : wfT t) : keyOf Try.prog 3 (.int .i64 t.1) = some (kid t) :=
  Maps.keyOf_int_mk Try.underlying3 (by
    obtain ⟨⟨h1, h2⟩, _⟩ := h
    simp only [Lit.wf, Bool.and_eq_true, decide_eq_true_eq]
    exact ⟨h1, h2⟩)
end Wh
end Go.Proofs.Ytnfakkinaockiaa
