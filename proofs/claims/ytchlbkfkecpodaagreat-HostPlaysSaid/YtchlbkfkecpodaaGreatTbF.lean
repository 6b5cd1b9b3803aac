/- Rows of keys of the call's own; they grow, they are sorted; a map is gone over. -/
import Derived.Test.YtchlbkfkecpodaaGreatTbE
import Derived.Test.YtchlbkfkecpodaaGreatTbC
import Derived.Maps.AppendAt
namespace Go.Proofs.YtchlbkfkecpodaaGreat
set_option maxRecDepth 100000
open Go.RowKit
open Go.Sort (grow putRow putCells Holds mapBlock onCells flatK)
open Go.Proofs.YtchlbkfkecpodaaGreat.Pk (one_at one_free one_set lt_some grown_set grown_trans below_grown grown_refl)
namespace Tb
open Wt (Opn mayOp)

def fll (l : List (Int × Int)) : List Value := l.flatMap encP
theorem fll_len (l : List (Int × Int)) : (fll l).length = l.length * 2 := by
  induction l with
  | nil => rfl
  | cons x l ih => rw [fll, List.flatMap_cons, List.length_append]; show 2 + (fll l).length = _; rw [ih, List.length_cons]; omega
theorem fll_app (a b : List (Int × Int)) : fll (a ++ b) = fll a ++ fll b := by simp [fll]
theorem fll_snoc (a : List (Int × Int)) (p : Int × Int) : fll (a ++ [p]) = fll a ++ [.int .i64 p.1, .int .i64 p.2] := by simp [fll, encP]
theorem fll_at {l : List (Int × Int)} {k : Nat} {x : Int × Int} (h : l[k]? = some x) {j : Nat} (hj : j < 2) : (fll l)[k * 2 + j]? = (encP x)[j]? := by
  obtain ⟨hl, rfl⟩ := List.getElem?_eq_some_iff.1 h
  have e : l = l.take k ++ l[k] :: l.drop (k + 1) := by rw [← List.drop_eq_getElem_cons hl, List.take_append_drop]
  have e2 : fll l = fll (l.take k) ++ (encP l[k] ++ fll (l.drop (k + 1))) := by
    conv => lhs; rw [e]
    rw [fll_app]
    congr 1
  have e3 : (fll (l.take k)).length = k * 2 := by rw [fll_len, List.length_take]; congr 1; omega
  rw [e2, List.getElem?_append_right (by omega), e3, List.getElem?_append_left (by show _ < 2; omega)]
  congr 1
  omega
theorem flat_pairs (l : List (Int × Int)) : flatK encP 2 l.toArray = (fll l).toArray := by
  apply Array.ext
  · simp [fll_len]
  · intro t h1 h2
    have ht : t < l.length * 2 := by simpa using h1
    have hk : t / 2 < l.length := by omega
    have e1 := Sort.get_flatK encP 2 l.toArray t (by simpa using ht)
    have e2 := fll_at (l := l) (k := t / 2) (List.getElem?_eq_getElem hk) (j := t % 2) (by omega)
    rw [show t / 2 * 2 + t % 2 = t by omega, List.getElem?_eq_getElem (by rw [fll_len]; exact ht)] at e2
    rw [getElem!_pos _ t h1] at e1
    rw [e1]
    have e3 : l.toArray[t / 2]! = l[t / 2] := by simp [hk]
    rw [e3, List.getElem_toArray]
    have hj : t % 2 < (encP l[t / 2]).length := by show _ < 2; omega
    rw [List.getElem?_eq_getElem hj] at e2
    injection e2 with e2
    rw [e2]
    exact getElem!_pos (encP l[t / 2]) (t % 2) hj
abbrev RowP (w : World) (base : Nat) (v : Value) (n : Nat) (l : List (Int × Int)) : Prop := w.ownsRow base KT 2 v n (fll l)
section
variable {w w' : World} {v v' : Value} {n base : Nat} {l : List (Int × Int)}
theorem rp_same (h : RowP w base v n l) (hk : ∀ g, v.ownBlock = some g → w'.heap[g]? = w.heap[g]?) : RowP w' base v n l := by
  refine ⟨h.1, ?_⟩
  rcases h.2 with h0 | ⟨g, cap, cur, hv, hb, hh, h2⟩
  · exact .inl h0
  · exact .inr ⟨g, cap, cur, hv, hb, (hk g (by rw [hv]; rfl)).trans hh, h2⟩
theorem rp_block {g : Nat} (h : RowP w base v n l) (hg : v.ownBlock = some g) : base ≤ g ∧ ∃ cur, w.heap[g]? = some (.cells cur KT (0, 0)) := by
  rcases h.2 with ⟨rfl, _⟩ | ⟨g', cap, cur, rfl, hb, hh, _⟩
  · simp [Value.ownBlock] at hg
  · have : g' = g := by simpa [Value.ownBlock] using hg
    subst this
    exact ⟨hb, cur, hh⟩
theorem rp_lt {g : Nat} (h : RowP w base v n l) (hg : v.ownBlock = some g) : g < w.heap.size := by
  obtain ⟨_, cur, hc⟩ := rp_block h hg
  exact lt_some hc
theorem rp_below (h : RowP w base v n l) (hb : Below w.heap.size w w') : RowP w' base v n l := rp_same h fun g hg => hb.block g (rp_lt h hg)
theorem rp_form (h : RowP w base v n l) : ∃ A c, v = .slice A n c ∧ n ≤ c ∧ c ≤ 9223372036854775807 ∧ (A = none → c = 0) := by
  rcases h.2 with ⟨rfl, rfl⟩ | ⟨g, cap, cur, rfl, hb, hh, h1, h2, _⟩
  · exact ⟨_, _, rfl, Nat.le_refl _, by omega, fun _ => rfl⟩
  · unfold maxLen at h2
    exact ⟨_, _, rfl, h1, h2, fun h => by cases h⟩
theorem rp_len (h : RowP w base v n l) : l.length = n := by have := h.1; rw [fll_len] at this; omega
/-- What is read of it. -/
theorem rp_cell {A : Option Addr} {c : Nat} (h : RowP w base (.slice A n c) n l) {k : Nat} {x : Int × Int} (hx : l[k]? = some x) : ∃ g, A = some ⟨g, 0, none⟩ ∧ w.cell? ⟨g, k * 2, none⟩ = some (.int .i64 x.1) ∧ w.cell? ⟨g, k * 2 + 1, none⟩ = some (.int .i64 x.2) := by
  have hkn : k < n := by rw [← rp_len h]; exact (List.getElem?_eq_some_iff.1 hx).1
  rcases h.2 with ⟨e, e0⟩ | ⟨g, cap, cur, e, hb, hh, h1, h2, h3, h4⟩
  · omega
  · injection e with eA _ _
    have hc : ∀ j, j < 2 → w.cell? ⟨g, k * 2 + j, none⟩ = (encP x)[j]? := fun j hj => by
      have ht : (cur.toList.take (n * 2))[k * 2 + j]? = (encP x)[j]? := by rw [h4, fll_at hx hj]
      rw [List.getElem?_take_of_lt (by omega), Array.getElem?_toList] at ht
      rw [one_at hh, ht]
    exact ⟨g, eA, hc 0 (by omega), hc 1 (by omega)⟩
end
theorem rp_at {w : World} {base n g c : Nat} {l : List (Int × Int)} (h : RowP w base (.slice (some ⟨g, 0, none⟩) n c) n l) {k : Nat} {x : Int × Int} (hx : l[k]? = some x) : w.cell? ⟨g, k * 2, none⟩ = some (.int .i64 x.1) ∧ w.cell? ⟨g, k * 2 + 1, none⟩ = some (.int .i64 x.2) := by
  obtain ⟨g', e, h1, h2⟩ := rp_cell h hx
  injection e with e
  injection e with e _ _
  subst e
  exact ⟨h1, h2⟩
theorem key_info : (Tryz.prog.info? 95).map (fun i => (i.zero, i.size, i.bytes)) = some (some (.agg #[.int .i64 0, .int .i64 0]), 2, 16) := by kernel_rfl
/-- append of one thing more, of two cells, that lies in a new block of its own. -/
theorem wpList_app2 {P : Program} (wr : World) {ops : Array Oper} {rest : List Oper} {o : Oper} {a : Act} {Q : Exit → Act → World → Prop} (hgd : o.guard = none) (s x : Operand) (t : TypeId)
    (ho : o.op = .call { callee := .builtin .append, args := #[s, x], argTypes := #[t, t] })
    (base : Nat) (e : TypeId) (i : TypeInfo) (z : Value) (bytes : Nat) (ht : P.underlying t = some (.slice e)) (hi : P.info? e = some i) (hz : i.zero = some z) (hsize : i.size = 2) (hby : i.bytes = bytes) (hzs : z.cells.size = 2)
    (v : Value) (n : Nat) (xs : List Value) (u0 u1 : Value) (hs : a.eval s = v) (hown : wr.ownsRow base e 2 v n xs) (g : Nat) (hg : g = wr.heap.size) (hx : a.eval x = .slice (some ⟨g, 0, none⟩) 1 1) (hu0 : u0.oneCell' = true) (hu1 : u1.oneCell' = true)
    (h63 : n + 1 ≤ maxLen) (hb : (n + 1) * bytes ≤ 140737488355328) (hbase : base ≤ wr.heap.size)
    (h : ∀ v' w', w'.ownsRow base e 2 v' (n + 1) (xs ++ [u0, u1]) → (wr.alloc (.cells #[u0, u1] e)).grownBy w' v.ownBlock → wpList P ops Q rest (a.put o.dst v') w') : wpList P ops Q (o :: rest) a (wr.alloc (.cells #[u0, u1] e)) := by
  subst hg
  exact wpList_append_own _ hgd s x t ho base e i z 2 bytes ht hi hz hsize hby hzs (by decide) v n xs hs (hown.alloc _) ⟨wr.heap.size, 0, none⟩ 1 1 [u0, u1] hx rfl
    (by
      intro j y hj
      rw [Addr.add_lit, Nat.zero_add, one_at (heap_alloc_new wr (.cells #[u0, u1] e)), List.getElem?_toArray]
      exact hj)
    (by intro y hy; simp at hy; rcases hy with rfl | rfl <;> assumption) h63 hb (by simp; omega) (fun v' w' h1 h2 _ => h v' w' h1 h2)

/-! ### sorted -/
theorem holds_id {w : World} {g : Nat} {cur : Array Value} {e : TypeId} {ss : List Value} (hb : w.heap[g]? = some (.cells cur e (0, 0))) (ht : cur.toList.take ss.length = ss) : Holds id w g 0 ss.toArray := by
  intro j hj
  have hj' : j < ss.length := by simpa using hj
  refine ⟨?_, by simp [World.frozen?, hb]⟩
  have h1 : (cur.toList.take ss.length)[j]? = ss[j]? := by rw [ht]
  rw [List.getElem?_take_of_lt hj', Array.getElem?_toList] at h1
  rw [one_at (i := 0 + j) hb, Nat.zero_add, h1]
  simp [hj']
theorem heap_put {w : World} {g n : Nat} {os : Array Obj} {cur : Array Value} {e : TypeId} {fr : Nat × Nat} (d : Array Value) (hb : w.heap[g]? = some (.cells cur e fr)) :
    (grow (putRow id (Sort.ahead w n) g 0 d) os).heap[g]? = some (.cells (putCells id 0 d cur) e fr) := by
  have hg : g < w.heap.size := lt_some hb
  rw [Sort.heap_grow_old _ _ (by simpa using hg)]
  simp [putRow, mapBlock, Sort.ahead, Array.getElem?_modify, hb, onCells]
theorem grown_put {w : World} {g n : Nat} {os : Array Obj} (d : Array Value) : w.grownBy (grow (putRow id (Sort.ahead w n) g 0 d) os) (some g) := by
  refine ⟨rfl, rfl, rfl, by simp, fun k hk hne => ?_⟩
  rw [Sort.heap_grow_old _ _ (by simpa using hk)]
  have : g ≠ k := fun e => hne (by rw [e])
  simp [putRow, mapBlock, Sort.ahead, Array.getElem?_modify, this]
theorem take_put (cur : Array Value) (ts : List Value) (h : ts.length ≤ cur.size) : (putCells id 0 ts.toArray cur).toList.take ts.length = ts := by
  apply List.ext_getElem?
  intro j
  by_cases hj : j < ts.length
  · rw [List.getElem?_take_of_lt hj, Array.getElem?_toList]
    simp [putCells, hj, show j < cur.size by omega]
  · rw [List.getElem?_take_eq_none (by omega), List.getElem?_eq_none (by omega)]
theorem enters24 : ∀ args w, (callFunc 71 args).run Tryz.prog w = .ok (.enter 71 args) w := enters_of Tryz.func71 (by kernel_rfl) rfl
/-- slices.SortFunc of such a row. -/
theorem sort_row (w : World) (base : Nat) (v : Value) (xs : List (Int × Int)) (h : RowP w base v xs.length xs) (few : xs.length ≤ 1200) :
    Calls Tryz.prog 70 #[v, .func (.func 71) #[] #[]] w fun e w' => e = .returned (.tuple #[]) ∧ RowP w' base v xs.length (xs.mergeSort fun x y => !lkB y x) ∧ Below base w w' := by
  rcases h.2 with ⟨rfl, h0⟩ | ⟨g, cap, cur, rfl, hb, hh, h1, h2, h3, h4⟩
  · obtain rfl : xs = [] := List.eq_nil_of_length_eq_zero h0
    refine (AnyF.slices_SortFunc_none Tryz.tbsort none 0 (.func (.func 71) #[] #[]) w).mono ?_
    rintro e w' ⟨rfl, rfl⟩
    exact ⟨rfl, by rw [List.mergeSort_nil]; exact h, Below.refl _ _⟩
  · have ht : cur.toList.take (fll xs).length = fll xs := by rw [fll_len]; exact h4
    have H : Sort.HoldsK encP 2 w g 0 xs.toArray := by
      unfold Sort.HoldsK
      rw [flat_pairs]
      exact holds_id hh ht
    refine (AnyQ.slices_SortFunc_total Tryz.tbsort 2 Tryz.isAgg95 Tryz.sizeOf95 encP (fun _ => rfl) (fun x v hv => by simp [encP] at hv; rcases hv with rfl | rfl <;> rfl) cf cf_swo 71 #[] g 0 cap xs.toArray w enters24 (cmpLays g 0 _ w) H (lt_some hh) (by simp; omega) cf_tot).mono ?_
    rintro e w' ⟨rfl, n, os, rfl⟩
    have hl : (xs.mergeSort fun x y => !lkB y x).length = xs.length := List.length_mergeSort ..
    have hf : (fun x y => !(ltOf cf) y x) = fun x y => !lkB y x := by funext x y; rw [cf_lt]
    rw [hf]
    unfold sortWorldK Sort.putRowK
    rw [flat_pairs]
    have hsz : (fll (xs.mergeSort fun x y => !lkB y x)).length = xs.length * 2 := by rw [fll_len, hl]
    refine ⟨rfl, ⟨hsz, .inr ⟨g, cap, _, rfl, hb, heap_put _ hh, h1, h2, by simp [putCells, h3], ?_⟩⟩, ?_⟩
    · rw [← hsz]
      refine take_put cur _ ?_
      rw [hsz, h3]
      exact Nat.mul_le_mul_right 2 h1
    · have G := grown_put (w := w) (g := g) (os := os) (n := n) (fll (xs.mergeSort fun x y => !lkB y x)).toArray
      exact ⟨G.os, G.tape, G.output, G.size, fun i hi => G.block i (by have := lt_some hh; omega) (fun e => by injection e with e; omega)⟩

/-! ### over the map -/
/-- The map's entries are gone over; L: who is still to come. -/
structure Rg (w : World) (b r : Nat) (D : DataW Value) (f : F) (L : Int × Int → Bool) : Prop where
  at_ : ∃ left cnt, w.ranges Tryz.prog KT Rdv b r 1200 D left cnt ∧ (∀ p : Int × Int, f p.1 p.2 ≠ 0 → L p = left (Kl p)) ∧ ∀ kl, left kl = true → Maps.has D kl = true
  in_ : ∀ p : Int × Int, L p = true → f p.1 p.2 ≠ 0
section
variable {w w' : World} {b r : Nat} {D : DataW Value} {f : F} {L : Int × Int → Bool}
theorem Rg.keep (R : Rg w b r D f L) {row : Option Nat} (hg : w.grownBy w' row) (hb : some b ≠ row) (hr : some r ≠ row) : Rg w' b r D f L := by
  obtain ⟨left, cnt, h, e⟩ := R.at_
  exact ⟨⟨left, cnt, h.kept hg hb hr, e⟩, R.in_⟩
theorem Rg.lt (R : Rg w b r D f L) : r < w.heap.size ∧ b < w.heap.size := by
  obtain ⟨left, cnt, h, e⟩ := R.at_
  exact ⟨h.lt, h.owns.lt⟩
theorem Rg.not_row {base n : Nat} {v : Value} {xs : List (Int × Int)} (R : Rg w b r D f L) (h : RowP w base v n xs) : some b ≠ v.ownBlock ∧ some r ≠ v.ownBlock := by
  obtain ⟨left, cnt, hr, _⟩ := R.at_
  constructor
  · intro e
    obtain ⟨_, cur, hc⟩ := rp_block h e.symm
    exact ne_map hr.owns hc rfl
  · intro e
    obtain ⟨_, cur, hc⟩ := rp_block h e.symm
    obtain ⟨es, clock, since, seen, c0, _, _, _, _, hb, _⟩ := hr
    rw [hc] at hb
    injection hb with hb
    cases hb
variable {ops : Array Oper} {rest : List Oper} {o : Oper} {a : Act} {Q : Exit → Act → World → Prop}
theorem wpList_range_tab (hg : o.guard = none) (m : Operand) (t : TypeId) (hop : o.op = Op.range t m) (e : TypeId) (ht : Tryz.prog.underlying t = some (.map KT e)) (f : F) (O : Ok f) (D : DataW Value)
    (hm : a.eval m = .map (some b)) (hown : w.ownsMap Tryz.prog KT Rdv b 1200 D) (T : Tie D f)
    (hK : ∀ w', Rg w' b w.heap.size D f (fun p => ne0 (f p.1 p.2)) → w.grownBy w' none → w'.heap.size = w.heap.size + 1 → wpList Tryz.prog ops Q rest (a.put o.dst (.pointer (some ⟨w.heap.size, 0, none⟩))) w') :
    wpList Tryz.prog ops Q (o :: rest) a w :=
  wpList_range_own w hg m t hop KT e law ht Rdv b 1200 D hm hown fun w' h1 h2 h3 => hK w' ⟨⟨_, _, h1, fun p hp => (T.has p (O.bp hp)).symm, fun _ h => h⟩, fun _ h => ne0_iff.1 h⟩ h2 h3
theorem wpList_next_tab (hg : o.guard = none) (it : Operand) (hop : o.op = Op.next it false) (b r : Nat) (D : DataW Value) (f : F) (O : Ok f) (L : Int × Int → Bool)
    (hit : a.eval it = .pointer (some ⟨r, 0, none⟩)) (h : Rg w b r D f L) (T : Tie D f)
    (hDone : (∀ k, L k = false) → wpList Tryz.prog ops Q rest (a.put o.dst (.tuple #[.bool false])) w)
    (hMore : ∀ (x y z : Int) (w' : World), L (x, y) = true → (x, y) ∈ keys f → Rg w' b r D f (fun k => L k && !decide (k = (x, y))) → w'.rangeLeft b r < w.rangeLeft b r → w.grownBy w' (some r) → w'.heap.size = w.heap.size →
      (Instr.entry (.pointer (some ⟨r, 0, none⟩))).run Tryz.prog w' = .ok (.tuple #[.agg #[.int .i64 x, .int .i64 y], .int .i64 z]) w' →
      wpList Tryz.prog ops Q rest (a.put o.dst (.tuple #[.bool true, .agg #[.int .i64 x, .int .i64 y], .int .i64 z])) w') :
    wpList Tryz.prog ops Q (o :: rest) a w := by
  refine wpList_plain hg fun K' hK' => ?_
  unfold Oper.wp
  obtain ⟨left, cnt, hrg, hL, hH⟩ := h.at_
  rcases hrg.next law o.type with ⟨h0, hl, hrun⟩ | ⟨key, v, kl, y, w', cnt', hkey, hlk, hv, hat, hrun, hrg', hlt, hgr, hsz, hen⟩
  · simp [execOp, hop, hit, hrun, Result.andThen]
    refine hK' _ _ (hDone fun k => ?_)
    cases hk : L k with
    | false => rfl
    | true => rw [← hk, hL k (h.in_ k hk), hl]
  · obtain ⟨p, rfl, rfl, hp⟩ := key_inv hkey
    have hfp : f p.1 p.2 ≠ 0 := by
      have := hH _ hlk
      rw [T.has p hp] at this
      simpa using this
    have hx : L p = true := (hL p hfp).trans hlk
    have hv' : v = .int .i64 (f p.1 p.2) := by
      injection hv with hv
      have h1 := hat (.held v)
      rw [T.at_ p hp hfp] at h1
      rw [← hv] at h1
      injection h1 with h1
      exact h1.symm
    obtain ⟨⟨b1, b2⟩, ⟨k1, k2⟩, _⟩ := O.inn _ _ hfp
    simp [execOp, hop, hit, hrun, Result.andThen]
    obtain ⟨x, y'⟩ := p
    subst hv'
    refine hK' _ _ (hMore x y' _ w' hx (mem_keys.2 ⟨⟨b1, b2⟩, ⟨k1, k2⟩, hfp⟩) ⟨⟨_, _, hrg', fun z hz => ?_, fun kl' hk => hH kl' ?_⟩, fun z hk => h.in_ z ?_⟩ (by rw [hrg'.left_eq, hrg.left_eq]; exact hlt) hgr hsz hen)
    · rw [hL z hz, kl_same (O.bp hz) hp]
    · simp only [Bool.and_eq_true] at hk
      exact hk.1
    · simp only [Bool.and_eq_true] at hk
      exact hk.1
end
end Tb
end Go.Proofs.YtchlbkfkecpodaaGreat
