/- Parts of the claim: PlM, PlA, PlB, PlC -/
import Derived.Maps.AppendAt
import Derived.LoopTactic
import Derived.Test.YtpkdigegkemogaaGreatDoorWtXaT
namespace Go.Proofs.YtpkdigegkemogaaGreatDoor
open Go.RowKit
namespace Pl
open Wt (Wan may Opn mayOp mayU inR)

structure Stp where
  node : Int
  op : Opn
deriving DecidableEq
def un (x : Wan) (i : Int) : Int := if i = 0 then x.u0 else if i = 1 then x.u1 else x.u2
def isPart (x : Wan) (i : Int) : Bool := may x && decide (0 < un x i)
def parts (x : Wan) : List Int := [0, 1, 2].filter (isPart x)
def nodes (x : Wan) : List Int := if parts x = [] then [] else parts x ++ [3]
def asks (x : Wan) (s : Stp) : Bool := (nodes x).contains s.node
def step (x : Wan) (n k : Int) : Stp := ⟨n, ⟨k, x.book, if k = 1 then un x n else 0, if k = 4 then x.cust else 0, if k = 4 then x.price else 0⟩⟩
def allF (x : Wan) : List Stp := [step x 0 1, step x 1 1, step x 2 1, step x 3 4, step x 0 2, step x 1 2, step x 2 2]
def allB (x : Wan) : List Stp := [step x 3 6, step x 2 3, step x 1 3, step x 0 3]
def fwd (x : Wan) : List Stp := (allF x).filter (asks x)
def bck (x : Wan) : List Stp := (allB x).filter (asks x)
def z0 : Stp := ⟨0, ⟨0, 0, 0, 0, 0⟩⟩
def cap (x : Wan) : Stp := if may x = true then step x 3 5 else z0

def one (b : Bool) (s : Stp) : List Stp := if b then [s] else []
theorem may_some {x : Wan} (h : may x = true) : 0 < x.u0 ∨ 0 < x.u1 ∨ 0 < x.u2 := by
  simp only [may, mayU, Bool.and_eq_true, decide_eq_true_iff] at h
  omega
theorem un0 (x : Wan) : un x 0 = x.u0 := rfl
theorem un1 (x : Wan) : un x 1 = x.u1 := rfl
theorem un2 (x : Wan) : un x 2 = x.u2 := rfl
theorem parts_no {x : Wan} (h : may x = false) : parts x = [] := by simp [parts, isPart, h]
theorem nodes_no {x : Wan} (h : may x = false) : nodes x = [] := by simp [nodes, parts_no h]
theorem fwd_no {x : Wan} (h : may x = false) : fwd x = [] := by
  unfold fwd
  rw [List.filter_eq_nil_iff]
  intro s _
  simp [asks, nodes_no h]
theorem bck_no {x : Wan} (h : may x = false) : bck x = [] := by
  unfold bck
  rw [List.filter_eq_nil_iff]
  intro s _
  simp [asks, nodes_no h]
theorem parts_yes {x : Wan} (h : may x = true) : parts x = (if 0 < x.u0 then [0] else []) ++ (if 0 < x.u1 then [1] else []) ++ (if 0 < x.u2 then [2] else []) := by
  unfold parts isPart
  rw [h]
  by_cases h0 : 0 < x.u0 <;> by_cases h1 : 0 < x.u1 <;> by_cases h2 : 0 < x.u2 <;> simp [un, h0, h1, h2]
theorem parts_ne {x : Wan} (h : may x = true) : parts x ≠ [] := by
  rw [parts_yes h]
  have := may_some h
  by_cases h0 : 0 < x.u0
  · simp [h0]
  · by_cases h1 : 0 < x.u1
    · simp [h0, h1]
    · have h2 : 0 < x.u2 := by omega
      simp [h0, h1, h2]
theorem nodes_yes {x : Wan} (h : may x = true) : nodes x = parts x ++ [3] := by unfold nodes; rw [if_neg (parts_ne h)]
theorem asks_at {x : Wan} (h : may x = true) (n k : Int) (hn : n = 0 ∨ n = 1 ∨ n = 2) : asks x (step x n k) = decide (0 < un x n) := by
  unfold asks
  rw [nodes_yes h, parts_yes h]
  rcases hn with rfl | rfl | rfl <;> by_cases h0 : 0 < x.u0 <;> by_cases h1 : 0 < x.u1 <;> by_cases h2 : 0 < x.u2 <;> simp [step, un, h0, h1, h2]
theorem asks_3 {x : Wan} (h : may x = true) (k : Int) : asks x (step x 3 k) = true := by
  unfold asks
  rw [nodes_yes h]
  simp [step]
theorem filter_one (p : Stp → Bool) (s : Stp) (l : List Stp) : (s :: l).filter p = one (p s) s ++ l.filter p := by
  unfold one
  cases h : p s <;> simp [h]
theorem fwd_yes {x : Wan} (h : may x = true) : fwd x = one (decide (0 < x.u0)) (step x 0 1) ++ (one (decide (0 < x.u1)) (step x 1 1) ++ (one (decide (0 < x.u2)) (step x 2 1) ++ (step x 3 4 :: (one (decide (0 < x.u0)) (step x 0 2) ++ (one (decide (0 < x.u1)) (step x 1 2) ++ one (decide (0 < x.u2)) (step x 2 2)))))) := by
  unfold fwd allF
  simp only [filter_one, asks_at h _ _ (.inl rfl), asks_at h _ _ (.inr (.inl rfl)), asks_at h _ _ (.inr (.inr rfl)), asks_3 h, un0, un1, un2, List.filter_nil, List.append_nil]
  rfl
theorem bck_yes {x : Wan} (h : may x = true) : bck x = step x 3 6 :: (one (decide (0 < x.u2)) (step x 2 3) ++ (one (decide (0 < x.u1)) (step x 1 3) ++ one (decide (0 < x.u0)) (step x 0 3))) := by
  unfold bck allB
  simp only [filter_one, asks_at h _ _ (.inl rfl), asks_at h _ _ (.inr (.inl rfl)), asks_at h _ _ (.inr (.inr rfl)), asks_3 h, un0, un1, un2, List.filter_nil, List.append_nil]
  rfl
theorem fwd_len (x : Wan) : (fwd x).length ≤ 7 := by unfold fwd; exact List.length_filter_le ..
theorem bck_len (x : Wan) : (bck x).length ≤ 4 := by unfold bck; exact List.length_filter_le ..
theorem parts_len (x : Wan) : (parts x).length ≤ 3 := by unfold parts; exact List.length_filter_le ..
end Pl
end Go.Proofs.YtpkdigegkemogaaGreatDoor
namespace Go.Proofs.YtpkdigegkemogaaGreatDoor
set_option maxRecDepth 100000
open Go.RowKit
open Go.Proofs.YtpkdigegkemogaaGreatDoor.Pk (one_at one_free one_set lt_some grown_set grown_trans grown_refl)
namespace Pl
open Wt (Wan may Opn mayOp)

def spc (x : Stp) : List Value := [.int .i64 x.node, .int .i64 x.op.kind, .int .i64 x.op.book, .int .i64 x.op.units, .int .i64 x.op.cust, .int .i64 x.op.amount]
abbrev spv (x : Stp) : Value := .agg #[.int .i64 x.node, .int .i64 x.op.kind, .int .i64 x.op.book, .int .i64 x.op.units, .int .i64 x.op.cust, .int .i64 x.op.amount]
def fls (l : List Stp) : List Value := l.flatMap spc
theorem fls_len (l : List Stp) : (fls l).length = l.length * 6 := by
  induction l with
  | nil => rfl
  | cons x l ih => rw [fls, List.flatMap_cons, List.length_append]; show 6 + (fls l).length = _; rw [ih, List.length_cons]; omega
theorem fls_app (a b : List Stp) : fls (a ++ b) = fls a ++ fls b := by simp [fls]
theorem fls_one (l : List Stp) : ∀ u ∈ fls l, u.oneCell' = true := by
  intro u hu
  obtain ⟨x, _, hx⟩ := List.mem_flatMap.1 hu
  simp [spc] at hx
  rcases hx with rfl | rfl | rfl | rfl | rfl | rfl <;> rfl
theorem fls_at {l : List Stp} {k : Nat} {x : Stp} (h : l[k]? = some x) {j : Nat} (hj : j < 6) : (fls l)[k * 6 + j]? = (spc x)[j]? := by
  obtain ⟨hl, rfl⟩ := List.getElem?_eq_some_iff.1 h
  have e : l = l.take k ++ l[k] :: l.drop (k + 1) := by rw [← List.drop_eq_getElem_cons hl, List.take_append_drop]
  have e2 : fls l = fls (l.take k) ++ (spc l[k] ++ fls (l.drop (k + 1))) := by
    conv => lhs; rw [e]
    rw [fls_app]
    congr 1
  have e3 : (fls (l.take k)).length = k * 6 := by rw [fls_len, List.length_take]; congr 1; omega
  rw [e2, List.getElem?_append_right (by omega), e3, List.getElem?_append_left (by show _ < 6; omega)]
  congr 1
  omega
abbrev RowT (t : TypeId) (w : World) (base : Nat) (v : Value) (n : Nat) (l : List Stp) : Prop := w.ownsRow base t 6 v n (fls l)
section
variable {t : TypeId} {w w' : World} {v v' : Value} {n base : Nat} {l : List Stp}
theorem rt_same (h : RowT t w base v n l) (hk : ∀ g, v.ownBlock = some g → w'.heap[g]? = w.heap[g]?) : RowT t w' base v n l := by
  refine ⟨h.1, ?_⟩
  rcases h.2 with h0 | ⟨g, cap, cur, hv, hb, hh, h2⟩
  · exact .inl h0
  · exact .inr ⟨g, cap, cur, hv, hb, (hk g (by rw [hv]; rfl)).trans hh, h2⟩
theorem rt_block {g : Nat} (h : RowT t w base v n l) (hg : v.ownBlock = some g) : base ≤ g ∧ ∃ cur, w.heap[g]? = some (.cells cur t (0, 0)) := by
  rcases h.2 with ⟨rfl, _⟩ | ⟨g', cap, cur, rfl, hb, hh, _⟩
  · simp [Value.ownBlock] at hg
  · have : g' = g := by simpa [Value.ownBlock] using hg
    subst this
    exact ⟨hb, cur, hh⟩
theorem rt_lt {g : Nat} (h : RowT t w base v n l) (hg : v.ownBlock = some g) : g < w.heap.size := by
  obtain ⟨_, cur, hc⟩ := rt_block h hg
  exact lt_some hc
theorem rt_below (h : RowT t w base v n l) (hb : Below w.heap.size w w') : RowT t w' base v n l := rt_same h fun g hg => hb.block g (rt_lt h hg)
theorem rt_form (h : RowT t w base v n l) : ∃ A c, v = .slice A n c ∧ n ≤ c ∧ c ≤ 9223372036854775807 ∧ (A = none → c = 0) := by
  rcases h.2 with ⟨rfl, rfl⟩ | ⟨g, cap, cur, rfl, hb, hh, h1, h2, _⟩
  · exact ⟨_, _, rfl, Nat.le_refl _, by omega, fun _ => rfl⟩
  · unfold maxLen at h2
    exact ⟨_, _, rfl, h1, h2, fun h => by cases h⟩
theorem rt_len (h : RowT t w base v n l) : l.length = n := by have := h.1; rw [fls_len] at this; omega
theorem rt_mono {base' : Nat} (h : RowT t w base v n l) (hb : base' ≤ base) : RowT t w base' v n l := by
  refine ⟨h.1, ?_⟩
  rcases h.2 with h0 | ⟨g, cap, cur, hv, hB, hh, h2⟩
  · exact .inl h0
  · exact .inr ⟨g, cap, cur, hv, Nat.le_trans hb hB, hh, h2⟩
def At (w : World) (g k : Nat) (x : Stp) : Prop := w.cell? ⟨g, k * 6, none⟩ = some (.int .i64 x.node) ∧ w.cell? ⟨g, k * 6 + 1, none⟩ = some (.int .i64 x.op.kind) ∧ w.cell? ⟨g, k * 6 + 2, none⟩ = some (.int .i64 x.op.book) ∧ w.cell? ⟨g, k * 6 + 3, none⟩ = some (.int .i64 x.op.units) ∧ w.cell? ⟨g, k * 6 + 4, none⟩ = some (.int .i64 x.op.cust) ∧ w.cell? ⟨g, k * 6 + 5, none⟩ = some (.int .i64 x.op.amount)
theorem at_row {g : Nat} {cur : Array Value} (hh : w.heap[g]? = some (.cells cur t (0, 0))) {m : Nat} (hm : cur.toList.take (m * 6) = fls l) {k : Nat} {x : Stp} (hx : l[k]? = some x) (hkm : k < m) : At w g k x := by
  have hc : ∀ j, j < 6 → w.cell? ⟨g, k * 6 + j, none⟩ = (spc x)[j]? := fun j hj => by
    have ht : (cur.toList.take (m * 6))[k * 6 + j]? = (spc x)[j]? := by rw [hm, fls_at hx hj]
    rw [List.getElem?_take_of_lt (by omega), Array.getElem?_toList] at ht
    rw [one_at hh, ht]
  exact ⟨hc 0 (by omega), hc 1 (by omega), hc 2 (by omega), hc 3 (by omega), hc 4 (by omega), hc 5 (by omega)⟩
theorem rt_cell {A : Option Addr} {c : Nat} (h : RowT t w base (.slice A n c) n l) {k : Nat} {x : Stp} (hx : l[k]? = some x) : ∃ g, A = some ⟨g, 0, none⟩ ∧ At w g k x := by
  have hkn : k < n := by rw [← rt_len h]; exact (List.getElem?_eq_some_iff.1 hx).1
  rcases h.2 with ⟨e, e0⟩ | ⟨g, cap, cur, e, hb, hh, h1, h2, h3, h4⟩
  · omega
  · injection e with eA _ _
    exact ⟨g, eA, at_row hh h4 hx hkn⟩
end

theorem ask_info : (Tryz.prog.info? 181).map (fun i => (i.zero, i.size, i.bytes)) = some (some (.agg #[.int .i64 0, .int .i64 0, .int .i64 0, .int .i64 0, .int .i64 0, .int .i64 0]), 6, 48) := by kernel_rfl
theorem rask_info : (Tryz.prog.info? 125).map (fun i => (i.zero, i.size, i.bytes)) = some (some (.agg #[.int .i64 0, .int .i64 0, .int .i64 0, .int .i64 0, .int .i64 0, .int .i64 0]), 6, 48) := by kernel_rfl
section
variable {ts t : TypeId} (ht : Tryz.prog.underlying ts = some (.slice t)) (hi : (Tryz.prog.info? t).map (fun i => (i.zero, i.size, i.bytes)) = some (some (.agg #[.int .i64 0, .int .i64 0, .int .i64 0, .int .i64 0, .int .i64 0, .int .i64 0]), 6, 48))
include ht hi
theorem row_append (w : World) (base : Nat) (v : Value) (n : Nat) (l : List Stp) (hown : RowT t w base v n l) (ad : Addr) (m c : Nat) (Y : List Stp) (hl : Y.length = m) (hnews : ∀ j u, (fls Y)[j]? = some u → w.cell? (ad.add j) = some u) (hb : n + m ≤ 1000000) (hbase : base ≤ w.heap.size) :
    ∃ A' c' w', (Builtin.append_ #[ts, ts] ts #[v, .slice (some ad) m c]).run Tryz.prog w = .ok (.slice A' (n + m) c') w' ∧ RowT t w' base (.slice A' (n + m) c') (n + m) (l ++ Y) ∧ w.grownBy w' v.ownBlock ∧ ((Value.slice A' (n + m) c').ownBlock = v.ownBlock ∨ (Value.slice A' (n + m) c').ownBlock = some w.heap.size) := by
  obtain ⟨i0, hi, hz0, hz1, hz2⟩ := info_parts hi
  obtain ⟨v', w', h1, h2, h3, _, h5⟩ := run_append_own_at (P := Tryz.prog) w base ts ts t i0 _ 6 48 ht hi hz0 hz1 hz2 rfl (by decide) v n (fls l) hown ad m c (fls Y) (by rw [fls_len, hl]) hnews (fls_one Y) (by unfold maxLen; omega) (by omega) hbase
  rw [← fls_app] at h2
  obtain ⟨A', c', rfl, _⟩ := rt_form h2
  exact ⟨A', c', w', h1, h2, h3, h5⟩
omit ht hi in
theorem news_1 {w : World} {g : Nat} {x : Stp} (hg : w.heap[g]? = some (.cells (spc x).toArray t (0, 0))) : ∀ j u, (fls [x])[j]? = some u → w.cell? ((⟨g, 0, none⟩ : Addr).add j) = some u := fun j u hu => by
  rw [Addr.add_lit, Nat.zero_add, one_at hg, List.getElem?_toArray]
  simpa [fls] using hu
theorem row_app1 (w : World) (base : Nat) (v : Value) (n : Nat) (l : List Stp) (hown : RowT t w base v n l) (x : Stp) (g : Nat) (hg : w.heap[g]? = some (.cells (spc x).toArray t (0, 0))) (hb : n + 1 ≤ 1000000) (hbase : base ≤ w.heap.size) :
    ∃ A' c' w', (Builtin.append_ #[ts, ts] ts #[v, .slice (some ⟨g, 0, none⟩) 1 1]).run Tryz.prog w = .ok (.slice A' (n + 1) c') w' ∧ RowT t w' base (.slice A' (n + 1) c') (n + 1) (l ++ [x]) ∧ w.grownBy w' v.ownBlock ∧ ((Value.slice A' (n + 1) c').ownBlock = v.ownBlock ∨ (Value.slice A' (n + 1) c').ownBlock = some w.heap.size) :=
  row_append ht hi w base v n l hown ⟨g, 0, none⟩ 1 1 [x] rfl (news_1 hg) hb hbase
end

def ivs (l : List Int) : List Value := l.map (Value.int .i64)
theorem ivs_snoc (l : List Int) (x : Int) : ivs (l ++ [x]) = ivs l ++ [.int .i64 x] := by simp [ivs]
theorem ivs_len (l : List Int) : (ivs l).length = l.length := by simp [ivs]
abbrev RowI (w : World) (base : Nat) (v : Value) (n : Nat) (xs : List Value) : Prop := w.ownsRow base 3 1 v n xs
section
variable {w w' : World} {v v' : Value} {n base : Nat} {xs : List Value}
theorem ri_same (h : RowI w base v n xs) (hk : ∀ g, v.ownBlock = some g → w'.heap[g]? = w.heap[g]?) : RowI w' base v n xs := by
  refine ⟨h.1, ?_⟩
  rcases h.2 with h0 | ⟨g, cap, cur, hv, hb, hh, h2⟩
  · exact .inl h0
  · exact .inr ⟨g, cap, cur, hv, hb, (hk g (by rw [hv]; rfl)).trans hh, h2⟩
theorem ri_block {g : Nat} (h : RowI w base v n xs) (hg : v.ownBlock = some g) : base ≤ g ∧ ∃ cur, w.heap[g]? = some (.cells cur 3 (0, 0)) := by
  rcases h.2 with ⟨rfl, _⟩ | ⟨g', cap, cur, rfl, hb, hh, _⟩
  · simp [Value.ownBlock] at hg
  · have : g' = g := by simpa [Value.ownBlock] using hg
    subst this
    exact ⟨hb, cur, hh⟩
theorem ri_below (h : RowI w base v n xs) (hb : Below w.heap.size w w') : RowI w' base v n xs := ri_same h fun g hg => hb.block g (by
  obtain ⟨_, cur, hc⟩ := ri_block h hg
  exact lt_some hc)
theorem ri_form (h : RowI w base v n xs) : ∃ A c, v = .slice A n c ∧ n ≤ c ∧ c ≤ 9223372036854775807 ∧ (A = none → c = 0) := by
  rcases h.2 with ⟨rfl, rfl⟩ | ⟨g, cap, cur, rfl, hb, hh, h1, h2, _⟩
  · exact ⟨_, _, rfl, Nat.le_refl _, by omega, fun _ => rfl⟩
  · unfold maxLen at h2
    exact ⟨_, _, rfl, h1, h2, fun h => by cases h⟩
theorem ri_mono {base' : Nat} (h : RowI w base v n xs) (hb : base' ≤ base) : RowI w base' v n xs := by
  refine ⟨h.1, ?_⟩
  rcases h.2 with h0 | ⟨g, cap, cur, hv, hB, hh, h2⟩
  · exact .inl h0
  · exact .inr ⟨g, cap, cur, hv, by omega, hh, h2⟩
end
theorem int_info : (Tryz.prog.info? 3).map (fun i => (i.zero, i.size, i.bytes)) = some (some (.int .i64 0), 1, 8) := by kernel_rfl

theorem ri_cell {w : World} {base n : Nat} {A : Option Addr} {c : Nat} {l : List Int} (h : RowI w base (.slice A n c) n (ivs l)) {k : Nat} {x : Int} (hx : l[k]? = some x) : ∃ g, A = some ⟨g, 0, none⟩ ∧ w.cell? ⟨g, k, none⟩ = some (.int .i64 x) := by
  have hl := h.1
  rw [ivs_len] at hl
  have hkn : k < l.length := (List.getElem?_eq_some_iff.1 hx).1
  rcases h.2 with ⟨e, e0⟩ | ⟨g, cap, cur, e, hb, hh, h1, h2, h3, h4⟩
  · omega
  · injection e with eA _ _
    refine ⟨g, eA, ?_⟩
    have ht : (cur.toList.take (n * 1))[k]? = some (Value.int .i64 x) := by rw [h4, ivs, List.getElem?_map, hx]; rfl
    rw [List.getElem?_take_of_lt (by omega), Array.getElem?_toList] at ht
    rw [one_at hh, ht]
theorem ri_len {w : World} {base n : Nat} {v : Value} {l : List Int} (h : RowI w base v n (ivs l)) : l.length = n := by have := h.1; rw [ivs_len] at this; omega
theorem ints_append : Tryz.prog.underlying 22 = some (.slice 3) := Tryz.underlying22
theorem ri_app1 (w : World) (base : Nat) (v : Value) (n : Nat) (l : List Int) (hown : RowI w base v n (ivs l)) (x : Int) (g : Nat) (hg : w.heap[g]? = some (.cells #[.int .i64 x] 3 (0, 0))) (hb : n + 1 ≤ 1000000) (hbase : base ≤ w.heap.size) :
    ∃ A' c' w', (Builtin.append_ #[22, 22] 22 #[v, .slice (some ⟨g, 0, none⟩) 1 1]).run Tryz.prog w = .ok (.slice A' (n + 1) c') w' ∧ RowI w' base (.slice A' (n + 1) c') (n + 1) (ivs (l ++ [x])) ∧ w.grownBy w' v.ownBlock ∧ ((Value.slice A' (n + 1) c').ownBlock = v.ownBlock ∨ (Value.slice A' (n + 1) c').ownBlock = some w.heap.size) := by
  obtain ⟨i0, hi, hz0, hz1, hz2⟩ := info_parts int_info
  obtain ⟨v', w', h1, h2, h3, _, h5⟩ := run_append_own_at (P := Tryz.prog) w base 22 22 3 i0 _ 1 8 ints_append hi hz0 hz1 hz2 rfl (by decide) v n (ivs l) hown ⟨g, 0, none⟩ 1 1 [.int .i64 x] rfl (fun j u hu => by
    match j, hu with
    | 0, hu => simp at hu; subst hu; rw [Addr.add_zero', one_at hg]; rfl
    | j + 1, hu => simp at hu) (by intro y hy; simp at hy; subst hy; rfl) (by unfold maxLen; omega) (by omega) hbase
  rw [← ivs_snoc] at h2
  obtain ⟨A', c', rfl, _⟩ := ri_form h2
  exact ⟨A', c', w', h1, h2, h3, h5⟩
theorem asks_append : Tryz.prog.underlying 186 = some (.slice 181) := Tryz.underlying186
theorem rasks_append : Tryz.prog.underlying 150 = some (.slice 125) := Tryz.underlying150

theorem wpList_run_app {w : World} {ops : Array Oper} {rest : List Oper} {o : Oper} {a : Act} {Q : Exit → Act → World → Prop} {t : TypeId} (hgd : o.guard = none) (s x : Operand) (ho : o.op = .call { callee := .builtin .append, args := #[s, x], argTypes := #[t, t] }) (hty : o.type = t)
    (v0 x0 : Value) (hs : a.eval s = v0) (hx : a.eval x = x0) {v' : Value} {w' : World} (hrun : (Builtin.append_ #[t, t] t #[v0, x0]).run Tryz.prog w = .ok v' w') (h : wpList Tryz.prog ops Q rest (a.put o.dst v') w') :
    wpList Tryz.prog ops Q (o :: rest) a w := by
  refine wpList_plain hgd fun K hK' => ?_
  unfold Oper.wp execOp
  simp only [ho, resolve, invoke, builtin, Sem.run_bind, Sem.run_pure, Result.andThen_ok, List.map_toArray, List.map_cons, List.map_nil, hs, hx, hty, hrun]
  exact hK' _ _ h
theorem step_run_app {w : World} {ops : Array Oper} {o : Oper} {a : Act} {K : Act → World → Prop} {Q : Exit → Act → World → Prop} {E : Prop} {t : TypeId} (hgd : o.guard = none) (s x : Operand) (ho : o.op = .call { callee := .builtin .append, args := #[s, x], argTypes := #[t, t] }) (hty : o.type = t)
    (v0 x0 : Value) (hs : a.eval s = v0) (hx : a.eval x = x0) {v' : Value} {w' : World} (hrun : (Builtin.append_ #[t, t] t #[v0, x0]).run Tryz.prog w = .ok v' w') (h : K (a.put o.dst v') w') :
    if Region.wanted o (yielded ops a.tmps) = true then Oper.wp Tryz.prog o a w K Q else E := by
  have hw : Region.wanted o (yielded ops a.tmps) = true := by simp [Region.wanted, hgd]
  rw [if_pos hw]
  unfold Oper.wp execOp
  simp only [ho, resolve, invoke, builtin, Sem.run_bind, Sem.run_pure, Result.andThen_ok, List.map_toArray, List.map_cons, List.map_nil, hs, hx, hty, hrun]
  exact h
end Pl
end Go.Proofs.YtpkdigegkemogaaGreatDoor
namespace Go.Proofs.YtpkdigegkemogaaGreatDoor
set_option maxRecDepth 100000
open Go.RowKit
open Go.Proofs.YtpkdigegkemogaaGreatDoor.Pk (one_at one_free one_set lt_some grown_set grown_trans grown_refl)
namespace Pl
open Wt (Wan may Opn mayOp may_any below_drewN)

def IxAt (w : World) (l : List Int) (x : Int) (n : Nat) (i : Value) (wr : World) : Prop := ∃ k : Nat, i = .int .i64 k ∧ k ≤ n ∧ (l.take k).contains x = false ∧ w = wr
theorem take_next {l : List Int} {k : Nat} {x y : Int} (hy : l[k]? = some y) (h : (l.take k).contains x = false) (hne : ¬ x = y) : (l.take (k + 1)).contains x = false := by
  rw [List.take_add_one, hy]
  simp only [Option.toList_some]
  simp at h ⊢
  exact ⟨h, hne⟩
def IxTo (l : List Int) (x : Int) (e : Ending) : Prop := ∃ r : Int, e = .returned (.int .i64 r) ∧ decide (0 ≤ r) = l.contains x
set_option maxHeartbeats 800000 in
theorem index_any (w : World) (A : Option Addr) (n c : Nat) (l : List Int) (x : Int) (base : Nat) (h : RowI w base (.slice A n c) n (ivs l)) (hn : n ≤ 1000) :
    Calls Tryz.prog 183 #[.slice A n c, .int .i64 x] w fun e w' => IxTo l x e ∧ w = w' := by
  have hl := ri_len h
  have st : Hid (IxAt w l x n (.int .i64 0) w) := ⟨0, rfl, Nat.zero_le _, by simp, rfl⟩
  replace hl := Lib.hid hl
  have hc := fun k y hy => ri_cell h (k := k) (x := y) hy
  replace hc := Lib.hid hc
  clear h
  go_enter Tryz.func183, Tryz.ntmps183
  go_wp2_with fail
  go_loopw [8] (fun i wr => IxAt w l x n i wr) (fun i _ => n - (intOf i).toNat)
  case atStart => exact st.out
  case round =>
    clear st
    obtain ⟨k, rfl, hk, hno, rfl⟩ := hrel
    by_cases hlt : k < n
    · obtain ⟨y, hy⟩ : ∃ y, l[k]? = some y := ⟨_, List.getElem?_eq_getElem (by rw [hl.out]; omega)⟩
      obtain ⟨g, rfl, hcell⟩ := hc.out k y hy
      have i1 : (k : Int) < (n : Int) := by omega
      have i2 : (0 : Int) ≤ (k : Int) := by omega
      by_cases hxy : x = y
      · have E : Hid (IxTo l x (.returned (.int .i64 (k : Int)))) := by
          have h1 : decide ((0 : Int) ≤ (k : Int)) = true := decide_eq_true i2
          have h2 : l.contains x = true := by rw [List.contains_iff_mem, hxy]; exact List.mem_of_getElem? hy
          exact ⟨_, rfl, h1.trans h2.symm⟩
        subst hxy
        clear hy hno
        go_wp2_with fail
        go_ret
        exact ⟨E.out, rfl⟩
      · have nx : Hid (IxAt w l x n (.int .i64 ((k : Int) + 1)) w) := ⟨k + 1, by simp, by omega, take_next hy hno hxy, rfl⟩
        clear hy hno
        go_wp2_with fail
        exact ⟨nx.out, by simp [intOf]; omega⟩
    · have i1 : ¬ (k : Int) < (n : Int) := by omega
      have E : Hid (IxTo l x (.returned (.int .i64 (-1)))) := by
        have h1 : l.take k = l := List.take_of_length_le (by have := hl.out; omega)
        rw [h1] at hno
        exact ⟨_, rfl, hno.symm⟩
      clear hno
      go_wp2_with fail
      go_ret
      exact ⟨E.out, rfl⟩
set_option maxHeartbeats 400000 in
theorem contains_any (w : World) (A : Option Addr) (n c : Nat) (l : List Int) (x : Int) (base : Nat) (h : RowI w base (.slice A n c) n (ivs l)) (hn : n ≤ 1000) :
    Calls Tryz.prog 173 #[.slice A n c, .int .i64 x] w fun e w' => e = .returned (.bool (l.contains x)) ∧ w = w' := by
  have I := Lib.hid (index_any w A n c l x base h hn)
  clear h
  go_enter Tryz.func173, Tryz.ntmps173
  go_wp2_with fail
  refine I.out.mono ?_
  rintro e w1 ⟨⟨r, rfl, hr⟩, rfl⟩
  clear I
  replace hr := Lib.hid hr
  go_wp2_with fail
  go_ret
  rw [← hr.out]
  exact ⟨rfl, rfl⟩
def NumsTo (w : World) (l : List Int) (e : Ending) (w' : World) : Prop := ∃ v, e = .returned v ∧ RowI w' w.heap.size v l.length (ivs l) ∧ Below w.heap.size w w'
def wanv (x : Wan) : Value := .agg #[.int .i64 x.book, .int .i64 x.cust, .int .i64 x.dead, .int .i64 x.u0, .int .i64 x.u1, .int .i64 x.u2, .int .i64 x.price]
def BoxW (w : World) (g : Nat) (x : Wan) : Prop := w.heap[g]? = some (.cells #[.int .i64 x.book, .int .i64 x.cust, .int .i64 x.dead, .int .i64 x.u0, .int .i64 x.u1, .int .i64 x.u2, .int .i64 x.price] 55 (0, 0))
theorem BoxW.lt {w : World} {g : Nat} {x : Wan} (h : BoxW w g x) : g < w.heap.size := lt_some h
theorem BoxW.below {w w' : World} {g B : Nat} {x : Wan} (h : BoxW w g x) (hb : Below B w w') (hg : g < B) : BoxW w' g x := (hb.block g hg).trans h
theorem BoxW.cells {w : World} {g : Nat} {x : Wan} (h : BoxW w g x) : w.cell? ⟨g, 0, none⟩ = some (.int .i64 x.book) ∧ w.cell? ⟨g, 1, none⟩ = some (.int .i64 x.cust) ∧ w.cell? ⟨g, 2, none⟩ = some (.int .i64 x.dead) ∧ w.cell? ⟨g, 3, none⟩ = some (.int .i64 x.u0) ∧ w.cell? ⟨g, 4, none⟩ = some (.int .i64 x.u1) ∧ w.cell? ⟨g, 5, none⟩ = some (.int .i64 x.u2) ∧ w.cell? ⟨g, 6, none⟩ = some (.int .i64 x.price) :=
  ⟨one_at (i := 0) h, one_at (i := 1) h, one_at (i := 2) h, one_at (i := 3) h, one_at (i := 4) h, one_at (i := 5) h, one_at (i := 6) h⟩
set_option maxHeartbeats 800000 in
theorem partClo_any (w : World) (m g : Nat) (x : Wan) (b : Bool) (hm : w.cell? ⟨m, 0, none⟩ = some (.bool b)) (hg : BoxW w g x) (i : Int) (hi : i = 0 ∨ i = 1 ∨ i = 2) :
    Calls Tryz.prog 182 #[.int .i64 i, .pointer (some ⟨m, 0, none⟩), .pointer (some ⟨g, 0, none⟩)] w fun e w' => e = .returned (.bool (b && decide (0 < un x i))) ∧ w = w' := by
  obtain ⟨-, -, -, c3, c4, c5, -⟩ := hg.cells
  have hml := block_lt_of_cell hm
  have hgl := hg.lt
  clear hg
  rcases hi with rfl | rfl | rfl
  all_goals
    simp only [un0, un1, un2]
    cases b
    all_goals
      go_enter Tryz.func182, Tryz.ntmps182
      go_wp2_with fail
      go_ret
      exact ⟨rfl, rfl⟩
end Pl
end Go.Proofs.YtpkdigegkemogaaGreatDoor
namespace Go.Proofs.YtpkdigegkemogaaGreatDoor
set_option maxRecDepth 100000
open Go.RowKit
open Go.Proofs.YtpkdigegkemogaaGreatDoor.Pk (one_at one_free one_set lt_some grown_set grown_trans grown_refl)
namespace Pl
open Wt (Wan may Opn mayOp may_any below_drewN)

def three : List Int := [0, 1, 2]
theorem three_in {k : Nat} {i : Int} (h : three[k]? = some i) : i = 0 ∨ i = 1 ∨ i = 2 := by
  have := List.mem_of_getElem? h
  simpa [three] using this
def NmAt (w : World) (ss : List Int) (p : Int → Bool) (v i : Value) (wr : World) : Prop := ∃ (k : Nat) (l : List Int), i = .int .i64 k ∧ k ≤ ss.length ∧ RowI wr w.heap.size v l.length (ivs l) ∧ l = (ss.take k).filter p ∧ Below w.heap.size w wr
theorem fil_next {α : Type} {ss : List α} {p : α → Bool} {k : Nat} {s : α} (h : ss[k]? = some s) (hp : p s = true) : (ss.take (k + 1)).filter p = (ss.take k).filter p ++ [s] := by
  rw [List.take_add_one, h, List.filter_append]
  simp [hp]
theorem fil_same {α : Type} {ss : List α} {p : α → Bool} {k : Nat} {s : α} (h : ss[k]? = some s) (hp : p s = false) : (ss.take (k + 1)).filter p = (ss.take k).filter p := by
  rw [List.take_add_one, h, List.filter_append]
  simp [hp]
theorem below_of_grown {w w' : World} {B : Nat} {row : Option Nat} (hg : w.grownBy w' row) (hB : B ≤ w.heap.size) (hr : ∀ i, row = some i → B ≤ i) : Below B w w' :=
  ⟨hg.os, hg.tape, hg.output, hg.size, fun i hi => hg.block i (by omega) (fun e => by have := hr i e.symm; omega)⟩
set_option maxHeartbeats 1600000 in
theorem nums_any (w : World) (t m g : Nat) (x : Wan) (b : Bool) (ht : w.heap[t]? = some (.cells #[.int .i64 0, .int .i64 1, .int .i64 2] 3 (0, 0))) (hm : w.cell? ⟨m, 0, none⟩ = some (.bool b)) (hg : BoxW w g x) :
    Calls Tryz.prog 181 #[.slice (some ⟨t, 0, none⟩) 3 3, .func (.func 182) #[] #[.pointer (some ⟨m, 0, none⟩), .pointer (some ⟨g, 0, none⟩)]] w (NumsTo w (three.filter fun i => b && decide (0 < un x i))) := by
  have st : Hid (NmAt w three (fun i => b && decide (0 < un x i)) (.slice none 0 0) (.int .i64 0) w) := ⟨0, [], rfl, Nat.zero_le _, World.ownsRow_nil _ _ _ _, rfl, Below.refl _ _⟩
  have hml := block_lt_of_cell hm
  have hgl := hg.lt
  have htl := lt_some ht
  have CL : Hid (∀ w' i, Below w.heap.size w w' → (i = 0 ∨ i = 1 ∨ i = 2) → Calls Tryz.prog 182 #[.int .i64 i, .pointer (some ⟨m, 0, none⟩), .pointer (some ⟨g, 0, none⟩)] w' fun e w'' => e = .returned (.bool (b && decide (0 < un x i))) ∧ w' = w'') := fun w' i hb hi => partClo_any w' m g x b ((World.cell?_of_block (hb.block m hml)).trans hm) (hg.below hb hgl) i hi
  have TC : Hid (∀ w' k i, Below w.heap.size w w' → three[k]? = some i → w'.cell? ⟨t, k, none⟩ = some (.int .i64 i)) := fun w' k i hb hk => by
    rw [World.cell?_of_block (hb.block t htl), one_at ht]
    match k, hk with
    | 0, hk => simp [three] at hk; subst hk; rfl
    | 1, hk => simp [three] at hk; subst hk; rfl
    | 2, hk => simp [three] at hk; subst hk; rfl
    | k + 3, hk => simp [three] at hk
  generalize hq : (fun i => b && decide (0 < un x i)) = q at *
  have Q : ∀ i, (b && decide (0 < un x i)) = q i := fun i => by rw [← hq]
  simp only [Q] at CL
  clear ht hm hg Q hq
  go_enter Tryz.func181, Tryz.ntmps181
  go_wp2_with fail
  go_loopw [5, 10] (fun v i wr => NmAt w three q v i wr) (fun _ i _ => 3 - (intOf i).toNat)
  case atStart => exact st.out
  case round =>
    clear st
    obtain ⟨k, l, rfl, hk, hrow, hl, hb⟩ := hrel
    replace hk : k ≤ 3 := hk
    obtain ⟨A, c, rfl, hc1, hc2, hc3⟩ := ri_form hrow
    by_cases hlt : k < 3
    · obtain ⟨i, hi⟩ : ∃ i, three[k]? = some i := ⟨_, List.getElem?_eq_getElem (by exact hlt)⟩
      have hcell := TC.out wr k i hb hi
      have C := Lib.hid (CL.out wr i hb (three_in hi))
      have i1 : (k : Int) < 3 := by omega
      have i2 : (0 : Int) ≤ (k : Int) := by omega
      have few : l.length ≤ 3 := by rw [hl]; exact Nat.le_trans (List.length_filter_le ..) (by rw [List.length_take]; omega)
      have bs := hb.size
      cases hp : q i with
      | true =>
        have ba : Below wr.heap.size wr (wr.alloc (.cells #[.int .i64 i] 3)) := (Below.refl _ _).alloc (Nat.le_refl _) _
        obtain ⟨A2, c2, w2, r2, R2, g2, h2⟩ := ri_app1 (wr.alloc (.cells #[.int .i64 i] 3)) w.heap.size _ l.length l (ri_below hrow ba) i wr.heap.size (heap_alloc_new _ _) (by omega) (Nat.le_trans bs ba.size)
        have nx : Hid (NmAt w three q (.slice A2 (l.length + 1) c2) (.int .i64 ((k : Int) + 1)) w2) := by
          refine ⟨k + 1, l ++ [i], by simp, hlt, by rw [List.length_append]; exact R2, by rw [fil_next hi hp, hl], ?_⟩
          refine (hb.trans (ba.mono bs)).trans (below_of_grown g2 (Nat.le_trans bs ba.size) fun j hj => (ri_block hrow hj).1)
        rw [hp] at C
        clear hrow hl hb few bs R2 g2 h2 ba hp hi
        go_wp2_with (first
          | (at_builtin; refine wpList_run_app rfl (.tmp 17) (.tmp 19) rfl rfl _ _ rfl rfl r2 ?_)
          | (go_at_call 182; refine C.out.mono ?_; rintro e w' ⟨rfl, rfl⟩)
          | go_in)
        exact ⟨nx.out, by simp [intOf]; omega⟩
      | false =>
        have nx : Hid (NmAt w three q (.slice A l.length c) (.int .i64 ((k : Int) + 1)) wr) := ⟨k + 1, l, by simp, hlt, hrow, by rw [fil_same hi hp, hl], hb⟩
        rw [hp] at C
        clear hrow hl hb few bs hp hi
        go_wp2_with (first
          | (go_at_call 182; refine C.out.mono ?_; rintro e w' ⟨rfl, rfl⟩)
          | go_in)
        exact ⟨nx.out, by simp [intOf]; omega⟩
    · have i1 : ¬ (k : Int) < 3 := by omega
      have E : Hid (NumsTo w (three.filter q) (.returned (.slice A l.length c)) wr) := by
        have : three.take k = three := List.take_of_length_le (by show 3 ≤ k; omega)
        rw [this] at hl
        rw [← hl]
        exact ⟨_, rfl, hrow, hb⟩
      clear hrow hl hb
      go_wp2_with fail
      go_ret
      exact E.out
end Pl
end Go.Proofs.YtpkdigegkemogaaGreatDoor
