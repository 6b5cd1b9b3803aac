/- want: Get and GetOp. -/
import Derived.Test.YtidfpbnepdjagaaDoorWtF
import Derived.Test.YtidfpbnepdjagaaDoorPk5
import Derived.Laws.ResultCell
namespace Go.Proofs.YtidfpbnepdjagaaDoor
open Go.RowKit Go.Proofs.YtidfpbnepdjagaaDoor.Pk
namespace Wt

def wanOf : List Int → Wan
  | [a, b, c, d, e, f, g] => ⟨a, b, c, d, e, f, g⟩
  | _ => ⟨0, 0, 0, 0, 0, 0, 0⟩
def opnOf : List Int → Opn
  | [a, b, c, d, e] => ⟨a, b, c, d, e⟩
  | _ => ⟨0, 0, 0, 0, 0⟩
def getW (s : St) : Option Wan := if rEnd (rdk 7 s).2 = 0 ∧ may (wanOf (rdk 7 s).1) = true then some (wanOf (rdk 7 s).1) else none
def getO (s : St) : Option Opn := if rEnd (rdk 5 s).2 = 0 ∧ mayOp (opnOf (rdk 5 s).1) = true then some (opnOf (rdk 5 s).1) else none

theorem wpList_store_row {P : Program} {ops : Array Oper} {rest : List Oper} {o : Oper} {a : Act} {w : World} {Q : Exit → Act → World → Prop} (hgd : o.guard = none) (ty : TypeId) (x y : Operand) (ho : o.op = .store ty x y)
    (g : Nat) (cells : Array Value) (hx : a.eval x = .pointer (some ⟨g, 0, none⟩)) (hy : a.eval y = .agg cells)
    (t : TypeId) (old : Array Value) (hg : w.heap[g]? = some (.cells old t (0, 0))) (hi : (P.info? ty).map (·.size) = some cells.size)
    (hold : old.size = cells.size) (h1 : cells.all (·.oneCell') = true)
    (h : wpList P ops Q rest (a.put o.dst undef) (w.setRow g cells)) : wpList P ops Q (o :: rest) a w :=
  wpList_plain hgd fun _ hK => wp_store_row ty x y ho g cells hx hy t old hg hi hold h1 (hK _ _ h)
theorem setRow_below {w : World} {g B : Nat} (cs : Array Value) (hg : B ≤ g) : Below B w (w.setRow g cs) := ⟨rfl, rfl, rfl, by simp [World.setRow], fun k hk => setRow_other w g k cs (by omega)⟩

theorem res_row {P : Program} {fn : Func} {p u : Tmp} {ty : TypeId} (h : fn.results = #[.cell p ty, .tmp u]) (tmps : Array Value) (w : World) (g : Nat) (t : TypeId) (cs : Array Value) (fr : Nat × Nat) (d : TypeDesc) (hp : tmps.getD p undef = .pointer (some ⟨g, 0, none⟩)) (hg : w.heap[g]? = some (.cells cs t fr))
    (hu : P.underlying ty = some d) (hd : (match d with | .struct _ | .array _ _ => true | _ => false) = true) (hi : (P.info? ty).map (·.size) = some cs.size) :
    (results fn tmps).run P w = .ok (.tuple #[.agg cs, tmps.getD u undef]) w := by
  rw [results_cell_tmp h, hp]
  simp [asAddr, run_loadVar_row w g t ty cs fr d hg hu hd hi]
theorem one7 (a b c d e f g : Int) : (#[Value.int .i64 a, .int .i64 b, .int .i64 c, .int .i64 d, .int .i64 e, .int .i64 f, .int .i64 g] : Array Value).all (·.oneCell') = true := by simp [Value.oneCell']
/-- What Get leaves. -/
structure GetTo (w : World) (q : Option Wan) (e : Ending) (w' : World) : Prop where
  be : Below w.heap.size w w'
  yes : ∀ x, q = some x → e = .returned (.tuple #[.agg #[.int .i64 x.book, .int .i64 x.cust, .int .i64 x.dead, .int .i64 x.u0, .int .i64 x.u1, .int .i64 x.u2, .int .i64 x.price], .int .i64 0])
  no : q = none → e = .returned (.tuple #[.agg #[.int .i64 0, .int .i64 0, .int .i64 0, .int .i64 0, .int .i64 0, .int .i64 0, .int .i64 0], .int .i64 2])
theorem want_info : (Tryd.prog.info? 26).map (·.size) = some 7 := by kernel_rfl
theorem get_results : Tryd.f65.results = #[.cell 2 26, .tmp 3] := by kernel_rfl

theorem box7 (s : St) (x : Wan) (hx : x = wanOf (rdk 7 s).1) : setL (setL #[.int .i64 0, .int .i64 0, .int .i64 0, .int .i64 0, .int .i64 0, .int .i64 0, .int .i64 0] 0 (rdk 6 s).1) 6 (rdk 1 (rdk 6 s).2).1 = #[.int .i64 x.book, .int .i64 x.cust, .int .i64 x.dead, .int .i64 x.u0, .int .i64 x.u1, .int .i64 x.u2, .int .i64 x.price] := by
  have hl := rdk_len 6 s
  have e : (rdk 7 s).1 = (rdk 6 s).1 ++ (rdk 1 (rdk 6 s).2).1 := rfl
  rw [hx, e]
  show _ = _
  have e1 : (rdk 1 (rdk 6 s).2).1 = [(rInt (-9223372036854775808) 9223372036854775807 (rdk 6 s).2).1] := rfl
  rw [e1]
  generalize (rInt (-9223372036854775808) 9223372036854775807 (rdk 6 s).2).1 = g
  generalize (rdk 6 s).1 = l at hl
  match l, hl with
  | [a, b, c, d, e, f], _ => rfl
theorem getW_no {s : St} (h : rEnd (rdk 7 s).2 ≠ 0) : getW s = none := by unfold getW; rw [if_neg (fun hh => h hh.1)]
theorem getW_not {s : St} {x : Wan} (hx : x = wanOf (rdk 7 s).1) (h : may x = false) : getW s = none := by unfold getW; rw [← hx, h]; simp
theorem getW_yes {s : St} {x : Wan} (hx : x = wanOf (rdk 7 s).1) (h0 : rEnd (rdk 7 s).2 = 0) (h : may x = true) : getW s = some x := by unfold getW; rw [← hx, h, h0]; simp
set_option maxHeartbeats 1600000 in
theorem get_any (w : World) (A : Option Addr) (n c : Nat) {T : Nat → Prop} (bs : List UInt8) (h : Rb w T A n bs) (hT : ∀ g, T g → g < w.heap.size) (hn : n ≤ 140737488355328) (hA : A = none → c = 0) :
    Calls Tryd.prog 65 #[.slice A n c] w (GetTo w (getW (some bs))) := by
  obtain ⟨w0, e0⟩ : ∃ z, z = (w.alloc (.cells #[.int .i64 0, .int .i64 0, .int .i64 0, .int .i64 0, .int .i64 0, .int .i64 0, .int .i64 0] 26)).alloc (.cells #[.int .i64 0, .int .i64 0, .int .i64 0, .int .i64 0, .int .i64 0, .int .i64 0, .int .i64 0] 26) := ⟨_, rfl⟩
  have be0 : Hid (Below w.heap.size w w0) := by rw [e0]; exact ((Below.refl _ w).alloc (Nat.le_refl _) _).alloc (by simp) _
  have hr0 : Hid (w0.heap[w.heap.size]? = some (.cells #[.int .i64 0, .int .i64 0, .int .i64 0, .int .i64 0, .int .i64 0, .int .i64 0, .int .i64 0] 26 (0, 0))) := by rw [e0]; exact heap_alloc2_old _ _ _
  have hb0 : Hid (w0.heap[w.heap.size + 1]? = some (.cells #[.int .i64 0, .int .i64 0, .int .i64 0, .int .i64 0, .int .i64 0, .int .i64 0, .int .i64 0] 26 (0, 0))) := by rw [e0]; exact heap_alloc2_new _ _ _
  have N := Lib.hid (new_any w0 A n c bs (h.keep (T' := T) (fun g hg => be0.out.block g (hT g hg)) (fun _ h => h)) (fun g hg => Nat.lt_of_lt_of_le (hT g hg) be0.out.size) hn hA)
  clear h hT hA hn
  rw [e0] at N
  go_enter Tryd.func65, Tryd.ntmps65
  go_wp2_with fail
  refine N.out.mono ?_
  rintro e w1 ⟨p, rfl, hp, hrd, b1⟩
  rw [← e0] at b1 hp
  have hz0 : Hid (w.heap.size + 2 ≤ w0.heap.size) := by unfold Hid; rw [e0]; simp
  have be1 : Hid (Below w.heap.size w w1) := be0.out.trans (b1.mono be0.out.size)
  have hr1 : Hid (w1.heap[w.heap.size]? = some (.cells #[.int .i64 0, .int .i64 0, .int .i64 0, .int .i64 0, .int .i64 0, .int .i64 0, .int .i64 0] 26 (0, 0))) := (b1.block _ (lt_some hr0.out)).trans hr0.out
  have hb1 : Hid (w1.heap[w.heap.size + 1]? = some (.cells #[.int .i64 0, .int .i64 0, .int .i64 0, .int .i64 0, .int .i64 0, .int .i64 0, .int .i64 0] 26 (0, 0))) := (b1.block _ (lt_some hb0.out)).trans hb0.out
  have hrd1 := Lib.hid hrd
  have hpb : Hid (w.heap.size + 2 ≤ p) := Nat.le_trans hz0.out hp
  have hp1 : Hid (p < w1.heap.size) := hrd.lt
  clear hrd b1 N hr0 hb0 be0 hp hz0 e0
  have K : Hid (Calls Tryd.prog 62 #[.pointer (some ⟨p, 0, none⟩), .slice (some ⟨w1.heap.size, 0, none⟩) 6 6] (w1.alloc (.cells #[.pointer (some ⟨w.heap.size + 1, 0, none⟩), .pointer (some ⟨w.heap.size + 1, 1, none⟩), .pointer (some ⟨w.heap.size + 1, 2, none⟩), .pointer (some ⟨w.heap.size + 1, 3, none⟩), .pointer (some ⟨w.heap.size + 1, 4, none⟩), .pointer (some ⟨w.heap.size + 1, 5, none⟩)] 99)) _) :=
    takei p (w.heap.size + 1) 0 6 _ (some bs) (hrd1.out.below ((Below.refl _ w1).alloc (Nat.le_refl _) _)) ⟨w1.heap.size, 0, none⟩ #[.int .i64 0, .int .i64 0, .int .i64 0, .int .i64 0, .int .i64 0, .int .i64 0, .int .i64 0] 26
      ⟨by simp, by have := hp1.out; show w1.heap.size ≠ p; omega, by have := lt_some hb1.out; show w1.heap.size ≠ w.heap.size + 1; omega, fun j hj => by
        rw [Addr.add_lit, Nat.zero_add, one_at (heap_alloc_new _ _)]
        match j, hj with
        | 0, _ | 1, _ | 2, _ | 3, _ | 4, _ | 5, _ => rfl⟩
      ((heap_alloc_old _ _ (lt_some hb1.out)).trans hb1.out) (by have := hpb.out; omega) (by decide) (by decide) (by omega)
  go_wp2_with fail
  refine K.out.mono ?_
  rintro e w2 ⟨rfl, h2⟩
  have g2 : Hid (Gr2 w1 p (w.heap.size + 1) w2) := (Gr2.of_below ((Below.refl _ w1).alloc (Nat.le_refl _) _)).trans h2.gr
  have hr2 : Hid (w2.heap[w.heap.size]? = some (.cells #[.int .i64 0, .int .i64 0, .int .i64 0, .int .i64 0, .int .i64 0, .int .i64 0, .int .i64 0] 26 (0, 0))) := (g2.out.block _ (lt_some hr1.out) (by have := hpb.out; omega) (by omega)).trans hr1.out
  have hb2 : Hid (w2.heap[w.heap.size + 1]? = some (.cells (setL #[.int .i64 0, .int .i64 0, .int .i64 0, .int .i64 0, .int .i64 0, .int .i64 0, .int .i64 0] 0 (rdk 6 (some bs)).1) 26 (0, 0))) := h2.bl
  have hrd2 : Hid (Rd w2 p (rdk 6 (some bs)).2) := h2.rd
  have hp2 : Hid (p < w2.heap.size) := h2.rd.lt
  clear h2 K hr1 hb1 hrd1
  have K : Hid (Calls Tryd.prog 63 #[.pointer (some ⟨p, 0, none⟩), .slice (some ⟨w2.heap.size, 0, none⟩) 1 1] (w2.alloc (.cells #[.pointer (some ⟨w.heap.size + 1, 6, none⟩)] 101)) _) :=
    takei64 p (w.heap.size + 1) 6 1 _ (rdk 6 (some bs)).2 (hrd2.out.below ((Below.refl _ w2).alloc (Nat.le_refl _) _)) ⟨w2.heap.size, 0, none⟩ (setL #[.int .i64 0, .int .i64 0, .int .i64 0, .int .i64 0, .int .i64 0, .int .i64 0, .int .i64 0] 0 (rdk 6 (some bs)).1) 26
      ⟨by simp, by have := hp2.out; show w2.heap.size ≠ p; omega, by have := lt_some hb2.out; show w2.heap.size ≠ w.heap.size + 1; omega, fun j hj => by
        rw [Addr.add_lit, Nat.zero_add, one_at (heap_alloc_new _ _)]
        match j, hj with
        | 0, _ => rfl⟩
      ((heap_alloc_old _ _ (lt_some hb2.out)).trans hb2.out) (by have := hpb.out; omega) (by decide) (by rw [setL_size]; decide) (by omega)
  go_wp2_with fail
  refine K.out.mono ?_
  rintro e w3 ⟨rfl, h3⟩
  have g3 : Hid (Gr2 w1 p (w.heap.size + 1) w3) := g2.out.trans ((Gr2.of_below ((Below.refl _ w2).alloc (Nat.le_refl _) _)).trans h3.gr)
  have g32 : Hid (Gr2 w2 p (w.heap.size + 1) w3) := ((Gr2.of_below ((Below.refl _ w2).alloc (Nat.le_refl _) _)).trans h3.gr)
  have hr3 : Hid (w3.heap[w.heap.size]? = some (.cells #[.int .i64 0, .int .i64 0, .int .i64 0, .int .i64 0, .int .i64 0, .int .i64 0, .int .i64 0] 26 (0, 0))) := (g32.out.block _ (lt_some hr2.out) (by have := hpb.out; omega) (by omega)).trans hr2.out
  obtain ⟨x, hx⟩ : ∃ x, x = wanOf (rdk 7 (some bs)).1 := ⟨_, rfl⟩
  have hb3 : Hid (w3.heap[w.heap.size + 1]? = some (.cells #[.int .i64 x.book, .int .i64 x.cust, .int .i64 x.dead, .int .i64 x.u0, .int .i64 x.u1, .int .i64 x.u2, .int .i64 x.price] 26 (0, 0))) := by have := h3.bl; rw [box7 _ x hx] at this; exact this
  have hrd3 : Hid (Rd w3 p (rdk 7 (some bs)).2) := h3.rd
  have be3 : Hid (Below w.heap.size w w3) := be1.out.trans (g3.out.below (by have := hpb.out; omega) (by omega) be1.out.size)
  clear h3 K hr2 hb2 hrd2 g2 g3 g32 be1 hpb
  obtain ⟨k, hk⟩ : ∃ k, k = rEnd (rdk 7 (some bs)).2 := ⟨_, rfl⟩
  have E := Lib.hid (rend_any p w3 _ hrd3.out)
  rw [← hk] at E
  by_cases h0 : k = 0
  case neg =>
    have F : Hid (getW (some bs) = none) := getW_no (by rw [← hk]; exact h0)
    replace hx := Lib.hid hx
    replace hk := Lib.hid hk
    have h0' : (k != 0) = true := by simpa using h0
    clear h0
    go_wp2_with (first | (go_at_call 35; ((with_reducible refine E.out.mono ?_); rintro e w' ⟨rfl, rfl⟩)) | (refine wpList_store_row rfl 26 (.tmp 2) (.tmp 32) rfl w.heap.size #[.int .i64 0, .int .i64 0, .int .i64 0, .int .i64 0, .int .i64 0, .int .i64 0, .int .i64 0] rfl rfl 26 #[.int .i64 0, .int .i64 0, .int .i64 0, .int .i64 0, .int .i64 0, .int .i64 0, .int .i64 0] hr3.out want_info rfl (one7 _ _ _ _ _ _ _) ?_))
    refine bodyPost_ret (res_row get_results _ _ w.heap.size 26 #[.int .i64 0, .int .i64 0, .int .i64 0, .int .i64 0, .int .i64 0, .int .i64 0, .int .i64 0] (0, 0) _ rfl (setRow_heap _ _ _ _ _ _ hr3.out) Tryd.underlying26 rfl want_info) rfl ?_
    exact ⟨be3.out.trans (setRow_below _ (Nat.le_refl _)), fun x h => (by rw [F.out] at h; cases h), fun _ => rfl⟩
  case pos =>
    subst h0
    have M := Lib.hid (may_any w3 x)
    have c0 : w3.cell? ⟨w.heap.size + 1, 0, none⟩ = some (.int .i64 x.book) := one_at hb3.out
    have c1 : w3.cell? ⟨w.heap.size + 1, 1, none⟩ = some (.int .i64 x.cust) := one_at hb3.out
    have c2 : w3.cell? ⟨w.heap.size + 1, 2, none⟩ = some (.int .i64 x.dead) := one_at hb3.out
    have c3 : w3.cell? ⟨w.heap.size + 1, 3, none⟩ = some (.int .i64 x.u0) := one_at hb3.out
    have c4 : w3.cell? ⟨w.heap.size + 1, 4, none⟩ = some (.int .i64 x.u1) := one_at hb3.out
    have c5 : w3.cell? ⟨w.heap.size + 1, 5, none⟩ = some (.int .i64 x.u2) := one_at hb3.out
    have c6 : w3.cell? ⟨w.heap.size + 1, 6, none⟩ = some (.int .i64 x.price) := one_at hb3.out
    rcases Bool.eq_false_or_eq_true (may x) with hm | hm
    · have F : Hid (getW (some bs) = some x) := getW_yes hx hk.symm hm
      rw [hm] at M
      replace hx := Lib.hid hx
      replace hk := Lib.hid hk
      clear hm
      go_wp2_with (first | (go_at_call 35; ((with_reducible refine E.out.mono ?_); rintro e w' ⟨rfl, rfl⟩)) | (go_at_call 55; ((with_reducible refine M.out.mono ?_); rintro e w4 ⟨rfl, b4⟩; have be4 : Hid (Below w.heap.size w w4) := be3.out.trans (b4.mono be3.out.size); have hr4 : Hid (w4.heap[w.heap.size]? = some (.cells #[.int .i64 0, .int .i64 0, .int .i64 0, .int .i64 0, .int .i64 0, .int .i64 0, .int .i64 0] 26 (0, 0))) := (b4.block _ (lt_some hr3.out)).trans hr3.out; have hb4 : Hid (w4.heap[w.heap.size + 1]? = some (.cells #[.int .i64 x.book, .int .i64 x.cust, .int .i64 x.dead, .int .i64 x.u0, .int .i64 x.u1, .int .i64 x.u2, .int .i64 x.price] 26 (0, 0))) := (b4.block _ (lt_some hb3.out)).trans hb3.out; have d0 : w4.cell? ⟨w.heap.size + 1, 0, none⟩ = some (.int .i64 x.book) := one_at hb4.out; have d1 : w4.cell? ⟨w.heap.size + 1, 1, none⟩ = some (.int .i64 x.cust) := one_at hb4.out; have d2 : w4.cell? ⟨w.heap.size + 1, 2, none⟩ = some (.int .i64 x.dead) := one_at hb4.out; have d3 : w4.cell? ⟨w.heap.size + 1, 3, none⟩ = some (.int .i64 x.u0) := one_at hb4.out; have d4 : w4.cell? ⟨w.heap.size + 1, 4, none⟩ = some (.int .i64 x.u1) := one_at hb4.out; have d5 : w4.cell? ⟨w.heap.size + 1, 5, none⟩ = some (.int .i64 x.u2) := one_at hb4.out; have d6 : w4.cell? ⟨w.heap.size + 1, 6, none⟩ = some (.int .i64 x.price) := one_at hb4.out; clear b4)) | (refine wpList_store_row rfl 26 (.tmp 2) (.tmp 32) rfl w.heap.size #[.int .i64 0, .int .i64 0, .int .i64 0, .int .i64 0, .int .i64 0, .int .i64 0, .int .i64 0] rfl rfl 26 #[.int .i64 0, .int .i64 0, .int .i64 0, .int .i64 0, .int .i64 0, .int .i64 0, .int .i64 0] hr4.out want_info rfl (one7 _ _ _ _ _ _ _) ?_) | (refine wpList_store_row rfl 26 (.tmp 2) (.tmp 33) rfl w.heap.size #[.int .i64 x.book, .int .i64 x.cust, .int .i64 x.dead, .int .i64 x.u0, .int .i64 x.u1, .int .i64 x.u2, .int .i64 x.price] rfl rfl 26 #[.int .i64 0, .int .i64 0, .int .i64 0, .int .i64 0, .int .i64 0, .int .i64 0, .int .i64 0] hr4.out want_info rfl (one7 _ _ _ _ _ _ _) ?_))
      refine bodyPost_ret (res_row get_results _ _ w.heap.size 26 #[.int .i64 x.book, .int .i64 x.cust, .int .i64 x.dead, .int .i64 x.u0, .int .i64 x.u1, .int .i64 x.u2, .int .i64 x.price] (0, 0) _ rfl (setRow_heap _ _ _ _ _ _ hr4.out) Tryd.underlying26 rfl want_info) rfl ?_
      exact ⟨be4.out.trans (setRow_below _ (Nat.le_refl _)), fun y h => (by rw [F.out] at h; cases h; rfl), fun h => (by rw [F.out] at h; cases h)⟩
    · have F : Hid (getW (some bs) = none) := getW_not hx hm
      rw [hm] at M
      replace hx := Lib.hid hx
      replace hk := Lib.hid hk
      clear hm
      go_wp2_with (first | (go_at_call 35; ((with_reducible refine E.out.mono ?_); rintro e w' ⟨rfl, rfl⟩)) | (go_at_call 55; ((with_reducible refine M.out.mono ?_); rintro e w4 ⟨rfl, b4⟩; have be4 : Hid (Below w.heap.size w w4) := be3.out.trans (b4.mono be3.out.size); have hr4 : Hid (w4.heap[w.heap.size]? = some (.cells #[.int .i64 0, .int .i64 0, .int .i64 0, .int .i64 0, .int .i64 0, .int .i64 0, .int .i64 0] 26 (0, 0))) := (b4.block _ (lt_some hr3.out)).trans hr3.out; have hb4 : Hid (w4.heap[w.heap.size + 1]? = some (.cells #[.int .i64 x.book, .int .i64 x.cust, .int .i64 x.dead, .int .i64 x.u0, .int .i64 x.u1, .int .i64 x.u2, .int .i64 x.price] 26 (0, 0))) := (b4.block _ (lt_some hb3.out)).trans hb3.out; have d0 : w4.cell? ⟨w.heap.size + 1, 0, none⟩ = some (.int .i64 x.book) := one_at hb4.out; have d1 : w4.cell? ⟨w.heap.size + 1, 1, none⟩ = some (.int .i64 x.cust) := one_at hb4.out; have d2 : w4.cell? ⟨w.heap.size + 1, 2, none⟩ = some (.int .i64 x.dead) := one_at hb4.out; have d3 : w4.cell? ⟨w.heap.size + 1, 3, none⟩ = some (.int .i64 x.u0) := one_at hb4.out; have d4 : w4.cell? ⟨w.heap.size + 1, 4, none⟩ = some (.int .i64 x.u1) := one_at hb4.out; have d5 : w4.cell? ⟨w.heap.size + 1, 5, none⟩ = some (.int .i64 x.u2) := one_at hb4.out; have d6 : w4.cell? ⟨w.heap.size + 1, 6, none⟩ = some (.int .i64 x.price) := one_at hb4.out; clear b4)) | (refine wpList_store_row rfl 26 (.tmp 2) (.tmp 32) rfl w.heap.size #[.int .i64 0, .int .i64 0, .int .i64 0, .int .i64 0, .int .i64 0, .int .i64 0, .int .i64 0] rfl rfl 26 #[.int .i64 0, .int .i64 0, .int .i64 0, .int .i64 0, .int .i64 0, .int .i64 0, .int .i64 0] hr4.out want_info rfl (one7 _ _ _ _ _ _ _) ?_) | (refine wpList_store_row rfl 26 (.tmp 2) (.tmp 33) rfl w.heap.size #[.int .i64 x.book, .int .i64 x.cust, .int .i64 x.dead, .int .i64 x.u0, .int .i64 x.u1, .int .i64 x.u2, .int .i64 x.price] rfl rfl 26 #[.int .i64 0, .int .i64 0, .int .i64 0, .int .i64 0, .int .i64 0, .int .i64 0, .int .i64 0] hr4.out want_info rfl (one7 _ _ _ _ _ _ _) ?_))
      refine bodyPost_ret (res_row get_results _ _ w.heap.size 26 #[.int .i64 0, .int .i64 0, .int .i64 0, .int .i64 0, .int .i64 0, .int .i64 0, .int .i64 0] (0, 0) _ rfl (setRow_heap _ _ _ _ _ _ hr4.out) Tryd.underlying26 rfl want_info) rfl ?_
      exact ⟨be4.out.trans (setRow_below _ (Nat.le_refl _)), fun x h => (by rw [F.out] at h; cases h), fun _ => rfl⟩
theorem one5 (a b c d e : Int) : (#[Value.int .i64 a, .int .i64 b, .int .i64 c, .int .i64 d, .int .i64 e] : Array Value).all (·.oneCell') = true := by simp [Value.oneCell']
/-- What GetOp leaves. -/
structure GetOTo (w : World) (q : Option Opn) (e : Ending) (w' : World) : Prop where
  be : Below w.heap.size w w'
  yes : ∀ o, q = some o → e = .returned (.tuple #[.agg #[.int .i64 o.kind, .int .i64 o.book, .int .i64 o.units, .int .i64 o.cust, .int .i64 o.amount], .int .i64 0])
  no : q = none → e = .returned (.tuple #[.agg #[.int .i64 0, .int .i64 0, .int .i64 0, .int .i64 0, .int .i64 0], .int .i64 2])
theorem op_info : (Tryd.prog.info? 23).map (·.size) = some 5 := by kernel_rfl
theorem getop_results : Tryd.f32.results = #[.cell 2 23, .tmp 3] := by kernel_rfl

theorem box5 (s : St) (o : Opn) (hx : o = opnOf (rdk 5 s).1) : setL (setL #[.int .i64 0, .int .i64 0, .int .i64 0, .int .i64 0, .int .i64 0] 0 (rdk 4 s).1) 4 (rdk 1 (rdk 4 s).2).1 = #[.int .i64 o.kind, .int .i64 o.book, .int .i64 o.units, .int .i64 o.cust, .int .i64 o.amount] := by
  have hl := rdk_len 4 s
  have e : (rdk 5 s).1 = (rdk 4 s).1 ++ (rdk 1 (rdk 4 s).2).1 := rfl
  rw [hx, e]
  show _ = _
  have e1 : (rdk 1 (rdk 4 s).2).1 = [(rInt (-9223372036854775808) 9223372036854775807 (rdk 4 s).2).1] := rfl
  rw [e1]
  generalize (rInt (-9223372036854775808) 9223372036854775807 (rdk 4 s).2).1 = g
  generalize (rdk 4 s).1 = l at hl
  match l, hl with
  | [a, b, c, d], _ => rfl
theorem getO_no {s : St} (h : rEnd (rdk 5 s).2 ≠ 0) : getO s = none := by unfold getO; rw [if_neg (fun hh => h hh.1)]
theorem getO_not {s : St} {x : Opn} (hx : x = opnOf (rdk 5 s).1) (h : mayOp x = false) : getO s = none := by unfold getO; rw [← hx, h]; simp
theorem getO_yes {s : St} {x : Opn} (hx : x = opnOf (rdk 5 s).1) (h0 : rEnd (rdk 5 s).2 = 0) (h : mayOp x = true) : getO s = some x := by unfold getO; rw [← hx, h, h0]; simp
set_option maxHeartbeats 1600000 in
theorem getop_any (w : World) (A : Option Addr) (n c : Nat) {T : Nat → Prop} (bs : List UInt8) (h : Rb w T A n bs) (hT : ∀ g, T g → g < w.heap.size) (hn : n ≤ 140737488355328) (hA : A = none → c = 0) :
    Calls Tryd.prog 32 #[.slice A n c] w (GetOTo w (getO (some bs))) := by
  obtain ⟨w0, e0⟩ : ∃ z, z = (w.alloc (.cells #[.int .i64 0, .int .i64 0, .int .i64 0, .int .i64 0, .int .i64 0] 23)).alloc (.cells #[.int .i64 0, .int .i64 0, .int .i64 0, .int .i64 0, .int .i64 0] 23) := ⟨_, rfl⟩
  have be0 : Hid (Below w.heap.size w w0) := by rw [e0]; exact ((Below.refl _ w).alloc (Nat.le_refl _) _).alloc (by simp) _
  have hr0 : Hid (w0.heap[w.heap.size]? = some (.cells #[.int .i64 0, .int .i64 0, .int .i64 0, .int .i64 0, .int .i64 0] 23 (0, 0))) := by rw [e0]; exact heap_alloc2_old _ _ _
  have hb0 : Hid (w0.heap[w.heap.size + 1]? = some (.cells #[.int .i64 0, .int .i64 0, .int .i64 0, .int .i64 0, .int .i64 0] 23 (0, 0))) := by rw [e0]; exact heap_alloc2_new _ _ _
  have N := Lib.hid (new_any w0 A n c bs (h.keep (T' := T) (fun g hg => be0.out.block g (hT g hg)) (fun _ h => h)) (fun g hg => Nat.lt_of_lt_of_le (hT g hg) be0.out.size) hn hA)
  clear h hT hA hn
  rw [e0] at N
  go_enter Tryd.func32, Tryd.ntmps32
  go_wp2_with fail
  refine N.out.mono ?_
  rintro e w1 ⟨p, rfl, hp, hrd, b1⟩
  rw [← e0] at b1 hp
  have hz0 : Hid (w.heap.size + 2 ≤ w0.heap.size) := by unfold Hid; rw [e0]; simp
  have be1 : Hid (Below w.heap.size w w1) := be0.out.trans (b1.mono be0.out.size)
  have hr1 : Hid (w1.heap[w.heap.size]? = some (.cells #[.int .i64 0, .int .i64 0, .int .i64 0, .int .i64 0, .int .i64 0] 23 (0, 0))) := (b1.block _ (lt_some hr0.out)).trans hr0.out
  have hb1 : Hid (w1.heap[w.heap.size + 1]? = some (.cells #[.int .i64 0, .int .i64 0, .int .i64 0, .int .i64 0, .int .i64 0] 23 (0, 0))) := (b1.block _ (lt_some hb0.out)).trans hb0.out
  have hrd1 := Lib.hid hrd
  have hpb : Hid (w.heap.size + 2 ≤ p) := Nat.le_trans hz0.out hp
  have hp1 : Hid (p < w1.heap.size) := hrd.lt
  clear hrd b1 N hr0 hb0 be0 hp hz0 e0
  have K : Hid (Calls Tryd.prog 62 #[.pointer (some ⟨p, 0, none⟩), .slice (some ⟨w1.heap.size, 0, none⟩) 4 4] (w1.alloc (.cells #[.pointer (some ⟨w.heap.size + 1, 0, none⟩), .pointer (some ⟨w.heap.size + 1, 1, none⟩), .pointer (some ⟨w.heap.size + 1, 2, none⟩), .pointer (some ⟨w.heap.size + 1, 3, none⟩)] 99)) _) :=
    takei p (w.heap.size + 1) 0 4 _ (some bs) (hrd1.out.below ((Below.refl _ w1).alloc (Nat.le_refl _) _)) ⟨w1.heap.size, 0, none⟩ #[.int .i64 0, .int .i64 0, .int .i64 0, .int .i64 0, .int .i64 0] 23
      ⟨by simp, by have := hp1.out; show w1.heap.size ≠ p; omega, by have := lt_some hb1.out; show w1.heap.size ≠ w.heap.size + 1; omega, fun j hj => by
        rw [Addr.add_lit, Nat.zero_add, one_at (heap_alloc_new _ _)]
        match j, hj with
        | 0, _ | 1, _ | 2, _ | 3, _ => rfl⟩
      ((heap_alloc_old _ _ (lt_some hb1.out)).trans hb1.out) (by have := hpb.out; omega) (by decide) (by decide) (by omega)
  go_wp2_with fail
  refine K.out.mono ?_
  rintro e w2 ⟨rfl, h2⟩
  have g2 : Hid (Gr2 w1 p (w.heap.size + 1) w2) := (Gr2.of_below ((Below.refl _ w1).alloc (Nat.le_refl _) _)).trans h2.gr
  have hr2 : Hid (w2.heap[w.heap.size]? = some (.cells #[.int .i64 0, .int .i64 0, .int .i64 0, .int .i64 0, .int .i64 0] 23 (0, 0))) := (g2.out.block _ (lt_some hr1.out) (by have := hpb.out; omega) (by omega)).trans hr1.out
  have hb2 : Hid (w2.heap[w.heap.size + 1]? = some (.cells (setL #[.int .i64 0, .int .i64 0, .int .i64 0, .int .i64 0, .int .i64 0] 0 (rdk 4 (some bs)).1) 23 (0, 0))) := h2.bl
  have hrd2 : Hid (Rd w2 p (rdk 4 (some bs)).2) := h2.rd
  have hp2 : Hid (p < w2.heap.size) := h2.rd.lt
  clear h2 K hr1 hb1 hrd1
  have K : Hid (Calls Tryd.prog 63 #[.pointer (some ⟨p, 0, none⟩), .slice (some ⟨w2.heap.size, 0, none⟩) 1 1] (w2.alloc (.cells #[.pointer (some ⟨w.heap.size + 1, 4, none⟩)] 101)) _) :=
    takei64 p (w.heap.size + 1) 4 1 _ (rdk 4 (some bs)).2 (hrd2.out.below ((Below.refl _ w2).alloc (Nat.le_refl _) _)) ⟨w2.heap.size, 0, none⟩ (setL #[.int .i64 0, .int .i64 0, .int .i64 0, .int .i64 0, .int .i64 0] 0 (rdk 4 (some bs)).1) 23
      ⟨by simp, by have := hp2.out; show w2.heap.size ≠ p; omega, by have := lt_some hb2.out; show w2.heap.size ≠ w.heap.size + 1; omega, fun j hj => by
        rw [Addr.add_lit, Nat.zero_add, one_at (heap_alloc_new _ _)]
        match j, hj with
        | 0, _ => rfl⟩
      ((heap_alloc_old _ _ (lt_some hb2.out)).trans hb2.out) (by have := hpb.out; omega) (by decide) (by rw [setL_size]; decide) (by omega)
  go_wp2_with fail
  refine K.out.mono ?_
  rintro e w3 ⟨rfl, h3⟩
  have g3 : Hid (Gr2 w1 p (w.heap.size + 1) w3) := g2.out.trans ((Gr2.of_below ((Below.refl _ w2).alloc (Nat.le_refl _) _)).trans h3.gr)
  have g32 : Hid (Gr2 w2 p (w.heap.size + 1) w3) := ((Gr2.of_below ((Below.refl _ w2).alloc (Nat.le_refl _) _)).trans h3.gr)
  have hr3 : Hid (w3.heap[w.heap.size]? = some (.cells #[.int .i64 0, .int .i64 0, .int .i64 0, .int .i64 0, .int .i64 0] 23 (0, 0))) := (g32.out.block _ (lt_some hr2.out) (by have := hpb.out; omega) (by omega)).trans hr2.out
  obtain ⟨o, hx⟩ : ∃ o, o = opnOf (rdk 5 (some bs)).1 := ⟨_, rfl⟩
  have hb3 : Hid (w3.heap[w.heap.size + 1]? = some (.cells #[.int .i64 o.kind, .int .i64 o.book, .int .i64 o.units, .int .i64 o.cust, .int .i64 o.amount] 23 (0, 0))) := by have := h3.bl; rw [box5 _ o hx] at this; exact this
  have hrd3 : Hid (Rd w3 p (rdk 5 (some bs)).2) := h3.rd
  have be3 : Hid (Below w.heap.size w w3) := be1.out.trans (g3.out.below (by have := hpb.out; omega) (by omega) be1.out.size)
  clear h3 K hr2 hb2 hrd2 g2 g3 g32 be1 hpb
  obtain ⟨k, hk⟩ : ∃ k, k = rEnd (rdk 5 (some bs)).2 := ⟨_, rfl⟩
  have E := Lib.hid (rend_any p w3 _ hrd3.out)
  rw [← hk] at E
  by_cases h0 : k = 0
  case neg =>
    have F : Hid (getO (some bs) = none) := getO_no (by rw [← hk]; exact h0)
    replace hx := Lib.hid hx
    replace hk := Lib.hid hk
    have h0' : (k != 0) = true := by simpa using h0
    clear h0
    go_wp2_with (first | (go_at_call 35; ((with_reducible refine E.out.mono ?_); rintro e w' ⟨rfl, rfl⟩)) | (refine wpList_store_row rfl 23 (.tmp 2) (.tmp 27) rfl w.heap.size #[.int .i64 0, .int .i64 0, .int .i64 0, .int .i64 0, .int .i64 0] rfl rfl 23 #[.int .i64 0, .int .i64 0, .int .i64 0, .int .i64 0, .int .i64 0] hr3.out op_info rfl (one5 _ _ _ _ _) ?_))
    refine bodyPost_ret (res_row getop_results _ _ w.heap.size 23 #[.int .i64 0, .int .i64 0, .int .i64 0, .int .i64 0, .int .i64 0] (0, 0) _ rfl (setRow_heap _ _ _ _ _ _ hr3.out) Tryd.underlying23 rfl op_info) rfl ?_
    exact ⟨be3.out.trans (setRow_below _ (Nat.le_refl _)), fun x h => (by rw [F.out] at h; cases h), fun _ => rfl⟩
  case pos =>
    subst h0
    have M := Lib.hid (mayop_any w3 o)
    have c0 : w3.cell? ⟨w.heap.size + 1, 0, none⟩ = some (.int .i64 o.kind) := one_at hb3.out
    have c1 : w3.cell? ⟨w.heap.size + 1, 1, none⟩ = some (.int .i64 o.book) := one_at hb3.out
    have c2 : w3.cell? ⟨w.heap.size + 1, 2, none⟩ = some (.int .i64 o.units) := one_at hb3.out
    have c3 : w3.cell? ⟨w.heap.size + 1, 3, none⟩ = some (.int .i64 o.cust) := one_at hb3.out
    have c4 : w3.cell? ⟨w.heap.size + 1, 4, none⟩ = some (.int .i64 o.amount) := one_at hb3.out
    rcases Bool.eq_false_or_eq_true (mayOp o) with hm | hm
    · have F : Hid (getO (some bs) = some o) := getO_yes hx hk.symm hm
      rw [hm] at M
      replace hx := Lib.hid hx
      replace hk := Lib.hid hk
      clear hm
      go_wp2_with (first | (go_at_call 35; ((with_reducible refine E.out.mono ?_); rintro e w' ⟨rfl, rfl⟩)) | (go_at_call 23; ((with_reducible refine M.out.mono ?_); rintro e w4 ⟨rfl, b4⟩; have be4 : Hid (Below w.heap.size w w4) := be3.out.trans (b4.mono be3.out.size); have hr4 : Hid (w4.heap[w.heap.size]? = some (.cells #[.int .i64 0, .int .i64 0, .int .i64 0, .int .i64 0, .int .i64 0] 23 (0, 0))) := (b4.block _ (lt_some hr3.out)).trans hr3.out; have hb4 : Hid (w4.heap[w.heap.size + 1]? = some (.cells #[.int .i64 o.kind, .int .i64 o.book, .int .i64 o.units, .int .i64 o.cust, .int .i64 o.amount] 23 (0, 0))) := (b4.block _ (lt_some hb3.out)).trans hb3.out; have d0 : w4.cell? ⟨w.heap.size + 1, 0, none⟩ = some (.int .i64 o.kind) := one_at hb4.out; have d1 : w4.cell? ⟨w.heap.size + 1, 1, none⟩ = some (.int .i64 o.book) := one_at hb4.out; have d2 : w4.cell? ⟨w.heap.size + 1, 2, none⟩ = some (.int .i64 o.units) := one_at hb4.out; have d3 : w4.cell? ⟨w.heap.size + 1, 3, none⟩ = some (.int .i64 o.cust) := one_at hb4.out; have d4 : w4.cell? ⟨w.heap.size + 1, 4, none⟩ = some (.int .i64 o.amount) := one_at hb4.out; clear b4)) | (refine wpList_store_row rfl 23 (.tmp 2) (.tmp 27) rfl w.heap.size #[.int .i64 0, .int .i64 0, .int .i64 0, .int .i64 0, .int .i64 0] rfl rfl 23 #[.int .i64 0, .int .i64 0, .int .i64 0, .int .i64 0, .int .i64 0] hr4.out op_info rfl (one5 _ _ _ _ _) ?_) | (refine wpList_store_row rfl 23 (.tmp 2) (.tmp 28) rfl w.heap.size #[.int .i64 o.kind, .int .i64 o.book, .int .i64 o.units, .int .i64 o.cust, .int .i64 o.amount] rfl rfl 23 #[.int .i64 0, .int .i64 0, .int .i64 0, .int .i64 0, .int .i64 0] hr4.out op_info rfl (one5 _ _ _ _ _) ?_))
      refine bodyPost_ret (res_row getop_results _ _ w.heap.size 23 #[.int .i64 o.kind, .int .i64 o.book, .int .i64 o.units, .int .i64 o.cust, .int .i64 o.amount] (0, 0) _ rfl (setRow_heap _ _ _ _ _ _ hr4.out) Tryd.underlying23 rfl op_info) rfl ?_
      exact ⟨be4.out.trans (setRow_below _ (Nat.le_refl _)), fun y h => (by rw [F.out] at h; cases h; rfl), fun h => (by rw [F.out] at h; cases h)⟩
    · have F : Hid (getO (some bs) = none) := getO_not hx hm
      rw [hm] at M
      replace hx := Lib.hid hx
      replace hk := Lib.hid hk
      clear hm
      go_wp2_with (first | (go_at_call 35; ((with_reducible refine E.out.mono ?_); rintro e w' ⟨rfl, rfl⟩)) | (go_at_call 23; ((with_reducible refine M.out.mono ?_); rintro e w4 ⟨rfl, b4⟩; have be4 : Hid (Below w.heap.size w w4) := be3.out.trans (b4.mono be3.out.size); have hr4 : Hid (w4.heap[w.heap.size]? = some (.cells #[.int .i64 0, .int .i64 0, .int .i64 0, .int .i64 0, .int .i64 0] 23 (0, 0))) := (b4.block _ (lt_some hr3.out)).trans hr3.out; have hb4 : Hid (w4.heap[w.heap.size + 1]? = some (.cells #[.int .i64 o.kind, .int .i64 o.book, .int .i64 o.units, .int .i64 o.cust, .int .i64 o.amount] 23 (0, 0))) := (b4.block _ (lt_some hb3.out)).trans hb3.out; have d0 : w4.cell? ⟨w.heap.size + 1, 0, none⟩ = some (.int .i64 o.kind) := one_at hb4.out; have d1 : w4.cell? ⟨w.heap.size + 1, 1, none⟩ = some (.int .i64 o.book) := one_at hb4.out; have d2 : w4.cell? ⟨w.heap.size + 1, 2, none⟩ = some (.int .i64 o.units) := one_at hb4.out; have d3 : w4.cell? ⟨w.heap.size + 1, 3, none⟩ = some (.int .i64 o.cust) := one_at hb4.out; have d4 : w4.cell? ⟨w.heap.size + 1, 4, none⟩ = some (.int .i64 o.amount) := one_at hb4.out; clear b4)) | (refine wpList_store_row rfl 23 (.tmp 2) (.tmp 27) rfl w.heap.size #[.int .i64 0, .int .i64 0, .int .i64 0, .int .i64 0, .int .i64 0] rfl rfl 23 #[.int .i64 0, .int .i64 0, .int .i64 0, .int .i64 0, .int .i64 0] hr4.out op_info rfl (one5 _ _ _ _ _) ?_) | (refine wpList_store_row rfl 23 (.tmp 2) (.tmp 28) rfl w.heap.size #[.int .i64 o.kind, .int .i64 o.book, .int .i64 o.units, .int .i64 o.cust, .int .i64 o.amount] rfl rfl 23 #[.int .i64 0, .int .i64 0, .int .i64 0, .int .i64 0, .int .i64 0] hr4.out op_info rfl (one5 _ _ _ _ _) ?_))
      refine bodyPost_ret (res_row getop_results _ _ w.heap.size 23 #[.int .i64 0, .int .i64 0, .int .i64 0, .int .i64 0, .int .i64 0] (0, 0) _ rfl (setRow_heap _ _ _ _ _ _ hr4.out) Tryd.underlying23 rfl op_info) rfl ?_
      exact ⟨be4.out.trans (setRow_below _ (Nat.le_refl _)), fun x h => (by rw [F.out] at h; cases h), fun _ => rfl⟩
end Wt
end Go.Proofs.YtidfpbnepdjagaaDoor
