/- A purse that is new. -/
import Derived.Test.YtchlbkfkecpodaaPuC
import Derived.Test.YtchlbkfkecpodaaCsS
namespace Go.Proofs.Ytchlbkfkecpodaa
set_option maxRecDepth 100000
open Go.RowKit
open Go.Sort (grow)
open Go.Proofs.Ytchlbkfkecpodaa.Pk (one_at one_free one_set lt_some grown_set grown_trans below_grown grown_refl)
namespace Pu

def okF (x : Int) : Bool := decide (0 ≤ x) && decide (x ≤ 1099511627776)
theorem okF_iff {x : Int} : okF x = true ↔ 0 ≤ x ∧ x ≤ 1099511627776 := by simp [okF]
/-- Funds that may be. -/
def mayF (a b c d : Int) : Bool := okF a && okF b && okF c && okF d
theorem mayF_iff {a b c d : Int} : mayF a b c d = true ↔ (0 ≤ a ∧ a ≤ 1099511627776) ∧ (0 ≤ b ∧ b ≤ 1099511627776) ∧ (0 ≤ c ∧ c ≤ 1099511627776) ∧ 0 ≤ d ∧ d ≤ 1099511627776 := by
  unfold mayF
  simp only [Bool.and_eq_true, okF_iff, and_assoc]
def fcs (a b c d : Int) : Array Value := #[.int .i64 a, .int .i64 b, .int .i64 c, .int .i64 d]
theorem ri_four {w : World} {g : Nat} {a b c d : Int} (h : w.heap[g]? = some (.cells (fcs a b c d) 54 (0, 0))) (hI : ∀ z ∈ [a, b, c, d], Cs.I z) : Cs.Ri w w.heap.size (some ⟨g, 0, none⟩) 4 [a, b, c, d] :=
  ⟨rfl, fun _ => ⟨_, rfl, lt_some h, fun j z hz => by
    rw [Addr.add_lit, Nat.zero_add, one_at h]
    match j, hz with
    | 0, hz => simp at hz; subst hz; rfl
    | 1, hz => simp at hz; subst hz; rfl
    | 2, hz => simp at hz; subst hz; rfl
    | 3, hz => simp at hz; subst hz; rfl
    | j + 4, hz => simp at hz⟩, hI⟩
set_option maxHeartbeats 1600000 in
theorem new_no (w : World) (a b c d : Int) (hI : ∀ z ∈ [a, b, c, d], Cs.I z) (h : mayF a b c d = false) : Calls Try.prog 26 #[.agg #[.int .i64 a, .int .i64 b, .int .i64 c, .int .i64 d]] w fun e w' => e = .returned (.tuple #[.pointer none, .int .i64 1]) ∧ Below w.heap.size w w' := by
  obtain ⟨w1, hw1⟩ : ∃ x, x = w.alloc (.cells #[.int .i64 a, .int .i64 b, .int .i64 c, .int .i64 d] 54) := ⟨_, rfl⟩
  have B1 : Hid (Below w.heap.size w w1) := by rw [hw1]; exact (Below.refl _ _).alloc (Nat.le_refl _) _
  have G1 : w1.heap[w.heap.size]? = some (.cells (fcs a b c d) 54 (0, 0)) := by rw [hw1]; exact heap_alloc_new _ _
  have MI := Lib.hid (Cs.min_any ⟨w.heap.size, 0, none⟩ 4 4 [a, b, c, d] w1 (ri_four G1 hI) (by omega) (by omega))
  have MA := Lib.hid (Cs.max_any ⟨w.heap.size, 0, none⟩ 4 4 [a, b, c, d] w1 (ri_four G1 hI) (by omega) (by omega))
  have hn : Hid (¬ ((0 ≤ a ∧ a ≤ 1099511627776) ∧ (0 ≤ b ∧ b ≤ 1099511627776) ∧ (0 ≤ c ∧ c ≤ 1099511627776) ∧ 0 ≤ d ∧ d ≤ 1099511627776)) := fun hh => by rw [mayF_iff.2 hh] at h; cases h
  replace hw1 := Lib.hid hw1
  clear hI h G1
  go_enter Try.func26, Try.ntmps26
  go_wp2_with fail
  rw [← hw1.out]
  refine MI.out.mono ?_
  rintro e w' ⟨x, rfl, hx, hle, rfl⟩
  replace hx := Lib.hid hx
  replace hle := Lib.hid hle
  clear MI
  by_cases h0 : x < 0
  · have d0 : decide (x < 0) = true := decide_eq_true h0
    clear MA
    go_wp2
    go_ret2
    exact ⟨rfl, B1.out⟩
  · have d0 : decide (x < 0) = false := decide_eq_false h0
    go_wp2_with fail
    refine MA.out.mono ?_
    rintro e w' ⟨y, rfl, hy, hge, rfl⟩
    have h1 : 1099511627776 < y := Decidable.byContradiction fun hc => hn.out (by
      have a1 := hle.out a (by simp); have a2 := hge a (by simp)
      have b1 := hle.out b (by simp); have b2 := hge b (by simp)
      have c1 := hle.out c (by simp); have c2 := hge c (by simp)
      have e1 := hle.out d (by simp); have e2 := hge d (by simp)
      omega)
    have d1 : decide (1099511627776 < y) = true := decide_eq_true h1
    clear hy hge MA h1
    go_wp2
    go_ret2
    exact ⟨rfl, B1.out⟩
theorem step_copy_run {w : World} {ops : Array Oper} {o : Oper} {a : Act} {K : Act → World → Prop} {Q : Exit → Act → World → Prop} {E : Prop}
    (hg : o.guard = none) (d x : Operand) (dT sT : TypeId) (hop : o.op = .call { callee := .builtin .copy, args := #[d, x], argTypes := #[dT, sT] })
    (v u : Value) (hd : a.eval d = v) (hx : a.eval x = u) {v' : Value} {w' : World} (hr : (Builtin.copy_ #[dT, sT] o.type #[v, u]).run Try.prog w = .ok v' w') (hK : K (a.put o.dst v') w') :
    if Region.wanted o (yielded ops a.tmps) = true then Oper.wp Try.prog o a w K Q else E := by
  have hw : Region.wanted o (yielded ops a.tmps) = true := by simp [Region.wanted, hg]
  rw [if_pos hw]
  unfold Oper.wp
  simp [execOp, hop, resolve, invoke, builtin, hd, hx, hr, Result.andThen]
  exact hK
theorem i64_size : (Try.prog.info? 2).map (·.size) = some 1 := by kernel_rfl
theorem new_acc (a b c d : Int) : upd (upd (upd (upd (fun _ => 0) 0 a) 1 b) 2 c) 3 d = (new a b c d).a := by
  funext k
  unfold upd new
  by_cases h0 : k = 0
  · subst h0; rfl
  · by_cases h1 : k = 1
    · subst h1; rfl
    · by_cases h2 : k = 2
      · subst h2; rfl
      · by_cases h3 : k = 3
        · subst h3; rfl
        · simp [h0, h1, h2, h3]
set_option maxHeartbeats 3200000 in
theorem new_yes (w : World) (a b c d : Int) (hI : ∀ z ∈ [a, b, c, d], Cs.I z) (h : mayF a b c d = true) : Calls Try.prog 26 #[.agg #[.int .i64 a, .int .i64 b, .int .i64 c, .int .i64 d]] w fun e w' => ∃ q, e = .returned (.tuple #[.pointer (some ⟨q, 0, none⟩), .int .i64 0]) ∧ w.heap.size ≤ q ∧ LedP w' q (new a b c d) (fun g => g = q) ∧ Below w.heap.size w w' := by
  obtain ⟨ha, hb, hc, hd⟩ := mayF_iff.1 h
  obtain ⟨w1, hw1⟩ : ∃ x, x = w.alloc (.cells #[.int .i64 a, .int .i64 b, .int .i64 c, .int .i64 d] 54) := ⟨_, rfl⟩
  have B1 : Hid (Below w.heap.size w w1) := by rw [hw1]; exact (Below.refl _ _).alloc (Nat.le_refl _) _
  have G1 : w1.heap[w.heap.size]? = some (.cells (fcs a b c d) 54 (0, 0)) := by rw [hw1]; exact heap_alloc_new _ _
  have MI := Lib.hid (Cs.min_any ⟨w.heap.size, 0, none⟩ 4 4 [a, b, c, d] w1 (ri_four G1 hI) (by omega) (by omega))
  have MA := Lib.hid (Cs.max_any ⟨w.heap.size, 0, none⟩ 4 4 [a, b, c, d] w1 (ri_four G1 hI) (by omega) (by omega))
  have ho := Lib.hid (ok_new ha hb hc hd)
  have lo : Hid (∀ z ∈ [a, b, c, d], 0 ≤ z ∧ z ≤ 1099511627776) := fun z hz => by
    simp at hz
    rcases hz with rfl | rfl | rfl | rfl
    · exact ha
    · exact hb
    · exact hc
    · exact hd
  obtain ⟨w2, hw2⟩ : ∃ x, x = w1.alloc (.cells (pcs zero (.slice none 0 0)).toArray 113) := ⟨_, rfl⟩
  have B2 : Below w1.heap.size w1 w2 := by rw [hw2]; exact (Below.refl _ _).alloc (Nat.le_refl _) _
  have G2 : w2.heap[w1.heap.size]? = some (.cells (pcs zero (.slice none 0 0)).toArray 113 (0, 0)) := by rw [hw2]; exact heap_alloc_new _ _
  have Z : Pm w2.drew w1.heap.size zero (.slice none 0 0) := (Pm.of_block G2).keep rfl
  have g1 : w2.drew.heap[w.heap.size]? = some (.cells (fcs a b c d) 54 (0, 0)) := (B2.block _ (lt_some G1)).trans G1
  have RC := run_copy_cells (P := Try.prog) w2.drew 111 111 3 2 w1.heap.size 0 6 6 ⟨w.heap.size, 0, none⟩ 4 4 [.int .i64 a, .int .i64 b, .int .i64 c, .int .i64 d] Try.underlying111 i64_size rfl (fun j v hv => by
    rw [Addr.add_lit, Nat.zero_add, one_at g1]
    simpa [fcs] using hv) (fun j hj => by rw [Nat.zero_add, Z.acc j (by simp at hj; omega)]; rfl) (fun j hj => Z.free _) (fun v hv => by simp at hv; rcases hv with rfl | rfl | rfl | rfl <;> rfl)
  have P4 : Pm (w2.drew.setCells w1.heap.size 0 [.int .i64 a, .int .i64 b, .int .i64 c, .int .i64 d]) w1.heap.size (new a b c d) (.slice none 0 0) := by
    have := (((Z.acct (k := 0) (by omega) a).acct (k := 1) (by omega) b).acct (k := 2) (by omega) c).acct (k := 3) (by omega) d
    rw [show (⟨upd (upd (upd (upd zero.a ((0 : Nat) : Int) a) ((1 : Nat) : Int) b) ((2 : Nat) : Int) c) ((3 : Nat) : Int) d, zero.f, zero.l⟩ : S) = new a b c d by
      have e := new_acc a b c d
      unfold new
      congr 1] at this
    exact this
  have K4 := Kq.of_cells w2.drew w1.heap.size 0 [.int .i64 a, .int .i64 b, .int .i64 c, .int .i64 d]
  have F : Hid (w.heap.size ≤ w1.heap.size ∧ LedP (w2.drew.setCells w1.heap.size 0 [.int .i64 a, .int .i64 b, .int .i64 c, .int .i64 d]) w1.heap.size (new a b c d) (fun g => g = w1.heap.size) ∧ Below w.heap.size w (w2.drew.setCells w1.heap.size 0 [.int .i64 a, .int .i64 b, .int .i64 c, .int .i64 d])) := by
    refine ⟨B1.out.size, ⟨⟨rfl, fun g hg => by rw [hg]; exact P4.lt, _, P4, World.ownsRow_nil _ _ _ _, by simp [Value.ownBlock], fun g hg => by simp [Value.ownBlock] at hg⟩, ho.out⟩, ?_⟩
    exact (B1.out.trans (below_drew (B2.mono B1.out.size))).trans (K4.below (fun g hg => by rw [hg]; exact B1.out.size) (Nat.le_trans B1.out.size B2.size))
  have s2 : Hid (w1.heap.size < w2.heap.size) := lt_some G2
  replace hw1 := Lib.hid hw1
  replace hw2 := Lib.hid hw2
  clear hI h G1 G2 Z g1 P4 K4 B2 ho ha hb hc hd
  go_enter Try.func26, Try.ntmps26
  go_wp2_with fail
  rw [← hw1.out]
  refine MI.out.mono ?_
  rintro e w' ⟨x, rfl, hx, hle, rfl⟩
  have h0 := (lo.out x hx).1
  have d0 : decide (x < 0) = false := decide_eq_false (by omega)
  clear hx hle MI h0
  go_wp2_with fail
  refine MA.out.mono ?_
  rintro e w' ⟨y, rfl, hy, hge, rfl⟩
  have h1 := (lo.out y hy).2
  have d1 : decide (1099511627776 < y) = false := decide_eq_false (by omega)
  clear hy hge MA h1
  go_upto_region 4 with (first
    | (refine wpList_build10 rfl rfl ?_)
    | (refine wpList_box10 rfl (.tmp 13) rfl (pcs zero (.slice none 0 0)).toArray rfl ?_))
  rw [← hw2.out]
  go_region_law (refine step_copy_run rfl (.tmp 18) (.tmp 19) 111 111 rfl _ _ rfl rfl RC ?_)
  all_goals
    go_wp2
    go_ret2
    exact ⟨_, rfl, F.out⟩
end Pu
end Go.Proofs.Ytchlbkfkecpodaa
