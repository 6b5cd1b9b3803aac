/- Rooms, ticks, who is over, what is read; a sum over the map in whatever order it comes. -/
import Derived.Test.YtchlbkfkecpodaaGreatStA
import Derived.Deep.CutRange
import Derived.Deep.CutBlock
import Derived.Deep.QuietTactic
import Derived.BigQuiet
namespace Go.Proofs.YtchlbkfkecpodaaGreat
set_option maxRecDepth 100000
open Go.RowKit
open Go.Proofs.YtchlbkfkecpodaaGreat.Pk (one_at one_free one_set lt_some grown_set grown_trans below_grown grown_refl)
namespace St

def inb (n hi : Int) : Bool := decide (0 ≤ n) && decide (n ≤ hi)
set_option maxHeartbeats 400000 in
theorem mayRoom_any (w : World) (n : Int) : Calls Tryz.prog 44 #[.int .i64 n] w fun e w' => e = .returned (.bool (inb n 1000000)) ∧ w = w' := by
  unfold inb
  obtain ⟨c, hc⟩ : ∃ c, c = decide (n ≤ 1000000) := ⟨_, rfl⟩
  rcases Bool.eq_false_or_eq_true (decide (0 ≤ n)) with h | h
  all_goals
    rw [h, ← hc]
    have h2 := hc.symm
    clear hc
    go_enter Tryz.func44, Tryz.ntmps44
    go_wp2
    go_ret
    exact ⟨rfl, rfl⟩
set_option maxHeartbeats 400000 in
theorem mayTick_any (w : World) (n : Int) : Calls Tryz.prog 40 #[.int .i64 n] w fun e w' => e = .returned (.bool (tick n)) ∧ w = w' := by
  unfold tick
  obtain ⟨c, hc⟩ : ∃ c, c = decide (n ≤ 1099511627776) := ⟨_, rfl⟩
  rcases Bool.eq_false_or_eq_true (decide (0 ≤ n)) with h | h
  all_goals
    rw [h, ← hc]
    have h2 := hc.symm
    clear hc
    go_enter Tryz.func40, Tryz.ntmps40
    go_wp2
    go_ret
    exact ⟨rfl, rfl⟩
set_option maxHeartbeats 400000 in
theorem isOver_any (w : World) (e : E) (now : Int) : Calls Tryz.prog 47 #[cell e, .int .i64 now] w fun r w' => r = .returned (.bool (ovr now e)) ∧ Below w.heap.size w w' := by
  obtain ⟨a, u, t⟩ := e
  unfold ovr cell
  simp only
  have HB : Hid (Below w.heap.size w (w.alloc (.cells #[.int .i64 a, .int .i64 u, .int .i64 t, .int .i64 0, .int .i64 0] 32))) := (Below.refl _ _).alloc (Nat.le_refl _) _
  obtain ⟨c, hc⟩ : ∃ c, c = decide (t ≤ now) := ⟨_, rfl⟩
  rcases Bool.eq_false_or_eq_true (decide (a = 1)) with h | h
  all_goals
    rw [h, ← hc]
    have h2 := hc.symm
    have h3 : (a == 1) = decide (a = 1) := rfl
    rw [h] at h3
    clear hc h
    go_enter Tryz.func47, Tryz.ntmps47
    go_wp2
    go_ret
    exact ⟨rfl, HB.out⟩
theorem entry_info : (Tryz.prog.info? 32).map (·.size) = some 5 := by kernel_rfl
theorem entry_results : Tryz.f38.results = #[.cell 4 32] := by kernel_rfl
set_option maxHeartbeats 400000 in
theorem entry_nil (w : World) (k : Int) : Calls Tryz.prog 38 #[.pointer none, .int .i64 k] w fun e w' => e = .returned (cell ez) ∧ Below w.heap.size w w' := by
  have HB : ∀ cs t, Hid (Below w.heap.size w (w.alloc (.cells cs t))) := fun cs t => (Below.refl _ _).alloc (Nat.le_refl _) _
  go_enter Tryz.func38, Tryz.ntmps38
  go_wp2
  refine bodyPost_ret (results_cell_row entry_results _ _ w.heap.size 32 #[.int .i64 0, .int .i64 0, .int .i64 0, .int .i64 0, .int .i64 0] (0, 0) _ rfl (heap_alloc_new _ _) Tryz.underlying32 rfl entry_info) rfl ?_
  exact ⟨rfl, (HB _ _).out⟩
set_option maxHeartbeats 400000 in
theorem entry_any (w : World) (q : Nat) (cap over : Int) (f : F) (fp : Nat → Prop) (L : Led w q cap over f fp) (k : Int) (hk : Bd k) :
    Calls Tryz.prog 38 #[.pointer (some ⟨q, 0, none⟩), .int .i64 k] w fun e w' => e = .returned (cell (f k)) ∧ Below w.heap.size w w' := by
  have HB : ∀ cs t, Hid (Below w.heap.size w (w.alloc (.cells cs t))) := fun cs t => (Below.refl _ _).alloc (Nat.le_refl _) _
  obtain ⟨mo, h1, h2, h3⟩ := (L.below (HB #[.int .i64 0, .int .i64 0, .int .i64 0, .int .i64 0, .int .i64 0] 32).out).at_
  have c2 := h1.c2
  have LK := look_run _ mo f k h2 L.zero hk
  unfold cell at LK ⊢
  obtain ⟨a, ha⟩ : ∃ a, a = (f k).st := ⟨_, rfl⟩
  obtain ⟨u, hu⟩ : ∃ a, a = (f k).un := ⟨_, rfl⟩
  obtain ⟨t, ht⟩ : ∃ a, a = (f k).ut := ⟨_, rfl⟩
  rw [← ha, ← hu, ← ht] at LK ⊢
  clear ha hu ht h1 h2 h3 L
  go_enter Tryz.func38, Tryz.ntmps38
  go_wp2
  refine bodyPost_ret (results_cell_row entry_results _ _ w.heap.size 32 #[.int .i64 a, .int .i64 u, .int .i64 t, .int .i64 0, .int .i64 0] (0, 0) _ rfl (heap_alloc_new _ _) Tryz.underlying32 rfl entry_info) rfl ?_
  exact ⟨rfl, (HB _ _).out⟩

/-! ### over the map -/
theorem below_of_grown {w w' : World} {B : Nat} {row : Option Nat} (hg : w.grownBy w' row) (hB : B ≤ w.heap.size) (hr : ∀ i, row = some i → B ≤ i) : Below B w w' :=
  ⟨hg.os, hg.tape, hg.output, hg.size, fun g hlt => hg.block g (Nat.lt_of_lt_of_le hlt hB) fun e => by have := hr g e.symm; omega⟩
/-- The map's entries are gone over; L: who is still to come. -/
structure Rg (w : World) (b r : Nat) (D : DataW Value) (f : F) (L : Int → Bool) : Prop where
  at_ : ∃ left cnt, w.ranges Tryz.prog 3 Rdv b r 200 D left cnt ∧ ∀ k, L k = left (lk k)
  in_ : ∀ k, L k = true → pre (f k) = true
section
variable {w w' : World} {b r : Nat} {D : DataW Value} {f : F} {L : Int → Bool}
theorem Rg.keep (R : Rg w b r D f L) {row : Option Nat} (hg : w.grownBy w' row) (hb : some b ≠ row) (hr : some r ≠ row) : Rg w' b r D f L := by
  obtain ⟨left, cnt, h, e⟩ := R.at_
  exact ⟨⟨left, cnt, h.kept hg hb hr, e⟩, R.in_⟩
theorem Rg.lt (R : Rg w b r D f L) : r < w.heap.size ∧ b < w.heap.size := by
  obtain ⟨left, cnt, h, e⟩ := R.at_
  exact ⟨h.lt, h.owns.lt⟩
theorem pre_inn {cap over : Int} (O : Ok cap over f) {k : Int} (h : pre (f k) = true) : 1 ≤ k ∧ k ≤ 200 := (O.shp k).inn (by simpa [pre] using h)
variable {ops : Array Oper} {rest : List Oper} {o : Oper} {a : Act} {Q : Exit → Act → World → Prop}
theorem wpList_range_led (hg : o.guard = none) (m : Operand) (t : TypeId) (hop : o.op = Op.range t m) (e : TypeId) (ht : Tryz.prog.underlying t = some (.map 3 e)) (f : F) (D : DataW Value)
    (hm : a.eval m = .map (some b)) (hown : w.ownsMap Tryz.prog 3 Rdv b 200 D) (T : Tie D f)
    (hK : ∀ w', Rg w' b w.heap.size D f (fun k => pre (f k)) → w.grownBy w' none → w'.heap.size = w.heap.size + 1 → wpList Tryz.prog ops Q rest (a.put o.dst (.pointer (some ⟨w.heap.size, 0, none⟩))) w') :
    wpList Tryz.prog ops Q (o :: rest) a w :=
  wpList_range_own w hg m t hop 3 e law ht Rdv b 200 D hm hown fun w' h1 h2 h3 => hK w' ⟨⟨_, _, h1, fun k => (T.has k).symm⟩, fun _ h => h⟩ h2 h3
theorem wpList_next_led (hg : o.guard = none) (it : Operand) (hop : o.op = Op.next it false) (b r : Nat) (D : DataW Value) (f : F) (L : Int → Bool)
    (hit : a.eval it = .pointer (some ⟨r, 0, none⟩)) (h : Rg w b r D f L) (T : Tie D f) (hin : ∀ k, pre (f k) = true → 1 ≤ k ∧ k ≤ 200)
    (hDone : (∀ k, L k = false) → wpList Tryz.prog ops Q rest (a.put o.dst (.tuple #[.bool false])) w)
    (hMore : ∀ (x s u t : Int) (w' : World), 1 ≤ x → x ≤ 200 → L x = true → f x = ⟨s, u, t⟩ → Rg w' b r D f (fun k => L k && !decide (k = x)) → w'.rangeLeft b r < w.rangeLeft b r → w.grownBy w' (some r) → w'.heap.size = w.heap.size →
      (Instr.entry (.pointer (some ⟨r, 0, none⟩))).run Tryz.prog w' = .ok (.tuple #[.int .i64 x, .agg #[.int .i64 s, .int .i64 u, .int .i64 t, .int .i64 0, .int .i64 0]]) w' →
      wpList Tryz.prog ops Q rest (a.put o.dst (.tuple #[.bool true, .int .i64 x, .agg #[.int .i64 s, .int .i64 u, .int .i64 t, .int .i64 0, .int .i64 0]])) w') :
    wpList Tryz.prog ops Q (o :: rest) a w := by
  refine wpList_plain hg fun K' hK' => ?_
  unfold Oper.wp
  obtain ⟨left, cnt, hrg, hL⟩ := h.at_
  rcases hrg.next law o.type with ⟨h0, hl, hrun⟩ | ⟨key, v, kl, y, w', cnt', hkey, hlk, hv, hat, hrun, hrg', hlt, hgr, hsz, hen⟩
  · simp [execOp, hop, hit, hrun, Result.andThen]
    exact hK' _ _ (hDone fun k => by rw [hL k, hl])
  · obtain ⟨x, rfl, rfl, _⟩ := Maps.keyOf_int_inv Tryz.underlying3 hkey
    have hx : L x = true := (hL x).trans hlk
    have hp := h.in_ x hx
    obtain ⟨r1, r2⟩ := hin x hp
    have hv' : v = cell (f x) := by
      injection hv with hv
      have h1 := hat (.held v)
      rw [T.at_ x (by simpa [pre] using hp)] at h1
      rw [← hv] at h1
      injection h1 with h1
      exact h1.symm
    simp [execOp, hop, hit, hrun, Result.andThen]
    obtain ⟨⟨s, u, t⟩, hf⟩ : ∃ z, z = f x := ⟨_, rfl⟩
    rw [← hf] at hv'
    subst hv'
    refine hK' _ _ (hMore x s u t w' r1 r2 hx hf.symm ⟨⟨_, _, hrg', fun k => ?_⟩, fun k hk => h.in_ k ?_⟩ (by rw [hrg'.left_eq, hrg.left_eq]; exact hlt) hgr hsz hen)
    · rw [hL k, lk_same]
    · simp only [Bool.and_eq_true] at hk
      exact hk.1
end
set_option maxHeartbeats 400000 in
theorem units_nil (w : World) (s : Int) : Calls Tryz.prog 56 #[.pointer none, .int .i64 s] w fun e w' => e = .returned (.int .i64 0) ∧ w = w' := by
  go_enter Tryz.func56, Tryz.ntmps56
  go_wp2
  go_ret
  exact ⟨rfl, rfl⟩
set_option maxHeartbeats 800000 in
theorem units_none (w : World) (q : Nat) (s : Int) (c2 : w.cell? ⟨q, 2, none⟩ = some (.map none)) : Calls Tryz.prog 56 #[.pointer (some ⟨q, 0, none⟩), .int .i64 s] w fun e w' => e = .returned (.int .i64 0) ∧ Below w.heap.size w w' := by
  have hrg := run_range_nilMap (P := Tryz.prog) w 64 3 32 Tryz.underlying64
  have hnx : ∀ ty, (Instr.next (.pointer (some ⟨w.heap.size, 0, none⟩)) false ty).run Tryz.prog (w.alloc (.mapIter none 0 #[] 0)) = _ := fun ty => run_next_nilMap w ty 0 0 #[]
  have HB : Hid (Below w.heap.size w (w.alloc (.mapIter none 0 #[] 0))) := (Below.refl _ _).alloc (Nat.le_refl _) _
  go_enter Tryz.func56, Tryz.ntmps56
  go_wp2
  refine wp_loop_rounds 1 ?_
  rw [rounds_succ]
  go_wp2
  go_ret
  exact ⟨rfl, HB.out⟩
set_option maxHeartbeats 1600000 in
theorem units_some (w : World) (q m : Nat) (s cap over : Int) (f : F) (D : DataW Value) (c2 : w.cell? ⟨q, 2, none⟩ = some (.map (some m))) (hown : w.ownsMap Tryz.prog 3 Rdv m 200 D) (T : Tie D f) (O : Ok cap over f) (hs : s = 1 ∨ s = 2) :
    Calls Tryz.prog 56 #[.pointer (some ⟨q, 0, none⟩), .int .i64 s] w fun e w' => e = .returned (.int .i64 (uni s f)) ∧ Below w.heap.size w w' := by
  have hin : Hid (∀ k, pre (f k) = true → 1 ≤ k ∧ k ≤ 200) := fun k h => pre_inn O h
  have hT := Lib.hid T
  have hO := Lib.hid O
  have hm := hown.lt
  replace hs := Lib.hid hs
  clear T O
  go_enter Tryz.func56, Tryz.ntmps56
  go_wp2_with (first
    | (at_range; refine wpList_range_led rfl _ 64 rfl 32 Tryz.underlying64 f D rfl hown hT.out ?_; intro w0 hrg0 hg0 hs0)
    | go_in)
  go_frame
  go_loopw [5] (fun v wr => ∃ L, v = .int .i64 (so s f L) ∧ Rg wr m w.heap.size D f L ∧ Below w.heap.size w wr) (fun _ wr => wr.rangeLeft m w.heap.size)
  case atStart => exact ⟨_, by rw [so_start (fun k hk => (hO.out.shp k).zero (by simpa [pre] using hk))], hrg0, below_of_grown hg0 (Nat.le_refl _) (fun i h => by cases h)⟩
  case round =>
    clear hrg0 hg0 hs0
    obtain ⟨L, rfl, hrg, hb⟩ := hrel
    have hA := so_bds hO.out hs.out L
    obtain ⟨A, hAe⟩ : ∃ A, A = so s f L := ⟨_, rfl⟩
    rw [← hAe] at hA ⊢
    obtain ⟨hA0, hA1⟩ := hA
    replace hAe := Lib.hid hAe
    replace hb := Lib.hid hb
    go_wp2_with (first
      | (at_next; refine wpList_next_led rfl _ rfl m w.heap.size D f L rfl hrg hT.out hin.out ?_ ?_)
      | go_in)
    · intro hl
      go_wp2
      go_ret
      refine ⟨?_, hb.out⟩
      rw [hAe.out, so_end hl]
      rfl
    · intro x st u t w1 x1 x2 hlx hf hrg1 hlt hg1 hs1 hen
      have hsh := (hO.out.shp x).bds
      have hst := so_step (s := s) (f := f) hlx (left' := fun k => L k && !decide (k = x)) (fun _ => rfl) ⟨x1, x2⟩
      rw [hf] at hsh hst
      obtain ⟨-, -, u0, u1, -, -⟩ := hsh
      replace u0 : 0 ≤ u := u0
      replace u1 : u ≤ 1000 := u1
      rw [← hAe.out] at hst
      have hB1 : Hid (∀ o, Below w.heap.size w (w1.alloc o)) := fun o => (hb.out.trans (below_of_grown hg1 hb.out.size (fun i h => by injection h with h; omega))).alloc (Nat.le_trans hb.out.size hg1.size) _
      have hR1 : Hid (∀ o, Rg (w1.alloc o) m w.heap.size D f (fun k => L k && !decide (k = x))) := fun o => hrg1.keep (World.grownBy_alloc _ _ none) (by simp) (by simp)
      have hM1 : Hid (∀ o, (w1.alloc o).rangeLeft m w.heap.size < wr.rangeLeft m w.heap.size) := fun o => by
        have e : (w1.alloc o).rangeLeft m w.heap.size = w1.rangeLeft m w.heap.size := by
          obtain ⟨left, cnt, h, _⟩ := hrg1.at_
          rw [h.left_eq, (h.alloc o).left_eq]
        rw [e]; exact hlt
      unfold hu at hst
      replace hst := Lib.hid hst
      clear hrg1 hlt hg1 hs1 hf hlx hrg
      go_wp2
      · go_roundw
        case rel => exact ⟨_, by rw [hst.out]; simp_all, hR1.out _, hB1.out _⟩
        case measure => exact hM1.out _
      · go_roundw
        case rel => exact ⟨_, by rw [hst.out]; simp_all, hR1.out _, hB1.out _⟩
        case measure => exact hM1.out _
theorem units_any (w : World) (q : Nat) (cap over : Int) (f : F) (fp : Nat → Prop) (L : Led w q cap over f fp) (s : Int) (hs : s = 1 ∨ s = 2) :
    Calls Tryz.prog 56 #[.pointer (some ⟨q, 0, none⟩), .int .i64 s] w fun e w' => e = .returned (.int .i64 (uni s f)) ∧ Below w.heap.size w w' := by
  obtain ⟨mo, h1, h2, h3⟩ := L.at_
  rcases h2 with ⟨rfl, hf⟩ | ⟨m, D, rfl, ho, T⟩
  · rw [hf, uni_z]
    exact units_none w q s (h1.c2)
  · exact units_some w q m s cap over f D (h1.c2) ho T L.ok hs
end St
end Go.Proofs.YtchlbkfkecpodaaGreat
