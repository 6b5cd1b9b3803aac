/- rising: the numbers of those that are so, collected in whatever order, sorted. -/
import Derived.Test.YtchlbkfkecpodaaGreatStC
import Derived.Test.YtchlbkfkecpodaaGreatStI
import Derived.Sort.OwnSortedInts
namespace Go.Proofs.YtchlbkfkecpodaaGreat
set_option maxRecDepth 100000
open Go.RowKit
open Go.Sort (grow)
open Go.Proofs.YtchlbkfkecpodaaGreat.Pk (one_at one_free one_set lt_some grown_set grown_trans below_grown grown_refl)
namespace St

/-! ### rows of numbers of the call's own -/
def ivs (l : List Int) : List Value := l.map (Value.int .i64)
theorem ivs_snoc (l : List Int) (x : Int) : ivs (l ++ [x]) = ivs l ++ [.int .i64 x] := by simp [ivs]
theorem ivs_len (l : List Int) : (ivs l).length = l.length := by simp [ivs]
abbrev RowI (w : World) (base : Nat) (v : Value) (n : Nat) (xs : List Value) : Prop := w.ownsRow base 3 1 v n xs
section
variable {w w' : World} {v v' : Value} {n base : Nat} {xs : List Value}
theorem ri_same (h : RowI w base v n xs) (hk : ∀ g, v.ownBlock = some g → w'.heap[g]? = w.heap[g]?) : RowI w' base v n xs := by
  refine ⟨h.1, ?_⟩
  rcases h.2 with h0 | ⟨g, cap, cur, hv, hb, hh, h2⟩
  · exact .inl h0
  · exact .inr ⟨g, cap, cur, hv, hb, (hk g (by rw [hv]; rfl)).trans hh, h2⟩
theorem ri_block {g : Nat} (h : RowI w base v n xs) (hg : v.ownBlock = some g) : base ≤ g ∧ ∃ cur, w.heap[g]? = some (.cells cur 3 (0, 0)) := by
  rcases h.2 with ⟨rfl, _⟩ | ⟨g', cap, cur, rfl, hb, hh, _⟩
  · simp [Value.ownBlock] at hg
  · have : g' = g := by simpa [Value.ownBlock] using hg
    subst this
    exact ⟨hb, cur, hh⟩
theorem ri_below (h : RowI w base v n xs) (hb : Below w.heap.size w w') : RowI w' base v n xs := ri_same h fun g hg => hb.block g (by
  obtain ⟨_, cur, hc⟩ := ri_block h hg
  exact lt_some hc)
theorem ri_form (h : RowI w base v n xs) : ∃ A c, v = .slice A n c ∧ n ≤ c ∧ c ≤ 9223372036854775807 ∧ (A = none → c = 0) := by
  rcases h.2 with ⟨rfl, rfl⟩ | ⟨g, cap, cur, rfl, hb, hh, h1, h2, _⟩
  · exact ⟨_, _, rfl, Nat.le_refl _, by omega, fun _ => rfl⟩
  · unfold maxLen at h2
    exact ⟨_, _, rfl, h1, h2, fun h => by cases h⟩
theorem ri_mono {base' : Nat} (h : RowI w base v n xs) (hb : base' ≤ base) : RowI w base' v n xs := by
  refine ⟨h.1, ?_⟩
  rcases h.2 with h0 | ⟨g, cap, cur, hv, hB, hh, h2⟩
  · exact .inl h0
  · exact .inr ⟨g, cap, cur, hv, by omega, hh, h2⟩
end
theorem Rg.not_row {w : World} {b r base n : Nat} {D : DataW Value} {f : F} {L : Int → Bool} {v : Value} {xs : List Value} (R : Rg w b r D f L) (h : RowI w base v n xs) : some b ≠ v.ownBlock ∧ some r ≠ v.ownBlock := by
  obtain ⟨left, cnt, hr, _⟩ := R.at_
  constructor
  · intro e
    obtain ⟨_, cur, hc⟩ := ri_block h e.symm
    exact ne_map hr.owns hc rfl
  · intro e
    obtain ⟨_, cur, hc⟩ := ri_block h e.symm
    obtain ⟨es, clock, since, seen, c0, _, _, _, _, hb, _⟩ := hr
    rw [hc] at hb
    injection hb with hb
    cases hb
theorem int_info : (Tryz.prog.info? 3).map (fun i => (i.zero, i.size, i.bytes)) = some (some (.int .i64 0), 1, 8) := by kernel_rfl
/-- append of one thing more that lies in a new block of its own. -/
theorem wpList_app1 {P : Program} (wr : World) {ops : Array Oper} {rest : List Oper} {o : Oper} {a : Act} {Q : Exit → Act → World → Prop} (hgd : o.guard = none) (s x : Operand) (t : TypeId)
    (ho : o.op = .call { callee := .builtin .append, args := #[s, x], argTypes := #[t, t] })
    (base : Nat) (e : TypeId) (i : TypeInfo) (z : Value) (bytes : Nat) (ht : P.underlying t = some (.slice e)) (hi : P.info? e = some i) (hz : i.zero = some z) (hsize : i.size = 1) (hby : i.bytes = bytes) (hzs : z.cells.size = 1)
    (v : Value) (n : Nat) (xs : List Value) (u : Value) (hs : a.eval s = v) (hown : wr.ownsRow base e 1 v n xs) (hx : a.eval x = .slice (some ⟨wr.heap.size, 0, none⟩) 1 1) (hu : u.oneCell' = true)
    (h63 : n + 1 ≤ maxLen) (hb : (n + 1) * bytes ≤ 140737488355328) (hbase : base ≤ wr.heap.size)
    (h : ∀ v' w', w'.ownsRow base e 1 v' (n + 1) (xs ++ [u]) → (wr.alloc (.cells #[u] e)).grownBy w' v.ownBlock → wpList P ops Q rest (a.put o.dst v') w') : wpList P ops Q (o :: rest) a (wr.alloc (.cells #[u] e)) :=
  wpList_append_own _ hgd s x t ho base e i z 1 bytes ht hi hz hsize hby hzs (by decide) v n xs hs (hown.alloc _) ⟨wr.heap.size, 0, none⟩ 1 1 [u] hx rfl
    (by
      intro j y hj
      match j, hj with
      | 0, hj => simp at hj; subst hj; rw [Addr.add_zero', World.cell?_alloc_mark]; rfl
      | j + 1, hj => simp at hj)
    (by intro y hy; simp at hy; subst hy; exact hu) h63 hb (by simp; omega) (fun v' w' h1 h2 _ => h v' w' h1 h2)
/-- slices.Sort of such a row. -/
theorem sort_row (w : World) (base : Nat) (v : Value) (xs : List Int) (h : RowI w base v xs.length (ivs xs)) (few : xs.length ≤ 200) :
    Calls Tryz.prog 60 #[v] w fun e w' => e = .returned (.tuple #[]) ∧ RowI w' base v xs.length (ivs (xs.mergeSort fun x y => decide (x ≤ y))) ∧ Below base w w' := by
  rcases h.2 with ⟨rfl, h0⟩ | ⟨g, cap, cur, rfl, hb, hh, h1, h2, h3, h4⟩
  · obtain rfl : xs = [] := List.eq_nil_of_length_eq_zero h0
    refine (AnyM.slices_Sort_int_none Tryz.stsort none 0 w).mono ?_
    rintro e w' ⟨rfl, rfl⟩
    exact ⟨rfl, by rw [List.mergeSort_nil]; exact h, Below.refl _ _⟩
  · have ht : cur.toList.take xs.length = xs.map (Value.int .i64) := by rw [Nat.mul_one] at h4; exact h4
    have H := holds_of_blockI hh ht
    refine (AnyM.slices_Sort_int Tryz.stsort g 0 cap xs w H (lt_some hh) (by omega)).mono ?_
    rintro e w' ⟨rfl, n, os, rfl⟩
    have hl : (xs.mergeSort fun x y => decide (x ≤ y)).length = xs.length := List.length_mergeSort ..
    refine ⟨rfl, ?_, ?_⟩
    · exact ownsRow_sortedI hl hb hh h1 h2 h3
    · exact ⟨(grownBy_sortedI (w := w) (g := g) (os := os) (n := n) _).os, (grownBy_sortedI (w := w) (g := g) (os := os) (n := n) _).tape, (grownBy_sortedI (w := w) (g := g) (os := os) (n := n) _).output, (grownBy_sortedI (w := w) (g := g) (os := os) (n := n) _).size, fun i hi => (grownBy_sortedI (w := w) (g := g) (os := os) (n := n) _).block i (by have := lt_some hh; omega) (fun e => by injection e with e; omega)⟩

/-! ### the closures -/
set_option maxHeartbeats 400000 in
theorem cloB (w : World) (e : E) : Calls Tryz.prog 54 #[cell e] w fun r w' => r = .returned (.bool (pre e)) ∧ Below w.heap.size w w' := by
  obtain ⟨a, u, t⟩ := e
  have HB : Hid (Below w.heap.size w (w.alloc (.cells #[.int .i64 a, .int .i64 u, .int .i64 t, .int .i64 0, .int .i64 0] 32))) := (Below.refl _ _).alloc (Nat.le_refl _) _
  have F : Hid ((!(a == 0)) = pre ⟨a, u, t⟩) := rfl
  unfold cell
  go_enter Tryz.func54, Tryz.ntmps54
  go_wp2
  go_ret
  refine ⟨?_, HB.out⟩
  rw [← F.out]
  rfl
set_option maxHeartbeats 400000 in
theorem cloS (w : World) (pn : Nat) (now : Int) (e : E) (hn : w.cell? ⟨pn, 0, none⟩ = some (.int .i64 now)) : Calls Tryz.prog 46 #[cell e, .pointer (some ⟨pn, 0, none⟩)] w fun r w' => r = .returned (.bool (ovr now e)) ∧ Below w.heap.size w w' := by
  obtain ⟨W, hW⟩ : ∃ W, W = w.alloc (.cells #[.int .i64 e.st, .int .i64 e.un, .int .i64 e.ut, .int .i64 0, .int .i64 0] 32) := ⟨_, rfl⟩
  have C := Lib.hid (isOver_any W e now)
  have HB : Hid (Below w.heap.size w W) := by rw [hW]; exact (Below.refl _ _).alloc (Nat.le_refl _) _
  have hp := block_lt_of_cell hn
  obtain ⟨a, u, t⟩ := e
  unfold cell at C ⊢
  simp only at C hW ⊢
  obtain ⟨o, ho⟩ : ∃ o, o = ovr now ⟨a, u, t⟩ := ⟨_, rfl⟩
  rw [← ho] at C ⊢
  clear ho
  replace hW := Lib.hid hW
  go_enter Tryz.func46, Tryz.ntmps46
  go_wp2_with fail
  rw [← hW.out]
  refine C.out.mono ?_
  rintro r w1 ⟨rfl, h1⟩
  have HB1 : Hid (Below w.heap.size w w1) := HB.out.trans (h1.mono HB.out.size)
  clear h1 C HB hW
  go_wp2
  go_ret
  exact ⟨rfl, HB1.out⟩

/-! ### rising -/
/-- What rising answers. -/
def RisTo (w : World) (l : List Int) (e : Ending) (w' : World) : Prop := ∃ v, e = .returned v ∧ RowI w' w.heap.size v l.length (ivs l) ∧ Below w.heap.size w w'
set_option maxHeartbeats 800000 in
theorem rising_noneB (w : World)  : Calls Tryz.prog 45 #[.map none, .func (.func 54) #[] #[]] w (RisTo w []) := by
  have hrg := run_range_nilMap (P := Tryz.prog) w 64 3 32 Tryz.underlying64
  have hnx : ∀ ty, (Instr.next (.pointer (some ⟨w.heap.size, 0, none⟩)) false ty).run Tryz.prog (w.alloc (.mapIter none 0 #[] 0)) = _ := fun ty => run_next_nilMap w ty 0 0 #[]
  have HB : Hid (Below w.heap.size w (w.alloc (.mapIter none 0 #[] 0))) := (Below.refl _ _).alloc (Nat.le_refl _) _
  have SO := Lib.hid (fun w => AnyM.slices_Sort_int_none Tryz.stsort none 0 w)
  go_enter Tryz.func45, Tryz.ntmps45
  go_wp2
  refine wp_loop_rounds 1 ?_
  rw [rounds_succ]
  go_wp2_with fail
  refine (SO.out _).mono ?_
  rintro e w1 ⟨rfl, rfl⟩
  clear SO
  go_wp2
  go_ret
  exact ⟨_, rfl, World.ownsRow_nil _ _ _ _, HB.out⟩
set_option maxHeartbeats 1600000 in
theorem rising_someB (w : World)  (m : Nat) (cap over : Int) (f : F) (D : DataW Value) (hown : w.ownsMap Tryz.prog 3 Rdv m 200 D) (T : Tie D f) (O : Ok cap over f) :
    Calls Tryz.prog 45 #[.map (some m), .func (.func 54) #[] #[]] w (RisTo w (sel pre f 200)) := by
  have hin : Hid (∀ k, pre (f k) = true → 1 ≤ k ∧ k ≤ 200) := fun k h => pre_inn O h
  have hT := Lib.hid T
  have hO := Lib.hid O
  have hm := hown.lt
  have C : Hid (∀ w', Below w.heap.size w w' → ∀ e, Calls Tryz.prog 54 #[cell e] w' fun r w'' => r = .returned (.bool (pre e)) ∧ Below w'.heap.size w' w'') := fun w' _ e => cloB w' e
  have st : Hid (Col pre f (fun k => pre (f k)) []) := Col.start (by simp [pre, ez]) fun k hk => (O.shp k).zero (by simpa [pre] using hk)
  obtain ⟨i0, hi, hz0, hz1, hz2⟩ := info_parts int_info
  replace hi := Lib.hid hi
  replace hz0 := Lib.hid hz0
  replace hz1 := Lib.hid hz1
  replace hz2 := Lib.hid hz2
  clear T O
  go_enter Tryz.func45, Tryz.ntmps45
  go_wp2_with (first
    | (at_range; refine wpList_range_led rfl _ 64 rfl 32 Tryz.underlying64 f D rfl hown hT.out ?_; intro w0 hrg0 hg0 hs0)
    | go_in)
  go_frame
  go_loopw [5] (fun v wr => ∃ L xs, RowI wr w.heap.size v xs.length (ivs xs) ∧ Col pre f L xs ∧ Rg wr m w.heap.size D f L ∧ Below w.heap.size w wr) (fun _ wr => wr.rangeLeft m w.heap.size)
  case atStart => exact ⟨_, [], World.ownsRow_nil _ _ _ _, st.out, hrg0, below_of_grown hg0 (Nat.le_refl _) (fun i h => by cases h)⟩
  case round =>
    clear hrg0 hg0 hs0
    obtain ⟨L, xs, hrow, hcol, hrg, hb⟩ := hrel
    have few := hcol.len
    obtain ⟨A, c, rfl, hc1, hc2, hc3⟩ := ri_form hrow
    replace hb := Lib.hid hb
    replace hcol := Lib.hid hcol
    go_wp2_with (first
      | (at_next; refine wpList_next_led rfl _ rfl m w.heap.size D f L rfl hrg hT.out hin.out ?_ ?_)
      | go_in)
    · intro hl
      have SO := Lib.hid (sort_row wr w.heap.size _ xs hrow few)
      rw [hcol.out.sort hl] at SO
      have hln : (sel pre f 200).length = xs.length := by rw [← hcol.out.sort hl]; exact List.length_mergeSort ..
      replace hln := Lib.hid hln
      clear hrow hrg
      go_wp2_with fail
      refine SO.out.mono ?_
      rintro e w2 ⟨rfl, h2, h3⟩
      have E : Hid (RisTo w (sel pre f 200) (.returned (.slice A xs.length c)) w2) := ⟨_, rfl, by rw [hln.out]; exact h2, hb.out.trans h3⟩
      clear SO h2 h3
      go_wp2
      go_ret
      exact E.out
    · intro x s u t w1 x1 x2 hlx hf hrg1 hlt hg1 hs1 hen
      obtain ⟨W, hW⟩ : ∃ W, W = w1.alloc (.cells #[.int .i64 s, .int .i64 u, .int .i64 t, .int .i64 0, .int .i64 0] 32) := ⟨_, rfl⟩
      have gW : wr.grownBy W (some w.heap.size) := by rw [hW]; exact hg1.andThen (World.grownBy_alloc _ _ none) (fun j hj => by cases hj)
      have BW : Hid (Below w.heap.size w W) := hb.out.trans (below_of_grown gW hb.out.size (fun i h => by injection h with h; omega))
      have rW : Hid (Rg W m w.heap.size D f (fun k => L k && !decide (k = x))) := by rw [hW]; exact hrg1.keep (World.grownBy_alloc _ _ none) (by simp) (by simp)
      have oW : Hid (RowI W w.heap.size (.slice A xs.length c) xs.length (ivs xs)) := ri_same hrow fun g hg => gW.block g (by
          obtain ⟨_, cur, hc⟩ := ri_block hrow hg
          exact lt_some hc) (fun e => (hrg.not_row hrow).2 (by rw [hg, e]))
      have mW : Hid (W.rangeLeft m w.heap.size < wr.rangeLeft m w.heap.size) := by
        have e : W.rangeLeft m w.heap.size = w1.rangeLeft m w.heap.size := by
          obtain ⟨left, cnt, h, _⟩ := hrg1.at_
          rw [hW, h.left_eq, (h.alloc _).left_eq]
        rw [e]; exact hlt
      have CW := C.out W BW.out ⟨s, u, t⟩
      unfold cell at CW
      simp only at CW
      have hp : pre (f x) = pre ⟨s, u, t⟩ := by rw [hf]
      obtain ⟨b, hbe⟩ : ∃ b, b = pre ⟨s, u, t⟩ := ⟨_, rfl⟩
      rw [← hbe] at CW hp
      replace CW := Lib.hid CW
      replace hW := Lib.hid hW
      replace hp := Lib.hid hp
      replace hlx := Lib.hid hlx
      replace hrow := Lib.hid hrow
      clear hbe gW hrg1 hlt hg1 hs1 hf hrg
      go_wp2_with fail
      rw [← hW.out]
      refine CW.out.mono ?_
      rintro e w2 ⟨rfl, h2⟩
      have B2 : Hid (Below w.heap.size w w2) := BW.out.trans (h2.mono BW.out.size)
      have r2 : Hid (Rg w2 m w.heap.size D f (fun k => L k && !decide (k = x))) := by
        obtain ⟨l1, l2⟩ := rW.out.lt
        exact rW.out.keep (row := none) ⟨h2.os, h2.tape, h2.output, h2.size, fun i hi _ => h2.block i hi⟩ (by simp) (by simp)
      have o2 : Hid (RowI w2 w.heap.size (.slice A xs.length c) xs.length (ivs xs)) := ri_below oW.out h2
      have m2 : Hid (w2.rangeLeft m w.heap.size < wr.rangeLeft m w.heap.size) := by
        have e : w2.rangeLeft m w.heap.size = W.rangeLeft m w.heap.size := by
          obtain ⟨l1, l2⟩ := rW.out.lt
          unfold World.rangeLeft
          rw [h2.block _ l1, h2.block _ l2]
        rw [e]; exact mW.out
      have z2 : Hid (w.heap.size ≤ w2.heap.size) := B2.out.size
      clear h2 CW BW rW oW mW hW
      cases b with
      | false =>
        have hcol2 : Hid (Col pre f (fun k => L k && !decide (k = x)) xs) := hcol.out.skip (fun _ => rfl) hp.out
        go_wp2
        go_roundw
        case rel => exact ⟨_, xs, o2.out, hcol2.out, r2.out, B2.out⟩
        case measure => exact m2.out
      | true =>
        have hcol2 : Hid (Col pre f (fun k => L k && !decide (k = x)) (xs ++ [x])) := hcol.out.take hlx.out (fun _ => rfl) ⟨x1, x2⟩ hp.out
        go_wp2_with (at_builtin; go_loud (refine wpList_app1 w2 rfl (.tmp 18) (.tmp 20) 47 rfl w.heap.size 3 i0 (.int .i64 0) 8 Tryz.underlying47 hi.out hz0.out hz1.out hz2.out rfl _ xs.length (ivs xs) (.int .i64 x) rfl o2.out rfl rfl (by unfold maxLen; omega) (by omega) z2.out ?_); intro v6 w6 h6 g6; have G6 : Hid (w2.grownBy w6 (Value.slice A xs.length c).ownBlock) := (World.grownBy_alloc w2 (.cells #[.int .i64 x] 3) (Value.slice A xs.length c).ownBlock).trans g6; have O6 := Lib.hid h6; clear h6 g6)
        have r6 : Hid (Rg w6 m w.heap.size D f (fun k => L k && !decide (k = x))) := by
          have := r2.out.not_row o2.out
          exact r2.out.keep G6.out this.1 this.2
        have m6 : Hid (w6.rangeLeft m w.heap.size < wr.rangeLeft m w.heap.size) := by
          have e : w6.rangeLeft m w.heap.size = w2.rangeLeft m w.heap.size := by
            obtain ⟨l1, l2⟩ := r2.out.lt
            have := r2.out.not_row o2.out
            unfold World.rangeLeft
            rw [G6.out.block _ l1 this.2, G6.out.block _ l2 this.1]
          rw [e]; exact m2.out
        have B6 : Hid (Below w.heap.size w w6) := B2.out.trans (below_of_grown G6.out z2.out (fun i h => (o2.out.lt i h).1))
        go_roundw
        case rel => exact ⟨_, xs ++ [x], by rw [ivs_snoc, List.length_append]; exact O6.out, hcol2.out, r6.out, B6.out⟩
        case measure => exact m6.out
theorem rising_anyB (w : World)  (mo : Option Nat) (cap over : Int) (f : F) (h : MapIs w mo f) (O : Ok cap over f) :
    Calls Tryz.prog 45 #[.map mo, .func (.func 54) #[] #[]] w (RisTo w (sel pre f 200)) := by
  rcases h with ⟨rfl, rfl⟩ | ⟨m, D, rfl, ho, T⟩
  · have e : sel pre fz 200 = [] := List.filter_eq_nil_iff.2 fun k _ => by
      show ¬ (pre ez = true)
      simp [pre, ez]
    rw [e]
    exact rising_noneB w 
  · exact rising_someB w  m cap over f D ho T O
set_option maxHeartbeats 800000 in
theorem rising_noneS (w : World) (pn : Nat) (_now : Int) : Calls Tryz.prog 45 #[.map none, .func (.func 46) #[] #[.pointer (some ⟨pn, 0, none⟩)]] w (RisTo w []) := by
  have hrg := run_range_nilMap (P := Tryz.prog) w 64 3 32 Tryz.underlying64
  have hnx : ∀ ty, (Instr.next (.pointer (some ⟨w.heap.size, 0, none⟩)) false ty).run Tryz.prog (w.alloc (.mapIter none 0 #[] 0)) = _ := fun ty => run_next_nilMap w ty 0 0 #[]
  have HB : Hid (Below w.heap.size w (w.alloc (.mapIter none 0 #[] 0))) := (Below.refl _ _).alloc (Nat.le_refl _) _
  have SO := Lib.hid (fun w => AnyM.slices_Sort_int_none Tryz.stsort none 0 w)
  go_enter Tryz.func45, Tryz.ntmps45
  go_wp2
  refine wp_loop_rounds 1 ?_
  rw [rounds_succ]
  go_wp2_with fail
  refine (SO.out _).mono ?_
  rintro e w1 ⟨rfl, rfl⟩
  clear SO
  go_wp2
  go_ret
  exact ⟨_, rfl, World.ownsRow_nil _ _ _ _, HB.out⟩
set_option maxHeartbeats 1600000 in
theorem rising_someS (w : World) (pn : Nat) (now : Int) (m : Nat) (cap over : Int) (f : F) (D : DataW Value) (hown : w.ownsMap Tryz.prog 3 Rdv m 200 D) (T : Tie D f) (O : Ok cap over f) (hn : w.cell? ⟨pn, 0, none⟩ = some (.int .i64 now)) :
    Calls Tryz.prog 45 #[.map (some m), .func (.func 46) #[] #[.pointer (some ⟨pn, 0, none⟩)]] w (RisTo w (sel (ovr now) f 200)) := by
  have hin : Hid (∀ k, pre (f k) = true → 1 ≤ k ∧ k ≤ 200) := fun k h => pre_inn O h
  have hT := Lib.hid T
  have hO := Lib.hid O
  have hm := hown.lt
  have C : Hid (∀ w', Below w.heap.size w w' → ∀ e, Calls Tryz.prog 46 #[cell e, .pointer (some ⟨pn, 0, none⟩)] w' fun r w'' => r = .returned (.bool ((ovr now) e)) ∧ Below w'.heap.size w' w'') := fun w' hb e => cloS w' pn now e ((hb.cell (block_lt_of_cell hn)).trans hn)
  have st : Hid (Col (ovr now) f (fun k => pre (f k)) []) := Col.start (by simp [ovr, ez]) fun k hk => (O.shp k).zero (by simpa [pre] using hk)
  obtain ⟨i0, hi, hz0, hz1, hz2⟩ := info_parts int_info
  replace hi := Lib.hid hi
  replace hz0 := Lib.hid hz0
  replace hz1 := Lib.hid hz1
  replace hz2 := Lib.hid hz2
  clear T O hn
  go_enter Tryz.func45, Tryz.ntmps45
  go_wp2_with (first
    | (at_range; refine wpList_range_led rfl _ 64 rfl 32 Tryz.underlying64 f D rfl hown hT.out ?_; intro w0 hrg0 hg0 hs0)
    | go_in)
  go_frame
  go_loopw [5] (fun v wr => ∃ L xs, RowI wr w.heap.size v xs.length (ivs xs) ∧ Col (ovr now) f L xs ∧ Rg wr m w.heap.size D f L ∧ Below w.heap.size w wr) (fun _ wr => wr.rangeLeft m w.heap.size)
  case atStart => exact ⟨_, [], World.ownsRow_nil _ _ _ _, st.out, hrg0, below_of_grown hg0 (Nat.le_refl _) (fun i h => by cases h)⟩
  case round =>
    clear hrg0 hg0 hs0
    obtain ⟨L, xs, hrow, hcol, hrg, hb⟩ := hrel
    have few := hcol.len
    obtain ⟨A, c, rfl, hc1, hc2, hc3⟩ := ri_form hrow
    replace hb := Lib.hid hb
    replace hcol := Lib.hid hcol
    go_wp2_with (first
      | (at_next; refine wpList_next_led rfl _ rfl m w.heap.size D f L rfl hrg hT.out hin.out ?_ ?_)
      | go_in)
    · intro hl
      have SO := Lib.hid (sort_row wr w.heap.size _ xs hrow few)
      rw [hcol.out.sort hl] at SO
      have hln : (sel (ovr now) f 200).length = xs.length := by rw [← hcol.out.sort hl]; exact List.length_mergeSort ..
      replace hln := Lib.hid hln
      clear hrow hrg
      go_wp2_with fail
      refine SO.out.mono ?_
      rintro e w2 ⟨rfl, h2, h3⟩
      have E : Hid (RisTo w (sel (ovr now) f 200) (.returned (.slice A xs.length c)) w2) := ⟨_, rfl, by rw [hln.out]; exact h2, hb.out.trans h3⟩
      clear SO h2 h3
      go_wp2
      go_ret
      exact E.out
    · intro x s u t w1 x1 x2 hlx hf hrg1 hlt hg1 hs1 hen
      obtain ⟨W, hW⟩ : ∃ W, W = w1.alloc (.cells #[.int .i64 s, .int .i64 u, .int .i64 t, .int .i64 0, .int .i64 0] 32) := ⟨_, rfl⟩
      have gW : wr.grownBy W (some w.heap.size) := by rw [hW]; exact hg1.andThen (World.grownBy_alloc _ _ none) (fun j hj => by cases hj)
      have BW : Hid (Below w.heap.size w W) := hb.out.trans (below_of_grown gW hb.out.size (fun i h => by injection h with h; omega))
      have rW : Hid (Rg W m w.heap.size D f (fun k => L k && !decide (k = x))) := by rw [hW]; exact hrg1.keep (World.grownBy_alloc _ _ none) (by simp) (by simp)
      have oW : Hid (RowI W w.heap.size (.slice A xs.length c) xs.length (ivs xs)) := ri_same hrow fun g hg => gW.block g (by
          obtain ⟨_, cur, hc⟩ := ri_block hrow hg
          exact lt_some hc) (fun e => (hrg.not_row hrow).2 (by rw [hg, e]))
      have mW : Hid (W.rangeLeft m w.heap.size < wr.rangeLeft m w.heap.size) := by
        have e : W.rangeLeft m w.heap.size = w1.rangeLeft m w.heap.size := by
          obtain ⟨left, cnt, h, _⟩ := hrg1.at_
          rw [hW, h.left_eq, (h.alloc _).left_eq]
        rw [e]; exact hlt
      have CW := C.out W BW.out ⟨s, u, t⟩
      unfold cell at CW
      simp only at CW
      have hp : (ovr now) (f x) = (ovr now) ⟨s, u, t⟩ := by rw [hf]
      obtain ⟨b, hbe⟩ : ∃ b, b = (ovr now) ⟨s, u, t⟩ := ⟨_, rfl⟩
      rw [← hbe] at CW hp
      replace CW := Lib.hid CW
      replace hW := Lib.hid hW
      replace hp := Lib.hid hp
      replace hlx := Lib.hid hlx
      replace hrow := Lib.hid hrow
      clear hbe gW hrg1 hlt hg1 hs1 hf hrg
      go_wp2_with fail
      rw [← hW.out]
      refine CW.out.mono ?_
      rintro e w2 ⟨rfl, h2⟩
      have B2 : Hid (Below w.heap.size w w2) := BW.out.trans (h2.mono BW.out.size)
      have r2 : Hid (Rg w2 m w.heap.size D f (fun k => L k && !decide (k = x))) := by
        obtain ⟨l1, l2⟩ := rW.out.lt
        exact rW.out.keep (row := none) ⟨h2.os, h2.tape, h2.output, h2.size, fun i hi _ => h2.block i hi⟩ (by simp) (by simp)
      have o2 : Hid (RowI w2 w.heap.size (.slice A xs.length c) xs.length (ivs xs)) := ri_below oW.out h2
      have m2 : Hid (w2.rangeLeft m w.heap.size < wr.rangeLeft m w.heap.size) := by
        have e : w2.rangeLeft m w.heap.size = W.rangeLeft m w.heap.size := by
          obtain ⟨l1, l2⟩ := rW.out.lt
          unfold World.rangeLeft
          rw [h2.block _ l1, h2.block _ l2]
        rw [e]; exact mW.out
      have z2 : Hid (w.heap.size ≤ w2.heap.size) := B2.out.size
      clear h2 CW BW rW oW mW hW
      cases b with
      | false =>
        have hcol2 : Hid (Col (ovr now) f (fun k => L k && !decide (k = x)) xs) := hcol.out.skip (fun _ => rfl) hp.out
        go_wp2
        go_roundw
        case rel => exact ⟨_, xs, o2.out, hcol2.out, r2.out, B2.out⟩
        case measure => exact m2.out
      | true =>
        have hcol2 : Hid (Col (ovr now) f (fun k => L k && !decide (k = x)) (xs ++ [x])) := hcol.out.take hlx.out (fun _ => rfl) ⟨x1, x2⟩ hp.out
        go_wp2_with (at_builtin; go_loud (refine wpList_app1 w2 rfl (.tmp 18) (.tmp 20) 47 rfl w.heap.size 3 i0 (.int .i64 0) 8 Tryz.underlying47 hi.out hz0.out hz1.out hz2.out rfl _ xs.length (ivs xs) (.int .i64 x) rfl o2.out rfl rfl (by unfold maxLen; omega) (by omega) z2.out ?_); intro v6 w6 h6 g6; have G6 : Hid (w2.grownBy w6 (Value.slice A xs.length c).ownBlock) := (World.grownBy_alloc w2 (.cells #[.int .i64 x] 3) (Value.slice A xs.length c).ownBlock).trans g6; have O6 := Lib.hid h6; clear h6 g6)
        have r6 : Hid (Rg w6 m w.heap.size D f (fun k => L k && !decide (k = x))) := by
          have := r2.out.not_row o2.out
          exact r2.out.keep G6.out this.1 this.2
        have m6 : Hid (w6.rangeLeft m w.heap.size < wr.rangeLeft m w.heap.size) := by
          have e : w6.rangeLeft m w.heap.size = w2.rangeLeft m w.heap.size := by
            obtain ⟨l1, l2⟩ := r2.out.lt
            have := r2.out.not_row o2.out
            unfold World.rangeLeft
            rw [G6.out.block _ l1 this.2, G6.out.block _ l2 this.1]
          rw [e]; exact m2.out
        have B6 : Hid (Below w.heap.size w w6) := B2.out.trans (below_of_grown G6.out z2.out (fun i h => (o2.out.lt i h).1))
        go_roundw
        case rel => exact ⟨_, xs ++ [x], by rw [ivs_snoc, List.length_append]; exact O6.out, hcol2.out, r6.out, B6.out⟩
        case measure => exact m6.out
theorem rising_anyS (w : World) (pn : Nat) (now : Int) (mo : Option Nat) (cap over : Int) (f : F) (h : MapIs w mo f) (O : Ok cap over f) (hn : w.cell? ⟨pn, 0, none⟩ = some (.int .i64 now)) :
    Calls Tryz.prog 45 #[.map mo, .func (.func 46) #[] #[.pointer (some ⟨pn, 0, none⟩)]] w (RisTo w (sel (ovr now) f 200)) := by
  rcases h with ⟨rfl, rfl⟩ | ⟨m, D, rfl, ho, T⟩
  · have e : sel (ovr now) fz 200 = [] := List.filter_eq_nil_iff.2 fun k _ => by
      show ¬ ((ovr now) ez = true)
      simp [ovr, ez]
    rw [e]
    exact rising_noneS w pn now
  · exact rising_someS w pn now m cap over f D ho T O hn
end St
end Go.Proofs.YtchlbkfkecpodaaGreat
