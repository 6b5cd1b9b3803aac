/- The document's disk: Remove. -/
import Derived.Test.YtpkjeplhdnbihaaRfD
import Derived.Deep.RegionLaw
namespace Go.Proofs.Ytpkjeplhdnbihaa
open Go.RowKit
open Go.Proofs.Ytpkjeplhdnbihaa.Pk
namespace Dk

theorem file_info3 : (Try.prog.info? 65).map (fun i => (i.zero, i.size, i.bytes)) = some (some (.agg #[.string ByteArray.empty, .string ByteArray.empty, .int .i64 0]), 3, 40) := by kernel_rfl
theorem flat_one (L : St) : ∀ u ∈ flat L, u.oneCell' = true := by
  intro u hu
  obtain ⟨p, _, hp⟩ := List.mem_flatMap.1 hu
  simp only [ent, List.mem_cons, List.not_mem_nil, or_false] at hp
  rcases hp with rfl | rfl | rfl <;> rfl
theorem row_append (w : World) (base : Nat) (v : Value) (n : Nat) (X : St) (hown : w.ownsRow base 65 3 v n (flat X)) (ad : Addr) (m c : Nat) (Y : St) (hl : Y.length = m) (hnews : ∀ j u, (flat Y)[j]? = some u → w.cell? (ad.add j) = some u) (hb : n + m ≤ 1000000) (hbase : base ≤ w.heap.size) :
    ∃ A' c' w', (Builtin.append_ #[28, 28] 28 #[v, .slice (some ad) m c]).run Try.prog w = .ok (.slice A' (n + m) c') w' ∧ w'.ownsRow base 65 3 (.slice A' (n + m) c') (n + m) (flat (X ++ Y)) ∧ w.grownBy w' v.ownBlock := by
  obtain ⟨i0, hi, hz0, hz1, hz2⟩ := info_parts file_info3
  obtain ⟨v', w', h1, h2, h3, _, _⟩ := run_append_own_at (P := Try.prog) w base 28 28 65 i0 _ 3 40 Try.underlying28 hi hz0 hz1 hz2 rfl (by decide) v n (flat X) hown ad m c (flat Y) (by rw [flat_len, hl]) hnews (flat_one Y) (by unfold maxLen; omega) (by omega) hbase
  obtain ⟨A', c', rfl, _⟩ := row_form h2
  exact ⟨A', c', w', h1, by rw [flat_app]; exact h2, h3⟩
/-- A part of a row of files, as a source. -/
theorem row_part {w : World} {base g n c : Nat} {L : St} (h : w.ownsRow base 65 3 (.slice (some ⟨g, 0, none⟩) n c) n (flat L)) (a b : Nat) :
    ∀ j u, (flat ((L.drop a).take b))[j]? = some u → w.cell? ((⟨g, a * 3, none⟩ : Addr).add j) = some u := by
  intro j u hu
  have e : ∀ (M : St) (k : Nat), flat (M.drop k) = (flat M).drop (k * 3) := fun M k => by
    rcases Nat.le_total k M.length with h | h
    · have e1 : flat M = flat (M.take k) ++ flat (M.drop k) := by rw [← flat_app, List.take_append_drop]
      rw [e1, List.drop_left' (by rw [flat_len, List.length_take]; congr 1; omega)]
    · rw [List.drop_of_length_le h, List.drop_of_length_le (by rw [flat_len]; omega)]
      rfl
  have e2 : (flat L)[a * 3 + j]? = some u := by
    have h1 : (flat ((L.drop a).take b))[j]? = (flat (L.drop a))[j]? := by
      have h2 : flat (L.drop a) = flat ((L.drop a).take b) ++ flat ((L.drop a).drop b) := by rw [← flat_app, List.take_append_drop]
      rw [h2, List.getElem?_append_left (List.getElem?_eq_some_iff.1 hu).1]
    rw [h1, e, List.getElem?_drop] at hu
    exact hu
  have := h.cells (g := g) rfl (a * 3 + j) u e2
  simpa [Addr.add_lit] using this
theorem rslice_to (g n c i : Nat) (hi : i ≤ c) (W : World) : (Instr.slice 28 (.slice (some ⟨g, 0, none⟩) n c) none (some (.int .i64 (i : Int))) none).run Try.prog W = .ok (.slice (some ⟨g, 0, none⟩) i c) W := by
  rw [run_slice_h W 28 _ n c (by kernel_rfl) .i64 (i : Int) (by omega) (by omega)]
  have e : (sizeOf (Try.prog.elem 28)).run Try.prog W = .ok 3 W := by kernel_rfl
  rw [e]
  simp only [Result.andThen, sliced]
  by_cases hc : c = 0 <;> simp [hc, Addr.add]
theorem rslice_from (g n c i : Nat) (hi : i ≤ n) (hn : n ≤ c) : ∃ ad : Addr, (i < n → ad = ⟨g, i * 3, none⟩) ∧ ∀ W : World, (Instr.slice 28 (.slice (some ⟨g, 0, none⟩) n c) (some (.int .i64 (i : Int))) none none).run Try.prog W = .ok (.slice (some ad) (n - i) (c - i)) W := by
  refine ⟨if c = i then ⟨g, 0, none⟩ else (⟨g, 0, none⟩ : Addr).add (i * 3), fun h => ?_, fun W => ?_⟩
  · rw [if_neg (by omega)]
    simp [Addr.add_lit]
  · rw [run_slice_l W 28 _ n c (by kernel_rfl) .i64 (i : Int) (by omega) (by omega)]
    have e : (sizeOf (Try.prog.elem 28)).run Try.prog W = .ok 3 W := by kernel_rfl
    rw [e]
    simp only [Result.andThen, sliced, Int.toNat_natCast]
    by_cases hc : c = i <;> simp [hc]

/-- Two parts of the files, one behind the other, in a new row. -/
theorem two_parts {W : World} {q room g c i i1 : Nat} {L : St} (R : Rf W q room L (.slice (some ⟨g, 0, none⟩) L.length c)) (hi : i ≤ L.length) (hi1 : i1 ≤ L.length) (hii : i ≤ i1) (hl : L.length ≤ 1000) (ad : Addr) (had : i1 < L.length → ad = ⟨g, i1 * 3, none⟩) (cc : Nat) :
    ∃ A1 c1 w1 A2 c2 w2, (Builtin.append_ #[28, 28] 28 #[.slice (some ⟨W.heap.size, 0, none⟩) 0 0, .slice (some ⟨g, 0, none⟩) i c]).run Try.prog (W.alloc (.cells #[] 65)).drew = .ok (.slice A1 i c1) w1 ∧
      (Builtin.append_ #[28, 28] 28 #[.slice A1 i c1, .slice (some ad) (L.length - i1) cc]).run Try.prog w1 = .ok (.slice A2 (i + (L.length - i1)) c2) w2 ∧
      Below W.heap.size W w1 ∧ Below W.heap.size W w2 ∧ w2.ownsRow W.heap.size 65 3 (.slice A2 (i + (L.length - i1)) c2) (i + (L.length - i1)) (flat (L.take i ++ L.drop i1)) := by
  have b0 : Below W.heap.size W (W.alloc (.cells #[] 65)).drew := ⟨rfl, rfl, rfl, by simp, fun k hk => heap_alloc_old _ _ hk⟩
  have o0 : (W.alloc (.cells #[] 65)).drew.ownsRow W.heap.size 65 3 (.slice (some ⟨W.heap.size, 0, none⟩) 0 0) 0 (flat []) := World.ownsRow_lit W #[] 0 (Nat.le_refl _) (by unfold maxLen; omega) rfl
  obtain ⟨A1, c1, w1, r1, o1, g1⟩ := row_append _ W.heap.size _ 0 [] o0 ⟨g, 0, none⟩ i c (L.take i) (by rw [List.length_take]; omega) (fun j u hu => by
    have := row_part ((R.below b0).row) 0 i j u (by simpa using hu)
    simpa using this) (by omega) (by simp)
  have b1 : Below W.heap.size W w1 := b0.grown g1 (by simp) (fun k hk => by simp [Value.ownBlock] at hk; omega)
  obtain ⟨A2, c2, w2, r2, o2, g2⟩ := row_append w1 W.heap.size _ (0 + i) _ o1 ad (L.length - i1) cc (L.drop i1) (by rw [List.length_drop]) (fun j u hu => by
    have hlt : i1 < L.length := by
      rcases Nat.lt_or_ge i1 L.length with h | h
      · exact h
      · rw [List.drop_of_length_le h] at hu
        simp [flat] at hu
    rw [had hlt]
    exact row_part ((R.below b1).row) i1 L.length j u (by rw [List.take_of_length_le (by simp)]; exact hu)) (by omega) (Nat.le_trans (Nat.le_refl _) b1.size)
  have b2 : Below W.heap.size W w2 := b1.grown g2 b1.size (fun k hk => (row_block o1 hk).1)
  rw [Nat.zero_add] at r1 r2 o2
  exact ⟨A1, c1, w1, A2, c2, w2, r1, r2, b1, b2, by simpa using o2⟩

/-- An append whose run is known, in a region that draws. -/
theorem step_run_append {w : World} {ops : Array Oper} {o : Oper} {a : Act} {K : Act → World → Prop} {Q : Exit → Act → World → Prop} {E : Prop} {t : TypeId} (hgd : o.guard = none) (s x : Operand) (ho : o.op = .call { callee := .builtin .append, args := #[s, x], argTypes := #[t, t] }) (hty : o.type = t)
    (v0 x0 : Value) (hs : a.eval s = v0) (hx : a.eval x = x0) {v' : Value} {w' : World} (hrun : (Builtin.append_ #[t, t] t #[v0, x0]).run Try.prog w = .ok v' w') (h : K (a.put o.dst v') w') :
    if Region.wanted o (yielded ops a.tmps) = true then Oper.wp Try.prog o a w K Q else E := by
  have hw : Region.wanted o (yielded ops a.tmps) = true := by simp [Region.wanted, hgd]
  rw [if_pos hw]
  unfold Oper.wp execOp
  simp only [ho, resolve, invoke, builtin, Sem.run_bind, Sem.run_pure, Result.andThen_ok, List.map_toArray, List.map_cons, List.map_nil, hs, hx, hty, hrun]
  exact h
set_option maxHeartbeats 3200000 in
set_option maxRecDepth 20000 in
theorem rremove (w : World) (q room : Nat) (L : St) (v : Value) (s : ByteArray) (R : Rf w q room L v) (hr : Rise L) (hl : L.length ≤ 1000) :
    Calls Try.prog 20 #[.pointer (some ⟨q, 0, none⟩), .string s] w fun e w' => e = .returned (.int .i64 (sRem L (nm s)).1) ∧ RTo w q room (sRem L (nm s)).2 v w' := by
  have AT := rat w q room L v s R hr (by omega)
  unfold RatTo at AT
  unfold sRem
  cases hk : look (nm s) L with
  | none =>
    rw [hk] at AT
    replace AT := Lib.hid AT
    simp only [Option.elim]
    have RH := Lib.hid R
    clear hk hr R
    go_enter Try.func20, Try.ntmps20
    go_wp2_with fail
    refine AT.out.mono ?_
    rintro e w1 ⟨rfl, hb⟩
    simp only [Option.isSome]
    replace hb := Lib.hid hb
    clear AT
    go_wp2
    go_ret
    exact ⟨rfl, RTo.of_below RH.out hb.out⟩
  | some a =>
    rw [hk] at AT
    have hp := pos_found hr hk
    have hdel := del_some_ hr hk
    obtain ⟨i, hi⟩ : ∃ i, i = pos (nm s) L := ⟨_, rfl⟩
    rw [← hi] at hp AT hdel
    obtain ⟨g, c, rfl, h1, h2, _⟩ := R.file hp
    have hil : i < L.length := (List.getElem?_eq_some_iff.1 hp).1
    simp only [Option.elim]
    obtain ⟨n, hn⟩ : ∃ n, n = L.length := ⟨_, rfl⟩
    have TP : Hid (∀ (w1 : World), Below w.heap.size w w1 → ∀ (ad : Addr), (i + 1 < L.length → ad = ⟨g, (i + 1) * 3, none⟩) → _) := fun w1 hb ad had => two_parts (R.below hb) (i := i) (i1 := i + 1) (by omega) (by omega) (by omega) hl ad had (c - (i + 1))
    have RH := Lib.hid R
    replace AT := Lib.hid AT
    replace hdel := Lib.hid hdel
    obtain ⟨i1, hi1⟩ : ∃ z, z = i + 1 := ⟨_, rfl⟩
    obtain ⟨ad, had, hsl⟩ := rslice_from g L.length c (i + 1) (by omega) h1
    have hst := rslice_to g L.length c i (by omega)
    rw [← hi1] at TP had hsl hdel
    rw [← hn] at hst hsl hil hl h1
    have j1 : (i : Int) < (n : Int) := by omega
    have j2 : (0 : Int) ≤ (i : Int) := by omega
    have j3 : (n : Int) ≤ 1000000 := by omega
    have ew : IntKind.i64.wrap ((i : Int) + 1) = (i1 : Int) := by rw [IntKind.wrap_i64]; omega
    have hii : Hid (i1 ≤ n) := by unfold Hid; omega
    replace had := Lib.hid had
    replace hn := Lib.hid hn
    clear hk hr R hp hi hi1 hil hl h1 h2
    go_enter Try.func20, Try.ntmps20
    go_wp2_with fail
    refine AT.out.mono ?_
    rintro e w1 ⟨rfl, hb⟩
    simp only [Option.isSome]
    have R1 : Hid (Rf w1 q room L (.slice (some ⟨g, 0, none⟩) L.length c)) := RH.out.below hb
    obtain ⟨A1, c1, wa, A2, c2, wb, r1, r2, b1, b2, o2⟩ := TP.out w1 hb ad had.out
    rw [← hn.out] at r2 o2
    have d1 : w1.cell? ⟨q, 1, none⟩ = some (.slice (some ⟨g, 0, none⟩) n c) := by rw [hn.out]; exact one_at (i := 1) R1.out.cells
    have d2 : wa.cell? ⟨q, 1, none⟩ = some (.slice (some ⟨g, 0, none⟩) n c) := by rw [hn.out]; exact one_at (i := 1) (R1.out.below b1).cells
    have d3 : wb.cell? ⟨q, 1, none⟩ = some (.slice (some ⟨g, 0, none⟩) n c) := by rw [hn.out]; exact one_at (i := 1) (R1.out.below b2).cells
    have d4 : wb.frozen? ⟨q, 1, none⟩ = false := one_free (R1.out.below b2).cells
    have dq : q < w1.heap.size := lt_some R1.out.cells
    have E : Hid (RTo w q room (del (nm s) L) (.slice (some ⟨g, 0, none⟩) L.length c) (wb.setCell ⟨q, 1, none⟩ (.slice A2 (i + (n - i1)) c2))) := by
      have hc := Pk.one_set (i := 1) (R1.out.below b2).cells (.slice A2 (i + (n - i1)) c2)
      have hlen : (L.take i ++ L.drop i1).length = i + (n - i1) := by
        have := hii.out
        have := hn.out
        rw [List.length_append, List.length_take, List.length_drop]
        have := j1
        omega
      have hne : ∀ x, (Value.slice A2 (i + (n - i1)) c2).ownBlock = some x → w1.heap.size ≤ x ∧ x ≠ q := fun x hx => by
        have := (row_block o2 hx).1
        exact ⟨this, by omega⟩
      refine ⟨.slice A2 (i + (n - i1)) c2, ⟨hc, ?_⟩, fun x hx => .inr (Nat.le_trans hb.size (hne x hx).1), ?_⟩
      · rw [hdel.out, hlen]
        have h0 : wb.ownsRow 0 65 3 (.slice A2 (i + (n - i1)) c2) (i + (n - i1)) (flat (L.take i ++ L.drop i1)) := by
          refine ⟨o2.1, ?_⟩
          rcases o2.2 with h | ⟨g', cap, cur, hv, _, hh⟩
          · exact .inl h
          · exact .inr ⟨g', cap, cur, hv, Nat.zero_le _, hh⟩
        exact row_same (w := wb) h0 fun x hx => Below.heap_setCell _ _ _ _ (hne x hx).2
      · exact (Kp.of_below hb).trans' ((Kp.of_below b2).trans' (Kp.of_grown (grown_set wb q _ _) (fun x hx => .inl (by injection hx with hx; exact hx.symm))))
    clear AT RH TP hb R1 b1 b2 o2 hdel had hn hii
    go_wp2
    go_region_law (first
      | (refine step_run_append rfl (.tmp 16) (.tmp 22) rfl rfl (.slice (some ⟨w1.heap.size, 0, none⟩) 0 0) (.slice (some ⟨g, 0, none⟩) i c) rfl rfl r1 ?_)
      | (refine step_run_append rfl (.tmp 23) (.tmp 30) rfl rfl (.slice A1 i c1) (.slice (some ad) (n - i1) (c - i1)) rfl rfl r2 ?_))
    all_goals
      go_wp2
      go_ret
      exact ⟨rfl, E.out⟩
end Dk
end Go.Proofs.Ytpkjeplhdnbihaa
