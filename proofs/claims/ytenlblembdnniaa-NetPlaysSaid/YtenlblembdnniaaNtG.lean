/- slices.Delete of one message; remove, Drop of a net. -/
import Derived.Test.YtenlblembdnniaaNtF
namespace Go.Proofs.Ytenlblembdnniaa
set_option maxRecDepth 100000
open Go.RowKit
open Go.Proofs.Ytenlblembdnniaa.Pk (Rb one_at one_free one_set lt_some grown_set grown_trans below_grown grown_refl)
namespace Nt

theorem ms_size (W : World) : (sizeOf (Try.prog.elem 56)).run Try.prog W = .ok 3 W := by kernel_rfl
theorem ms_elem : Try.prog.underlying 56 = some (.slice (Try.prog.elem 56)) := by kernel_rfl
theorem slice_to (g n c i : Nat) (hi : i ≤ c) (_ : 0 < c) (W : World) : (Instr.slice 56 (.slice (some ⟨g, 0, none⟩) n c) none (some (.int .i64 (i : Int))) none).run Try.prog W = .ok (.slice (some ⟨g, 0, none⟩) i c) W := by
  rw [run_slice_h W 56 _ n c (by kernel_rfl) .i64 (i : Int) (by omega) (by omega), ms_size]
  simp only [Result.andThen, sliced]
  by_cases hc : c = 0 <;> simp [hc, Addr.add]
theorem slice_from (g n c i : Nat) (hi : i ≤ n) : ∃ B : Addr, (∀ W : World, (Instr.slice 56 (.slice (some ⟨g, 0, none⟩) n c) (some (.int .i64 (i : Int))) none none).run Try.prog W = .ok (.slice (some B) (n - i) (c - i)) W) ∧ (i < c → B = ⟨g, i * 3, none⟩) := by
  by_cases hc : c = i
  · refine ⟨⟨g, 0, none⟩, fun W => ?_, fun h => by omega⟩
    rw [run_slice_l W 56 _ n c (by kernel_rfl) .i64 (i : Int) (by omega) (by omega), ms_size]
    simp [Result.andThen, sliced, hc]
  · refine ⟨⟨g, i * 3, none⟩, fun W => ?_, fun _ => rfl⟩
    rw [run_slice_l W 56 _ n c (by kernel_rfl) .i64 (i : Int) (by omega) (by omega), ms_size]
    simp [Result.andThen, sliced, hc, Addr.add_lit]
theorem slice_last (g p c : Nat) (hc : p < c) (W : World) : (Instr.slice 56 (.slice (some ⟨g, 0, none⟩) p c) (some (.int .i64 (p : Int))) (some (.int .i64 ((p + 1 : Nat) : Int))) none).run Try.prog W = .ok (.slice (some ⟨g, p * 3, none⟩) 1 (c - p)) W := by
  rw [run_slice_lh W 56 _ p c (by kernel_rfl) .i64 .i64 (p : Int) ((p + 1 : Nat) : Int) (by omega) (by omega) (by omega), ms_size]
  have hne : ¬ c = p := by omega
  simp [Result.andThen, sliced, hne, Addr.add_lit]
def z3 : List Value := [.int .i64 0, .int .i64 0, .string ByteArray.empty]
theorem clear_1 (w : World) (ty : TypeId) (g o c : Nat) (h : ∀ j, j < 3 → (w.cell? ⟨g, o + j, none⟩).isSome = true) (hf : ∀ k, w.frozen? ⟨g, k, none⟩ = false) :
    (Builtin.clear_ #[56] ty #[.slice (some ⟨g, o, none⟩) 1 c]).run Try.prog w = .ok (.tuple #[]) (w.setCells g o z3) := by
  have hst := run_storeCells_cells (P := Try.prog) g o z3 0 w (by
      intro j hj
      rw [Nat.add_zero]
      exact h j (by simpa [z3] using hj)) (by intro j _; exact hf _) (by intro v hv; simp [z3] at hv; rcases hv with rfl | rfl <;> rfl)
  simp only [Nat.add_zero] at hst
  have hz : (Builtin.zeroCells (Value.agg #[.int .i64 0, .int .i64 0, .string ⟨#[]⟩]).cells 1).toList = z3 := by kernel_rfl
  simp [Builtin.clear_, run_underlying Try.underlying56, hz, hst]
theorem clear_is (w : World) (g o : Nat) : w.setCells g o z3 = ((w.setCell ⟨g, o, none⟩ (.int .i64 0)).setCell ⟨g, o + 1, none⟩ (.int .i64 0)).setCell ⟨g, o + 2, none⟩ (.string ByteArray.empty) := by
  simp [World.setCells, z3, Nat.add_assoc]

section
variable {w w' : World} {base g c n : Nat} {l : List Ms} {e : TypeId}
theorem re_take (h : RowE w base e (.slice (some ⟨g, 0, none⟩) n c) n l) {k : Nat} (hk : k ≤ n) : RowE w base e (.slice (some ⟨g, 0, none⟩) k c) k (l.take k) := by
  have hl := re_len h
  obtain ⟨h0, h2⟩ := h
  rcases h2 with ⟨h1, _⟩ | ⟨g', cap, cur, hv, hb, hh, h3, h4, h5, h6⟩
  · cases h1
  · injection hv with hv _ hc
    injection hv with hv
    injection hv with hv
    subst hv; subst hc
    refine ⟨by rw [fm_len, List.length_take]; congr 1; omega, .inr ⟨g, c, cur, rfl, hb, hh, by omega, h4, h5, ?_⟩⟩
    have e1 : (cur.toList.take (n * 3)).take (k * 3) = (fm l).take (k * 3) := by rw [h6]
    rw [List.take_take, Nat.min_eq_left (by omega)] at e1
    rw [e1, fm_split l k, List.take_left' (by rw [fm_len, List.length_take]; congr 1; omega)]
theorem re_room (h : RowE w base e (.slice (some ⟨g, 0, none⟩) n c) n l) {j : Nat} (hj : j < c * 3) : (w.cell? ⟨g, j, none⟩).isSome = true := by
  rcases h.2 with ⟨h1, _⟩ | ⟨g', cap, cur, hv, hb, hh, h3, h4, h5, h6⟩
  · cases h1
  · injection hv with hv _ hc
    injection hv with hv
    injection hv with hv
    subst hv; subst hc
    rw [one_at hh, Array.getElem?_eq_getElem (by omega)]
    rfl
theorem re_beyond (h : RowE w base e (.slice (some ⟨g, 0, none⟩) n c) n l) {j : Nat} (hj : n * 3 ≤ j) (u : Value) : RowE (w.setCell ⟨g, j, none⟩ u) base e (.slice (some ⟨g, 0, none⟩) n c) n l ∧ w.grownBy (w.setCell ⟨g, j, none⟩ u) (some g) := by
  have := h.stored j u
  rw [List.set_eq_of_length_le (by rw [fm_len, re_len h]; exact hj)] at this
  exact this
/-- The place k struck: what it leaves, ahead of the walk. -/
theorem cut_out (h : RowE w base e (.slice (some ⟨g, 0, none⟩) n c) n l) {t : TypeId} (ht : Try.prog.underlying t = some (.slice e)) (hi : (Try.prog.info? e).map (fun i => (i.zero, i.size, i.bytes)) = some (some (am m0), 3, 32)) {k p : Nat} (hk : k < n) (hp : n = p + 1) {B : Addr} (hB : k + 1 < c → B = ⟨g, (k + 1) * 3, none⟩) (cc : Nat) :
    ∃ W, (Builtin.append_ #[t, t] t #[.slice (some ⟨g, 0, none⟩) k c, .slice (some B) (n - (k + 1)) cc]).run Try.prog w = .ok (.slice (some ⟨g, 0, none⟩) p c) W ∧ RowE W base e (.slice (some ⟨g, 0, none⟩) p c) p (del l k) ∧ w.grownBy W (some g) := by
  have hl := re_len h
  have hc : n ≤ c := by
    obtain ⟨A, c', hv, h1, _⟩ := re_form h
    injection hv with _ _ hv
    subst hv; exact h1
  obtain ⟨i0, hi0, _, hz1, _⟩ := info_parts hi
  obtain ⟨W, r, R, G⟩ := run_append_fits (P := Try.prog) (w := w) base t t e i0 3 ht hi0 hz1 g k c _ (re_take h (Nat.le_of_lt hk)) B (n - (k + 1)) cc (fm (l.drop (k + 1))) (by rw [fm_len, List.length_drop]; congr 1; omega) (fun j u hu => by
      have hlt : k + 1 < n := by
        rcases Nat.lt_or_ge (k + 1) n with h' | h'
        · exact h'
        · rw [List.drop_of_length_le (by omega)] at hu
          simp [fm] at hu
      rw [hB (by omega), Addr.add_lit]
      rw [fm_drop, List.getElem?_drop] at hu
      have hlt2 := (List.getElem?_eq_some_iff.1 hu).1
      rw [fm_len, hl] at hlt2
      exact (h.cellAt _ hlt2).trans hu) (fm_one _) (by omega)
  have e1 : k + (n - (k + 1)) = p := by omega
  rw [e1] at r R
  rw [← fm_app] at R
  exact ⟨W, r, R, G⟩
end
set_option maxHeartbeats 3200000 in
theorem delete_any (w : World) (g n c k p : Nat) (l : List Ms) (R : RowE w 0 61 (.slice (some ⟨g, 0, none⟩) n c) n l) (hk : k < n) (hp : n = p + 1) (k1 : Nat) (hk1 : k1 = k + 1) :
    Calls Try.prog 30 #[.slice (some ⟨g, 0, none⟩) n c, .int .i64 (k : Int), .int .i64 (k1 : Int)] w fun e w' => e = .returned (.slice (some ⟨g, 0, none⟩) p c) ∧ RowE w' 0 61 (.slice (some ⟨g, 0, none⟩) p c) p (del l k) ∧ w.grownBy w' (some g) := by
  obtain ⟨hnc, hcm⟩ : n ≤ c ∧ c ≤ 9223372036854775807 := by
    obtain ⟨_, c', hv, hnc, hcm, _⟩ := re_form R
    injection hv with _ _ hv
    subst hv
    exact ⟨hnc, hcm⟩
  have i1 : k ≤ k1 := by omega
  have i2 : k1 ≤ n := by omega
  have i3 : ¬ n = k := by omega
  have s2 := slice_to g n c k (by omega) (by omega)
  obtain ⟨B, s3, hB⟩ := slice_from g n c k1 (by omega)
  rw [hk1] at hB
  obtain ⟨W2, r, R2, G2⟩ := cut_out (w := w.drew) R ms_append msg_info hk hp hB (c - k1)
  have s4 := slice_last g p c (by omega)
  rw [← hp] at s4
  have hkk : ((k : Int) == (k1 : Int)) = false := by simp; omega
  rw [← hk1] at r
  have hcl : ∀ ty, (Builtin.clear_ #[56] ty #[.slice (some ⟨g, p * 3, none⟩) 1 (c - p)]).run Try.prog W2 = .ok (.tuple #[]) (W2.setCells g (p * 3) z3) := fun ty =>
    clear_1 W2 ty g (p * 3) (c - p) (fun j hj => re_room R2 (by omega)) (fun k => R2.frozenAt k)
  obtain ⟨W3, hW3⟩ : ∃ z, z = W2.setCells g (p * 3) z3 := ⟨_, rfl⟩
  have E : Hid (RowE W3 0 61 (.slice (some ⟨g, 0, none⟩) p c) p (del l k) ∧ w.grownBy W3 (some g)) := by
    rw [hW3, clear_is]
    obtain ⟨a1, a2⟩ := re_beyond R2 (j := p * 3) (Nat.le_refl _) (.int .i64 0)
    obtain ⟨b1, b2⟩ := re_beyond a1 (j := p * 3 + 1) (by omega) (.int .i64 0)
    obtain ⟨d1, d2⟩ := re_beyond b1 (j := p * 3 + 2) (by omega) (.string ByteArray.empty)
    have G0 : w.grownBy W2 (some g) := ⟨G2.os, G2.tape, G2.output, G2.size, G2.block⟩
    exact ⟨d1, grown_trans G0 (grown_trans a2 (grown_trans b2 d2))⟩
  rw [← hW3] at hcl
  clear R R2 G2 hB hW3 hk hp hk1
  go_enter Try.func30, Try.ntmps30
  go_upto_region 5 with fail
  go_region_law (refine step_run_app rfl (.tmp 22) (.tmp 25) rfl rfl (.slice (some ⟨g, 0, none⟩) k c) (.slice (some B) (n - k1) (c - k1)) rfl rfl r ?_)
  all_goals
    go_wp2
    go_ret
    exact ⟨rfl, E.out⟩
section
variable {w : World} {q bi most : Nat} {us : List Bool} {L : List Ms} {fp : Nat → Prop} {cs : List (Option Nat)} {v : Value}
theorem del_mem {l : List Ms} {k : Nat} {m : Ms} (h : m ∈ del l k) : m ∈ l := by
  rcases List.mem_append.1 h with h | h
  · exact List.mem_of_mem_take h
  · exact List.mem_of_mem_drop h
/-- What remove leaves. -/
structure RmTo (w : World) (q bi most : Nat) (cs : List (Option Nat)) (v : Value) (L : List Ms) (j : Nat) (w' : World) : Prop where
  no : ∃ v', No w' q bi most cs v' (del L j) ∧ v'.ownBlock = v.ownBlock
  kq : Kq (nin q bi cs v) w w'
set_option maxHeartbeats 1600000 in
theorem remove_any (O : No w q bi most cs v L) (j : Nat) (hj : j < L.length) :
    Calls Try.prog 25 #[.pointer (some ⟨q, 0, none⟩), .int .i64 (j : Int)] w fun e w' => e = .returned (.tuple #[]) ∧ RmTo w q bi most cs v L j w' := by
  obtain ⟨g, c, rfl, hc, hm⟩ := re_some O.row (by omega)
  obtain ⟨n, hn⟩ : ∃ z, z = L.length := ⟨_, rfl⟩
  have c2 : w.cell? ⟨q, 2, none⟩ = some (.slice (some ⟨g, 0, none⟩) L.length c) := one_at (i := 2) O.cells
  have R := O.row
  rw [← hn] at c2 R hj
  obtain ⟨p, hp⟩ : ∃ p, n = p + 1 := ⟨n - 1, by omega⟩
  obtain ⟨j1, hj1⟩ : ∃ z, z = j + 1 := ⟨_, rfl⟩
  have top := O.top
  have few := O.few
  have ew : IntKind.i64.wrap ((j : Int) + 1) = (j1 : Int) := by rw [IntKind.wrap_i64]; omega
  have D := Lib.hid (delete_any w g n c j p L R hj hp j1 hj1)
  have ST : Hid (∀ w1, RowE w1 0 61 (.slice (some ⟨g, 0, none⟩) p c) p (del L j) → w.grownBy w1 (some g) → w1.cell? ⟨q, 2, none⟩ = some (.slice (some ⟨g, 0, none⟩) n c) ∧ w1.frozen? ⟨q, 2, none⟩ = false ∧ RmTo w q bi most cs (.slice (some ⟨g, 0, none⟩) L.length c) L j (w1.setCell ⟨q, 2, none⟩ (.slice (some ⟨g, 0, none⟩) p c))) := fun w1 R1 G1 => by
    have hd : (del L j).length = p := by have := del_len (l := L) (k := j) (by omega); omega
    have hq1 : w1.heap[q]? = some (.cells #[.int .i64 most, .slice (some ⟨bi, 0, none⟩) cs.length cs.length, .slice (some ⟨g, 0, none⟩) L.length c] 58 (0, 0)) := (G1.block q (lt_some O.cells) (fun e => O.row_ne.1 e.symm)).trans O.cells
    have G := grown_set w1 q 2 (.slice (some ⟨g, 0, none⟩) p c)
    have k8 : ∀ x, x ≠ q → x < w1.heap.size → (w1.setCell ⟨q, 2, none⟩ (.slice (some ⟨g, 0, none⟩) p c)).heap[x]? = w1.heap[x]? := fun x hn hl => G.block x hl (fun e => hn (by injection e))
    have k7 : ∀ x, x < w.heap.size → x ≠ g → w1.heap[x]? = w.heap[x]? := fun x hl hn => G1.block x hl (fun e => hn (by injection e))
    have hbg : bi ≠ g := fun e => O.row_ne.2.1 (by rw [e]; rfl)
    have hqg : q ≠ g := fun e => O.row_ne.1 (by rw [e]; rfl)
    refine ⟨by rw [hn]; exact one_at (i := 2) hq1, one_free hq1, ⟨_, ⟨one_set hq1 (.slice (some ⟨g, 0, none⟩) p c), ?_, fun x hc => ?_, ?_, by omega, O.top, O.wide, fun m hm => O.wf m (del_mem hm)⟩, rfl⟩, (Kq.of_grown G1 fun x h => ?_).trans' (.of_grown G fun x h => ?_)⟩
    · exact (k8 bi (fun e => O.q_ne.1 e.symm) (Nat.lt_of_lt_of_le (lt_some O.box) G1.size)).trans ((k7 bi (lt_some O.box) hbg).trans O.box)
    · obtain ⟨s, r, h⟩ := O.inb x hc
      exact ⟨s, r, (k8 x (fun e => O.q_ne.2.1 (by rw [← e]; exact hc)) (Nat.lt_of_lt_of_le (lt_some h) G1.size)).trans ((k7 x (lt_some h) (fun e => O.row_ne.2.2 x hc (by rw [e]; rfl))).trans h)⟩
    · rw [hd]
      refine re_same R1 fun x h => ?_
      have e : x = g := by simpa [Value.ownBlock] using h.symm
      subst e
      exact k8 x (fun e => hqg e.symm) (lt_some (re_block R1 rfl).2.choose_spec)
    · exact .inr (.inr (.inr h))
    · injection h with h
      exact .inl h.symm
  rw [← hn] at ST ⊢
  clear O R hj hp hj1 top few hn
  go_enter Try.func25, Try.ntmps25
  go_wp2_with fail
  refine D.out.mono ?_
  rintro e w1 ⟨rfl, R1, G1⟩
  obtain ⟨d2, f2, E⟩ := ST.out w1 R1 G1
  replace E := Lib.hid E
  clear R1 G1 D ST c2
  go_wp2
  go_end0
  exact ⟨rfl, E.out⟩
end
end Nt
end Go.Proofs.Ytenlblembdnniaa
