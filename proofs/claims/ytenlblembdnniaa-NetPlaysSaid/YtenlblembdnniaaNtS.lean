/- The document's net: out, Take, Drop. -/
import Derived.Test.YtenlblembdnniaaNtR
import Derived.Laws.ResultCell
namespace Go.Proofs.Ytenlblembdnniaa
set_option maxRecDepth 100000
open Go.RowKit
open Go.Proofs.Ytenlblembdnniaa.Pk (Rb one_at one_free one_set lt_some grown_set grown_trans below_grown grown_refl)
namespace Nt

theorem dm_size (W : World) : (sizeOf (Try.prog.elem 28)).run Try.prog W = .ok 3 W := by kernel_rfl
theorem dslice_to (g n c i : Nat) (hi : i ≤ c) (_ : 0 < c) (W : World) : (Instr.slice 28 (.slice (some ⟨g, 0, none⟩) n c) none (some (.int .i64 (i : Int))) none).run Try.prog W = .ok (.slice (some ⟨g, 0, none⟩) i c) W := by
  rw [run_slice_h W 28 _ n c (by kernel_rfl) .i64 (i : Int) (by omega) (by omega), dm_size]
  simp only [Result.andThen, sliced]
  by_cases hc : c = 0 <;> simp [hc, Addr.add]
theorem dslice_from (g n c i : Nat) (hi : i ≤ n) : ∃ B : Addr, (∀ W : World, (Instr.slice 28 (.slice (some ⟨g, 0, none⟩) n c) (some (.int .i64 (i : Int))) none none).run Try.prog W = .ok (.slice (some B) (n - i) (c - i)) W) ∧ (i < c → B = ⟨g, i * 3, none⟩) := by
  by_cases hc : c = i
  · refine ⟨⟨g, 0, none⟩, fun W => ?_, fun h => by omega⟩
    rw [run_slice_l W 28 _ n c (by kernel_rfl) .i64 (i : Int) (by omega) (by omega), dm_size]
    simp [Result.andThen, sliced, hc]
  · refine ⟨⟨g, i * 3, none⟩, fun W => ?_, fun _ => rfl⟩
    rw [run_slice_l W 28 _ n c (by kernel_rfl) .i64 (i : Int) (by omega) (by omega), dm_size]
    simp [Result.andThen, sliced, hc, Addr.add_lit]
theorem dmz (w : World) : (Instr.build 40 #[]).run Try.prog w = .ok (.agg #[.int .i64 0, .int .i64 0, .string ByteArray.empty]) w := by kernel_rfl
theorem m_res {P : Program} {fn : Func} {p u : Tmp} {ty : TypeId} (h : fn.results = #[.cell p ty, .tmp u]) (tmps : Array Value) (w : World) (g : Nat) (t : TypeId) (cs : Array Value) (fr : Nat × Nat) (d : TypeDesc) (hp : tmps.getD p undef = .pointer (some ⟨g, 0, none⟩)) (hg : w.heap[g]? = some (.cells cs t fr))
    (hu : P.underlying ty = some d) (hd : (match d with | .struct _ | .array _ _ => true | _ => false) = true) (hi : (P.info? ty).map (·.size) = some cs.size) :
    (results fn tmps).run P w = .ok (.tuple #[.agg cs, tmps.getD u undef]) w := by
  rw [results_cell_tmp h, hp]
  simp [asAddr, run_loadVar_row w g t ty cs fr d hg hu hd hi]
theorem out_res : Try.f28.results = #[.cell 4 40, .tmp 5] := by kernel_rfl
theorem tak_res : Try.f12.results = #[.cell 4 40, .tmp 5] := by kernel_rfl
theorem dm_info : (Try.prog.info? 40).map (·.size) = some 3 := by kernel_rfl
/-- The cells of a message's box. -/
def bxc (m : Ms) : Array Value := #[.int .i64 m.fr, .int .i64 m.to_, .string (str m.tx)]
section
variable {w w' W W' : World} {d most q : Nat} {us ds : List Bool} {L L' : List Ms} {v : Value} {m : Ms}
/-- A call of the document's under way: the box of its result at q. -/
structure Dt (w : World) (d most : Nat) (us ds : List Bool) (L : List Ms) (v : Value) (q : Nat) (m : Ms) (W : World) : Prop where
  dn : ∃ v', Dn W d most us ds L v' ∧ v'.ownBlock ≠ some q ∧ ∀ g, v'.ownBlock = some g → v.ownBlock = some g ∨ w.heap.size ≤ g
  bx : W.heap[q]? = some (.cells (bxc m) 40 (0, 0))
  ge : w.heap.size ≤ q
  kq : Kq (din d v) w W
  old : ∀ g, din d v g → g < w.heap.size
theorem Dt.start (D : Dn w d most us ds L v) : Dt w d most us ds L v w.heap.size m0 (w.alloc (.cells #[.int .i64 0, .int .i64 0, .string ByteArray.empty] 40)) := by
  have hb : Below w.heap.size w (w.alloc (.cells #[.int .i64 0, .int .i64 0, .string ByteArray.empty] 40)) := (Below.refl _ _).alloc (Nat.le_refl _) _
  exact ⟨⟨v, D.below hb, fun e => by have := D.lt _ (.inr e); omega, fun _ h => .inl h⟩, heap_alloc_new _ _, Nat.le_refl _, .of_below hb, D.lt⟩
theorem Dt.below (T : Dt w d most us ds L v q m W) (hb : Below W.heap.size W W') : Dt w d most us ds L v q m W' := by
  obtain ⟨v', D, h1, h2⟩ := T.dn
  exact ⟨⟨v', D.below hb, h1, h2⟩, (hb.block q (lt_some T.bx)).trans T.bx, T.ge, T.kq.trans' (.of_below hb), T.old⟩
theorem Dt.cells (T : Dt w d most us ds L v q m W) : W.cell? ⟨q, 0, none⟩ = some (.int .i64 m.fr) ∧ W.cell? ⟨q, 1, none⟩ = some (.int .i64 m.to_) ∧ W.cell? ⟨q, 2, none⟩ = some (.string (str m.tx)) ∧ W.frozen? ⟨q, 0, none⟩ = false ∧ W.frozen? ⟨q, 1, none⟩ = false ∧ W.frozen? ⟨q, 2, none⟩ = false :=
  ⟨one_at (i := 0) T.bx, one_at (i := 1) T.bx, one_at (i := 2) T.bx, one_free T.bx, one_free T.bx, one_free T.bx⟩
theorem Dt.set (T : Dt w d most us ds L v q m W) (m' : Ms) : Dt w d most us ds L v q m' (((W.setCell ⟨q, 0, none⟩ (.int .i64 m'.fr)).setCell ⟨q, 1, none⟩ (.int .i64 m'.to_)).setCell ⟨q, 2, none⟩ (.string (str m'.tx))) := by
  obtain ⟨v', D, h1, h2⟩ := T.dn
  have G : W.grownBy (((W.setCell ⟨q, 0, none⟩ (.int .i64 m'.fr)).setCell ⟨q, 1, none⟩ (.int .i64 m'.to_)).setCell ⟨q, 2, none⟩ (.string (str m'.tx))) (some q) := grown_trans (grown_set _ _ _ _) (grown_trans (grown_set _ _ _ _) (grown_set _ _ _ _))
  have hqd : q ≠ d := fun e => by have := T.old d (.inl rfl); have := T.ge; omega
  exact ⟨⟨v', D.keep fun g hg => G.block g (D.lt g hg) (fun e => by
    injection e with e
    rcases hg with hg | hg
    · exact hqd (by rw [← hg, e])
    · exact h1 (by rw [hg, e])), h1, h2⟩, one_set (one_set (one_set T.bx (.int .i64 m'.fr)) (.int .i64 m'.to_)) (.string (str m'.tx)), T.ge, T.kq.trans (.of_grown (S := fun g => g = q) G fun g hg => by injection hg with hg; exact hg.symm) (fun g hg => .inr (by rw [hg]; exact T.ge)), T.old⟩
/-- A call beneath it. -/
theorem Dt.call {v1 : Value} (T : Dt w d most us ds L v q m W) (h1 : v1.ownBlock ≠ some q) (h2 : ∀ g, v1.ownBlock = some g → v.ownBlock = some g ∨ w.heap.size ≤ g) (C : DnTo W d most us ds L' v1 W') : Dt w d most us ds L' v q m W' := by
  obtain ⟨v', D, K, hn⟩ := C
  have hq := lt_some T.bx
  have hqd : q ≠ d := fun e => by have := T.old d (.inl rfl); have := T.ge; omega
  refine ⟨⟨v', D, fun e => ?_, fun g hg => ?_⟩, (K.block q hq (fun e => ?_)).trans T.bx, T.ge, T.kq.trans K fun g hg => ?_, T.old⟩
  · rcases hn q e with h | h
    · exact h1 h
    · omega
  · rcases hn g hg with h | h
    · exact h2 g h
    · exact .inr (Nat.le_trans T.kq.size h)
  · rcases e with e | e
    · exact hqd e
    · exact h1 e
  · rcases hg with hg | hg
    · exact .inl (.inl hg)
    · rcases h2 g hg with h | h
      · exact .inl (.inr h)
      · exact .inr h
theorem Dt.to (T : Dt w d most us ds L v q m W) : DnTo w d most us ds L v W := by
  obtain ⟨v', D, _, h2⟩ := T.dn
  exact ⟨v', D, T.kq, h2⟩
/-- Two parts of the line, one behind the other, in a new row. -/
theorem out_parts {g c j n : Nat} (D : Dn W d most us ds L (.slice (some ⟨g, 0, none⟩) L.length c)) (hn : n = L.length) (hj : j < n) (hl : n ≤ 4096) {B : Addr} (hB : j + 1 < c → B = ⟨g, (j + 1) * 3, none⟩) (cc : Nat) :
    ∃ A1 c1 w1 A2 c2 w2, (Builtin.append_ #[28, 28] 28 #[.slice (some ⟨W.heap.size, 0, none⟩) 0 0, .slice (some ⟨g, 0, none⟩) j c]).run Try.prog (W.alloc (.cells #[] 40)).drew = .ok (.slice A1 j c1) w1 ∧
      (Builtin.append_ #[28, 28] 28 #[.slice A1 j c1, .slice (some B) (n - (j + 1)) cc]).run Try.prog w1 = .ok (.slice A2 (j + (n - (j + 1))) c2) w2 ∧
      Below W.heap.size W w1 ∧ Below W.heap.size W w2 ∧ RowE w2 W.heap.size 40 (.slice A2 (j + (n - (j + 1))) c2) (j + (n - (j + 1))) (del L j) := by
  subst hn
  have b0 : Below W.heap.size W (W.alloc (.cells #[] 40)).drew := ⟨rfl, rfl, rfl, by simp, fun k hk => heap_alloc_old _ _ hk⟩
  have o0 : RowE (W.alloc (.cells #[] 40)).drew W.heap.size 40 (.slice (some ⟨W.heap.size, 0, none⟩) 0 0) 0 [] := World.ownsRow_lit W #[] 0 (Nat.le_refl _) (by unfold maxLen; omega) rfl
  have src : ∀ w', Below W.heap.size W w' → ∀ i u, (fm L)[i]? = some u → w'.cell? ⟨g, i, none⟩ = some u := fun w' hb i u hu => by
    have := (D.below hb).row.cells (g := g) rfl i u hu
    rwa [Addr.add_lit, Nat.zero_add] at this
  have hc : L.length ≤ c := by
    obtain ⟨A, c', hv, h1, _⟩ := re_form D.row
    injection hv with _ _ hv
    subst hv; exact h1
  obtain ⟨A1, c1, w1, r1, o1, g1, h1⟩ := row_append dms_append dmsg_info _ W.heap.size _ 0 [] o0 ⟨g, 0, none⟩ j c (L.take j) (by rw [List.length_take]; omega) (fun i u hu => by
    rw [Addr.add_lit, Nat.zero_add]
    refine src _ b0 i u ?_
    have h2 := (List.getElem?_eq_some_iff.1 hu).1
    rw [fm_split L j, List.getElem?_append_left h2]
    exact hu) (by omega) b0.size
  rw [Nat.zero_add] at r1 o1 h1
  have b1 : Below W.heap.size W w1 := b0.grown g1 b0.size (fun k hk => by simp [Value.ownBlock] at hk; omega)
  obtain ⟨A2, c2, w2, r2, o2, g2, _⟩ := row_append dms_append dmsg_info w1 W.heap.size _ j _ o1 B (L.length - (j + 1)) cc (L.drop (j + 1)) (by rw [List.length_drop]) (fun i u hu => by
    have hlt : j + 1 < L.length := by
      rcases Nat.lt_or_ge (j + 1) L.length with h' | h'
      · exact h'
      · rw [List.drop_of_length_le h'] at hu
        simp [fm] at hu
    rw [hB (by omega), Addr.add_lit]
    refine src _ b1 _ u ?_
    rw [fm_drop, List.getElem?_drop] at hu
    exact hu) (by omega) b1.size
  exact ⟨A1, c1, w1, A2, c2, w2, r1, r2, b1, b1.grown g2 b1.size (fun k hk => (re_block o1 hk).1), by simpa [del] using o2⟩
end
end Nt
end Go.Proofs.Ytenlblembdnniaa
