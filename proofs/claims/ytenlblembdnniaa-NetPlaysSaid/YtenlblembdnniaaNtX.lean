/- For NetPlays: the bytes that are sent, and turned behind that. -/
import Derived.Test.YtenlblembdnniaaNtW
namespace Go.Proofs.Ytenlblembdnniaa
set_option maxRecDepth 100000
open Go.RowKit
open Go.Proofs.Ytenlblembdnniaa.Pk (Rb adr_block one_at one_free one_set lt_some grown_set u8s u8s_len u8s_one)
namespace Nt

theorem u8_info : (Try.prog.info? 5).map (fun i => (i.zero, i.size, i.bytes)) = some (some (.int .u8 0), 1, 1) := by kernel_rfl
/-- A row of bytes of the call's own. -/
abbrev RowB (w : World) (base : Nat) (v : Value) (n : Nat) (xs : List Value) : Prop := w.ownsRow base 5 1 v n xs
section
variable {w w' : World} {v : Value} {n base : Nat} {xs : List Value}
theorem rb_form (h : RowB w base v n xs) : ∃ A c, v = .slice A n c ∧ n ≤ c ∧ c ≤ 9223372036854775807 ∧ (A = none → c = 0) := by
  rcases h.2 with ⟨rfl, rfl⟩ | ⟨g, cap, cur, rfl, hb, hh, h1, h2, _⟩
  · exact ⟨_, _, rfl, Nat.le_refl _, by omega, fun _ => rfl⟩
  · unfold maxLen at h2
    exact ⟨_, _, rfl, h1, h2, fun h => by cases h⟩
theorem rb_block {g : Nat} (h : RowB w base v n xs) (hg : v.ownBlock = some g) : base ≤ g ∧ g < w.heap.size := by
  rcases h.2 with ⟨rfl, _⟩ | ⟨g', cap, cur, rfl, hb, hh, _⟩
  · simp [Value.ownBlock] at hg
  · have : g' = g := by simpa [Value.ownBlock] using hg
    subst this
    exact ⟨hb, lt_some hh⟩
theorem rb_same (h : RowB w base v n xs) (hk : ∀ g, v.ownBlock = some g → w'.heap[g]? = w.heap[g]?) : RowB w' base v n xs := by
  refine ⟨h.1, ?_⟩
  rcases h.2 with h0 | ⟨g, cap, cur, hv, hb, hh, h2⟩
  · exact .inl h0
  · exact .inr ⟨g, cap, cur, hv, hb, (hk g (by rw [hv]; rfl)).trans hh, h2⟩
end
/-- A copy of bytes. -/
theorem b_copy (W : World) {T : Nat → Prop} {A : Option Addr} {m c : Nat} {bs : List UInt8} (R : Rb W T A m bs) (hT : ∀ g, T g → g < W.heap.size) (hn : A = none → c = 0) (hc : m ≤ c) (hm : m ≤ 1000) :
    ∃ A' c' W', (Builtin.append_ #[32, 32] 32 #[.slice (some ⟨W.heap.size, 0, none⟩) 0 0, .slice A m c]).run Try.prog (W.alloc (.cells #[] 5)) = .ok (.slice A' m c') W' ∧ RowB W' W.heap.size (.slice A' m c') m (u8s bs) ∧ Below W.heap.size W W' := by
  have o0 : RowB (W.alloc (.cells #[] 5)) W.heap.size (.slice (some ⟨W.heap.size, 0, none⟩) 0 0) 0 [] := World.ownsRow_lit W #[] 0 (Nat.le_refl _) (by unfold maxLen; omega) rfl
  have b0 : Below W.heap.size W (W.alloc (.cells #[] 5)) := (Below.refl _ _).alloc (Nat.le_refl _) _
  obtain ⟨i0, hi, hz0, hz1, hz2⟩ := info_parts u8_info
  have R0 := R.keep (w' := W.alloc (.cells #[] 5)) (T' := T) (fun g hg => b0.block g (hT g hg)) (fun _ h => h)
  cases A with
  | none =>
    obtain rfl : c = 0 := hn rfl
    obtain rfl : m = 0 := by omega
    have hbs : bs = [] := List.eq_nil_of_length_eq_zero R.len
    subst hbs
    have := run_append_owned_none (P := Try.prog) (W.alloc (.cells #[] 5)) W.heap.size 32 32 5 i0 1 Try.underlying32 hi _ 0 [] o0
    exact ⟨_, _, _, this, o0, b0⟩
  | some ad =>
    obtain ⟨v', w', h1, h2, h3, _⟩ := run_append_own_at (P := Try.prog) (w := W.alloc (.cells #[] 5)) W.heap.size 32 32 5 i0 _ 1 1 Try.underlying32 hi hz0 hz1 hz2 rfl (by decide) _ 0 [] o0 ad m c (u8s bs) (by rw [u8s_len, R.len]; omega) (fun j u hu => by
      have hj : j < m := by
        have := (List.getElem?_eq_some_iff.1 hu).1
        rw [u8s_len, R.len] at this
        exact this
      obtain ⟨a', e, _, hcell⟩ := R0.at_ (by omega)
      injection e with e
      subst e
      unfold u8s at hu
      rw [List.getElem?_map] at hu
      obtain ⟨x, hx, rfl⟩ := Option.map_eq_some_iff.1 hu
      exact hcell j x hx) (u8s_one bs) (by unfold maxLen; omega) (by omega) b0.size
    rw [Nat.zero_add, List.nil_append] at h2
    obtain ⟨A', c', rfl, _⟩ := rb_form h2
    exact ⟨A', c', w', h1, h2, b0.grown h3 b0.size (fun k hk => by simp [Value.ownBlock] at hk; omega)⟩
/-- The two nets, and the bytes that are sent, in a row of the call's own. -/
structure Mb (B : World) (q d ob most : Nat) (o : Stp) (us : List Bool) (L1 L2 : List Ms) (base : Nat) (v : Value) (n : Nat) (xs : List Value) (W : World) : Prop where
  mn : Mn B q d ob most o us us L1 L2 (fun g => v.ownBlock = some g) W
  row : RowB W base v n xs
  ob_ : ob < base
  B_ : B.heap.size ≤ base
section
variable {B W W' : World} {q d ob most base n : Nat} {o : Stp} {us : List Bool} {L1 L2 : List Ms} {v : Value} {xs : List Value}
theorem Mb.start {A : Option Addr} {c : Nat} {X : Nat → Prop} (M : Mn B q d ob most o us us L1 L2 X W) (hb : Below W.heap.size W W') (R : RowB W' W.heap.size (.slice A n c) n xs) : Mb B q d ob most o us L1 L2 W.heap.size (.slice A n c) n xs W' :=
  ⟨(M.more hb).less fun _ hg => .inr (rb_block R hg), R, lt_some M.box, M.be.size⟩
theorem mb_send {A : Option Addr} {c : Nat} {bs : List UInt8} (M : Mb B q d ob most o us L1 L2 base (.slice A n c) n (u8s bs) W) (f t : Int) (hbs : bs.length ≤ 1000) :
    Calls Try.prog 9 #[.pointer (some ⟨q, 0, none⟩), .int .i64 f, .int .i64 t, .slice A n c] W fun e w' => e = .returned (.int .i64 (sendC us most L1 f t)) ∧ Mb B q d ob most o us (sendS us most L1 ⟨f, t, bs⟩) L2 base (.slice A n c) n (u8s bs) w' :=
  (m_send M.mn f t (Rb.of_own M.row) hbs).mono fun _ _ h => ⟨h.1, h.2.1, rb_same M.row h.2.2, M.ob_, M.B_⟩
theorem xb_send {bs : List UInt8} (M : Mb B q d ob most o us L1 L2 base v n xs W) (f t : Int) (hbs : bs.length ≤ 1000) :
    Calls Try.prog 10 #[.pointer (some ⟨d, 0, none⟩), .int .i64 f, .int .i64 t, .string (str bs)] W fun e w' => e = .returned (.int .i64 (sendC us most L2 f t)) ∧ Mb B q d ob most o us L1 (sendS us most L2 ⟨f, t, bs⟩) base v n xs w' :=
  (x_send M.mn f t bs hbs).mono fun _ _ h => ⟨h.1, h.2.1, rb_same M.row h.2.2, M.ob_, M.B_⟩
theorem Mb.drew (M : Mb B q d ob most o us L1 L2 base v n xs W) : Mb B q d ob most o us L1 L2 base v n xs W.drew := ⟨M.mn.drew, M.row, M.ob_, M.B_⟩
/-- One of the bytes is turned. -/
theorem Mb.store {A : Option Addr} {c j : Nat} (M : Mb B q d ob most o us L1 L2 base (.slice A n c) n xs W) (hx : ∀ x ∈ xs, ∃ z, x = .int .u8 z) (hj : j < n) : ∃ g z, A = some ⟨g, 0, none⟩ ∧ n ≤ c ∧ W.cell? ⟨g, j, none⟩ = some (.int .u8 z) ∧ W.frozen? ⟨g, j, none⟩ = false ∧
    ∀ z', ∃ ys, (∀ x ∈ ys, ∃ z, x = .int .u8 z) ∧ Mb B q d ob most o us L1 L2 base (.slice A n c) n ys (W.setCell ⟨g, j, none⟩ (.int .u8 z')) := by
  have hl := M.row.1
  rw [Nat.mul_one] at hl
  obtain ⟨_, _, e, hnc, _⟩ := rb_form M.row
  injection e with _ _ e
  subst e
  rcases M.row.2 with ⟨_, h0⟩ | ⟨g, cap, cur, hv, hb, hh, _⟩
  · omega
  · injection hv with hv _ hc
    subst hv; subst hc
    obtain ⟨x, hxj⟩ : ∃ x, xs[j]? = some x := ⟨_, List.getElem?_eq_getElem (by omega)⟩
    obtain ⟨z, rfl⟩ := hx x (List.mem_of_getElem? hxj)
    refine ⟨g, z, rfl, hnc, (M.row.cellAt j (by omega)).trans hxj, M.row.frozenAt j, fun z' => ⟨xs.set j (.int .u8 z'), fun y hy => ?_, ?_⟩⟩
    · rcases List.mem_or_eq_of_mem_set hy with h | h
      · exact hx y h
      · exact ⟨z', h⟩
    · obtain ⟨r, gr⟩ := M.row.stored j (.int .u8 z')
      exact ⟨M.mn.side gr rfl (Nat.le_trans M.B_ hb) (by have := M.ob_; omega), r, M.ob_, M.B_⟩
theorem u8s_all (bs : List UInt8) : ∀ x ∈ u8s bs, ∃ z, x = Value.int .u8 z := by
  intro x hx
  unfold u8s at hx
  obtain ⟨c, _, rfl⟩ := List.mem_map.1 hx
  exact ⟨_, rfl⟩
end
end Nt
end Go.Proofs.Ytenlblembdnniaa
