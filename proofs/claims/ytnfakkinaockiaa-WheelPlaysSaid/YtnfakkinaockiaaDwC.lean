/- Timers put among the document's timers: the rows that a chain of appends leaves, whatever it begins with. -/
import Derived.Deep.Upon
import Derived.Test.YtnfakkinaockiaaDwA
namespace Go.Proofs.Ytnfakkinaockiaa
set_option maxRecDepth 100000
open Go.RowKit
open Go.Proofs.Ytnfakkinaockiaa.Pk
namespace Wh

section
variable {w w' : World} {v : Value}
theorem dw_form {e : TypeId} {n base : Nat} {xs : List Value} (h : w.ownsRow base e 2 v n xs) : ∃ A c, v = .slice A n c ∧ n ≤ c ∧ c ≤ 9223372036854775807 ∧ (A = none → c = 0) := by
  rcases h.2 with ⟨rfl, rfl⟩ | ⟨g, cap, cur, rfl, hb, hh, h1, h2, _⟩
  · exact ⟨_, _, rfl, Nat.le_refl _, by omega, fun _ => rfl⟩
  · unfold maxLen at h2
    exact ⟨_, _, rfl, h1, h2, fun h => by cases h⟩
theorem dw_block {e : TypeId} {n base g : Nat} {xs : List Value} (h : w.ownsRow base e 2 v n xs) (hg : v.ownBlock = some g) : base ≤ g ∧ ∃ cur, w.heap[g]? = some (.cells cur e (0, 0)) := by
  rcases h.2 with ⟨rfl, _⟩ | ⟨g', cap, cur, rfl, hb, hh, _⟩
  · simp [Value.ownBlock] at hg
  · have : g' = g := by simpa [Value.ownBlock] using hg
    subst this
    exact ⟨hb, cur, hh⟩
theorem dw_same {e : TypeId} {n base : Nat} {xs : List Value} (h : w.ownsRow base e 2 v n xs) (hk : ∀ g, v.ownBlock = some g → w'.heap[g]? = w.heap[g]?) : w'.ownsRow base e 2 v n xs := by
  refine ⟨h.1, ?_⟩
  rcases h.2 with h0 | ⟨g, cap, cur, hv, hb, hh, h2⟩
  · exact .inl h0
  · exact .inr ⟨g, cap, cur, hv, hb, (hk g (by rw [hv]; rfl)).trans hh, h2⟩
end
theorem tmr_info3 : (Try.prog.info? 44).map (fun i => (i.zero, i.size, i.bytes)) = some (some (.agg #[.int .i64 0, .int .i64 0]), 2, 16) := by kernel_rfl
theorem drow_append (w : World) (base : Nat) (v : Value) (n : Nat) (X : List Tm) (hown : w.ownsRow base 44 2 v n (flt X)) (ad : Addr) (m c : Nat) (Y : List Tm) (hl : Y.length = m) (hnews : ∀ j u, (flt Y)[j]? = some u → w.cell? (ad.add j) = some u) (hb : n + m ≤ 1000000) (hbase : base ≤ w.heap.size) :
    ∃ A' c' w', (Builtin.append_ #[34, 34] 34 #[v, .slice (some ad) m c]).run Try.prog w = .ok (.slice A' (n + m) c') w' ∧ w'.ownsRow base 44 2 (.slice A' (n + m) c') (n + m) (flt (X ++ Y)) ∧ w.grownBy w' v.ownBlock := by
  obtain ⟨i0, hi, hz0, hz1, hz2⟩ := info_parts tmr_info3
  obtain ⟨v', w', h1, h2, h3, _, _⟩ := run_append_own_at (P := Try.prog) w base 34 34 44 i0 _ 2 16 Try.underlying34 hi hz0 hz1 hz2 rfl (by decide) v n (flt X) hown ad m c (flt Y) (by rw [flt_len, hl]) hnews (flt_one Y) (by unfold maxLen; omega) (by omega) hbase
  obtain ⟨A', c', rfl, _⟩ := dw_form h2
  exact ⟨A', c', w', h1, by rw [flt_app]; exact h2, h3⟩
theorem run_append_no (w : World) (A : Option Addr) (n c c' : Nat) (hnc : n ≤ c) :
    (Builtin.append_ #[34, 34] 34 #[.slice A n c, .slice none 0 c']).run Try.prog w = .ok (.slice A n c) w := by
  obtain ⟨i0, hi, hz0, hz1, hz2⟩ := info_parts tmr_info3
  refine run_append_nothing w _ _ _ 44 i0 Try.underlying34 hi A n c hnc _ ⟨.inl ⟨_, Try.underlying34⟩, fun _ => rfl, ?_, ?_, by simp, by simp⟩
  · simp [Builtin.firstCells]
  · simp [Builtin.firstCells]
theorem drow_append_any (w : World) (base : Nat) (v : Value) (n : Nat) (X : List Tm) (hown : w.ownsRow base 44 2 v n (flt X)) (B : Option Addr) (m c : Nat) (Y : List Tm) (hs : Srcs w B m Y) (hb : n + m ≤ 1000000) (hbase : base ≤ w.heap.size) :
    ∃ A' c' w', (Builtin.append_ #[34, 34] 34 #[v, .slice B m c]).run Try.prog w = .ok (.slice A' (n + m) c') w' ∧ w'.ownsRow base 44 2 (.slice A' (n + m) c') (n + m) (flt (X ++ Y)) ∧ w.grownBy w' v.ownBlock := by
  cases B with
  | some ad => exact drow_append w base v n X hown ad m c Y hs.len (hs.news ad rfl) hb hbase
  | none =>
    have hm := hs.none_ rfl
    subst hm
    have hY : Y = [] := List.eq_nil_of_length_eq_zero hs.len
    subst hY
    obtain ⟨A, c', rfl, hnc, _⟩ := dw_form hown
    exact ⟨A, c', w, run_append_no w A n c' c hnc, by simpa using hown, World.grownBy.refl w _⟩

/-- The first part, in a new row. -/
theorem ins_a {W W' : World} {i c b0 : Nat} {A : Option Addr} {X : List Tm} (hs : Srcs W' A i X) (hb : Below W.heap.size W W') (hl : i ≤ 1000) (o0 : W'.ownsRow W.heap.size 44 2 (.slice (some ⟨b0, 0, none⟩) 0 0) 0 (flt [])) (hb0 : W.heap.size ≤ b0) :
    ∃ A1 c1 w1, (Builtin.append_ #[34, 34] 34 #[.slice (some ⟨b0, 0, none⟩) 0 0, .slice A i c]).run Try.prog W' = .ok (.slice A1 i c1) w1 ∧
      Below W.heap.size W w1 ∧ w1.ownsRow W.heap.size 44 2 (.slice A1 i c1) i (flt X) ∧ W'.grownBy w1 (some b0) := by
  obtain ⟨A1, c1, w1, r1, o1, g1⟩ := drow_append_any W' W.heap.size _ 0 [] o0 A i c X hs (by omega) hb.size
  rw [Nat.zero_add] at r1 o1
  exact ⟨A1, c1, w1, r1, hb.grown g1 hb.size (fun k hk => by simp [Value.ownBlock] at hk; omega), by simpa using o1, g1⟩
/-- One more, and the second part. -/
theorem ins_b {W w1 : World} {i m b1 c1 cc : Nat} {A1 B : Option Addr} {X Y : List Tm} {p : Tm} (hb : Below W.heap.size W w1) (hX : X.length = i) (hl : i ≤ 1000) (hm : m ≤ 1000) (o1 : w1.ownsRow W.heap.size 44 2 (.slice A1 i c1) i (flt X))
    (hf : w1.heap[b1]? = some (.cells (ent p).toArray 44 (0, 0))) (hs : ∀ w', Below W.heap.size W w' → Srcs w' B m Y) :
    ∃ A2 c2 w2 A3 c3 w3, (Builtin.append_ #[34, 34] 34 #[.slice A1 i c1, .slice (some ⟨b1, 0, none⟩) 1 1]).run Try.prog w1 = .ok (.slice A2 (i + 1) c2) w2 ∧
      (Builtin.append_ #[34, 34] 34 #[.slice A2 (i + 1) c2, .slice B m cc]).run Try.prog w2 = .ok (.slice A3 (i + 1 + m) c3) w3 ∧ Below W.heap.size W w2 ∧ Below W.heap.size W w3 ∧
      w3.ownsRow W.heap.size 44 2 (.slice A3 (i + 1 + m) c3) (i + 1 + m) (flt (X ++ p :: Y)) := by
  obtain ⟨A2, c2, w2, r2, o2, g2⟩ := drow_append w1 W.heap.size _ i _ o1 ⟨b1, 0, none⟩ 1 1 [p] rfl (fun j u hu => by
    rw [Addr.add_lit, Nat.zero_add, one_at hf]
    match j, hu with
    | 0, hu => exact hu
    | 1, hu => exact hu
    | j + 2, hu => simp [flt, ent] at hu) (by omega) hb.size
  have b2 : Below W.heap.size W w2 := hb.grown g2 hb.size (fun k hk => (dw_block o1 hk).1)
  obtain ⟨A3, c3, w3, r3, o3, g3⟩ := drow_append_any w2 W.heap.size _ (i + 1) _ o2 B m cc Y (hs w2 b2) (by omega) b2.size
  exact ⟨A2, c2, w2, A3, c3, w3, r2, r3, b2, b2.grown g3 b2.size (fun k hk => (dw_block o2 hk).1), by simpa using o3⟩
theorem own2_mono {w : World} {e : TypeId} {n base base' : Nat} {v : Value} {xs : List Value} (h : w.ownsRow base e 2 v n xs) (hb : base' ≤ base) : w.ownsRow base' e 2 v n xs := by
  refine ⟨h.1, ?_⟩
  rcases h.2 with h0 | ⟨g, cap, cur, hv, hg, hh, h2⟩
  · exact .inl h0
  · exact .inr ⟨g, cap, cur, hv, Nat.le_trans hb hg, hh, h2⟩

/-- The three orders of such a chain: the worlds, one behind the other. -/
structure Chain (W : World) (A B : Option Addr) (i m c cc : Nat) (p : Tm) (X Y : List Tm) (W' : World) (bE bF : Nat) (A1 : Option Addr) (c1 : Nat) (w1 w1' : World) (A2 : Option Addr) (c2 : Nat) (w2 : World) (A3 : Option Addr) (c3 : Nat) (w3 : World) : Prop where
  r1 : (Builtin.append_ #[34, 34] 34 #[.slice (some ⟨bE, 0, none⟩) 0 0, .slice A i c]).run Try.prog W' = .ok (.slice A1 i c1) w1
  r2 : (Builtin.append_ #[34, 34] 34 #[.slice A1 i c1, .slice (some ⟨bF, 0, none⟩) 1 1]).run Try.prog w1' = .ok (.slice A2 (i + 1) c2) w2
  r3 : (Builtin.append_ #[34, 34] 34 #[.slice A2 (i + 1) c2, .slice B m cc]).run Try.prog w2 = .ok (.slice A3 (i + 1 + m) c3) w3
  b1 : Below W.heap.size W w1
  b2 : Below W.heap.size W w2
  b3 : Below W.heap.size W w3
  row : w3.ownsRow W.heap.size 44 2 (.slice A3 (i + 1 + m) c3) (i + 1 + m) (flt (X ++ p :: Y))

section
variable {W : World} {A B : Option Addr} {i m c cc : Nat} {p : Tm} {X Y : List Tm}
/-- The row; what goes before; the one more. -/
theorem chain_a (hX : X.length = i) (hl : i ≤ 1000) (hm : m ≤ 1000) (hs : ∀ w', Below W.heap.size W w' → Srcs w' A i X ∧ Srcs w' B m Y) :
    ∃ A1 c1 w1 A2 c2 w2 A3 c3 w3, Chain W A B i m c cc p X Y (W.alloc (.cells #[] 44)) W.heap.size w1.heap.size A1 c1 w1 (w1.alloc (.cells (ent p).toArray 44)) A2 c2 w2 A3 c3 w3 := by
  have b0 : Below W.heap.size W (W.alloc (.cells #[] 44)) := (Below.refl _ _).alloc (Nat.le_refl _) _
  obtain ⟨A1, c1, w1, r1, b1, o1, g1⟩ := ins_a (W := W) (c := c) (hs _ b0).1 b0 hl (World.ownsRow_lit W #[] 0 (Nat.le_refl _) (by unfold maxLen; omega) rfl) (Nat.le_refl _)
  obtain ⟨A2, c2, w2, A3, c3, w3, r2, r3, b2, b3, o3⟩ := ins_b (B := B) (Y := Y) (p := p) (cc := cc) (b1.alloc b1.size (.cells (ent p).toArray 44)) hX hl hm (dw_same o1 fun g hg => heap_alloc_old _ _ (lt_some (dw_block o1 hg).2.choose_spec)) (heap_alloc_new _ _) (fun w' hb => (hs w' hb).2)
  exact ⟨A1, c1, w1, A2, c2, w2, A3, c3, w3, ⟨r1, r2, r3, b1, b2, b3, o3⟩⟩
/-- The row; the one more; what goes before. -/
theorem chain_b (hX : X.length = i) (hl : i ≤ 1000) (hm : m ≤ 1000) (hs : ∀ w', Below W.heap.size W w' → Srcs w' A i X ∧ Srcs w' B m Y) :
    ∃ A1 c1 w1 A2 c2 w2 A3 c3 w3, Chain W A B i m c cc p X Y ((W.alloc (.cells #[] 44)).alloc (.cells (ent p).toArray 44)) W.heap.size (W.heap.size + 1) A1 c1 w1 w1 A2 c2 w2 A3 c3 w3 := by
  have b0 : Below W.heap.size W ((W.alloc (.cells #[] 44)).alloc (.cells (ent p).toArray 44)) := ((Below.refl _ _).alloc (Nat.le_refl _) _).alloc (by simp) _
  have o0 := World.ownsRow_lit (e := 44) (size := 2) W #[] 0 (Nat.le_refl _) (by unfold maxLen; omega) rfl
  obtain ⟨A1, c1, w1, r1, b1, o1, g1⟩ := ins_a (W := W) (c := c) (hs _ b0).1 b0 hl (dw_same o0 fun g hg => heap_alloc_old _ _ (lt_some (dw_block o0 hg).2.choose_spec)) (Nat.le_refl _)
  have hf : w1.heap[W.heap.size + 1]? = some (.cells (ent p).toArray 44 (0, 0)) := (g1.block _ (by simp) (fun e => by injection e with e; omega)).trans (heap_alloc2_new _ _ _)
  obtain ⟨A2, c2, w2, A3, c3, w3, r2, r3, b2, b3, o3⟩ := ins_b (B := B) (Y := Y) (p := p) (cc := cc) b1 hX hl hm o1 hf (fun w' hb => (hs w' hb).2)
  exact ⟨A1, c1, w1, A2, c2, w2, A3, c3, w3, ⟨r1, r2, r3, b1, b2, b3, o3⟩⟩
/-- The one more; the row; what goes before. -/
theorem chain_c (hX : X.length = i) (hl : i ≤ 1000) (hm : m ≤ 1000) (hs : ∀ w', Below W.heap.size W w' → Srcs w' A i X ∧ Srcs w' B m Y) :
    ∃ A1 c1 w1 A2 c2 w2 A3 c3 w3, Chain W A B i m c cc p X Y ((W.alloc (.cells (ent p).toArray 44)).alloc (.cells #[] 44)) (W.heap.size + 1) W.heap.size A1 c1 w1 w1 A2 c2 w2 A3 c3 w3 := by
  have b0 : Below W.heap.size W ((W.alloc (.cells (ent p).toArray 44)).alloc (.cells #[] 44)) := ((Below.refl _ _).alloc (Nat.le_refl _) _).alloc (by simp) _
  have o0 := World.ownsRow_lit (e := 44) (size := 2) (W.alloc (.cells (ent p).toArray 44)) #[] 0 (Nat.le_refl _) (by unfold maxLen; omega) rfl
  simp only [World.alloc, Array.size_push] at o0
  obtain ⟨A1, c1, w1, r1, b1, o1, g1⟩ := ins_a (W := W) (c := c) (hs _ b0).1 b0 hl (own2_mono o0 (by omega)) (by omega)
  have hf : w1.heap[W.heap.size]? = some (.cells (ent p).toArray 44 (0, 0)) := (g1.block _ (by simp <;> omega) (fun e => by injection e with e; omega)).trans (heap_alloc2_old _ _ _)
  obtain ⟨A2, c2, w2, A3, c3, w3, r2, r3, b2, b3, o3⟩ := ins_b (B := B) (Y := Y) (p := p) (cc := cc) b1 hX hl hm o1 hf (fun w' hb => (hs w' hb).2)
  exact ⟨A1, c1, w1, A2, c2, w2, A3, c3, w3, ⟨r1, r2, r3, b1, b2, b3, o3⟩⟩
end
end Wh
end Go.Proofs.Ytnfakkinaockiaa
