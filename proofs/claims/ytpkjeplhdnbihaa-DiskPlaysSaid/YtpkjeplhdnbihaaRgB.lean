/- Files put among the files: the rows that a chain of appends leaves, whatever it begins with. -/
import Derived.Deep.Upon
import Derived.Test.YtpkjeplhdnbihaaRgA
namespace Go.Proofs.Ytpkjeplhdnbihaa
open Go.RowKit
open Go.Proofs.Ytpkjeplhdnbihaa.Pk
namespace Dk

/-- What is appended: m files of a row, or none. -/
structure Srcs (w : World) (B : Option Addr) (m : Nat) (Y : St) : Prop where
  len : Y.length = m
  none_ : B = none → m = 0
  news : ∀ ad, B = some ad → ∀ j u, (flat Y)[j]? = some u → w.cell? (ad.add j) = some u
theorem run_append_no (w : World) (A : Option Addr) (n c c' : Nat) (hnc : n ≤ c) :
    (Builtin.append_ #[28, 28] 28 #[.slice A n c, .slice none 0 c']).run Try.prog w = .ok (.slice A n c) w := by
  obtain ⟨i0, hi, hz0, hz1, hz2⟩ := info_parts file_info3
  refine run_append_nothing w _ _ _ 65 i0 Try.underlying28 hi A n c hnc _ ⟨.inl ⟨_, Try.underlying28⟩, fun _ => rfl, ?_, ?_, by simp, by simp⟩
  · simp [Builtin.firstCells]
  · simp [Builtin.firstCells]
theorem row_append_any (w : World) (base : Nat) (v : Value) (n : Nat) (X : St) (hown : w.ownsRow base 65 3 v n (flat X)) (B : Option Addr) (m c : Nat) (Y : St) (hs : Srcs w B m Y) (hb : n + m ≤ 1000000) (hbase : base ≤ w.heap.size) :
    ∃ A' c' w', (Builtin.append_ #[28, 28] 28 #[v, .slice B m c]).run Try.prog w = .ok (.slice A' (n + m) c') w' ∧ w'.ownsRow base 65 3 (.slice A' (n + m) c') (n + m) (flat (X ++ Y)) ∧ w.grownBy w' v.ownBlock := by
  cases B with
  | some ad => exact row_append w base v n X hown ad m c Y hs.len (hs.news ad rfl) hb hbase
  | none =>
    have hm := hs.none_ rfl
    subst hm
    have hY : Y = [] := List.eq_nil_of_length_eq_zero hs.len
    subst hY
    obtain ⟨A, c', rfl, hnc, _⟩ := row_form hown
    exact ⟨A, c', w, run_append_no w A n c' c hnc, by simpa using hown, World.grownBy.refl w _⟩

/-- The two parts of the files at place i. -/
theorem Rf.cuts {W : World} {q room n c i : Nat} {A : Option Addr} {L : St} (R : Rf W q room L (.slice A n c)) (hn : L.length = n) (hi : i ≤ n) :
    (∀ W', (Instr.slice 28 (.slice A n c) none (some (.int .i64 (i : Int))) none).run Try.prog W' = .ok (.slice A i c) W') ∧
      ∃ B, (∀ W', (Instr.slice 28 (.slice A n c) (some (.int .i64 (i : Int))) none none).run Try.prog W' = .ok (.slice B (n - i) (c - i)) W') ∧
        ∀ W', Below W.heap.size W W' → Srcs W' A i (L.take i) ∧ Srcs W' B (n - i) (L.drop i) := by
  subst hn
  obtain ⟨A', c', h0, hnc, hc, hAc⟩ := row_form R.row
  injection h0 with hA _ hcc
  subst hA; subst hcc
  cases A with
  | none =>
    have hc0 := hAc rfl
    subst hc0
    have hL : L = [] := List.eq_nil_of_length_eq_zero (by omega)
    subst hL
    have hi0 : i = 0 := by simpa using hi
    subst hi0
    refine ⟨fun W' => ?_, none, fun W' => ?_, fun W' _ => ⟨⟨rfl, fun _ => rfl, fun _ h => by cases h⟩, ⟨rfl, fun _ => rfl, fun _ h => by cases h⟩⟩⟩
    · rw [run_slice_h W' 28 _ _ _ (by kernel_rfl) .i64 ((0 : Nat) : Int) (by omega) (by omega)]
      have e : (sizeOf (Try.prog.elem 28)).run Try.prog W' = .ok 3 W' := by kernel_rfl
      rw [e]
      simp [Result.andThen, sliced]
    · rw [run_slice_l W' 28 _ _ _ (by kernel_rfl) .i64 ((0 : Nat) : Int) (by omega) (by simp)]
      have e : (sizeOf (Try.prog.elem 28)).run Try.prog W' = .ok 3 W' := by kernel_rfl
      rw [e]
      simp [Result.andThen, sliced]
  | some gg =>
    obtain ⟨g, rfl⟩ : ∃ g, gg = ⟨g, 0, none⟩ := by
      rcases R.row.2 with ⟨h, _⟩ | ⟨g, _, _, h, _⟩
      · cases h
      · injection h with h; injection h with h; exact ⟨g, h⟩
    obtain ⟨ad, had, hsl⟩ := rslice_from g L.length c i hi hnc
    refine ⟨rslice_to g L.length c i (by omega), some ad, hsl, fun W' hb => ⟨⟨by rw [List.length_take]; omega, (by intro h; cases h), fun ad' h j u hu => ?_⟩, ⟨by rw [List.length_drop], (by intro h; cases h), fun ad' h j u hu => ?_⟩⟩⟩
    · injection h with h
      subst h
      have := row_part ((R.below hb).row) 0 i j u (by simpa using hu)
      simpa using this
    · injection h with h
      subst h
      have hlt : i < L.length := by
        rcases Nat.lt_or_ge i L.length with h | h
        · exact h
        · rw [List.drop_of_length_le h] at hu
          simp [flat] at hu
      rw [had hlt]
      exact row_part ((R.below hb).row) i L.length j u (by rw [List.take_of_length_le (by simp)]; exact hu)

/-- The first part, in a new row. -/
theorem ins_a {W W' : World} {i c b0 : Nat} {A : Option Addr} {X : St} (hs : Srcs W' A i X) (hb : Below W.heap.size W W') (hl : i ≤ 1000) (o0 : W'.ownsRow W.heap.size 65 3 (.slice (some ⟨b0, 0, none⟩) 0 0) 0 (flat [])) (hb0 : W.heap.size ≤ b0) :
    ∃ A1 c1 w1, (Builtin.append_ #[28, 28] 28 #[.slice (some ⟨b0, 0, none⟩) 0 0, .slice A i c]).run Try.prog W' = .ok (.slice A1 i c1) w1 ∧
      Below W.heap.size W w1 ∧ w1.ownsRow W.heap.size 65 3 (.slice A1 i c1) i (flat X) ∧ W'.grownBy w1 (some b0) := by
  obtain ⟨A1, c1, w1, r1, o1, g1⟩ := row_append_any W' W.heap.size _ 0 [] o0 A i c X hs (by omega) hb.size
  rw [Nat.zero_add] at r1 o1
  exact ⟨A1, c1, w1, r1, hb.grown g1 hb.size (fun k hk => by simp [Value.ownBlock] at hk; omega), by simpa using o1, g1⟩
/-- One more, and the second part. -/
theorem ins_b {W w1 : World} {i m b1 c1 cc : Nat} {A1 B : Option Addr} {X Y : St} {p : Bs × Bs × Nat} (hb : Below W.heap.size W w1) (hX : X.length = i) (hl : i ≤ 1000) (hm : m ≤ 1000) (o1 : w1.ownsRow W.heap.size 65 3 (.slice A1 i c1) i (flat X))
    (hf : w1.heap[b1]? = some (.cells (ent p).toArray 65 (0, 0))) (hs : ∀ w', Below W.heap.size W w' → Srcs w' B m Y) :
    ∃ A2 c2 w2 A3 c3 w3, (Builtin.append_ #[28, 28] 28 #[.slice A1 i c1, .slice (some ⟨b1, 0, none⟩) 1 1]).run Try.prog w1 = .ok (.slice A2 (i + 1) c2) w2 ∧
      (Builtin.append_ #[28, 28] 28 #[.slice A2 (i + 1) c2, .slice B m cc]).run Try.prog w2 = .ok (.slice A3 (i + 1 + m) c3) w3 ∧ Below W.heap.size W w2 ∧ Below W.heap.size W w3 ∧
      w3.ownsRow W.heap.size 65 3 (.slice A3 (i + 1 + m) c3) (i + 1 + m) (flat (X ++ p :: Y)) := by
  obtain ⟨A2, c2, w2, r2, o2, g2⟩ := row_append w1 W.heap.size _ i _ o1 ⟨b1, 0, none⟩ 1 1 [p] rfl (fun j u hu => by
    rw [Addr.add_lit, Nat.zero_add, one_at hf]
    match j, hu with
    | 0, hu => exact hu
    | 1, hu => exact hu
    | 2, hu => exact hu
    | j + 3, hu => simp [flat, ent] at hu) (by omega) hb.size
  have b2 : Below W.heap.size W w2 := hb.grown g2 hb.size (fun k hk => (row_block o1 hk).1)
  obtain ⟨A3, c3, w3, r3, o3, g3⟩ := row_append_any w2 W.heap.size _ (i + 1) _ o2 B m cc Y (hs w2 b2) (by omega) b2.size
  exact ⟨A2, c2, w2, A3, c3, w3, r2, r3, b2, b2.grown g3 b2.size (fun k hk => (row_block o2 hk).1), by simpa using o3⟩
theorem own3_mono {w : World} {e : TypeId} {n base base' : Nat} {v : Value} {xs : List Value} (h : w.ownsRow base e 3 v n xs) (hb : base' ≤ base) : w.ownsRow base' e 3 v n xs := by
  refine ⟨h.1, ?_⟩
  rcases h.2 with h0 | ⟨g, cap, cur, hv, hg, hh, h2⟩
  · exact .inl h0
  · exact .inr ⟨g, cap, cur, hv, Nat.le_trans hb hg, hh, h2⟩

/-- The three orders of such a chain: the worlds, one behind the other. -/
structure Chain (W : World) (A B : Option Addr) (i m c cc : Nat) (p : Bs × Bs × Nat) (X Y : St) (W' : World) (bE bF : Nat) (A1 : Option Addr) (c1 : Nat) (w1 w1' : World) (A2 : Option Addr) (c2 : Nat) (w2 : World) (A3 : Option Addr) (c3 : Nat) (w3 : World) : Prop where
  r1 : (Builtin.append_ #[28, 28] 28 #[.slice (some ⟨bE, 0, none⟩) 0 0, .slice A i c]).run Try.prog W' = .ok (.slice A1 i c1) w1
  r2 : (Builtin.append_ #[28, 28] 28 #[.slice A1 i c1, .slice (some ⟨bF, 0, none⟩) 1 1]).run Try.prog w1' = .ok (.slice A2 (i + 1) c2) w2
  r3 : (Builtin.append_ #[28, 28] 28 #[.slice A2 (i + 1) c2, .slice B m cc]).run Try.prog w2 = .ok (.slice A3 (i + 1 + m) c3) w3
  b1 : Below W.heap.size W w1
  b2 : Below W.heap.size W w2
  b3 : Below W.heap.size W w3
  row : w3.ownsRow W.heap.size 65 3 (.slice A3 (i + 1 + m) c3) (i + 1 + m) (flat (X ++ p :: Y))

section
variable {W : World} {A B : Option Addr} {i m c cc : Nat} {p : Bs × Bs × Nat} {X Y : St}
/-- The row; what goes before; the one more. -/
theorem chain_a (hX : X.length = i) (hl : i ≤ 1000) (hm : m ≤ 1000) (hs : ∀ w', Below W.heap.size W w' → Srcs w' A i X ∧ Srcs w' B m Y) :
    ∃ A1 c1 w1 A2 c2 w2 A3 c3 w3, Chain W A B i m c cc p X Y (W.alloc (.cells #[] 65)) W.heap.size w1.heap.size A1 c1 w1 (w1.alloc (.cells (ent p).toArray 65)) A2 c2 w2 A3 c3 w3 := by
  have b0 : Below W.heap.size W (W.alloc (.cells #[] 65)) := (Below.refl _ _).alloc (Nat.le_refl _) _
  obtain ⟨A1, c1, w1, r1, b1, o1, g1⟩ := ins_a (W := W) (c := c) (hs _ b0).1 b0 hl (World.ownsRow_lit W #[] 0 (Nat.le_refl _) (by unfold maxLen; omega) rfl) (Nat.le_refl _)
  obtain ⟨A2, c2, w2, A3, c3, w3, r2, r3, b2, b3, o3⟩ := ins_b (B := B) (Y := Y) (p := p) (cc := cc) (b1.alloc b1.size (.cells (ent p).toArray 65)) hX hl hm (row_same o1 fun g hg => heap_alloc_old _ _ (lt_some (row_block o1 hg).2.choose_spec)) (heap_alloc_new _ _) (fun w' hb => (hs w' hb).2)
  exact ⟨A1, c1, w1, A2, c2, w2, A3, c3, w3, ⟨r1, r2, r3, b1, b2, b3, o3⟩⟩
/-- The row; the one more; what goes before. -/
theorem chain_b (hX : X.length = i) (hl : i ≤ 1000) (hm : m ≤ 1000) (hs : ∀ w', Below W.heap.size W w' → Srcs w' A i X ∧ Srcs w' B m Y) :
    ∃ A1 c1 w1 A2 c2 w2 A3 c3 w3, Chain W A B i m c cc p X Y ((W.alloc (.cells #[] 65)).alloc (.cells (ent p).toArray 65)) W.heap.size (W.heap.size + 1) A1 c1 w1 w1 A2 c2 w2 A3 c3 w3 := by
  have b0 : Below W.heap.size W ((W.alloc (.cells #[] 65)).alloc (.cells (ent p).toArray 65)) := ((Below.refl _ _).alloc (Nat.le_refl _) _).alloc (by simp) _
  have o0 := World.ownsRow_lit (e := 65) (size := 3) W #[] 0 (Nat.le_refl _) (by unfold maxLen; omega) rfl
  obtain ⟨A1, c1, w1, r1, b1, o1, g1⟩ := ins_a (W := W) (c := c) (hs _ b0).1 b0 hl (row_same o0 fun g hg => heap_alloc_old _ _ (lt_some (row_block o0 hg).2.choose_spec)) (Nat.le_refl _)
  have hf : w1.heap[W.heap.size + 1]? = some (.cells (ent p).toArray 65 (0, 0)) := (g1.block _ (by simp) (fun e => by injection e with e; omega)).trans (heap_alloc2_new _ _ _)
  obtain ⟨A2, c2, w2, A3, c3, w3, r2, r3, b2, b3, o3⟩ := ins_b (B := B) (Y := Y) (p := p) (cc := cc) b1 hX hl hm o1 hf (fun w' hb => (hs w' hb).2)
  exact ⟨A1, c1, w1, A2, c2, w2, A3, c3, w3, ⟨r1, r2, r3, b1, b2, b3, o3⟩⟩
/-- The one more; the row; what goes before. -/
theorem chain_c (hX : X.length = i) (hl : i ≤ 1000) (hm : m ≤ 1000) (hs : ∀ w', Below W.heap.size W w' → Srcs w' A i X ∧ Srcs w' B m Y) :
    ∃ A1 c1 w1 A2 c2 w2 A3 c3 w3, Chain W A B i m c cc p X Y ((W.alloc (.cells (ent p).toArray 65)).alloc (.cells #[] 65)) (W.heap.size + 1) W.heap.size A1 c1 w1 w1 A2 c2 w2 A3 c3 w3 := by
  have b0 : Below W.heap.size W ((W.alloc (.cells (ent p).toArray 65)).alloc (.cells #[] 65)) := ((Below.refl _ _).alloc (Nat.le_refl _) _).alloc (by simp) _
  have o0 := World.ownsRow_lit (e := 65) (size := 3) (W.alloc (.cells (ent p).toArray 65)) #[] 0 (Nat.le_refl _) (by unfold maxLen; omega) rfl
  simp only [World.alloc, Array.size_push] at o0
  obtain ⟨A1, c1, w1, r1, b1, o1, g1⟩ := ins_a (W := W) (c := c) (hs _ b0).1 b0 hl (own3_mono o0 (by omega)) (by omega)
  have hf : w1.heap[W.heap.size]? = some (.cells (ent p).toArray 65 (0, 0)) := (g1.block _ (by simp <;> omega) (fun e => by injection e with e; omega)).trans (heap_alloc2_old _ _ _)
  obtain ⟨A2, c2, w2, A3, c3, w3, r2, r3, b2, b3, o3⟩ := ins_b (B := B) (Y := Y) (p := p) (cc := cc) b1 hX hl hm o1 hf (fun w' hb => (hs w' hb).2)
  exact ⟨A1, c1, w1, A2, c2, w2, A3, c3, w3, ⟨r1, r2, r3, b1, b2, b3, o3⟩⟩
end
end Dk
end Go.Proofs.Ytpkjeplhdnbihaa
