/- For NetPlays: the program's net and the document's, side by side. -/
import Derived.Test.YtenlblembdnniaaNtV
namespace Go.Proofs.Ytenlblembdnniaa
set_option maxRecDepth 100000
open Go.RowKit
open Go.Proofs.Ytenlblembdnniaa.Pk (Rb adr_block one_at one_free one_set lt_some grown_set)
namespace Nt

/-- The program's net at q, the document's at d; the step's box at ob; nothing of theirs in X. -/
structure Mn (B : World) (q d ob most : Nat) (o : Stp) (us1 us2 : List Bool) (L1 L2 : List Ms) (X : Nat → Prop) (W : World) : Prop where
  nt : ∃ ds v, Ln B W q most us1 L1 (fun g => (X g ∨ g = ob) ∨ din d v g) ∧ Dn W d most us2 ds L2 v ∧ (∀ g, din d v g → B.heap.size ≤ g) ∧ ∀ g, X g ∨ g = ob → ¬ din d v g
  box : W.heap[ob]? = some (.cells o.cells 34 (0, 0))
section
variable {B W W' : World} {q d ob most : Nat} {o : Stp} {us us1 us2 us' ds : List Bool} {L L1 L2 L' : List Ms} {X X' : Nat → Prop} {v : Value}
theorem Mn.be (M : Mn B q d ob most o us1 us2 L1 L2 X W) : Below B.heap.size B W := by
  obtain ⟨ds, v, V, _⟩ := M.nt
  exact V.be
theorem Mn.few (M : Mn B q d ob most o us1 us2 L1 L2 X W) : L1.length ≤ most ∧ most ≤ 4096 := by
  obtain ⟨ds, v, V, _⟩ := M.nt
  exact V.few
theorem Mn.xlt (M : Mn B q d ob most o us1 us2 L1 L2 X W) : ∀ g, X g → g < W.heap.size := fun g hg => by
  obtain ⟨ds, v, V, _⟩ := M.nt
  exact V.xs g (.inl (.inl hg))
theorem Mn.below (M : Mn B q d ob most o us1 us2 L1 L2 X W) (hb : Below W.heap.size W W') : Mn B q d ob most o us1 us2 L1 L2 X W' := by
  obtain ⟨ds, v, V, D, h1, h2⟩ := M.nt
  exact ⟨⟨ds, v, V.below hb, D.below hb, h1, h2⟩, (hb.block ob (lt_some M.box)).trans M.box⟩
theorem Mn.drew (M : Mn B q d ob most o us1 us2 L1 L2 X W) : Mn B q d ob most o us1 us2 L1 L2 X W.drew := M.below ⟨rfl, rfl, rfl, Nat.le_refl _, fun _ _ => rfl⟩
theorem Mn.less (M : Mn B q d ob most o us1 us2 L1 L2 X W) (hx : ∀ g, X' g → X g) : Mn B q d ob most o us1 us2 L1 L2 X' W := by
  obtain ⟨ds, v, V, D, h1, h2⟩ := M.nt
  refine ⟨⟨ds, v, V.less fun g hg => ?_, D, h1, fun g hg => h2 g ?_⟩, M.box⟩
  · rcases hg with (hg | hg) | hg
    · exact .inl (.inl (hx g hg))
    · exact .inl (.inr hg)
    · exact .inr hg
  · rcases hg with hg | hg
    · exact .inl (hx g hg)
    · exact .inr hg
/-- What is new is beside them. -/
theorem Mn.more (M : Mn B q d ob most o us1 us2 L1 L2 X W) (hb : Below W.heap.size W W') : Mn B q d ob most o us1 us2 L1 L2 (fun g => X g ∨ (W.heap.size ≤ g ∧ g < W'.heap.size)) W' := by
  obtain ⟨ds, v, V, D, h1, h2⟩ := M.nt
  refine ⟨⟨ds, v, (V.more hb).less fun g hg => ?_, D.below hb, h1, fun g hg => ?_⟩, (hb.block ob (lt_some M.box)).trans M.box⟩
  · rcases hg with ((hg | hg) | hg) | hg
    · exact .inl (.inl (.inl hg))
    · exact .inr hg
    · exact .inl (.inl (.inr hg))
    · exact .inl (.inr hg)
  · rcases hg with (hg | ⟨hg, _⟩) | hg
    · exact h2 g (.inl hg)
    · intro e
      have := D.lt g e
      omega
    · exact h2 g (.inr hg)
/-- A block beside them is written. -/
theorem Mn.side {g : Nat} (M : Mn B q d ob most o us1 us2 L1 L2 X W) (hg : W.grownBy W' (some g)) (hX : X g) (hB : B.heap.size ≤ g) (hob : g ≠ ob) : Mn B q d ob most o us1 us2 L1 L2 X W' := by
  obtain ⟨ds, v, V, D, h1, h2⟩ := M.nt
  refine ⟨⟨ds, v, V.side hg (.inl (.inl hX)) hB, D.keep fun k hk => hg.block k (D.lt k hk) (fun e => h2 g (.inl hX) (by injection e with e; rw [← e]; exact hk)), h1, h2⟩, (hg.block ob (lt_some M.box) (fun e => hob (by injection e with e; exact e.symm))).trans M.box⟩
/-- What a call on the program's leaves. -/
theorem Mn.call_w (M : Mn B q d ob most o us1 us2 L1 L2 X W) (D : Dn W d most us2 ds L2 v) (h1 : ∀ g, din d v g → B.heap.size ≤ g) (h2 : ∀ g, X g ∨ g = ob → ¬ din d v g) (h : LnTo B W q most us' L' (fun g => (X g ∨ g = ob) ∨ din d v g) W') : Mn B q d ob most o us' us2 L' L2 X W' ∧ ∀ g, X g → W'.heap[g]? = W.heap[g]? :=
  ⟨⟨⟨ds, v, h.1, D.keep fun g hg => h.2.1 g (.inr hg), h1, h2⟩, (h.2.1 ob (.inl (.inr rfl))).trans M.box⟩, fun g hg => h.2.1 g (.inl (.inl hg))⟩
/-- What a call on the document's leaves. -/
theorem Mn.call_d (M : Mn B q d ob most o us1 us2 L1 L2 X W) (V : Ln B W q most us1 L1 (fun g => (X g ∨ g = ob) ∨ din d v g)) (h1 : ∀ g, din d v g → B.heap.size ≤ g) (h2 : ∀ g, X g ∨ g = ob → ¬ din d v g) {ds' : List Bool} (T : DnTo W d most us' ds' L' v W') : Mn B q d ob most o us1 us' L1 L' X W' ∧ ∀ g, X g → W'.heap[g]? = W.heap[g]? := by
  obtain ⟨v', D', K, hr⟩ := T
  have kx : ∀ g, X g ∨ g = ob → W'.heap[g]? = W.heap[g]? := fun g hg => K.block g (V.xs g (.inl hg)) (h2 g hg)
  obtain ⟨fp, F, hf⟩ := V.nt
  have hsz := K.size
  refine ⟨⟨⟨ds', v', ⟨⟨fp, F.keep K.size fun g hg => K.block g (F.size g hg) (fun e => (hf g hg).2 (.inr e)), fun g hg => ⟨(hf g hg).1, fun e => ?_⟩⟩, V.be.trans (K.below h1 V.be.size), fun g hg => ?_⟩, D', fun g hg => ?_, fun g hg e => ?_⟩, (kx ob (.inr rfl)).trans M.box⟩, fun g hg => kx g (.inl hg)⟩
  · rcases e with e | e | e
    · exact (hf g hg).2 (.inl e)
    · exact (hf g hg).2 (.inr (.inl e))
    · rcases hr g e with e | e
      · exact (hf g hg).2 (.inr (.inr e))
      · have := F.size g hg
        omega
  · rcases hg with hg | hg
    · exact Nat.lt_of_lt_of_le (V.xs g (.inl hg)) K.size
    · exact D'.lt g hg
  · rcases hg with hg | hg
    · exact h1 g (.inl hg)
    · rcases hr g hg with h | h
      · exact h1 g (.inr h)
      · exact Nat.le_trans V.be.size h
  · rcases e with e | e
    · exact h2 g hg (.inl e)
    · rcases hr g e with h | h
      · exact h2 g hg (.inr h)
      · have := V.xs g (.inl hg)
        omega
theorem m_send (M : Mn B q d ob most o us1 us2 L1 L2 X W) (f t : Int) {T : Nat → Prop} {A : Option Addr} {n c : Nat} {bs : List UInt8} (R : Rb W T A n bs) (hbs : bs.length ≤ 1000) :
    Calls Try.prog 9 #[.pointer (some ⟨q, 0, none⟩), .int .i64 f, .int .i64 t, .slice A n c] W fun e w' => e = .returned (.int .i64 (sendC us1 most L1 f t)) ∧ Mn B q d ob most o us1 us2 (sendS us1 most L1 ⟨f, t, bs⟩) L2 X w' ∧ ∀ g, X g → w'.heap[g]? = W.heap[g]? := by
  obtain ⟨ds, v, V, D, h1, h2⟩ := M.nt
  exact (ln_send V f t R hbs).mono fun e w' h => ⟨h.1, M.call_w D h1 h2 h.2⟩
theorem x_send (M : Mn B q d ob most o us1 us2 L1 L2 X W) (f t : Int) (bs : List UInt8) (hbs : bs.length ≤ 1000) :
    Calls Try.prog 10 #[.pointer (some ⟨d, 0, none⟩), .int .i64 f, .int .i64 t, .string (str bs)] W fun e w' => e = .returned (.int .i64 (sendC us2 most L2 f t)) ∧ Mn B q d ob most o us1 us2 L1 (sendS us2 most L2 ⟨f, t, bs⟩) X w' ∧ ∀ g, X g → w'.heap[g]? = W.heap[g]? := by
  obtain ⟨ds, v, V, D, h1, h2⟩ := M.nt
  exact (dsend D f t bs hbs).mono fun e w' h => ⟨h.1, M.call_d V h1 h2 h.2⟩
theorem m_double (M : Mn B q d ob most o us1 us2 L1 L2 X W) (k : Int) :
    Calls Try.prog 13 #[.pointer (some ⟨q, 0, none⟩), .int .i64 k] W fun e w' => e = .returned (.int .i64 (dblC most L1 k)) ∧ Mn B q d ob most o us1 us2 (dblS most L1 k) L2 X w' := by
  obtain ⟨ds, v, V, D, h1, h2⟩ := M.nt
  exact (ln_double V k).mono fun e w' h => ⟨h.1, (M.call_w D h1 h2 h.2).1⟩
theorem x_double (M : Mn B q d ob most o us1 us2 L1 L2 X W) (k : Int) :
    Calls Try.prog 14 #[.pointer (some ⟨d, 0, none⟩), .int .i64 k] W fun e w' => e = .returned (.int .i64 (dblC most L2 k)) ∧ Mn B q d ob most o us1 us2 L1 (dblS most L2 k) X w' := by
  obtain ⟨ds, v, V, D, h1, h2⟩ := M.nt
  exact (ddouble D k).mono fun e w' h => ⟨h.1, (M.call_d V h1 h2 h.2).1⟩
theorem m_drop (M : Mn B q d ob most o us1 us2 L1 L2 X W) (k : Int) :
    Calls Try.prog 15 #[.pointer (some ⟨q, 0, none⟩), .int .i64 k] W fun e w' => e = .returned (.int .i64 (dropC L1 k)) ∧ Mn B q d ob most o us1 us2 (outS L1 k) L2 X w' := by
  obtain ⟨ds, v, V, D, h1, h2⟩ := M.nt
  exact (ln_drop V k).mono fun e w' h => ⟨h.1, (M.call_w D h1 h2 h.2).1⟩
theorem x_drop (M : Mn B q d ob most o us1 us2 L1 L2 X W) (k : Int) :
    Calls Try.prog 16 #[.pointer (some ⟨d, 0, none⟩), .int .i64 k] W fun e w' => e = .returned (.int .i64 (dropC L2 k)) ∧ Mn B q d ob most o us1 us2 L1 (outS L2 k) X w' := by
  obtain ⟨ds, v, V, D, h1, h2⟩ := M.nt
  exact (ddrop D k).mono fun e w' h => ⟨h.1, (M.call_d V h1 h2 h.2).1⟩
theorem m_up (M : Mn B q d ob most o us1 us2 L1 L2 X W) (k : Int) (b : Bool) :
    Calls Try.prog 17 #[.pointer (some ⟨q, 0, none⟩), .int .i64 k, .bool b] W fun e w' => e = .returned (.int .i64 (upC us1 k)) ∧ Mn B q d ob most o (upS us1 k b) us2 L1 L2 X w' := by
  obtain ⟨ds, v, V, D, h1, h2⟩ := M.nt
  exact (ln_up V k b).mono fun e w' h => ⟨h.1, (M.call_w D h1 h2 h.2).1⟩
theorem m_take (M : Mn B q d ob most o us1 us2 L1 L2 X W) (k : Int) :
    Calls Try.prog 11 #[.pointer (some ⟨q, 0, none⟩), .int .i64 k] W fun e w' => ∃ A c, e = .returned (.tuple #[.int .i64 (tkR us1 L1 k).1.fr, .int .i64 (tkR us1 L1 k).1.to_, .slice A (tkR us1 L1 k).1.tx.length c, .int .i64 (tkR us1 L1 k).2]) ∧
      ∃ T, Rb w' T A (tkR us1 L1 k).1.tx.length (tkR us1 L1 k).1.tx ∧ Mn B q d ob most o us1 us2 (outS L1 k) L2 T w' := by
  obtain ⟨ds, v, V, D, h1, h2⟩ := M.nt
  refine (ln_take V k).mono ?_
  rintro e w' ⟨A, c, rfl, R, _, _, V', kx, hs⟩
  refine ⟨A, c, rfl, _, R, ⟨ds, v, V'.less fun g hg => ?_, D.keep fun g hg => kx g (.inr hg), h1, fun g hg => ?_⟩, (kx ob (.inl (.inr rfl))).trans M.box⟩
  · rcases hg with (hg | hg) | hg
    · exact .inr hg
    · exact .inl (.inl (.inr hg))
    · exact .inl (.inr hg)
  · rcases hg with ⟨hg, _⟩ | hg
    · intro e
      have := D.lt g e
      omega
    · exact h2 g (.inr hg)
theorem x_take (M : Mn B q d ob most o us1 us2 L1 L2 X W) (k : Int) :
    Calls Try.prog 12 #[.pointer (some ⟨d, 0, none⟩), .int .i64 k] W fun e w' => e = .returned (.tuple #[am (tkR us2 L2 k).1, .int .i64 (tkR us2 L2 k).2]) ∧ Mn B q d ob most o us1 us2 L1 (outS L2 k) X w' ∧ ∀ g, X g → w'.heap[g]? = W.heap[g]? := by
  obtain ⟨ds, v, V, D, h1, h2⟩ := M.nt
  exact (dtake D k).mono fun e w' h => ⟨h.1, M.call_d V h1 h2 h.2⟩
/-- A node of the document's goes down, or up. -/
theorem Mn.mark (M : Mn B q d ob most o us1 us2 L1 L2 X W) {k : Nat} (hk : k < us2.length) (b : Bool) : W.cell? ⟨d, 3 + k, none⟩ = some (.bool !(us2[k])) ∧ W.frozen? ⟨d, 3 + k, none⟩ = false ∧ Mn B q d ob most o us1 (us2.set k b) L1 L2 X (W.setCell ⟨d, 3 + k, none⟩ (.bool !b)) := by
  obtain ⟨ds, v, V, D, h1, h2⟩ := M.nt
  have hd16 : k < 16 := by have := D.wide; omega
  have G := grown_set W d (3 + k) (.bool !b)
  have hne := D.row_ne
  refine ⟨D.down (List.getElem?_eq_getElem hk), one_free D.cells, ?_⟩
  have D' : Dn (W.setCell ⟨d, 3 + k, none⟩ (.bool !b)) d most (us2.set k b) (ds.set k (!b)) L2 v := by
    refine ⟨?_, re_same D.row fun g h => G.block g (lt_some (re_block D.row h).2.choose_spec) (fun e => hne (by injection e with e; rw [← e]; exact h)), D.few, D.top, by rw [List.length_set]; exact D.wide, by rw [List.length_set]; exact D.dl, fun j x hj => ?_, by rw [List.length_set]; exact D.wf⟩
    · rw [one_set D.cells (.bool !b), List.length_set]
      have e : (dcs us2.length most v ds).setIfInBounds (3 + k) (.bool !b) = dcs us2.length most v (ds.set k (!b)) := by
        apply Array.ext'
        unfold dcs
        rw [show 3 + k = k + 1 + 1 + 1 from by omega]
        simp [List.map_set]
      rw [e]
    · by_cases e : j = k
      · subst e
        rw [List.getElem?_set_self hk] at hj
        injection hj with hj
        rw [List.getElem?_set_self (by rw [D.dl]; exact hd16), hj]
      · rw [List.getElem?_set_ne (fun h => e h.symm)] at hj ⊢
        exact D.link j x hj
  exact (M.call_d V h1 h2 ⟨v, D', Kq.of_grown G fun g hg => .inl (by injection hg with hg; exact hg.symm), fun g hg => .inl hg⟩).1
/-- What the tests behind each step read. -/
theorem Mn.reads (M : Mn B q d ob most o us1 us2 L1 L2 X W) : (∃ A c, W.cell? ⟨d, 2, none⟩ = some (.slice A L2.length c) ∧ (0 < L2.length → ∃ g, A = some ⟨g, 0, none⟩ ∧ g < W.heap.size ∧ ∀ j, j < L2.length → W.cell? ⟨g, j * 3 + 1, none⟩ = some (.int .i64 (mt L2 j).to_))) ∧ d < W.heap.size ∧ (∀ (k : Nat) (b : Bool), us2[k]? = some b → W.cell? ⟨d, 3 + k, none⟩ = some (.bool !b)) ∧
    Calls Try.prog 18 #[.pointer (some ⟨q, 0, none⟩)] W (fun e w' => e = .returned (.int .i64 (L1.length : Nat)) ∧ W = w') ∧
    (∀ k, Calls Try.prog 19 #[.pointer (some ⟨q, 0, none⟩), .int .i64 k] W (fun e w' => e = .returned (.int .i64 (toE L1 k)) ∧ W = w')) ∧
    ∀ k, Calls Try.prog 20 #[.pointer (some ⟨q, 0, none⟩), .int .i64 k] W (fun e w' => e = .returned (.bool (upE us1 k)) ∧ W = w') := by
  obtain ⟨ds, v, V, D, h1, h2⟩ := M.nt
  refine ⟨?_, lt_some D.cells, fun k b h => D.down h, ln_len V, fun k => ln_to V k, fun k => ln_is V k⟩
  obtain ⟨A, c, rfl, _⟩ := re_form D.row
  refine ⟨A, c, D.at3.2.2, fun h0 => ?_⟩
  obtain ⟨g, c', hv, _⟩ := re_some D.row h0
  injection hv with hA _ hcc
  subst hA; subst hcc
  exact ⟨g, rfl, lt_some (re_block D.row rfl).2.choose_spec, fun j hj => (re_cell D.row hj).2.1⟩
end
/-- Between two rounds. -/
def Pn (B : World) (q d most : Nat) (us : List Bool) (L : List Ms) (W : World) : Prop :=
  ∃ ds v, Ln B W q most us L (din d v) ∧ Dn W d most us ds L v ∧ ∀ g, din d v g → B.heap.size ≤ g
section
variable {B W : World} {q d ob most : Nat} {o : Stp} {us : List Bool} {L : List Ms} {X : Nat → Prop}
theorem Pn.be (P : Pn B q d most us L W) : Below B.heap.size B W := by
  obtain ⟨ds, v, V, _⟩ := P
  exact V.be
theorem Mn.leave (M : Mn B q d ob most o us us L L X W) : Pn B q d most us L W := by
  obtain ⟨ds, v, V, D, h1, h2⟩ := M.nt
  exact ⟨ds, v, V.less fun g hg => .inr hg, D, h1⟩
theorem Pn.enter (P : Pn B q d most us L W) (o : Stp) : Mn B q d W.heap.size most o us us L L (fun _ => False) (W.alloc (.cells o.cells 34 (0, 0))) := by
  obtain ⟨ds, v, V, D, h1⟩ := P
  have hb : Below W.heap.size W (W.alloc (.cells o.cells 34 (0, 0))) := (Below.refl _ _).alloc (Nat.le_refl _) _
  refine ⟨⟨ds, v, (V.more hb).less fun g hg => ?_, D.below hb, h1, fun g hg e => ?_⟩, heap_alloc_new _ _⟩
  · rcases hg with (hg | hg) | hg
    · exact hg.elim
    · exact .inr ⟨by rw [hg]; exact Nat.le_refl _, by rw [hg]; simp⟩
    · exact .inl hg
  · have := D.lt g e
    rcases hg with hg | hg
    · exact hg
    · omega
theorem Pn.start {n : Nat} (V : Ln B W q most (List.replicate n true) [] (fun g => g < B.heap.size)) (hn : n ≤ 16) : Pn B q W.heap.size most (List.replicate n true) [] (W.alloc (.cells (dcs n most (.slice none 0 0) (List.replicate 16 false)) 31 (0, 0))) := by
  have hb : Below W.heap.size W (W.alloc (.cells (dcs n most (.slice none 0 0) (List.replicate 16 false)) 31 (0, 0))) := (Below.refl _ _).alloc (Nat.le_refl _) _
  refine ⟨List.replicate 16 false, .slice none 0 0, (V.more hb).less fun g hg => ?_, ⟨by rw [List.length_replicate]; exact heap_alloc_new _ _, World.ownsRow_nil _ _ _ _, Nat.zero_le _, V.few.2, by simpa using hn, by simp, fun k b h => ?_, fun m hm => (nomatch hm)⟩, fun g hg => ?_⟩
  · rcases hg with rfl | hg
    · exact .inr ⟨Nat.le_refl _, by simp⟩
    · simp [Value.ownBlock] at hg
  · rw [List.getElem?_replicate] at h
    split at h
    · injection h with h
      rw [List.getElem?_replicate, if_pos (by omega), ← h]
      rfl
    · cases h
  · rcases hg with rfl | hg
    · exact V.be.size
    · simp [Value.ownBlock] at hg
end
end Nt
end Go.Proofs.Ytenlblembdnniaa
