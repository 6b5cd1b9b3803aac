/- The document's wheel in memory. -/
import Derived.Test.YtnfakkinaockiaaWhW
namespace Go.Proofs.Ytnfakkinaockiaa
set_option maxRecDepth 100000
open Go.RowKit
open Go.Proofs.Ytnfakkinaockiaa.Pk (one_at one_free one_set lt_some grown_set)
namespace Wh

/-! ### lists -/
theorem fnd_first {id : Int} : ∀ {S : List Tm} {k : Nat}, k < S.length → (∀ j, j < k → (gt S j).1 ≠ id) → (gt S k).1 = id → fnd id S = some (gt S k)
  | s :: r, 0, _, _, e => by
    have : s.1 = id := by simpa [gt] using e
    simp [fnd, gt, this]
  | s :: r, k + 1, hk, hn, e => by
    have h0 : s.1 ≠ id := by simpa [gt] using hn 0 (by omega)
    have e1 : ∀ j, gt (s :: r) (j + 1) = gt r j := fun j => by simp [gt]
    rw [e1] at e ⊢
    have := fnd_first (S := r) (k := k) (by simpa using hk) (fun j hj => by rw [← e1]; exact hn (j + 1) (by omega)) e
    unfold fnd at *
    rw [List.find?_cons_of_neg (by simpa using h0)]
    exact this
theorem gt_idx {S : List Tm} {t : Tm} (h : t ∈ S) : ∃ j, j < S.length ∧ gt S j = t := by
  obtain ⟨i, hi, e⟩ := List.mem_iff_getElem.1 h
  exact ⟨i, hi, by simp [gt, hi, e]⟩
theorem fnd_no {id : Int} {S : List Tm} (hn : ∀ j, j < S.length → (gt S j).1 ≠ id) : fnd id S = none := fnd_none.2 fun t ht => by
  obtain ⟨j, hj, rfl⟩ := gt_idx ht
  exact hn j hj
theorem without_at {S : List Tm} {k : Nat} {id : Int} (h : Nd S) (hk : k < S.length) (e : (gt S k).1 = id) : without id S = S.take k ++ S.drop (k + 1) := by
  have e1 : gt S k = S[k] := by simp [gt, hk]
  have e2 : S = S.take k ++ gt S k :: S.drop (k + 1) := by rw [e1]; simp
  have h2 := h
  rw [e2] at h2
  have := nd_split h2
  rw [← e2, e] at this
  exact this
theorem without_no {S : List Tm} {id : Int} (hn : fnd id S = none) : without id S = S := without_none (fnd_none.1 hn)
theorem ins_at {t : Tm} : ∀ {S : List Tm} {k : Nat}, k ≤ S.length → (∀ j, j < k → tlt (gt S j) t) → (k < S.length → ¬ tlt (gt S k) t) → ins t S = S.take k ++ t :: S.drop k
  | [], k, _, _, _ => by simp [ins]
  | s :: r, 0, _, _, h => by
    have : ¬ tlt s t := by simpa [gt] using h (by simp)
    simp [ins, this]
  | s :: r, k + 1, hk, hl, h => by
    have e1 : ∀ j, gt (s :: r) (j + 1) = gt r j := fun j => by simp [gt]
    have h0 : tlt s t := by simpa [gt] using hl 0 (by omega)
    have := ins_at (t := t) (S := r) (k := k) (by simpa using hk) (fun j hj => by rw [← e1]; exact hl (j + 1) (by omega)) (fun hk' => by rw [← e1]; exact h (by simpa using hk'))
    simp [ins, h0, this]

/-! ### rows that are read -/
/-- The slice value '.slice A n c' reads as the timers S. -/
structure Rt (w : World) (A : Option Addr) (n : Nat) (S : List Tm) : Prop where
  len : S.length = n
  at_ : 0 < n → ∃ g o, A = some ⟨g, o, none⟩ ∧ ∀ j u, (flt S)[j]? = some u → w.cell? ⟨g, o + j, none⟩ = some u
/-- The block that it lies in. -/
def rbk (A : Option Addr) (n : Nat) (g : Nat) : Prop := 0 < n ∧ ∃ o, A = some ⟨g, o, none⟩
section
variable {w w' : World} {A : Option Addr} {n : Nat} {S : List Tm}
theorem Rt.keep (h : Rt w A n S) (hk : ∀ g, rbk A n g → w'.heap[g]? = w.heap[g]?) : Rt w' A n S :=
  ⟨h.len, fun h0 => by
    obtain ⟨g, o, e, hc⟩ := h.at_ h0
    exact ⟨g, o, e, fun j u hu => (World.cell?_of_block (hk g ⟨h0, o, e⟩)).trans (hc j u hu)⟩⟩
theorem Rt.tm (h : Rt w A n S) {k : Nat} (hk : k < n) : ∃ g o, A = some ⟨g, o, none⟩ ∧ w.cell? ⟨g, o + k * 2, none⟩ = some (.int .i64 (gt S k).1) ∧ w.cell? ⟨g, o + k * 2 + 1, none⟩ = some (.int .i64 (gt S k).2) := by
  obtain ⟨g, o, e, hc⟩ := h.at_ (by omega)
  have := flt_at (l := S) (i := k) (by rw [h.len]; exact hk)
  exact ⟨g, o, e, hc _ _ this.1, hc _ _ this.2⟩
theorem Rt.lt (h : Rt w A n S) : ∀ g, rbk A n g → g < w.heap.size := by
  rintro g ⟨h0, o, e⟩
  obtain ⟨g', o', e', hc, _⟩ := h.tm h0
  rw [e] at e'
  injection e' with e'
  injection e' with e1 e2
  subst e1
  exact lt_of_cell hc
theorem rbk_less {m : Nat} {g : Nat} (h : rbk A m g) (hm : m ≤ n) : rbk A n g := ⟨Nat.lt_of_lt_of_le h.1 hm, h.2⟩
theorem flt_drop (M : List Tm) (k : Nat) : flt (M.drop k) = (flt M).drop (k * 2) := by
  rcases Nat.le_total k M.length with h | h
  · have e1 : flt M = flt (M.take k) ++ flt (M.drop k) := by rw [← flt_app, List.take_append_drop]
    rw [e1, List.drop_left' (by rw [flt_len, List.length_take]; congr 1; omega)]
  · rw [List.drop_of_length_le h, List.drop_of_length_le (by rw [flt_len]; omega)]
    rfl
theorem flt_part {M : List Tm} {a b j : Nat} {u : Value} (hu : (flt ((M.drop a).take b))[j]? = some u) : (flt M)[a * 2 + j]? = some u := by
  have h1 : (flt ((M.drop a).take b))[j]? = (flt (M.drop a))[j]? := by
    have h2 : flt (M.drop a) = flt ((M.drop a).take b) ++ flt ((M.drop a).drop b) := by rw [← flt_app, List.take_append_drop]
    rw [h2, List.getElem?_append_left (List.getElem?_eq_some_iff.1 hu).1]
  rw [h1, flt_drop, List.getElem?_drop] at hu
  exact hu
/-- A row less its first. -/
theorem Rt.tail {s : Tm} {r : List Tm} {g o : Nat} (h : Rt w (some ⟨g, o, none⟩) (r.length + 1) (s :: r)) : Rt w (some ⟨g, o + 2, none⟩) r.length r :=
  ⟨rfl, fun h0 => by
    obtain ⟨g', o', e, hc⟩ := h.at_ (by omega)
    injection e with e
    injection e with e1 e2
    subst e1; subst e2
    refine ⟨_, _, rfl, fun j u hu => ?_⟩
    have := hc (j + 2) u (by rw [flt_cons]; simpa using hu)
    rw [show o + 2 + j = o + (j + 2) from by omega]
    exact this⟩
end

/-- What is appended: m timers of a row, or none. -/
structure Srcs (w : World) (B : Option Addr) (m : Nat) (Y : List Tm) : Prop where
  len : Y.length = m
  none_ : B = none → m = 0
  news : ∀ ad, B = some ad → ∀ j u, (flt Y)[j]? = some u → w.cell? (ad.add j) = some u

/-- The document's wheel. -/
structure Dw (w : World) (d : Nat) (now : Int) (S : List Tm) (A : Option Addr) (c : Nat) : Prop where
  cells : w.heap[d]? = some (.cells #[.int .i64 now, .slice A S.length c] 36 (0, 0))
  row : Rt w A S.length S
  cap : S.length ≤ c
  max : c ≤ 9223372036854775807
  frm : (A = none ∧ c = 0) ∨ ∃ g o, A = some ⟨g, o, none⟩
  ne : ¬ rbk A S.length d
section
variable {w w' : World} {d c : Nat} {now : Int} {S : List Tm} {A : Option Addr}
theorem Dw.keep (D : Dw w d now S A c) (hk : ∀ g, g = d ∨ rbk A S.length g → w'.heap[g]? = w.heap[g]?) : Dw w' d now S A c :=
  ⟨(hk d (.inl rfl)).trans D.cells, D.row.keep fun g hg => hk g (.inr hg), D.cap, D.max, D.frm, D.ne⟩
theorem Dw.lt (D : Dw w d now S A c) : ∀ g, g = d ∨ rbk A S.length g → g < w.heap.size := by
  rintro g (rfl | hg)
  · exact lt_some D.cells
  · exact D.row.lt g hg
theorem Dw.below (D : Dw w d now S A c) (hb : Below w.heap.size w w') : Dw w' d now S A c := D.keep fun g hg => hb.block g (D.lt g hg)
theorem t_size (W : World) : (sizeOf (Try.prog.elem 34)).run Try.prog W = .ok 2 W := by kernel_rfl
/-- The two parts of the timers, from the i-th and to the k-th. -/
theorem Dw.upto (D : Dw w d now S A c) {i : Nat} (hi : i ≤ S.length) (W : World) : (Instr.slice 34 (.slice A S.length c) none (some (.int .i64 (i : Int))) none).run Try.prog W = .ok (.slice A i c) W := by
  have := D.cap
  rw [run_slice_h W 34 _ _ c (by kernel_rfl) .i64 (i : Int) (by omega) (by omega), t_size]
  rcases D.frm with ⟨rfl, rfl⟩ | ⟨g, o, rfl⟩
  · have h0 : i = 0 := by omega
    subst h0
    simp [Result.andThen, sliced]
  · simp only [Result.andThen, sliced]
    by_cases hc : c = 0 <;> simp [hc, Addr.add]
theorem Dw.from_ (D : Dw w d now S A c) {i : Nat} (hi : i ≤ S.length) : ∃ B, (∀ W : World, (Instr.slice 34 (.slice A S.length c) (some (.int .i64 (i : Int))) none none).run Try.prog W = .ok (.slice B (S.length - i) (c - i)) W) ∧ (B = none → A = none ∧ c = 0) ∧ ∀ g o, A = some ⟨g, o, none⟩ → (i < S.length → B = some ⟨g, o + i * 2, none⟩) ∧ ∃ o', B = some ⟨g, o', none⟩ := by
  have := D.cap
  have L : ∀ W : World, _ := fun W => run_slice_l (P := Try.prog) W 34 A S.length c (by kernel_rfl) .i64 (i : Int) (by omega) (by omega)
  rcases D.frm with ⟨rfl, rfl⟩ | ⟨g, o, rfl⟩
  · have h0 : i = 0 := by omega
    subst h0
    refine ⟨none, fun W => ?_, fun _ => ⟨rfl, rfl⟩, fun g o h => by cases h⟩
    rw [L, t_size]
    simp [Result.andThen, sliced]
  · by_cases hc : c = i
    · refine ⟨some ⟨g, o, none⟩, fun W => ?_, (by intro h; cases h), fun g' o' h => ⟨fun h2 => by omega, o, ?_⟩⟩
      · rw [L, t_size]
        simp [Result.andThen, sliced, hc]
      · injection h with h
        injection h with h1 h2
        rw [h1]
    · refine ⟨some ⟨g, o + i * 2, none⟩, fun W => ?_, (by intro h; cases h), fun g' o' h => ?_⟩
      · rw [L, t_size]
        simp [Result.andThen, sliced, hc, Addr.add]
      · injection h with h
        injection h with h1 h2
        subst h1; subst h2
        exact ⟨fun _ => rfl, _, rfl⟩
theorem Dw.srcs (D : Dw w d now S A c) (hk : ∀ g, rbk A S.length g → w'.heap[g]? = w.heap[g]?) {i : Nat} (hi : i ≤ S.length) : Srcs w' A i (S.take i) := by
  have R := D.row.keep hk
  refine ⟨by rw [List.length_take]; omega, fun h => ?_, fun ad h j u hu => ?_⟩
  · rcases D.frm with ⟨_, h0⟩ | ⟨g, o, h0⟩
    · have := D.cap; omega
    · rw [h] at h0; cases h0
  · have h0 : 0 < S.length := by
      rcases Nat.eq_zero_or_pos S.length with e | e
      · rw [List.length_eq_zero_iff.1 e] at hu
        simp [flt] at hu
      · exact e
    obtain ⟨g, o, e, hc⟩ := R.at_ h0
    rw [h] at e
    injection e with e
    subst e
    have := hc j u (by have := flt_part (M := S) (a := 0) (b := i) (j := j) (u := u) (by simpa using hu); simpa using this)
    rw [Addr.add_lit]
    exact this
theorem Dw.srcs2 (D : Dw w d now S A c) (hk : ∀ g, rbk A S.length g → w'.heap[g]? = w.heap[g]?) {i : Nat} (hi : i ≤ S.length) {B : Option Addr} (hn : B = none → A = none ∧ c = 0) (hB : ∀ g o, A = some ⟨g, o, none⟩ → (i < S.length → B = some ⟨g, o + i * 2, none⟩)) : Srcs w' B (S.length - i) (S.drop i) := by
  have R := D.row.keep hk
  refine ⟨by rw [List.length_drop], fun h => ?_, fun ad h j u hu => ?_⟩
  · have := (hn h).2
    have := D.cap
    omega
  · have h1 : i < S.length := by
      rcases Nat.lt_or_ge i S.length with e | e
      · exact e
      · rw [List.drop_of_length_le e] at hu
        simp [flt] at hu
    obtain ⟨g, o, e, hc⟩ := R.at_ (by omega)
    rw [hB g o e h1] at h
    injection h with h
    subst h
    have := hc (i * 2 + j) u (flt_part (M := S) (a := i) (b := S.length) (by rw [List.take_of_length_le (by simp)]; exact hu))
    rw [Addr.add_lit, Nat.add_assoc]
    exact this
end
/-- What a call on the document's wheel leaves. -/
def DwTo (w : World) (d : Nat) (A : Option Addr) (n : Nat) (now : Int) (S : List Tm) (w' : World) : Prop :=
  ∃ A' c', Dw w' d now S A' c' ∧ Kq (fun g => g = d) w w' ∧ ∀ g, rbk A' S.length g → rbk A n g ∨ w.heap.size ≤ g
theorem DwTo.of_below {w w' : World} {d c : Nat} {now : Int} {S : List Tm} {A : Option Addr} (D : Dw w d now S A c) (hb : Below w.heap.size w w') : DwTo w d A S.length now S w' :=
  ⟨A, c, D.below hb, .of_below hb, fun _ h => .inl h⟩
/-- A new row stored in it. -/
theorem DwTo.of_row {w W W3 : World} {d c c3 n : Nat} {now : Int} {S S' : List Tm} {A A3 : Option Addr} (D : Dw w d now S A c) (hb : Below w.heap.size w W) (be : Below W.heap.size W W3) (hn : S'.length = n) (o : W3.ownsRow W.heap.size 44 2 (.slice A3 n c3) n (flt S')) :
    W3.cell? ⟨d, 1, none⟩ = some (.slice A S.length c) ∧ W3.frozen? ⟨d, 1, none⟩ = false ∧ DwTo w d A S.length now S' (W3.setCell ⟨d, 1, none⟩ (.slice A3 n c3)) := by
  subst hn
  have b2 : Below w.heap.size w W3 := hb.trans (be.mono hb.size)
  have D3 := D.below b2
  have gs := grown_set W3 d 1 (.slice A3 S'.length c3)
  have hd := lt_some D.cells
  refine ⟨one_at (i := 1) D3.cells, one_free D3.cells, A3, c3, ?_, (Kq.of_below b2).trans' (.of_grown gs fun g hg => by injection hg with hg; exact hg.symm), ?_⟩
  · rcases o.2 with ⟨h1, h2⟩ | ⟨g, cap, cur, hv, hg, hh, h1, h2, h3, h4⟩
    · injection h1 with h1 h3 h4
      subst h1
      have hc := one_set (i := 1) D3.cells (.slice none S'.length c3)
      refine ⟨hc, ⟨rfl, fun h => by omega⟩, by omega, by omega, .inl ⟨rfl, h4⟩, fun h => by have := h.1; omega⟩
    · injection hv with hv _ hcap
      subst hv; subst hcap
      have hc := one_set (i := 1) D3.cells (.slice (some ⟨g, 0, none⟩) S'.length c3)
      have hgd : g ≠ d := by
        have := hb.size
        omega
      unfold maxLen at h2
      refine ⟨hc, ⟨rfl, fun _ => ⟨g, 0, rfl, fun j u hu => ?_⟩⟩, h1, h2, .inr ⟨g, 0, rfl⟩, fun h => ?_⟩
      · have h5 := o.cells (g := g) rfl j u hu
        rw [Addr.add_lit] at h5
        rw [← h5]
        exact World.cell?_of_block (gs.block g (lt_some hh) (fun e => hgd (by injection e)))
      · obtain ⟨_, o', e⟩ := h
        injection e with e
        injection e with e
        exact hgd e
  · rintro g ⟨h0, o', e⟩
    right
    rcases o.2 with ⟨h1, _⟩ | ⟨g', cap, cur, hv, hg, _⟩
    · injection h1 with h1
      rw [e] at h1
      cases h1
    · injection hv with hv
      rw [e] at hv
      injection hv with hv
      injection hv with hv
      subst hv
      exact Nat.le_trans hb.size hg
end Wh
end Go.Proofs.Ytnfakkinaockiaa
