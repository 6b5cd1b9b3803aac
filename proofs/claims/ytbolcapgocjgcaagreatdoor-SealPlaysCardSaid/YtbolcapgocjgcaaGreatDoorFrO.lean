/- What comes in: a slice of slices of bytes. -/
import Derived.Test.YtbolcapgocjgcaaGreatDoorFrF
namespace Go.Proofs.YtbolcapgocjgcaaGreatDoor
set_option maxRecDepth 100000
open Go.ChangeShapes Go.WideShapes Go.ChangeAt Go.WideMaps Go.WideElems Go.RowKit
open Go.Proofs.YtbolcapgocjgcaaGreatDoor.Pk
namespace Fr

/-- One of the slices that came in, below B. -/
def Ti (w : World) (B : Nat) (r : List UInt8) (u : Value) : Prop := ∃ A c, u = .slice A r.length c ∧ (A = none → c = 0) ∧ r.length ≤ c ∧ c ≤ 9223372036854775807 ∧ Rb w (fun g => g < B) A r.length r
structure Txts (w : World) (B : Nat) (A : Option Addr) (n : Nat) (l : List (List UInt8)) : Prop where
  len : l.length = n
  at_ : 0 < n → ∃ a, A = some a ∧ a.block < B ∧ ∀ (i : Nat) (r : List UInt8), l[i]? = some r → ∃ u, w.cell? (a.add i) = some u ∧ Ti w B r u
theorem Ti.below {w w' : World} {B : Nat} {r : List UInt8} {u : Value} (h : Ti w B r u) (hb : Below B w w') : Ti w' B r u := by
  obtain ⟨A, c, h1, h2, h3, h4, h5⟩ := h
  exact ⟨A, c, h1, h2, h3, h4, h5.keep (fun g hg => hb.block g hg) (fun g hg => hg)⟩
theorem Txts.below {w w' : World} {B : Nat} {A : Option Addr} {n : Nat} {l : List (List UInt8)} (h : Txts w B A n l) (hb : Below B w w') : Txts w' B A n l :=
  ⟨h.len, fun hn => by
    obtain ⟨a, e, ha, hc⟩ := h.at_ hn
    refine ⟨a, e, ha, fun i r hi => ?_⟩
    obtain ⟨u, h1, h2⟩ := hc i r hi
    exact ⟨u, (World.cell?_of_block (by rw [adr_block]; exact hb.block _ ha)).trans h1, h2.below hb⟩⟩

theorem view_texts {H : Type} {enc : TypeId × Value → H} {W : World} {sp : Nat → Bool} {held : Bool} {v : Value} {d : DataW H} {p : List MemPlace} {r : Reach} {b0 : Nat}
    (hv : Value.okWide Tryz.prog W r b0 32 v) (h : DataW.Trod enc Tryz.prog W 0 sp held 32 v d p) : ∃ A n c l, v = .slice A n c ∧ n ≤ c ∧ c ≤ 9223372036854775807 ∧ Txts W W.heap.size A n l := by
  obtain ⟨A, n, c, rfl⟩ := okWide_slice Tryz.underlying32 hv
  obtain ⟨fuel, hf⟩ := h
  have c22 : Tryz.prog.cellsOf 39 = 1 := by kernel_rfl
  have c5 : Tryz.prog.cellsOf 5 = 1 := by kernel_rfl
  rcases Go.Deep.open_slice1 Tryz.underlying32 c22 hf with ⟨hcs, _⟩ | ⟨a, len, cap, m, fu, V, D, Pl, hcs, _, hl, hm, hmm, _, hi⟩
  · obtain ⟨rfl, rfl, rfl⟩ : A = none ∧ n = 0 ∧ c = 0 := by simpa [Value.cells] using hcs
    exact ⟨none, 0, 0, [], rfl, Nat.le_refl _, by omega, ⟨rfl, fun h => absurd h (by omega)⟩⟩
  · obtain ⟨rfl, rfl, rfl⟩ : A = some a ∧ n = len ∧ c = cap := by simpa [Value.cells] using hcs
    have hle : n ≤ m := by rw [hmm]; split <;> omega
    unfold maxLen at hm
    have one : ∀ i, i < n → ∃ r, Ti W W.heap.size r (V i) := by
      intro i hin
      obtain ⟨_, h2⟩ := hi i (by omega)
      rcases open_ints Tryz.underlying39 Tryz.underlying5 c5 h2 with ⟨hcs, _⟩ | ⟨b, len, cap, zs, hcs, _, hl, hm, hz, _, hcell, hwz⟩
      · have e : V i = .slice none 0 0 := by simpa using hcs
        exact ⟨[], none, 0, e, fun _ => rfl, Nat.le_refl _, by omega, Rb.none_⟩
      · have e : V i = .slice (some b) len cap := by simpa using hcs
        have hle : len ≤ zs.length := by rw [hz]; split <;> omega
        unfold maxLen at hm
        have hlen : ((zs.take len).map fun z => UInt8.ofNat z.toNat).length = len := by simp; omega
        refine ⟨(zs.take len).map fun z => UInt8.ofNat z.toNat, some b, cap, by rw [hlen]; exact e, (fun e => by cases e), by rw [hlen]; exact hl, by omega, ⟨rfl, fun hn => ⟨b, rfl, ?_, fun j x hj => ?_⟩⟩⟩
        · have := block_lt_of_cell (hcell 0 (by omega))
          rwa [adr_block] at this
        · rw [List.getElem?_map, List.getElem?_take] at hj
          split at hj
          · have hjz : j < zs.length := by omega
            rw [List.getElem?_eq_getElem hjz] at hj
            simp only [Option.map_some, Option.some.injEq] at hj
            have hw := bounds_u8 (hwz _ (List.getElem_mem hjz))
            rw [hcell j hjz, ← hj, ofNat_toNat (by omega), List.getD_eq_getElem?_getD, List.getElem?_eq_getElem hjz]
            simp only [Option.getD_some]
            congr 2
            omega
          · cases hj
    have all : ∀ k, k ≤ n → ∃ l : List (List UInt8), l.length = k ∧ ∀ (i : Nat) (r : List UInt8), l[i]? = some r → Ti W W.heap.size r (V i) := by
      intro k
      induction k with
      | zero => intro _; exact ⟨[], rfl, fun i o h => by simp at h⟩
      | succ k ih =>
        intro hk
        obtain ⟨l, h1, h2⟩ := ih (by omega)
        obtain ⟨o, h4⟩ := one k (by omega)
        refine ⟨l ++ [o], by simp [h1], fun i o' hi => ?_⟩
        rw [List.getElem?_append] at hi
        split at hi
        · exact h2 i o' hi
        · rename_i hge
          have hi0 : i - l.length = 0 := by
            rcases Nat.eq_zero_or_pos (i - l.length) with e | e
            · exact e
            · rw [List.getElem?_eq_none (by simp; omega)] at hi; cases hi
          rw [hi0] at hi
          simp only [List.getElem?_cons_zero, Option.some.injEq] at hi
          subst hi
          obtain rfl : i = k := by omega
          exact h4
    obtain ⟨l, h1, h2⟩ := all n (Nat.le_refl _)
    refine ⟨some a, n, c, l, rfl, hl, by omega, ⟨h1, fun hn => ⟨a, rfl, ?_, fun i r hir => ?_⟩⟩⟩
    · have := block_lt_of_cell (hi 0 (by omega)).1
      rwa [adr_block] at this
    · have hin : i < n := by rw [← h1]; exact (List.getElem?_eq_some_iff.1 hir).1
      exact ⟨V i, (hi i (by omega)).1, h2 i r hir⟩

theorem Txts.get {w : World} {B n k : Nat} {a : Addr} {l : List (List UInt8)} {r : List UInt8} (h : Txts w B (some a) n l) (hr : l[k]? = some r) : ∃ u, w.cell? (a.add k) = some u ∧ Ti w B r u := by
  have hn : k < l.length := (List.getElem?_eq_some_iff.1 hr).1
  obtain ⟨a', e, _, h2⟩ := h.at_ (by have := h.len; omega)
  injection e with e
  subst e
  exact h2 k r hr
theorem frames_len_le {M : Nat} (l : List (List UInt8)) (h : ∀ r ∈ l, 1 ≤ r.length ∧ r.length ≤ M) : (frames l).length ≤ l.length * (M + 6) := by
  induction l with
  | nil => simp [frames]
  | cons r t ih =>
    have h1 := ih (fun x hx => h x (List.mem_cons_of_mem _ hx))
    have h2 := h r (List.mem_cons_self ..)
    show (frame r ++ frames t).length ≤ (t.length + 1) * (M + 6)
    rw [List.length_append, frame_len, Nat.add_mul]; omega
theorem take_snoc {l : List (List UInt8)} {k : Nat} {r : List UInt8} (h : l[k]? = some r) : l.take (k + 1) = l.take k ++ [r] := by rw [List.take_add_one, h]; rfl
theorem frames_take {l : List (List UInt8)} {k : Nat} {r : List UInt8} (h : l[k]? = some r) : frames (l.take (k + 1)) = frames (l.take k) ++ frame r := by rw [take_snoc h, frames_snoc]
theorem frames_app (a b : List (List UInt8)) : frames (a ++ b) = frames a ++ frames b := by
  induction a with
  | nil => rfl
  | cons x t ih => show frame x ++ frames (t ++ b) = (frame x ++ frames t) ++ frames b; rw [ih, List.append_assoc]
theorem frames_drop (l : List (List UInt8)) (k : Nat) : (frames l).drop (frames (l.take k)).length = frames (l.drop k) := by
  conv => lhs; rw [← List.take_append_drop k l]
  rw [frames_app, List.take_append_drop, List.drop_left' rfl]
theorem all_snoc {l : List (List UInt8)} {k M : Nat} {r : List UInt8} (h : ∀ x ∈ l.take k, 1 ≤ x.length ∧ x.length ≤ M) (hr : l[k]? = some r) (h1 : 1 ≤ r.length) (h2 : r.length ≤ M) : ∀ x ∈ l.take (k + 1), 1 ≤ x.length ∧ x.length ≤ M := by
  intro x hx
  rw [take_snoc hr] at hx
  rcases List.mem_append.1 hx with hx | hx
  · exact h x hx
  · rw [List.mem_singleton.1 hx]; exact ⟨h1, h2⟩
theorem own_below {w w' : World} {base n : Nat} {e : TypeId} {v : Value} {xs : List Value} (h : w.ownsRow base e 1 v n xs) (hb : Below w.heap.size w w') : w'.ownsRow base e 1 v n xs := own_keep h fun g hg => hb.block g (h.lt g hg).2
end Fr
end Go.Proofs.YtbolcapgocjgcaaGreatDoor
