/- The program's Share: Min, Max, mayShare, handOut. -/
import Derived.Test.YtchlbkfkecpodaaCsW
import Derived.Test.YtchlbkfkecpodaaCsL
import Derived.Lib.MinMax
import Derived.Laws.OwnMore
import Derived.Carry
namespace Go.Proofs.Ytchlbkfkecpodaa
open Go.RowKit
namespace Cs

def i64s (zs : List Int) : List Value := zs.map fun z => .int .i64 z
theorem i64s_len (zs : List Int) : (i64s zs).length = zs.length := by simp [i64s]
theorem i64s_get {zs : List Int} {i : Nat} {z : Int} (h : zs[i]? = some z) : (i64s zs)[i]? = some (.int .i64 z) := by simp [i64s, h]
theorem i64s_set (zs : List Int) (k : Nat) (z : Int) : (i64s zs).set k (.int .i64 z) = i64s (zs.set k z) := by simp [i64s, List.map_set]
theorem i64s_app (a b : List Int) : i64s (a ++ b) = i64s a ++ i64s b := by simp [i64s]
theorem i64s_one (a : List Int) : ∀ u ∈ i64s a, u.oneCell' = true := by intro u hu; simp [i64s] at hu; obtain ⟨c, _, rfl⟩ := hu; rfl

/-- The least, the greatest: it is one of them, and none is below, above. -/
def MinTo (zs : List Int) (w : World) (e : Ending) (w' : World) : Prop := ∃ m, e = .returned (.int .i64 m) ∧ m ∈ zs ∧ (∀ z ∈ zs, m ≤ z) ∧ w = w'
def MaxTo (zs : List Int) (w : World) (e : Ending) (w' : World) : Prop := ∃ m, e = .returned (.int .i64 m) ∧ m ∈ zs ∧ (∀ z ∈ zs, z ≤ m) ∧ w = w'
def MinAt (zs : List Int) (m i : Value) : Prop := ∃ (k : Nat) (v : Int), i = .int .i64 k ∧ k ≤ zs.length ∧ 0 < k ∧ m = .int .i64 v ∧ v ∈ zs.take k ∧ ∀ z ∈ zs.take k, v ≤ z
def MaxAt (zs : List Int) (m i : Value) : Prop := ∃ (k : Nat) (v : Int), i = .int .i64 k ∧ k ≤ zs.length ∧ 0 < k ∧ m = .int .i64 v ∧ v ∈ zs.take k ∧ ∀ z ∈ zs.take k, z ≤ v
theorem mem_snoc {zs : List Int} {k : Nat} {z x : Int} (h : zs[k]? = some z) : x ∈ zs.take (k + 1) ↔ x ∈ zs.take k ∨ x = z := by rw [take_snoc h]; simp
theorem min_next {zs : List Int} {k : Nat} {z v : Int} (h : zs[k]? = some z) (h1 : v ∈ zs.take k) (h2 : ∀ x ∈ zs.take k, v ≤ x) : MinAt zs (.int .i64 (min v z)) (.int .i64 ((k : Int) + 1)) := by
  refine ⟨k + 1, min v z, rfl, (List.getElem?_eq_some_iff.1 h).1, by omega, rfl, ?_, fun x hx => ?_⟩
  · rw [mem_snoc h]
    rcases Int.le_total v z with e | e
    · rw [Int.min_eq_left e]; exact .inl h1
    · rw [Int.min_eq_right e]; exact .inr rfl
  · rcases (mem_snoc h).1 hx with h3 | rfl
    · have := h2 x h3; omega
    · omega
theorem max_next {zs : List Int} {k : Nat} {z v : Int} (h : zs[k]? = some z) (h1 : v ∈ zs.take k) (h2 : ∀ x ∈ zs.take k, x ≤ v) : MaxAt zs (.int .i64 (max v z)) (.int .i64 ((k : Int) + 1)) := by
  refine ⟨k + 1, max v z, rfl, (List.getElem?_eq_some_iff.1 h).1, by omega, rfl, ?_, fun x hx => ?_⟩
  · rw [mem_snoc h]
    rcases Int.le_total v z with e | e
    · rw [Int.max_eq_right e]; exact .inr rfl
    · rw [Int.max_eq_left e]; exact .inl h1
  · rcases (mem_snoc h).1 hx with h3 | rfl
    · have := h2 x h3; omega
    · omega

set_option maxHeartbeats 1600000 in
theorem min_any (ad : Addr) (n c : Nat) (zs : List Int) (w : World) (R : Ri w w.heap.size (some ad) n zs) (h0 : 0 < n) (hn : n ≤ 9223372036854775807) :
    Calls Try.prog 74 #[.slice (some ad) n c] w (MinTo zs w) := by
  have hl := Lib.hid R.len
  obtain ⟨ad', e, hB, hc⟩ := R.at_ h0
  injection e with e
  subst e
  obtain ⟨z0, hz0⟩ : ∃ z, zs[0]? = some z := ⟨_, List.getElem?_eq_getElem (by have := hl.out; omega)⟩
  have q0 := hc 0 z0 hz0
  rw [show ad.add 0 = ad from rfl] at q0
  have st : Hid (MinAt zs (.int .i64 z0) (.int .i64 1)) := by
    have e1 : zs.take 1 = [z0] := by have := take_snoc hz0; simpa using this
    exact ⟨1, z0, rfl, by have := hl.out; omega, by omega, rfl, by rw [e1]; simp, fun z hz => by rw [e1] at hz; simp at hz; omega⟩
  replace hc := Lib.hid hc
  replace hz0 := Lib.hid hz0
  clear R
  go_enter Try.func74, Try.ntmps74
  go_wp2
  go_loop [3, 4] (fun m i => MinAt zs m i) (fun _ i => n - (intOf i).toNat)
  case atStart => exact st.out
  case round =>
    obtain ⟨k, v, rfl, hk, hk0, rfl, h1, h2⟩ := hrel
    have hkn : k ≤ n := by have := hl.out; omega
    clear hk q0
    replace h1 := Lib.hid h1
    replace h2 := Lib.hid h2
    by_cases hlt : k < n
    · obtain ⟨z, hz⟩ : ∃ z, zs[k]? = some z := ⟨_, List.getElem?_eq_getElem (by have := hl.out; omega)⟩
      have q1 := hc.out k z hz
      have nx := Lib.hid (min_next hz h1.out h2.out)
      replace hz := Lib.hid hz
      go_wp2
      go_round
      case rel => exact nx.out
      case measure => simp [intOf]; omega
    · have hkn2 : k = n := by omega
      have Q : Hid (MinTo zs w (.returned (.int .i64 v)) w) := by
        have e1 : zs.take k = zs := List.take_of_length_le (by have := hl.out; omega)
        exact ⟨v, rfl, by rw [← e1]; exact h1.out, by have := h2.out; rw [e1] at this; exact this, rfl⟩
      clear hkn2
      go_wp2
      go_ret
      exact Q.out
set_option maxHeartbeats 1600000 in
theorem max_any (ad : Addr) (n c : Nat) (zs : List Int) (w : World) (R : Ri w w.heap.size (some ad) n zs) (h0 : 0 < n) (hn : n ≤ 9223372036854775807) :
    Calls Try.prog 75 #[.slice (some ad) n c] w (MaxTo zs w) := by
  have hl := Lib.hid R.len
  obtain ⟨ad', e, hB, hc⟩ := R.at_ h0
  injection e with e
  subst e
  obtain ⟨z0, hz0⟩ : ∃ z, zs[0]? = some z := ⟨_, List.getElem?_eq_getElem (by have := hl.out; omega)⟩
  have q0 := hc 0 z0 hz0
  rw [show ad.add 0 = ad from rfl] at q0
  have st : Hid (MaxAt zs (.int .i64 z0) (.int .i64 1)) := by
    have e1 : zs.take 1 = [z0] := by have := take_snoc hz0; simpa using this
    exact ⟨1, z0, rfl, by have := hl.out; omega, by omega, rfl, by rw [e1]; simp, fun z hz => by rw [e1] at hz; simp at hz; omega⟩
  replace hc := Lib.hid hc
  replace hz0 := Lib.hid hz0
  clear R
  go_enter Try.func75, Try.ntmps75
  go_wp2
  go_loop [3, 4] (fun m i => MaxAt zs m i) (fun _ i => n - (intOf i).toNat)
  case atStart => exact st.out
  case round =>
    obtain ⟨k, v, rfl, hk, hk0, rfl, h1, h2⟩ := hrel
    have hkn : k ≤ n := by have := hl.out; omega
    clear hk q0
    replace h1 := Lib.hid h1
    replace h2 := Lib.hid h2
    by_cases hlt : k < n
    · obtain ⟨z, hz⟩ : ∃ z, zs[k]? = some z := ⟨_, List.getElem?_eq_getElem (by have := hl.out; omega)⟩
      have q1 := hc.out k z hz
      have nx := Lib.hid (max_next hz h1.out h2.out)
      replace hz := Lib.hid hz
      go_wp2
      go_round
      case rel => exact nx.out
      case measure => simp [intOf]; omega
    · have hkn2 : k = n := by omega
      have Q : Hid (MaxTo zs w (.returned (.int .i64 v)) w) := by
        have e1 : zs.take k = zs := List.take_of_length_le (by have := hl.out; omega)
        exact ⟨v, rfl, by rw [← e1]; exact h1.out, by have := h2.out; rw [e1] at this; exact this, rfl⟩
      clear hkn2
      go_wp2
      go_ret
      exact Q.out

theorem ri_bound {w : World} {B n : Nat} {A : Option Addr} {zs : List Int} (h : Ri w B A n zs) (h0 : 0 < n) : ∃ ad, A = some ad := by
  obtain ⟨ad, e, _⟩ := h.at_ h0; exact ⟨ad, e⟩
/-- What is left is handed out over a row of the caller's own. -/
def HoAt (w : World) (base g n c : Nat) (L : Int) (ps : List Int) (f : Nat → Int) (l i : Value) (wr : World) : Prop :=
  ∃ k : Nat, i = .int .i64 k ∧ k ≤ n ∧ l = .int .i64 (lf L ps k) ∧ wr.ownsRow base 2 1 (.slice (some ⟨g, 0, none⟩) n c) n (i64s (lst n (upto L ps f k))) ∧ w.grownBy wr (some g)
def HoTo (w : World) (base g n c : Nat) (L : Int) (ps : List Int) (f : Nat → Int) (e : Ending) (w' : World) : Prop :=
  e = .returned (.tuple #[]) ∧ w'.ownsRow base 2 1 (.slice (some ⟨g, 0, none⟩) n c) n (i64s (lst n (upto L ps f n))) ∧ w.grownBy w' (some g)
theorem grown_set (w : World) (p i : Nat) (u : Value) : w.grownBy (w.setCell ⟨p, i, none⟩ u) (some p) :=
  ⟨rfl, rfl, rfl, by simp [World.setCell], fun k _ hk => Below.heap_setCell _ _ _ _ (fun e => hk (by rw [e]))⟩
theorem grown_trans {a b c : World} {g : Option Nat} (h : a.grownBy b g) (k : b.grownBy c g) : a.grownBy c g :=
  ⟨k.os.trans h.os, k.tape.trans h.tape, k.output.trans h.output, Nat.le_trans h.size k.size, fun i hi hg => (k.block i (Nat.lt_of_lt_of_le hi h.size) hg).trans (h.block i hi hg)⟩
theorem grown_refl (w : World) (g : Option Nat) : w.grownBy w g := ⟨rfl, rfl, rfl, Nat.le_refl _, fun _ _ _ => rfl⟩
theorem grown_below {a b : World} {p B : Nat} (h : a.grownBy b (some p)) (hp : B ≤ p) (hB : B ≤ a.heap.size) : Below B a b :=
  ⟨h.os, h.tape, h.output, h.size, fun i hi => h.block i (by omega) (fun e => by injection e; omega)⟩
theorem Ri.grown {w w' : World} {B n g : Nat} {A : Option Addr} {zs : List Int} (h : Ri w B A n zs) (hg : w.grownBy w' (some g)) (hB : B ≤ g) (hw : B ≤ w.heap.size) : Ri w' B A n zs := h.below (grown_below hg hB hw)
theorem own_cell {w : World} {base g n c : Nat} {zs : List Int} {k : Nat} {z : Int} (h : w.ownsRow base 2 1 (.slice (some ⟨g, 0, none⟩) n c) n (i64s zs)) (hk : k < n) (hz : zs[k]? = some z) : w.cell? ⟨g, k, none⟩ = some (.int .i64 z) := by
  rw [h.cellAt k (by omega), i64s_get hz]

end Cs
end Go.Proofs.Ytchlbkfkecpodaa
