/- The document's own Share. -/
import Derived.Test.YtddlcfefeclioaaCsO
namespace Go.Proofs.Ytddlcfefeclioaa
open Go.RowKit
namespace Cs

theorem own_some {w : World} {base n : Nat} {e : TypeId} {v : Value} {xs : List Value} (h : w.ownsRow base e 1 v n xs) (hn : 0 < n) : ∃ g c, v = .slice (some ⟨g, 0, none⟩) n c ∧ base ≤ g ∧ g < w.heap.size := by
  rcases h.2 with ⟨_, h0⟩ | ⟨g, cap, cur, e, hb, hh, h1, h2, _⟩
  · omega
  · exact ⟨g, cap, e, hb, lt_some hh⟩
def S1At (n : Nat) (ps : List Int) (t i : Value) : Prop := ∃ k : Nat, i = .int .i64 k ∧ k ≤ n ∧ t = .int .i64 (sm (at0 ps) k) ∧ ∀ j, j < k → 0 ≤ at0 ps j ∧ at0 ps j ≤ 1000
theorem parts_of {n : Nat} {ps : List Int} (hl : ps.length = n) (h : ∀ j, j < n → 0 ≤ at0 ps j ∧ at0 ps j ≤ 1000) : Parts ps := by
  intro p hp
  obtain ⟨i, hi, e⟩ := List.getElem_of_mem hp
  have := h i (by omega)
  rwa [at0_of (by rw [List.getElem?_eq_getElem hi, e])] at this
theorem sm_first {ps : List Int} {k : Nat} (h : ∀ j, j < k → 0 ≤ at0 ps j ∧ at0 ps j ≤ 1000) : 0 ≤ sm (at0 ps) k ∧ sm (at0 ps) k ≤ 1000 * k := by
  induction k with
  | zero => simp [sm]
  | succ k ih => have h1 := ih fun j hj => h j (by omega); have := h k (by omega); simp only [sm]; omega
theorem may_of {all : Int} {ps : List Int} (h1 : 0 ≤ all) (h2 : all ≤ 1099511627776) (h3 : 1 ≤ ps.length) (h4 : ps.length ≤ 100) (h5 : Parts ps) (h6 : sm (at0 ps) ps.length ≠ 0) : May all ps :=
  ⟨h1, h2, h3, h4, h5, Classical.byContradiction fun e => h6 (sm_none h5 e _ (Nat.le_refl _))⟩

set_option maxHeartbeats 4000000 in
set_option maxRecDepth 100000 in
theorem rshare_no (all : Int) (A : Option Addr) (n c : Nat) (zs : List Int) (w : World) (R : Ri w w.heap.size A n zs) (hn : n ≤ 1000) (h : ¬ May all zs) :
    Calls Try.prog 19 #[.int .i64 all, .slice A n c] w (ShareNo w) := by
  have hl := Lib.hid R.len
  have st : Hid (S1At n zs (.int .i64 0) (.int .i64 0)) := ⟨0, rfl, Nat.zero_le _, rfl, fun j h => absurd h (by omega)⟩
  have Q : Hid (ShareNo w (.returned (.tuple #[.slice none 0 0, .int .i64 1])) w) := ⟨rfl, rfl⟩
  replace h := Lib.hid h
  by_cases h0 : n = 0
  · subst h0
    clear R
    go_enter Try.func19, Try.ntmps19
    go_wp2_with fail
    go_loop [6, 7] (fun t i => t = .int .i64 0 ∧ i = .int .i64 0) (fun _ _ => 0)
    case atStart => exact ⟨rfl, rfl⟩
    case round =>
      obtain ⟨rfl, rfl⟩ := hrel
      by_cases g1 : all < 0
      · go_wp2
        go_ret2
        exact Q.out
      · by_cases g2 : 1099511627776 < all
        · go_wp2
          go_ret2
          exact Q.out
        · go_wp2
          go_ret2
          exact Q.out
  obtain ⟨ad, rfl, hB, hc⟩ := R.at_ (by omega)
  replace hc := Lib.hid hc
  have hin := Lib.hid R.in_
  clear R
  go_enter Try.func19, Try.ntmps19
  go_wp2_with fail
  go_loop [6, 7] (fun t i => S1At n zs t i) (fun _ i => n - (intOf i).toNat)
  case atStart => exact st.out
  case round =>
    obtain ⟨k, rfl, hk, rfl, hp⟩ := hrel
    have hb := sm_first hp
    replace hp := Lib.hid hp
    by_cases hlt : k < n
    · have hz := get_at0 (ps := zs) (show k < zs.length by have := hl.out; omega)
      have q0 := hc.out k _ hz
      have pI := hin.out _ (List.mem_of_getElem? hz)
      have nx : Hid (0 ≤ at0 zs k → at0 zs k ≤ 1000 → S1At n zs (.int .i64 (sm (at0 zs) k + at0 zs k)) (.int .i64 ((k : Int) + 1))) := fun a b =>
        ⟨k + 1, rfl, hlt, rfl, fun j hj => by
          by_cases e : j = k
          · subst e; exact ⟨a, b⟩
          · exact hp.out j (by omega)⟩
      clear hz
      obtain ⟨s, hs⟩ : ∃ s, s = sm (at0 zs) k := ⟨_, rfl⟩
      obtain ⟨p, hpk⟩ : ∃ p, p = at0 zs k := ⟨_, rfl⟩
      rw [← hpk] at q0 pI nx
      rw [← hs] at nx hb ⊢
      clear hpk hs
      by_cases g1 : p < 0
      · go_wp2
        go_ret2
        exact Q.out
      · by_cases g2 : 1000 < p
        · go_wp2
          go_ret2
          exact Q.out
        · have nx := Lib.hid (nx.out (by omega) (by omega))
          have hs2 : s ≤ 1000000 := by omega
          go_wp2
          exact ⟨nx.out, by simp [intOf]; omega⟩
    · obtain rfl : k = n := by omega
      have hP : Hid (Parts zs) := parts_of hl.out hp.out
      have hno : Hid (0 ≤ all → all ≤ 1099511627776 → k ≤ 100 → sm (at0 zs) k ≠ 0 → False) := fun a b c d => h.out (may_of a b (by have := hl.out; omega) (by have := hl.out; omega) hP.out (by rw [hl.out]; exact d))
      obtain ⟨s, hs⟩ : ∃ s, s = sm (at0 zs) k := ⟨_, rfl⟩
      rw [← hs] at hno hb ⊢
      clear hs
      by_cases g1 : all < 0
      · go_wp2
        go_ret2
        exact Q.out
      · by_cases g2 : 1099511627776 < all
        · go_wp2
          go_ret2
          exact Q.out
        · by_cases g3 : 100 < k
          · go_wp2
            go_ret2
            exact Q.out
          · by_cases g4 : s = 0
            · subst g4
              go_wp2
              go_ret2
              exact Q.out
            · exact (hno.out (by omega) (by omega) (by omega) g4).elim
end Cs
end Go.Proofs.Ytddlcfefeclioaa
