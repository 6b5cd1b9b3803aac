/- container/heap's down. -/
import Derived.Test.YtnfakkinaockiaaWhD
namespace Go.Proofs.Ytnfakkinaockiaa
set_option maxRecDepth 100000
open Go.RowKit
open Go.Sort (grow)
open Go.Proofs.Ytnfakkinaockiaa.Pk (one_at one_free one_set lt_some grown_set grown_trans below_grown grown_refl)
namespace Wh

def DnAt (w : World) (h : Nat) (v : Value) (mo : Option Nat) (m i0 : Nat) (l : List Tm) (vi : Value) (wr : World) : Prop := ∃ l' i, vi = .int .i64 (i : Nat) ∧ i < m ∧ DnI m i0 i l' ∧ Mv w h v mo m l l' wr ∧ (i = i0 → l' = l)
def DnTo (w : World) (h : Nat) (v : Value) (mo : Option Nat) (m i0 : Nat) (l : List Tm) (e : Ending) (w' : World) : Prop := ∃ l' b, e = .returned (.bool b) ∧ Mv w h v mo m l l' w' ∧ (b = true → Heap m l') ∧ (b = false → UpI m i0 l' ∧ l' = l)
theorem tlt_of_le3 {a b c : Tm} (h : tle a b) (k : tlt b c) : tlt a c := by unfold tlt tle at *; omega
theorem DnTo.of {w w' : World} {h m i0 i : Nat} {v : Value} {mo : Option Nat} {l l' : List Tm} (M : Mv w h v mo m l l' w') (I : DnI m i0 i l') (hl : i = i0 → l' = l) (ho : ∀ j', (j' = 2 * i + 1 ∨ j' = 2 * i + 2) → j' < m → ¬ tlt (gt l' j') (gt l' i)) :
    DnTo w h v mo m i0 l (.returned (.bool (decide (i0 < i)))) w' := by
  obtain ⟨h1, h2⟩ := dn_over I ho
  have hc := I.c
  refine ⟨l', _, rfl, M, fun e => h1 (by have := of_decide_eq_true e; omega), fun e => ?_⟩
  have e := of_decide_eq_false e
  have e2 : i = i0 := by omega
  exact ⟨h2 e2, hl e2⟩
set_option maxHeartbeats 16000000 in
theorem down_any (w : World) (h : Nat) (l : List Tm) (v : Value) (mo : Option Nat) (H : Hpo w h l v mo) (m i0 : Nat) (hm : m ≤ l.length) (hi0 : i0 < m) (I : DnI m i0 i0 l) :
    Calls Try.prog 49 #[.iface 61 (.pointer (some ⟨h, 0, none⟩)), .int .i64 i0, .int .i64 m] w (DnTo w h v mo m i0 l) := by
  have st : Hid (DnAt w h v mo m i0 l (.int .i64 i0) w) := ⟨l, i0, rfl, hi0, I, Mv.refl H m, fun _ => rfl⟩
  have few := H.few
  have hm' : m ≤ 1000000 := by omega
  replace hm := Lib.hid hm
  have ml := m_Less
  have ms := m_Swap
  clear H I few hi0
  go_enter Try.func49, Try.ntmps49
  go_wp2_with fail
  go_loopw [7] (fun vi wr => DnAt w h v mo m i0 l vi wr) (fun vi _ => m - (intOf vi).toNat)
  case atStart => exact st.out
  case round =>
    obtain ⟨l', i, rfl, hi, I, M, hl⟩ := hrel
    clear st
    have hml : Hid (m ≤ l'.length) := by have := M.len; have := hm.out; show _ ≤ _; omega
    obtain ⟨j1, hj1⟩ : ∃ z, z = 2 * i + 1 := ⟨_, rfl⟩
    obtain ⟨j2, hj2⟩ : ∃ z, z = 2 * i + 2 := ⟨_, rfl⟩
    have i3 : (m : Int) ≤ 1000000 := by omega
    have i4 : (i : Int) < (m : Int) := by omega
    have i5 : (0 : Int) ≤ (i : Int) := by omega
    have i6 : (0 : Int) ≤ (j1 : Int) := by omega
    have ew : 2 * (i : Int) + 1 = (j1 : Int) := by omega
    have ew2 : (j1 : Int) + 1 = (j2 : Int) := by omega
    have hc0 : Hid (i0 ≤ i) := I.c
    by_cases hA : m ≤ j1
    · have E := Lib.hid (DnTo.of M I hl (fun j' hj' hm' => by omega))
      have d0 : decide ((m : Int) ≤ (j1 : Int)) = true := decide_eq_true (by omega)
      clear I M hl hi hj1 hj2 ew2
      go_upto_region 3 with fail
      clear ew
      go_wp2
      go_ret
      exact E.out
    · have d0 : decide ((m : Int) ≤ (j1 : Int)) = false := decide_eq_false (by omega)
      have d1 : decide ((j1 : Int) < 0) = false := decide_eq_false (by omega)
      have hjm1 : Hid (j1 < m) := by show _ < _; omega
      have hq1 : Hid (j1 = 2 * i + 1) := hj1
      have hq2 : Hid (j2 = 2 * i + 2) := hj2
      have hi' : Hid (i < m) := hi
      by_cases hB : j2 < m
      · have d2 : (j2 : Int) < (m : Int) := by omega
        have hjm2 : Hid (j2 < m) := hB
        have L2 := Lib.hid (less_any wr h l' v mo M.hp j2 j1 (by have := hml.out; omega) (by have := hml.out; omega))
        by_cases h21 : tlt (gt l' j2) (gt l' j1)
        · have hb2 : decide (tlt (gt l' j2) (gt l' j1)) = true := decide_eq_true h21
          rw [hb2] at L2
          have ho : Hid (∀ j', (j' = 2 * i + 1 ∨ j' = 2 * i + 2) → j' < m → tle (gt l' j2) (gt l' j')) := fun j' h1 _ => by
            rcases h1 with h1 | h1
            · rw [h1, ← hj1]; exact tle_of h21
            · rw [h1, ← hj2]; exact tle_refl _
          replace L2 := Lib.hid L2
          replace I := Lib.hid I
          replace M := Lib.hid M
          replace hl := Lib.hid hl
          clear hb2 h21 hA hB hj1 hj2 hi
          go_upto_region 3 with fail
          clear ew
          go_upto_region 6 with fail
          clear ew2
          go_wp2_with fail
          refine L2.out.mono ?_
          rintro e W ⟨rfl, hbW⟩
          have MW := Lib.hid (M.out.below hbW)
          replace I := I.out
          replace hl := hl.out
          obtain ⟨j, hjj⟩ : ∃ j, j = j2 := ⟨_, rfl⟩
          subst hjj
          have cj : Hid (j = 2 * i + 1 ∨ j = 2 * i + 2) := .inr hq2.out
          have hj := hjm2
          clear L2 M hbW hq2
          have L := Lib.hid (less_any W h l' v mo MW.out.hp j i (by have := hml.out; have := hj.out; omega) (by have := hml.out; have := hi'.out; omega))
          by_cases hlt : tlt (gt l' j) (gt l' i)
          · have hb1 : decide (tlt (gt l' j) (gt l' i)) = true := decide_eq_true hlt
            rw [hb1] at L
            replace L := Lib.hid L
            have I2 := Lib.hid (dn_step I cj.out hj.out hml.out hlt ho.out)
            clear hb1 hlt I
            go_wp2_with fail
            refine L.out.mono ?_
            rintro e w5 ⟨rfl, hb5⟩
            have M2 := Lib.hid (MW.out.below hb5)
            have SW := Lib.hid (swap_any w5 h l' v mo M2.out.hp i j (by have := hml.out; have := hi'.out; omega) (by have := hml.out; have := hj.out; omega) (by have := cj.out; omega))
            clear L MW hb5
            go_wp2_with fail
            refine SW.out.mono ?_
            rintro e w6 ⟨rfl, H6, K6⟩
            have nx : Hid (DnAt w h v mo m i0 l (.int .i64 j) w6) := ⟨_, j, rfl, hj.out, I2.out, M2.out.swap hi'.out hj.out hml.out H6 K6, fun e => by have := cj.out; have := hc0.out; omega⟩
            have me : Hid (m - j < m - i) := by have := cj.out; have := hj.out; show _ < _; omega
            clear SW M2 H6 K6 I2
            go_wp2
            exact ⟨nx.out, by simp [intOf]; exact me.out⟩
          · have hb1 : decide (tlt (gt l' j) (gt l' i)) = false := decide_eq_false hlt
            rw [hb1] at L
            replace L := Lib.hid L
            have E : Hid (∀ w2, Below W.heap.size W w2 → DnTo w h v mo m i0 l (.returned (.bool (decide (i0 < i)))) w2) := fun w2 hb => DnTo.of (MW.out.below hb) I hl (fun j' h1 h2 => fun h3 => hlt (tlt_of_le3 (ho.out j' h1 h2) h3))
            clear hb1 hlt I hl
            go_wp2_with fail
            refine L.out.mono ?_
            rintro e w5 ⟨rfl, hb5⟩
            have E2 := Lib.hid (E.out w5 hb5)
            clear E L hb5
            go_wp2
            go_ret
            exact E2.out
        · have hb2 : decide (tlt (gt l' j2) (gt l' j1)) = false := decide_eq_false h21
          rw [hb2] at L2
          have ho : Hid (∀ j', (j' = 2 * i + 1 ∨ j' = 2 * i + 2) → j' < m → tle (gt l' j1) (gt l' j')) := fun j' h1 _ => by
            rcases h1 with h1 | h1
            · rw [h1, ← hj1]; exact tle_refl _
            · rw [h1, ← hj2]; exact tle_of_not h21
          replace L2 := Lib.hid L2
          replace I := Lib.hid I
          replace M := Lib.hid M
          replace hl := Lib.hid hl
          clear hb2 h21 hA hB hj1 hj2 hi
          go_upto_region 3 with fail
          clear ew
          go_upto_region 6 with fail
          clear ew2
          go_wp2_with fail
          refine L2.out.mono ?_
          rintro e W ⟨rfl, hbW⟩
          have MW := Lib.hid (M.out.below hbW)
          replace I := I.out
          replace hl := hl.out
          obtain ⟨j, hjj⟩ : ∃ j, j = j1 := ⟨_, rfl⟩
          subst hjj
          have cj : Hid (j = 2 * i + 1 ∨ j = 2 * i + 2) := .inl hq1.out
          have hj := hjm1
          clear L2 M hbW hq1
          have L := Lib.hid (less_any W h l' v mo MW.out.hp j i (by have := hml.out; have := hj.out; omega) (by have := hml.out; have := hi'.out; omega))
          by_cases hlt : tlt (gt l' j) (gt l' i)
          · have hb1 : decide (tlt (gt l' j) (gt l' i)) = true := decide_eq_true hlt
            rw [hb1] at L
            replace L := Lib.hid L
            have I2 := Lib.hid (dn_step I cj.out hj.out hml.out hlt ho.out)
            clear hb1 hlt I
            go_wp2_with fail
            refine L.out.mono ?_
            rintro e w5 ⟨rfl, hb5⟩
            have M2 := Lib.hid (MW.out.below hb5)
            have SW := Lib.hid (swap_any w5 h l' v mo M2.out.hp i j (by have := hml.out; have := hi'.out; omega) (by have := hml.out; have := hj.out; omega) (by have := cj.out; omega))
            clear L MW hb5
            go_wp2_with fail
            refine SW.out.mono ?_
            rintro e w6 ⟨rfl, H6, K6⟩
            have nx : Hid (DnAt w h v mo m i0 l (.int .i64 j) w6) := ⟨_, j, rfl, hj.out, I2.out, M2.out.swap hi'.out hj.out hml.out H6 K6, fun e => by have := cj.out; have := hc0.out; omega⟩
            have me : Hid (m - j < m - i) := by have := cj.out; have := hj.out; show _ < _; omega
            clear SW M2 H6 K6 I2
            go_wp2
            exact ⟨nx.out, by simp [intOf]; exact me.out⟩
          · have hb1 : decide (tlt (gt l' j) (gt l' i)) = false := decide_eq_false hlt
            rw [hb1] at L
            replace L := Lib.hid L
            have E : Hid (∀ w2, Below W.heap.size W w2 → DnTo w h v mo m i0 l (.returned (.bool (decide (i0 < i)))) w2) := fun w2 hb => DnTo.of (MW.out.below hb) I hl (fun j' h1 h2 => fun h3 => hlt (tlt_of_le3 (ho.out j' h1 h2) h3))
            clear hb1 hlt I hl
            go_wp2_with fail
            refine L.out.mono ?_
            rintro e w5 ⟨rfl, hb5⟩
            have E2 := Lib.hid (E.out w5 hb5)
            clear E L hb5
            go_wp2
            go_ret
            exact E2.out
      · have d2 : decide ((j2 : Int) < (m : Int)) = false := decide_eq_false (by omega)
        have d3 : (m : Int) ≤ (j2 : Int) := by omega
        have ho : Hid (∀ j', (j' = 2 * i + 1 ∨ j' = 2 * i + 2) → j' < m → tle (gt l' j1) (gt l' j')) := fun j' h1 h2 => by
          rcases h1 with h1 | h1
          · rw [h1, ← hj1]; exact tle_refl _
          · omega
        replace I := Lib.hid I
        replace M := Lib.hid M
        replace hl := Lib.hid hl
        clear hA hB hj1 hj2 hi
        go_upto_region 3 with fail
        clear ew
        go_upto_region 6 with fail
        clear ew2
        obtain ⟨W, hW⟩ : ∃ z, z = wr := ⟨_, rfl⟩
        subst hW
        have MW := M
        replace I := I.out
        replace hl := hl.out
        obtain ⟨j, hjj⟩ : ∃ j, j = j1 := ⟨_, rfl⟩
        subst hjj
        have cj : Hid (j = 2 * i + 1 ∨ j = 2 * i + 2) := .inl hq1.out
        have hj := hjm1
        clear M hq1
        have L := Lib.hid (less_any W h l' v mo MW.out.hp j i (by have := hml.out; have := hj.out; omega) (by have := hml.out; have := hi'.out; omega))
        by_cases hlt : tlt (gt l' j) (gt l' i)
        · have hb1 : decide (tlt (gt l' j) (gt l' i)) = true := decide_eq_true hlt
          rw [hb1] at L
          replace L := Lib.hid L
          have I2 := Lib.hid (dn_step I cj.out hj.out hml.out hlt ho.out)
          clear hb1 hlt I
          go_wp2_with fail
          refine L.out.mono ?_
          rintro e w5 ⟨rfl, hb5⟩
          have M2 := Lib.hid (MW.out.below hb5)
          have SW := Lib.hid (swap_any w5 h l' v mo M2.out.hp i j (by have := hml.out; have := hi'.out; omega) (by have := hml.out; have := hj.out; omega) (by have := cj.out; omega))
          clear L MW hb5
          go_wp2_with fail
          refine SW.out.mono ?_
          rintro e w6 ⟨rfl, H6, K6⟩
          have nx : Hid (DnAt w h v mo m i0 l (.int .i64 j) w6) := ⟨_, j, rfl, hj.out, I2.out, M2.out.swap hi'.out hj.out hml.out H6 K6, fun e => by have := cj.out; have := hc0.out; omega⟩
          have me : Hid (m - j < m - i) := by have := cj.out; have := hj.out; show _ < _; omega
          clear SW M2 H6 K6 I2
          go_wp2
          exact ⟨nx.out, by simp [intOf]; exact me.out⟩
        · have hb1 : decide (tlt (gt l' j) (gt l' i)) = false := decide_eq_false hlt
          rw [hb1] at L
          replace L := Lib.hid L
          have E : Hid (∀ w2, Below W.heap.size W w2 → DnTo w h v mo m i0 l (.returned (.bool (decide (i0 < i)))) w2) := fun w2 hb => DnTo.of (MW.out.below hb) I hl (fun j' h1 h2 => fun h3 => hlt (tlt_of_le3 (ho.out j' h1 h2) h3))
          clear hb1 hlt I hl
          go_wp2_with fail
          refine L.out.mono ?_
          rintro e w5 ⟨rfl, hb5⟩
          have E2 := Lib.hid (E.out w5 hb5)
          clear E L hb5
          go_wp2
          go_ret
          exact E2.out
end Wh
end Go.Proofs.Ytnfakkinaockiaa
