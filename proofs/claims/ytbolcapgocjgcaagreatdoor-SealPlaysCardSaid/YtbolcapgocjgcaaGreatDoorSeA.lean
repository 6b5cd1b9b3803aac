/- number, none, Len: the small calls of seal; slices of records, read. -/
import Derived.Test.YtbolcapgocjgcaaGreatDoorSeM
import Derived.Test.YtbolcapgocjgcaaGreatDoorFrN
import Derived.Test.YtbolcapgocjgcaaGreatDoorFrT
import Derived.Deep.RegionLaw
namespace Go.Proofs.YtbolcapgocjgcaaGreatDoor
set_option maxRecDepth 100000
open Go.RowKit
open Go.Proofs.YtbolcapgocjgcaaGreatDoor.Pk
namespace Se
open Dk (Bs Live LTo)

/-- A slice of records, read; all in blocks of T. -/
def Lt (w : World) (T : Nat → Prop) (v : Value) (l : List Bs) : Prop :=
  ∃ A c, v = .slice A l.length c ∧ (0 < l.length → ∃ ad, A = some ad ∧ T ad.block ∧ ∀ (i : Nat) (r : Bs), l[i]? = some r → ∃ Ai ci, w.cell? (ad.add i) = some (.slice Ai r.length ci) ∧ r.length ≤ ci ∧ ci ≤ 9223372036854775807 ∧ Rb w T Ai r.length r)
theorem Lt.keep {w w' : World} {T T' : Nat → Prop} {v : Value} {l : List Bs} (h : Lt w T v l) (hk : ∀ g, T g → w'.heap[g]? = w.heap[g]?) (hT : ∀ g, T g → T' g) : Lt w' T' v l := by
  obtain ⟨A, c, e, h1⟩ := h
  refine ⟨A, c, e, fun hn => ?_⟩
  obtain ⟨ad, ha, hab, h2⟩ := h1 hn
  refine ⟨ad, ha, hT _ hab, fun i r hi => ?_⟩
  obtain ⟨Ai, ci, q1, q2, q3, q4⟩ := h2 i r hi
  exact ⟨Ai, ci, (World.cell?_of_block (by rw [adr_block]; exact hk _ hab)).trans q1, q2, q3, q4.keep hk hT⟩
theorem Lt.lr {w : World} {T : Nat → Prop} {v : Value} {l : List Bs} (h : Lt w T v l) (hT : ∀ g, T g → g < w.heap.size) : Fr.Lr w v l := by
  obtain ⟨A, c, e, h1⟩ := h
  refine ⟨A, c, e, fun hn => ?_⟩
  obtain ⟨ad, ha, hab, h2⟩ := h1 hn
  refine ⟨ad, ha, hT _ hab, fun i r hi => ?_⟩
  obtain ⟨Ai, ci, q1, _, _, q4⟩ := h2 i r hi
  exact ⟨Ai, ci, q1, q4.keep (fun _ _ => rfl) hT⟩
theorem Lt.form {w : World} {T : Nat → Prop} {v : Value} {l : List Bs} (h : Lt w T v l) : ∃ A c, v = .slice A l.length c := by
  obtain ⟨A, c, e, _⟩ := h
  exact ⟨A, c, e⟩
theorem Lt.nil {w : World} {T : Nat → Prop} (A : Option Addr) (c : Nat) : Lt w T (.slice A 0 c) [] := ⟨A, c, rfl, fun h => absurd h (by simp)⟩
def off1 (c : Nat) : Nat := if c = 1 then 0 else 1
/-- All but the first of a list of the call's own. -/
theorem Lt.tail {w : World} {base g c n : Nat} {r : Bs} {l : List Bs} (h : Fr.Lst w base (.slice (some ⟨g, 0, none⟩) n c) (r :: l)) : Lt w (fun k => base ≤ k ∧ k < w.heap.size) (.slice (some ⟨g, off1 c, none⟩) (n - 1) (c - 1)) l ∧ n = l.length + 1 ∧ n ≤ c ∧ c ≤ 9223372036854775807 ∧ base ≤ g ∧ g < w.heap.size ∧
    ∃ A0 c0, w.cell? ⟨g, 0, none⟩ = some (.slice A0 r.length c0) ∧ r.length ≤ c0 ∧ c0 ≤ 9223372036854775807 ∧ Rb w (fun k => base ≤ k ∧ k < w.heap.size) A0 r.length r := by
  obtain ⟨xs, ho, hE⟩ := h
  have hn : n = l.length + 1 := by
    obtain ⟨A, c', e⟩ := own_form ho
    injection e with _ e _
  subst hn
  rcases ho.2 with ⟨_, h0⟩ | ⟨g', cap, cur, e, hb, hh, h1, h2, _⟩
  · simp at h0
  · injection e with e1 _ e3
    injection e1 with e1
    injection e1 with e1
    subst e1
    subst e3
    unfold maxLen at h2
    have hlt := lt_some hh
    refine ⟨⟨_, _, rfl, fun hn => ⟨_, rfl, ⟨hb, hlt⟩, fun i r' hi => ?_⟩⟩, rfl, h1, h2, hb, hlt, ?_⟩
    · have hc : off1 c = 1 := by
        unfold off1
        rw [if_neg]
        simp only [List.length_cons] at h1
        omega
      obtain ⟨u, hu, A', c', rfl, q1, q2, hR⟩ := hE (i + 1) r' hi
      refine ⟨A', c', ?_, q1, q2, hR.keep (fun _ _ => rfl) (fun k hk => ⟨hk.1, hk.2.lt⟩)⟩
      have := ho.cells (g := g) rfl (i + 1) _ hu
      rw [hc, Addr.add_lit]
      rw [Addr.add_lit] at this
      rw [Nat.add_comm 1 i]
      simpa using this
    · obtain ⟨u, hu, A', c', rfl, q1, q2, hR⟩ := hE 0 r rfl
      refine ⟨A', c', ?_, q1, q2, hR.keep (fun _ _ => rfl) (fun k hk => ⟨hk.1, hk.2.lt⟩)⟩
      have := ho.cells (g := g) rfl 0 _ hu
      rwa [Addr.add_zero'] at this

set_option maxHeartbeats 800000 in
theorem number_any (w : World) {T : Nat → Prop} (A : Option Addr) (n c : Nat) (bs : Bs) (h : Rb w T A n bs) (hT : ∀ g, T g → g < w.heap.size) (hn : n ≤ 1000000) (hA : A = none → c = 0) :
    Calls Tryz.prog 53 #[.slice A n c] w fun e w' => e = .returned (.int .i64 (numOf bs)) ∧ Below w.heap.size w w' := by
  have N := Lib.hid (new_any w A n c bs h hT (by omega) hA)
  obtain ⟨⟨y, s⟩, hx⟩ : ∃ x, x = rInt 0 9223372036854775807 (some bs) := ⟨_, rfl⟩
  have hm : numOf bs = if rEnd s = 0 then y else -1 := by unfold numOf; rw [← hx]
  obtain ⟨z, hz⟩ : ∃ z, z = rEnd s := ⟨_, rfl⟩
  obtain ⟨m, hm'⟩ : ∃ m, m = numOf bs := ⟨_, rfl⟩
  rw [← hm', ← hz] at hm
  rw [← hm']
  replace hx := Lib.hid hx
  replace hz := Lib.hid hz
  replace hm := Lib.hid hm
  clear h hT hn hA hm'
  go_enter Tryz.func53, Tryz.ntmps53
  go_wp2_with fail
  refine N.out.mono ?_
  rintro e w1 ⟨p, rfl, hp, hrd, hb1⟩
  have I := rint_any p w1 (some bs) 0 9223372036854775807 hrd
  rw [← hx.out] at I
  replace I := Lib.hid I
  have b1 : Hid (Below w.heap.size w w1) := hb1
  clear N hrd hb1 hx
  go_wp2_with fail
  refine I.out.mono ?_
  rintro e w2 ⟨rfl, hq⟩
  have E := rend_any p w2 _ hq.rd
  simp only at E
  rw [← hz.out] at E
  replace E := Lib.hid E
  have b2 : Hid (Below w.heap.size w w2) := b1.out.trans (grown_below hq.gr hp b1.out.size)
  clear I hq b1 hz
  go_wp2_with fail
  refine E.out.mono ?_
  rintro e w' ⟨rfl, rfl⟩
  clear E
  by_cases hz : z = 0
  · have hm2 := hm.out
    rw [if_pos hz] at hm2
    subst hz hm2
    clear hm
    go_wp2
    go_ret
    exact ⟨rfl, b2.out⟩
  · have d : (z == 0) = false := by simpa using hz
    have hm2 := hm.out
    rw [if_neg hz] at hm2
    subst hm2
    clear hm hz
    go_wp2
    go_ret
    exact ⟨rfl, b2.out⟩

/-- The log in block q: the disk p, n records since the state. -/
def LogAt (w : World) (q p n : Nat) : Prop := w.heap[q]? = some (.cells #[.pointer (some ⟨p, 0, none⟩), .int .i64 n] 71 (0, 0))
set_option maxHeartbeats 400000 in
theorem none_no (w : World) (q p n : Nat) (h : LogAt w q p n) : Calls Tryz.prog 31 #[.pointer (some ⟨q, 0, none⟩)] w fun e w' => e = .returned (.bool false) ∧ w = w' := by
  have c0 : w.cell? ⟨q, 0, none⟩ = some (.pointer (some ⟨p, 0, none⟩)) := one_at h
  clear h
  go_enter Tryz.func31, Tryz.ntmps31
  go_wp2
  go_ret
  exact ⟨rfl, rfl⟩
set_option maxHeartbeats 400000 in
theorem len_any (w : World) (q p n : Nat) (h : LogAt w q p n) : Calls Tryz.prog 19 #[.pointer (some ⟨q, 0, none⟩)] w fun e w' => e = .returned (.int .i64 n) ∧ w = w' := by
  have N := Lib.hid (none_no w q p n h)
  have c1 : w.cell? ⟨q, 1, none⟩ = some (.int .i64 n) := one_at h
  clear h
  go_enter Tryz.func19, Tryz.ntmps19
  go_wp2_with fail
  refine N.out.mono ?_
  rintro e w' ⟨rfl, rfl⟩
  go_wp2
  go_ret
  exact ⟨rfl, rfl⟩
end Se
end Go.Proofs.YtbolcapgocjgcaaGreatDoor
