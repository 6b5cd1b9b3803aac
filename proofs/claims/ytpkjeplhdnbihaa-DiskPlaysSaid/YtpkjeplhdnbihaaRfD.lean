/- The document's disk: Cut. -/
import Derived.Test.YtpkjeplhdnbihaaRfC
namespace Go.Proofs.Ytpkjeplhdnbihaa
open Go.RowKit
open Go.Proofs.Ytpkjeplhdnbihaa.Pk
namespace Dk

set_option maxHeartbeats 1600000 in
set_option maxRecDepth 20000 in
theorem rcut (w : World) (q room : Nat) (L : St) (v : Value) (s : ByteArray) (k : Int) (R : Rf w q room L v) (hr : Rise L) (hl : L.length ≤ 1000000) :
    Calls Try.prog 16 #[.pointer (some ⟨q, 0, none⟩), .string s, .int .i64 k] w fun e w' => e = .returned (.int .i64 (sCut L (nm s) k).1) ∧ RTo w q room (sCut L (nm s) k).2 v w' := by
  have AT := rat w q room L v s R hr hl
  unfold RatTo at AT
  unfold sCut
  cases hk : look (nm s) L with
  | none =>
    rw [hk] at AT
    replace AT := Lib.hid AT
    simp only [Option.elim]
    have RH := Lib.hid R
    clear hk hr R
    go_enter Try.func16, Try.ntmps16
    go_wp2_with fail
    refine AT.out.mono ?_
    rintro e w1 ⟨rfl, hb⟩
    simp only [Option.isSome]
    replace hb := Lib.hid hb
    clear AT
    go_wp2
    go_ret
    exact ⟨rfl, RTo.of_below RH.out hb.out⟩
  | some a =>
    rw [hk] at AT
    have hp := pos_found hr hk
    have hput := fun b => put_some_ (b := b) hr hk
    obtain ⟨i, hi⟩ : ∃ i, i = pos (nm s) L := ⟨_, rfl⟩
    rw [← hi] at hp AT hput
    obtain ⟨g, c, rfl, h1, h2, e1, e2, e3, _⟩ := R.file hp
    have hil : i < L.length := (List.getElem?_eq_some_iff.1 hp).1
    simp only [Option.elim]
    have hsz := str_size a.1
    have CC : Hid (∀ w1 : World, Below w.heap.size w w1 → w1.cell? ⟨q, 1, none⟩ = some (.slice (some ⟨g, 0, none⟩) L.length c) ∧ w1.cell? ⟨g, i * 3 + 1, none⟩ = some (.string (str a.1)) ∧ w1.cell? ⟨g, i * 3 + 2, none⟩ = some (.int .i64 (a.2 : Nat)) ∧ w1.frozen? ⟨g, i * 3 + 2, none⟩ = false ∧ w1.frozen? ⟨g, i * 3 + 1, none⟩ = false) := fun w1 hb => by
      obtain ⟨g', c', e0, _, _, _, e2, e3, e4⟩ := (R.below hb).file hp
      injection e0 with eA _ _
      injection eA with eA
      injection eA with eA _
      subst eA
      exact ⟨one_at (i := 1) (R.below hb).cells, e2, e3, e4 _, e4 _⟩
    replace AT := Lib.hid AT
    by_cases hbad : k < 0 ∨ (a.1.length : Int) < k
    · rw [if_pos hbad]
      have RH := Lib.hid R
      obtain ⟨n, hn⟩ : ∃ n, n = L.length := ⟨_, rfl⟩
      rw [← hn] at CC hil hl h1
      replace hn := Lib.hid hn
      have i1 : (i : Int) < (n : Int) := by omega
      have i2 : (0 : Int) ≤ (i : Int) := by omega
      have i3 : (n : Int) ≤ 1000000 := by omega
      generalize a.1 = bs at *
      generalize a.2 = ky at *
      by_cases h0 : k < 0
      · have d0 : decide (k < 0) = true := decide_eq_true h0
        clear hk hr R hp hi e1 e2 e3 hput hbad h0
        go_enter Try.func16, Try.ntmps16
        go_wp2_with fail
        refine AT.out.mono ?_
        rintro e w1 ⟨rfl, hb⟩
        simp only [Option.isSome]
        replace hb := Lib.hid hb
        clear AT CC
        go_wp2
        go_ret
        exact ⟨rfl, RTo.of_below RH.out hb.out⟩
      · have d0 : decide (k < 0) = false := decide_eq_false h0
        have d1 : decide ((bs.length : Int) < k) = true := decide_eq_true (by omega)
        clear hk hr R hp hi e1 e2 e3 hput hbad h0
        go_enter Try.func16, Try.ntmps16
        go_wp2_with fail
        refine AT.out.mono ?_
        rintro e w1 ⟨rfl, hb⟩
        simp only [Option.isSome]
        obtain ⟨c1, c2, c3, c4, c5⟩ := CC.out w1 hb
        replace hb := Lib.hid hb
        clear AT CC
        go_wp2
        go_ret
        exact ⟨rfl, RTo.of_below RH.out hb.out⟩
    · rw [if_neg hbad]
      obtain ⟨j, rfl⟩ : ∃ j : Nat, k = j := ⟨k.toNat, by omega⟩
      have hj : j ≤ a.1.length := by omega
      have ej : ((j : Int)).toNat = j := rfl
      rw [ej]
      have EE : Hid (∀ w1 : World, Below w.heap.size w w1 → RTo w q room (put (nm s) (a.1.take j, j) L) (.slice (some ⟨g, 0, none⟩) L.length c) (((w1.setCell ⟨g, i * 3 + 1, none⟩ (.string (str (a.1.take j)))).setCell ⟨g, i * 3 + 2, none⟩ (.int .i64 (j : Nat))).drew) ∧
          RTo w q room (put (nm s) (a.1.take j, j) L) (.slice (some ⟨g, 0, none⟩) L.length c) (((w1.setCell ⟨g, i * 3 + 2, none⟩ (.int .i64 (j : Nat))).setCell ⟨g, i * 3 + 1, none⟩ (.string (str (a.1.take j)))).drew)) := fun w1 hb => by
        have l1 := ((R.below hb).set1 hp (a.1.take j))
        have l2 := ((R.below hb).set2 hp j)
        have m1 : (L.set i (nm s, a.1.take j, a.2))[i]? = some (nm s, a.1.take j, a.2) := by simp [hil]
        have m2 : (L.set i (nm s, a.1, j))[i]? = some (nm s, a.1, j) := by simp [hil]
        have hl1 : (L.set i (nm s, a.1.take j, a.2)).length = L.length := List.length_set
        have hl2 : (L.set i (nm s, a.1, j)).length = L.length := List.length_set
        rw [← hl1] at l1
        rw [← hl2] at l2
        have p1 := l1.set2 m1 j
        have p2 := l2.set1 m2 (a.1.take j)
        rw [List.set_set, hl1] at p1
        rw [List.set_set, hl2] at p2
        have kk : ∀ (x y : Nat) (u u' : Value), Kp (fun g' => g' = q ∨ (Value.slice (some ⟨g, 0, none⟩) L.length c).ownBlock = some g') w ((w1.setCell ⟨g, x, none⟩ u).setCell ⟨g, y, none⟩ u').drew := fun x y u u' =>
          (Kp.of_below hb).trans' ((Kp.of_grown (grown_set w1 g _ _) (fun x hx => .inr (by injection hx with hx; subst hx; rfl))).trans' (Kp.of_grown (grown_drew (grown_set _ g _ _)) (fun x hx => .inr (by injection hx with hx; subst hx; rfl))))
        refine ⟨⟨_, ?_, fun _ h => .inl h, kk _ _ _ _⟩, ⟨_, ?_, fun _ h => .inl h, kk _ _ _ _⟩⟩
        · rw [hput]; exact ⟨p1.cells, p1.row⟩
        · rw [hput]; exact ⟨p2.cells, p2.row⟩
      obtain ⟨n, hn⟩ : ∃ n, n = L.length := ⟨_, rfl⟩
      rw [← hn] at CC EE hil hl h1 ⊢
      have i1 : (i : Int) < (n : Int) := by omega
      have i2 : (0 : Int) ≤ (i : Int) := by omega
      have i3 : (n : Int) ≤ 1000000 := by omega
      have d0 : decide ((j : Int) < 0) = false := decide_eq_false (by omega)
      have d1 : decide (a.1.length < j) = false := decide_eq_false (by omega)
      have j1 : (j : Int) ≤ (a.1.length : Int) := by omega
      have x1 := str_take a.1 j
      generalize put (nm s) (a.1.take j, j) L = L' at *
      generalize a.1.take j = bt at *
      generalize a.1 = bs at *
      generalize a.2 = ky at *
      clear hk hr R hp hi e1 e2 e3 hn hput hbad hj ej
      go_enter Try.func16, Try.ntmps16
      go_wp2_with fail
      refine AT.out.mono ?_
      rintro e w1 ⟨rfl, hb⟩
      simp only [Option.isSome]
      obtain ⟨c1, c2, c3, c4, c5⟩ := CC.out w1 hb
      have E := Lib.hid (EE.out w1 hb)
      clear AT CC EE hb
      go_wp2
      go_region
      all_goals
        go_wp2
        go_ret
        first
          | exact ⟨rfl, E.out.1⟩
          | exact ⟨rfl, E.out.2⟩
end Dk
end Go.Proofs.Ytpkjeplhdnbihaa
