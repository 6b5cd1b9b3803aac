/- The document's disk: Read, Sync, Cut. -/
import Derived.Test.YtpkjeplhdnbihaaRfB
import Derived.BigRegion
import Derived.RegionTactic
namespace Go.Proofs.Ytpkjeplhdnbihaa
open Go.RowKit
open Go.Proofs.Ytpkjeplhdnbihaa.Pk
namespace Dk

theorem str_take (bs : List UInt8) (k : Nat) : (str bs).extract 0 k = str (bs.take k) := by
  apply ByteArray.ext
  apply Array.toList_inj.1
  simp [str]
theorem row_set {w : World} {e : TypeId} {g n c base i : Nat} {xs : List Value} (h : w.ownsRow base e 3 (.slice (some ⟨g, 0, none⟩) n c) n xs) (_hi : i < n * 3) (u : Value) : (w.setCell ⟨g, i, none⟩ u).ownsRow base e 3 (.slice (some ⟨g, 0, none⟩) n c) n (xs.set i u) := by
  refine ⟨by rw [List.length_set]; exact h.1, ?_⟩
  rcases h.2 with ⟨h0, _⟩ | ⟨g', cap, cur, hv, hb, hh, h1, h2, h3, h4⟩
  · cases h0
  · injection hv with hA _ hc
    injection hA with hA
    injection hA with hA _
    subst hA; subst hc
    refine .inr ⟨g, c, cur.setIfInBounds i u, rfl, hb, Pk.one_set hh u, h1, h2, by simp [h3], ?_⟩
    rw [← h4, Array.toList_setIfInBounds, List.take_set]
theorem flat_set1 : ∀ {L : St} {i : Nat} {x s s' : Bs} {k : Nat}, L[i]? = some (x, s, k) → (flat L).set (i * 3 + 1) (.string (str s')) = flat (L.set i (x, s', k))
  | q :: r, 0, x, s, s', k, h => by
    simp at h
    subst h
    rfl
  | q :: r, i + 1, x, s, s', k, h => by
    have h' : r[i]? = some (x, s, k) := by simpa using h
    have e : flat (q :: r) = ent q ++ flat r := rfl
    have e2 : (i + 1) * 3 + 1 = (ent q).length + (i * 3 + 1) := by simp [ent]; omega
    rw [e, e2, List.set_append_right _ _ (by omega), Nat.add_sub_cancel_left, flat_set1 h']
    rfl
theorem flat_set2 : ∀ {L : St} {i : Nat} {x s : Bs} {k k' : Nat}, L[i]? = some (x, s, k) → (flat L).set (i * 3 + 2) (.int .i64 (k' : Nat)) = flat (L.set i (x, s, k'))
  | q :: r, 0, x, s, k, k', h => by
    simp at h
    subst h
    rfl
  | q :: r, i + 1, x, s, k, k', h => by
    have h' : r[i]? = some (x, s, k) := by simpa using h
    have e : flat (q :: r) = ent q ++ flat r := rfl
    have e2 : (i + 1) * 3 + 2 = (ent q).length + (i * 3 + 2) := by simp [ent]; omega
    rw [e, e2, List.set_append_right _ _ (by omega), Nat.add_sub_cancel_left, flat_set2 h']
    rfl
section
variable {w w' : World} {q room g c i : Nat} {L : St} {x s : Bs} {k : Nat}
theorem Rf.set1 (R : Rf w q room L (.slice (some ⟨g, 0, none⟩) L.length c)) (h : L[i]? = some (x, s, k)) (s' : Bs) : Rf (w.setCell ⟨g, i * 3 + 1, none⟩ (.string (str s'))) q room (L.set i (x, s', k)) (.slice (some ⟨g, 0, none⟩) L.length c) := by
  have hi : i < L.length := (List.getElem?_eq_some_iff.1 h).1
  have hne : g ≠ q := fun e => R.apart (by rw [e]; rfl)
  refine ⟨(Below.heap_setCell _ _ _ _ hne.symm).trans R.cells, ?_⟩
  rw [List.length_set, ← flat_set1 h]
  exact row_set R.row (by omega) _
theorem Rf.set2 (R : Rf w q room L (.slice (some ⟨g, 0, none⟩) L.length c)) (h : L[i]? = some (x, s, k)) (k' : Nat) : Rf (w.setCell ⟨g, i * 3 + 2, none⟩ (.int .i64 (k' : Nat))) q room (L.set i (x, s, k')) (.slice (some ⟨g, 0, none⟩) L.length c) := by
  have hi : i < L.length := (List.getElem?_eq_some_iff.1 h).1
  have hne : g ≠ q := fun e => R.apart (by rw [e]; rfl)
  refine ⟨(Below.heap_setCell _ _ _ _ hne.symm).trans R.cells, ?_⟩
  rw [List.length_set, ← flat_set2 h]
  exact row_set R.row (by omega) _
end
/-- What a call on the document's disk leaves. -/
def RTo (w : World) (q room : Nat) (L' : St) (v : Value) (w' : World) : Prop := ∃ v', Rf w' q room L' v' ∧ (∀ g, v'.ownBlock = some g → v.ownBlock = some g ∨ w.heap.size ≤ g) ∧ Kp (fun g => g = q ∨ v.ownBlock = some g) w w'
theorem RTo.of_below {w w' : World} {q room : Nat} {L : St} {v : Value} (h : Rf w q room L v) (hb : Below w.heap.size w w') : RTo w q room L v w' := ⟨v, h.below hb, fun _ h => .inl h, .of_below hb⟩

set_option maxHeartbeats 800000 in
theorem rread (w : World) (q room : Nat) (L : St) (v : Value) (s : ByteArray) (R : Rf w q room L v) (hr : Rise L) (hl : L.length ≤ 1000000) :
    Calls Try.prog 26 #[.pointer (some ⟨q, 0, none⟩), .string s] w fun e w' => e = .returned (.tuple #[.string (str ((look (nm s) L).elim [] (·.1))), .int .i64 ((look (nm s) L).elim 5 fun _ => 0)]) ∧ Below w.heap.size w w' := by
  have AT := rat w q room L v s R hr hl
  unfold RatTo at AT
  cases hk : look (nm s) L with
  | none =>
    rw [hk] at AT
    replace AT := Lib.hid AT
    simp only [Option.elim]
    clear hk hr R
    go_enter Try.func26, Try.ntmps26
    go_wp2_with fail
    refine AT.out.mono ?_
    rintro e w1 ⟨rfl, hb⟩
    simp only [Option.isSome]
    replace hb := Lib.hid hb
    clear AT
    go_wp2
    go_ret2
    exact ⟨rfl, hb.out⟩
  | some a =>
    rw [hk] at AT
    have hp := pos_found hr hk
    obtain ⟨i, hi⟩ : ∃ i, i = pos (nm s) L := ⟨_, rfl⟩
    rw [← hi] at hp AT
    obtain ⟨g, c, rfl, h1, h2, e1, e2, e3, _⟩ := R.file hp
    have hil : i < L.length := (List.getElem?_eq_some_iff.1 hp).1
    have CC : Hid (∀ w1 : World, Below w.heap.size w w1 → w1.cell? ⟨q, 1, none⟩ = some (.slice (some ⟨g, 0, none⟩) L.length c) ∧ w1.cell? ⟨g, i * 3 + 1, none⟩ = some (.string (str a.1))) := fun w1 hb => by
      obtain ⟨g', c', e0, _, _, _, e2, _⟩ := (R.below hb).file hp
      injection e0 with eA _ _
      injection eA with eA
      injection eA with eA _
      subst eA
      exact ⟨one_at (i := 1) (R.below hb).cells, e2⟩
    replace AT := Lib.hid AT
    simp only [Option.elim]
    obtain ⟨n, hn⟩ : ∃ n, n = L.length := ⟨_, rfl⟩
    rw [← hn] at CC hil hl h1
    have i1 : (i : Int) < (n : Int) := by omega
    have i2 : (0 : Int) ≤ (i : Int) := by omega
    have i3 : (n : Int) ≤ 1000000 := by omega
    generalize a.1 = bs at *
    clear hk hr R hp hi e1 e2 e3 hn
    go_enter Try.func26, Try.ntmps26
    go_wp2_with fail
    refine AT.out.mono ?_
    rintro e w1 ⟨rfl, hb⟩
    simp only [Option.isSome]
    obtain ⟨c1, c2⟩ := CC.out w1 hb
    replace hb := Lib.hid hb
    clear AT CC
    go_wp2
    go_ret2
    exact ⟨rfl, hb.out⟩

set_option maxHeartbeats 1600000 in
set_option maxRecDepth 20000 in
theorem rsync (w : World) (q room : Nat) (L : St) (v : Value) (s : ByteArray) (R : Rf w q room L v) (hr : Rise L) (hl : L.length ≤ 1000000) :
    Calls Try.prog 14 #[.pointer (some ⟨q, 0, none⟩), .string s] w fun e w' => e = .returned (.int .i64 (sSync L (nm s)).1) ∧ RTo w q room (sSync L (nm s)).2 v w' := by
  have AT := rat w q room L v s R hr hl
  unfold RatTo at AT
  unfold sSync
  cases hk : look (nm s) L with
  | none =>
    rw [hk] at AT
    replace AT := Lib.hid AT
    simp only [Option.elim]
    have RH := Lib.hid R
    clear hk hr R
    go_enter Try.func14, Try.ntmps14
    go_wp2_with fail
    refine AT.out.mono ?_
    rintro e w1 ⟨rfl, hb⟩
    simp only [Option.isSome]
    replace hb := Lib.hid hb
    clear AT
    go_wp2
    go_ret
    exact ⟨rfl, RTo.of_below RH.out hb.out⟩
  | some a =>
    rw [hk] at AT
    have hp := pos_found hr hk
    have hput := put_some_ (b := (a.1, a.1.length)) hr hk
    obtain ⟨i, hi⟩ : ∃ i, i = pos (nm s) L := ⟨_, rfl⟩
    rw [← hi] at hp AT hput
    obtain ⟨g, c, rfl, h1, h2, e1, e2, e3, _⟩ := R.file hp
    have hil : i < L.length := (List.getElem?_eq_some_iff.1 hp).1
    simp only [Option.elim]
    have CC : Hid (∀ w1 : World, Below w.heap.size w w1 → w1.cell? ⟨q, 1, none⟩ = some (.slice (some ⟨g, 0, none⟩) L.length c) ∧ w1.cell? ⟨g, i * 3 + 1, none⟩ = some (.string (str a.1)) ∧ w1.cell? ⟨g, i * 3 + 2, none⟩ = some (.int .i64 (a.2 : Nat)) ∧ w1.frozen? ⟨g, i * 3 + 2, none⟩ = false) := fun w1 hb => by
      obtain ⟨g', c', e0, _, _, _, e2, e3, e4⟩ := (R.below hb).file hp
      injection e0 with eA _ _
      injection eA with eA
      injection eA with eA _
      subst eA
      exact ⟨one_at (i := 1) (R.below hb).cells, e2, e3, e4 _⟩
    have EE : Hid (∀ w1 : World, Below w.heap.size w w1 → RTo w q room (put (nm s) (a.1, a.1.length) L) (.slice (some ⟨g, 0, none⟩) L.length c) ((w1.setCell ⟨g, i * 3 + 2, none⟩ (.int .i64 (a.1.length : Nat))).drew)) := fun w1 hb => by
      refine ⟨_, ?_, fun _ h => .inl h, ?_⟩
      · rw [hput]
        have := (R.below hb).set2 hp a.1.length
        exact ⟨this.cells, this.row⟩
      · exact (Kp.of_below hb).trans' (Kp.of_grown (grown_drew (grown_set w1 g _ _)) (fun x hx => .inr (by injection hx with hx; subst hx; rfl)))
    replace AT := Lib.hid AT
    obtain ⟨n, hn⟩ : ∃ n, n = L.length := ⟨_, rfl⟩
    rw [← hn] at CC EE hil hl h1 ⊢
    have i1 : (i : Int) < (n : Int) := by omega
    have i2 : (0 : Int) ≤ (i : Int) := by omega
    have i3 : (n : Int) ≤ 1000000 := by omega
    have hsz := str_size a.1
    generalize put (nm s) (a.1, a.1.length) L = L' at *
    generalize a.1 = bs at *
    generalize a.2 = ky at *
    clear hk hr R hp hi e1 e2 e3 hn hput
    go_enter Try.func14, Try.ntmps14
    go_wp2_with fail
    refine AT.out.mono ?_
    rintro e w1 ⟨rfl, hb⟩
    simp only [Option.isSome]
    obtain ⟨c1, c2, c3, c4⟩ := CC.out w1 hb
    have E := Lib.hid (EE.out w1 hb)
    clear AT CC EE hb
    go_wp2
    go_region
    go_wp2
    go_ret
    exact ⟨rfl, E.out⟩
end Dk
end Go.Proofs.Ytpkjeplhdnbihaa
