/- One: what stands at a place. -/
import Derived.Test.YtbolcapgocjgcaaGreatDoorFrA
namespace Go.Proofs.YtbolcapgocjgcaaGreatDoor
set_option maxRecDepth 100000
open Go.RowKit
open Go.Proofs.YtbolcapgocjgcaaGreatDoor.Pk
namespace Fr

theorem one_low (w : World) (A : Option Addr) (n c : Nat) (at_ : Int) (h : at_ < 0) :
    Calls Tryz.prog 81 #[.slice A n c, .int .i64 at_] w fun e w' => e = .returned (.tuple #[.slice none 0 0, .int .i64 (-1)]) ∧ w = w' := by
  go_enter Tryz.func81, Tryz.ntmps81
  go_wp2
  go_ret2
  exact ⟨rfl, rfl⟩
theorem one_high (w : World) (A : Option Addr) (n c : Nat) (at_ : Int) (h : 0 ≤ at_) (hx : at_ ≤ 9223372036854775807) (hn : n ≤ 9223372036854775807) (h6 : (n : Int) - at_ < 6) :
    Calls Tryz.prog 81 #[.slice A n c, .int .i64 at_] w fun e w' => e = .returned (.tuple #[.slice none 0 0, .int .i64 (-1)]) ∧ w = w' := by
  have d : decide ((n : Int) - at_ < 6) = true := by simpa using h6
  go_enter Tryz.func81, Tryz.ntmps81
  go_wp2
  go_ret2
  exact ⟨rfl, rfl⟩

/-- What One does where some six bytes are left. -/
def OneIs (w : World) (p : Nat) (s : List UInt8) (e : Ending) (w' : World) : Prop :=
  (one s = none ∧ e = .returned (.tuple #[.slice none 0 0, .int .i64 (-1)]) ∧ w = w') ∨
  (∃ r v, one s = some r ∧ e = .returned (.tuple #[v, .int .i64 ((p + (6 + r.length) : Nat) : Int)]) ∧ w'.ownsRow w.heap.size 5 1 v r.length (u8s r) ∧ Below w.heap.size w w')

theorem one_bad {bs : List UInt8} {n p L : Nat} (hn : bs.length = n) (hL : L = num ((bs.drop (p + 4)).take 2)) (h : L < 1 ∨ 1000 < L ∨ n - (p + 6) < L) : one (bs.drop p) = none := by
  unfold one
  rw [if_neg]
  rintro ⟨_, h2, h3, h4, _⟩
  have e : hlen (bs.drop p) = L := by rw [hL]; unfold hlen; rw [List.drop_drop]
  rw [e] at h2 h3 h4
  rw [List.length_drop] at h4
  omega
theorem one_sum {bs r : List UInt8} {n p L s : Nat} (hn : bs.length = n) (h6 : p + 6 ≤ n) (hs : s = num ((bs.drop p).take 4)) (hL : L = num ((bs.drop (p + 4)).take 2)) (hr : r = (bs.drop (p + 6)).take L) (h1 : 1 ≤ L) (h2 : L ≤ 1000) (h3 : L ≤ n - (p + 6)) :
    (¬ sumOf r = s → one (bs.drop p) = none) ∧ (sumOf r = s → one (bs.drop p) = some r) ∧ r.length = L := by
  have e : hlen (bs.drop p) = L := by rw [hL]; unfold hlen; rw [List.drop_drop]
  have er : ((bs.drop p).drop 6).take L = r := by rw [hr, List.drop_drop]
  refine ⟨fun h => ?_, fun h => ?_, by rw [hr, List.length_take, List.length_drop]; omega⟩
  · unfold one
    rw [if_neg]
    rintro ⟨_, _, _, _, h5⟩
    rw [e, er, ← hs] at h5
    exact h h5
  · unfold one
    rw [e, er, if_pos]
    refine ⟨by rw [List.length_drop]; omega, by omega, by omega, by rw [List.length_drop]; omega, ?_⟩
    rw [e, er, ← hs]; exact h

set_option maxHeartbeats 1600000 in
set_option maxRecDepth 100000 in
theorem one_mid (w : World) {T : Nat → Prop} (ad : Addr) (n c p : Nat) (bs : List UInt8) (h : Rb w T (some ad) n bs) (hT : ∀ g, T g → g < w.heap.size) (ht : Tab w) (hnc : n ≤ c) (hc : c ≤ 9223372036854775807) (h6 : p + 6 ≤ n) :
    Calls Tryz.prog 81 #[.slice (some ad) n c, .int .i64 p] w (OneIs w p (bs.drop p)) := by
  have R1 : Hid (Rb w T (some (ad.add p)) 4 ((bs.drop p).take 4)) := (h.drop (k := p) (by omega) (.inl rfl)).take (k := 4) (by omega)
  have R2 : Hid (Rb w T (some (ad.add (p + 4))) 2 ((bs.drop (p + 4)).take 2)) := (h.drop (k := p + 4) (by omega) (.inl rfl)).take (k := 2) (by omega)
  have R3 : Hid (Rb w T (some (ad.add (p + 6))) (n - (p + 6)) (bs.drop (p + 6))) := h.drop (k := p + 6) (by omega) (.inl rfl)
  have hl : Hid (bs.length = n) := h.len
  have N1 := Lib.hid (fun c => number_any w (ad.add p) 4 c _ R1.out (by omega) (by omega))
  have N2 := Lib.hid (fun c => number_any w (ad.add (p + 4)) 2 c _ R2.out (by omega) (by omega))
  obtain ⟨s, hs⟩ : ∃ s, s = num ((bs.drop p).take 4) := ⟨_, rfl⟩
  obtain ⟨L, hL⟩ : ∃ L, L = num ((bs.drop (p + 4)).take 2) := ⟨_, rfl⟩
  rw [← hs] at N1
  rw [← hL] at N2
  have hL2 : L < 65536 := by
    have := num_lt ((bs.drop (p + 4)).take 2)
    rw [R2.out.len] at this
    rw [hL]; exact this
  have hs2 : s < 4294967296 := by
    have := num_lt ((bs.drop p).take 4)
    rw [R1.out.len] at this
    rw [hs]; exact this
  have B : Hid (L < 1 ∨ 1000 < L ∨ n - (p + 6) < L → one (bs.drop p) = none) := fun hq => one_bad hl.out hL hq
  obtain ⟨r, hr⟩ : ∃ r, r = (bs.drop (p + 6)).take L := ⟨_, rfl⟩
  have G : Hid (1 ≤ L → L ≤ 1000 → L ≤ n - (p + 6) → (¬ sumOf r = s → one (bs.drop p) = none) ∧ (sumOf r = s → one (bs.drop p) = some r) ∧ r.length = L) := fun h1 h2 h3 => one_sum hl.out h6 hs hL hr h1 h2 h3
  have R4 : Hid (L ≤ n - (p + 6) → Rb w T (some (ad.add (p + 6))) L r) := fun hq => by rw [hr]; exact R3.out.take hq
  clear hs hL h R1 R2 R3 hl hr
  have M0 : Hid (L < 1 ∨ 1000 < L → Calls Tryz.prog 57 #[.int .i64 L] w fun e w' => e = .returned (.bool false) ∧ w = w') := fun hq => may_no L (by omega) w
  have M1 : Hid (1 ≤ L → L ≤ 1000 → Calls Tryz.prog 57 #[.int .i64 L] w fun e w' => e = .returned (.bool true) ∧ w = w') := fun h1 h2 => may_yes L (by omega) (by omega) w
  go_enter Tryz.func81, Tryz.ntmps81
  go_wp2_with fail
  refine (N1.out _).mono ?_
  rintro e w' ⟨rfl, rfl⟩
  go_wp2_with fail
  refine (N2.out _).mono ?_
  rintro e w' ⟨rfl, rfl⟩
  clear N1 N2
  go_wp2_with fail
  all_goals by_cases q1 : L < 1 ∨ 1000 < L
  · refine (M0.out q1).mono ?_
    rintro e w' ⟨rfl, rfl⟩
    go_wp2
    go_ret2
    exact .inl ⟨B.out (by omega), rfl, rfl⟩
  · refine (M1.out (by omega) (by omega)).mono ?_
    rintro e w' ⟨rfl, rfl⟩
    have hb := B.out (by omega)
    have d : decide ((L : Int) > ((n - (p + 6) : Nat) : Int)) = true := by simpa using (show n - (p + 6) < L by omega)
    replace hb := Lib.hid hb
    go_wp2
    go_ret2
    exact .inl ⟨hb.out, rfl, rfl⟩
  · refine (M0.out q1).mono ?_
    rintro e w' ⟨rfl, rfl⟩
    go_wp2
    go_ret2
    exact .inl ⟨B.out (by omega), rfl, rfl⟩
  · refine (M1.out (by omega) (by omega)).mono ?_
    rintro e w' ⟨rfl, rfl⟩
    by_cases q2 : n - (p + 6) < L
    · have hb := B.out (by omega)
      replace hb := Lib.hid hb
      go_wp2
      go_ret2
      exact .inl ⟨hb.out, rfl, rfl⟩
    · obtain ⟨g1, g2, g3⟩ := G.out (by omega) (by omega) (by omega)
      have R := Lib.hid (R4.out (by omega))
      replace g3 := Lib.hid g3
      obtain ⟨y, hy⟩ : ∃ y, y = sumOf r := ⟨_, rfl⟩
      have hy2 : y < 4294967296 := by rw [hy]; exact sum_lt r
      have S := Lib.hid (fun c => sum_any w (some (ad.add (p + 6))) L c r R.out ht (by omega))
      rw [← hy] at S g1 g2
      clear hy
      by_cases q3 : y = s
      · subst q3
        have K := Lib.hid (fun c => clone_any w (some (ad.add (p + 6))) L c r R.out hT (by omega) (by intro h; cases h))
        replace g2 := Lib.hid (g2 rfl)
        clear g1
        go_wp2_with fail
        refine (S.out _).mono ?_
        rintro e w' ⟨rfl, rfl⟩
        go_wp2_with fail
        refine (K.out _).mono ?_
        rintro e w' ⟨v, rfl, ho, hb⟩
        have F : Hid (OneIs w p (bs.drop p) (.returned (.tuple #[v, .int .i64 ((p + (6 + r.length) : Nat) : Int)])) w') := .inr ⟨r, v, g2.out, rfl, by rw [g3.out]; exact ho, hb⟩
        rw [g3.out, show ((p + (6 + L) : Nat) : Int) = (p : Int) + 6 + L by omega] at F
        clear ho hb
        go_wp2
        go_ret2
        exact F.out
      · replace g1 := Lib.hid (g1 q3)
        have d : ((y : Int) != (s : Int)) = true := by simpa using (fun h => q3 (by omega))
        clear g2
        go_wp2_with fail
        refine (S.out _).mono ?_
        rintro e w' ⟨rfl, rfl⟩
        go_wp2
        go_ret2
        exact .inl ⟨g1.out, rfl, rfl⟩

/-- What One does. -/
def OneTo (w : World) (bs : List UInt8) (at_ : Int) (e : Ending) (w' : World) : Prop :=
  (oneAt bs at_ = none ∧ e = .returned (.tuple #[.slice none 0 0, .int .i64 (-1)]) ∧ w = w') ∨
  (∃ r v, oneAt bs at_ = some r ∧ e = .returned (.tuple #[v, .int .i64 (at_ + (6 + (r.length : Int)))]) ∧ w'.ownsRow w.heap.size 5 1 v r.length (u8s r) ∧ Below w.heap.size w w')
theorem oneAt_out {bs : List UInt8} {at_ : Int} (h : at_ < 0 ∨ (bs.length : Int) - at_ < 6) : oneAt bs at_ = none := by
  unfold oneAt
  by_cases hq : 0 ≤ at_ ∧ at_ ≤ bs.length
  · rw [if_pos hq]
    exact one_short (by rw [List.length_drop]; omega)
  · rw [if_neg hq]
theorem oneAt_nat {bs : List UInt8} {p : Nat} (h : p ≤ bs.length) : oneAt bs (p : Int) = one (bs.drop p) := by
  unfold oneAt
  rw [if_pos (by omega)]
  rfl
theorem one_any (w : World) {T : Nat → Prop} (A : Option Addr) (n c : Nat) (at_ : Int) (bs : List UInt8) (h : Rb w T A n bs) (hT : ∀ g, T g → g < w.heap.size) (ht : Tab w) (hnc : n ≤ c) (hc : c ≤ 9223372036854775807) (hx : at_ ≤ 9223372036854775807) :
    Calls Tryz.prog 81 #[.slice A n c, .int .i64 at_] w (OneTo w bs at_) := by
  have hl := h.len
  by_cases h0 : at_ < 0
  · exact (one_low w A n c at_ h0).mono fun e w' ⟨h1, h2⟩ => .inl ⟨oneAt_out (.inl h0), h1, h2⟩
  · by_cases h6 : (n : Int) - at_ < 6
    · exact (one_high w A n c at_ (by omega) hx (by omega) h6).mono fun e w' ⟨h1, h2⟩ => .inl ⟨oneAt_out (.inr (by omega)), h1, h2⟩
    · obtain ⟨ad, rfl, _⟩ := h.at_ (by omega)
      obtain ⟨p, rfl⟩ := Int.eq_ofNat_of_zero_le (show 0 ≤ at_ by omega)
      have e := oneAt_nat (bs := bs) (p := p) (by omega)
      refine (one_mid w ad n c p bs h hT ht hnc hc (by omega)).mono fun en w' hq => ?_
      rcases hq with ⟨h1, h2, h3⟩ | ⟨r, v, h1, h2, h3, h4⟩
      · exact .inl ⟨e.trans h1, h2, h3⟩
      · refine .inr ⟨r, v, e.trans h1, ?_, h3, h4⟩
        rw [h2]
        have e2 : ((p + (6 + r.length) : Nat) : Int) = (p : Int) + (6 + (r.length : Int)) := by omega
        rw [e2]
end Fr
end Go.Proofs.YtbolcapgocjgcaaGreatDoor
