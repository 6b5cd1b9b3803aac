/- The document's wheel: Set. -/
import Derived.Test.YtnfakkinaockiaaDwF
namespace Go.Proofs.Ytnfakkinaockiaa
set_option maxRecDepth 100000
open Go.RowKit
open Go.Proofs.Ytnfakkinaockiaa.Pk (one_at one_free one_set lt_some grown_set)
namespace Wh

theorem DwTo.trans {w w1 w2 : World} {d n c1 : Nat} {now1 now : Int} {S1 S : List Tm} {A A1 : Option Addr} (_ : Dw w1 d now1 S1 A1 c1) (k : Kq (fun g => g = d) w w1) (hr : ∀ g, rbk A1 S1.length g → rbk A n g ∨ w.heap.size ≤ g) (h : DwTo w1 d A1 S1.length now S w2) : DwTo w d A n now S w2 := by
  obtain ⟨A2, c2, D2, k2, h2⟩ := h
  refine ⟨A2, c2, D2, k.trans' k2, fun g hg => ?_⟩
  rcases h2 g hg with h3 | h3
  · exact hr g h3
  · exact .inr (Nat.le_trans k.size h3)
/-- The loop that looks for the place. -/
def PsAt (t : Tm) (S : List Tm) (w : World) (i : Value) (wr : World) : Prop := ∃ k : Nat, i = .int .i64 k ∧ k ≤ S.length ∧ (∀ j, j < k → tlt (gt S j) t) ∧ wr = w
set_option maxHeartbeats 6400000 in
theorem dset (w : World) (d c : Nat) (now : Int) (S : List Tm) (A : Option Addr) (D : Dw w d now S A c) (nd : Nd S) (hl : S.length ≤ 900) (id at_ : Int) :
    Calls Try.prog 14 #[.pointer (some ⟨d, 0, none⟩), .int .i64 id, .int .i64 at_] w fun e w' => e = .returned (.int .i64 (setE at_)) ∧ DwTo w d A S.length now (setS id at_ S) w' := by
  by_cases ht : tick at_ = true
  · unfold setE setS
    rw [if_pos ht, if_pos ht]
    simp only [tick, Bool.and_eq_true, decide_eq_true_eq] at ht
    have q0 : decide (at_ < 0) = false := decide_eq_false (by omega)
    have q1 : decide (1099511627776 < at_) = false := decide_eq_false (by omega)
    have OF := Lib.hid (doff w d c now S A D nd (by omega) id)
    have hl1 : Hid ((without id S).length ≤ 900) := Nat.le_trans (without_len _ _) hl
    have hS : Hid (sSet (id, at_) S = ins (id, at_) (without id S)) := rfl
    generalize without id S = S1 at *
    generalize S.length = m at *
    clear ht D hl nd
    go_enter Try.func14, Try.ntmps14
    go_wp2_with fail
    refine OF.out.mono ?_
    rintro e w1 ⟨rfl, A1, c1, D1, k1, hr1⟩
    have T := Lib.hid (fun w2 => DwTo.trans (w2 := w2) (now := now) (S := sSet (id, at_) S) D1 k1 hr1)
    have st : Hid (PsAt (id, at_) S1 w1 (.int .i64 0) w1) := ⟨0, rfl, Nat.zero_le _, fun j hj => absurd hj (by omega), rfl⟩
    have cc : w1.cell? ⟨d, 1, none⟩ = some (.slice A1 S1.length c1) := one_at (i := 1) D1.cells
    have hcap := D1.cap
    have hmax := D1.max
    have DH := Lib.hid D1
    obtain ⟨n, hn⟩ : ∃ z, z = S1.length := ⟨_, rfl⟩
    rw [← hn] at cc hcap
    have i9 : (n : Int) ≤ 9223372036854775807 := by omega
    replace hn := Lib.hid hn
    clear OF D1 k1 hr1 hcap hmax q0 q1
    go_wp2_with fail
    go_loopw [7] (fun i wr => PsAt (id, at_) S1 w1 i wr) (fun i _ => n - (intOf i).toNat)
    case atStart => exact st.out
    case round =>
      clear st
      obtain ⟨k, rfl, hk, hlo, rfl⟩ := hrel
      by_cases hgo : k < S1.length ∧ tlt (gt S1 k) (id, at_)
      · obtain ⟨g, o, rfl, e1, e2⟩ := DH.out.row.tm (k := k) hgo.1
        have i1 : (k : Int) < (n : Int) := by have := hn.out; omega
        have i2 : (0 : Int) ≤ (k : Int) := by omega
        have nx : Hid (PsAt (id, at_) S1 wr (.int .i64 ((k : Int) + 1)) wr) := ⟨k + 1, by simp, by omega, fun j hj => by
          by_cases e : j = k
          · rw [e]; exact hgo.2
          · exact hlo j (by omega), rfl⟩
        have h := hgo.2
        unfold tlt at h
        clear hlo hk hgo
        generalize gt S1 k = t at *
        by_cases h1 : t.2 < at_
        · have q1 : decide (t.2 < at_) = true := decide_eq_true h1
          clear h h1
          go_wp2
          exact ⟨nx.out, by simp [intOf]; omega⟩
        · have q1 : decide (t.2 < at_) = false := decide_eq_false h1
          have q2 : (t.2 == at_) = true := by simp only [beq_iff_eq]; omega
          have q3 : decide (t.1 < id) = true := decide_eq_true (by omega)
          clear h h1
          go_wp2
          exact ⟨nx.out, by simp [intOf]; omega⟩
      · have EX : Hid (∀ (W3 : World) (A3 : Option Addr) (c3 : Nat), Below wr.heap.size wr W3 → W3.ownsRow wr.heap.size 44 2 (.slice A3 (n + 1) c3) (n + 1) (flt (S1.take k ++ (id, at_) :: S1.drop k)) → DwTo w d A m now (sSet (id, at_) S) (W3.setCell ⟨d, 1, none⟩ (.slice A3 (n + 1) c3))) := fun W3 A3 c3 hb o => by
          have hi := ins_at (t := (id, at_)) (S := S1) (k := k) hk hlo (fun h h2 => hgo ⟨h, h2⟩)
          rw [← hi, ← hS.out] at o
          refine T.out _ (DwTo.of_row (n := n + 1) DH.out (Below.refl _ _) hb ?_ o).2.2
          rw [hS.out, hi, List.length_append, List.length_cons, List.length_take, List.length_drop, hn.out]
          omega
        have hkn : Hid (k ≤ n) := by unfold Hid; rw [hn.out]; exact hk
        have hln : Hid (n ≤ 900) := by unfold Hid; rw [hn.out]; exact hl1.out
        clear T
        by_cases hlt : k < n
        · obtain ⟨g, o, hA, e1, e2⟩ := DH.out.row.tm (k := k) (by rw [← hn.out]; exact hlt)
          have i1 : (k : Int) < (n : Int) := by omega
          have i2 : (0 : Int) ≤ (k : Int) := by omega
          have h : ¬ tlt (gt S1 k) (id, at_) := fun h => hgo ⟨by rw [← hn.out]; exact hlt, h⟩
          unfold tlt at h
          have q1 : decide ((gt S1 k).2 < at_) = false := decide_eq_false (by omega)
          subst hA
          clear hgo hlo hk
          by_cases h2 : (gt S1 k).2 = at_
          · have q2 : ((gt S1 k).2 == at_) = true := by simpa using h2
            have q3 : decide ((gt S1 k).1 < id) = false := decide_eq_false (by omega)
            clear h h2
            generalize gt S1 k = t at *
            go_upto_region 7 with fail
            refine dset7 _ _ _ _ _ _ _ _ _ _ _ _ _ _ _ _ _ _ _ _ _ _ _ _ _ _ _ _ _ _ _ _ _ _ _ _ _ _ _ _ _ _ _ _ _ _ _ _ _ _ _ _ _ _ _ _ _ _ _ _ _ _ _ _ _ _ _ _ _ _ _ _ _ _ _ _ _ _ _ _ _ wr d n c1 k now id at_ _ S1 DH.out hn.out.symm hkn.out hln.out _ (fun _ _ d _ _ h => by cases d <;> exact h) (fun y62 y63 y64 y65 y66 y67 y68 y69 y70 y71 y72 y73 y74 y75 y76 y77 y78 y79 y80 y81 y82 y83 y84 W3 A3 c3 hb3 o3 => ?_)
            have F := Lib.hid (EX.out W3 A3 c3 hb3 o3)
            clear EX hb3 o3 DH
            go_wp2
            go_ret
            exact ⟨rfl, F.out⟩
          · have q2 : ((gt S1 k).2 == at_) = false := by simpa using h2
            clear h h2
            generalize gt S1 k = t at *
            go_upto_region 7 with fail
            refine dset7 _ _ _ _ _ _ _ _ _ _ _ _ _ _ _ _ _ _ _ _ _ _ _ _ _ _ _ _ _ _ _ _ _ _ _ _ _ _ _ _ _ _ _ _ _ _ _ _ _ _ _ _ _ _ _ _ _ _ _ _ _ _ _ _ _ _ _ _ _ _ _ _ _ _ _ _ _ _ _ _ _ wr d n c1 k now id at_ _ S1 DH.out hn.out.symm hkn.out hln.out _ (fun _ _ d _ _ h => by cases d <;> exact h) (fun y62 y63 y64 y65 y66 y67 y68 y69 y70 y71 y72 y73 y74 y75 y76 y77 y78 y79 y80 y81 y82 y83 y84 W3 A3 c3 hb3 o3 => ?_)
            have F := Lib.hid (EX.out W3 A3 c3 hb3 o3)
            clear EX hb3 o3 DH
            go_wp2
            go_ret
            exact ⟨rfl, F.out⟩
        · obtain rfl : k = n := by have := hkn.out; omega
          clear hgo hlo hk hlt
          go_upto_region 7 with fail
          refine dset7 _ _ _ _ _ _ _ _ _ _ _ _ _ _ _ _ _ _ _ _ _ _ _ _ _ _ _ _ _ _ _ _ _ _ _ _ _ _ _ _ _ _ _ _ _ _ _ _ _ _ _ _ _ _ _ _ _ _ _ _ _ _ _ _ _ _ _ _ _ _ _ _ _ _ _ _ _ _ _ _ _ wr d k c1 k now id at_ _ S1 DH.out hn.out.symm hkn.out hln.out _ (fun _ _ d _ _ h => by cases d <;> exact h) (fun y62 y63 y64 y65 y66 y67 y68 y69 y70 y71 y72 y73 y74 y75 y76 y77 y78 y79 y80 y81 y82 y83 y84 W3 A3 c3 hb3 o3 => ?_)
          have F := Lib.hid (EX.out W3 A3 c3 hb3 o3)
          clear EX hb3 o3 DH
          go_wp2
          go_ret
          exact ⟨rfl, F.out⟩
  · unfold setE setS
    rw [if_neg ht, if_neg ht]
    have E := Lib.hid (DwTo.of_below D (Below.refl _ _))
    simp only [tick, Bool.and_eq_true, decide_eq_true_eq] at ht
    by_cases h0 : at_ < 0
    · have q0 : decide (at_ < 0) = true := decide_eq_true h0
      clear ht h0 D
      go_enter Try.func14, Try.ntmps14
      go_wp2
      go_ret
      exact ⟨rfl, E.out⟩
    · have q0 : decide (at_ < 0) = false := decide_eq_false h0
      have q1 : decide (1099511627776 < at_) = true := decide_eq_true (by omega)
      clear ht h0 D
      go_enter Try.func14, Try.ntmps14
      go_wp2
      go_ret
      exact ⟨rfl, E.out⟩
end Wh
end Go.Proofs.Ytnfakkinaockiaa
