/- The document's own reader: its Text. -/
import Derived.Test.YtidfpbnepdjagaaDoorPkT
namespace Go.Proofs.YtidfpbnepdjagaaDoor
open Go.RowKit
namespace Pk

def XtTo (w : World) (p : Nat) (q : List UInt8 × St) (e : Ending) (w' : World) : Prop := e = .returned (.string (str q.1)) ∧ RxTo w p q.2 w'
theorem RxTo.trans {w w1 w2 : World} {p : Nat} {s s' : St} (h : RxTo w p s w1) (k : RxTo w1 p s' w2) : RxTo w p s' w2 := ⟨k.rx, grown_trans h.gr k.gr⟩

set_option linter.unusedSimpArgs false in
set_option maxHeartbeats 1600000 in
theorem xtext_at (p : Nat) (w : World) (s : St) (most top : Int) (h : Rx w p s) (hm : (most < 0 ∧ top = 0) ∨ (0 ≤ most ∧ top = most)) (v : Int) (s' : St) (hq : rInt 0 top s = (v, s')) :
    Calls Tryd.prog 38 #[.pointer (some ⟨p, 0, none⟩), .int .i64 most] w (XtTo w p (match (v, s') with | (_, none) => ([], none) | (n, some l) => if n.toNat ≤ l.length then (l.take n.toNat, some (l.drop n.toNat)) else ([], none))) := by
  have H : Hid (Calls Tryd.prog 36 #[.pointer (some ⟨p, 0, none⟩), .int .i64 0, .int .i64 top] w fun e w' => e = .returned (.int .i64 v) ∧ RxTo w p s' w') := by
    have := xint p w s 0 top h
    rw [hq] at this
    exact this
  clear h
  rcases hm with ⟨hm, rfl⟩ | ⟨hm, rfl⟩
  all_goals
    go_enter Tryd.func38, Tryd.ntmps38
    go_wp2_with fail
    refine H.out.mono ?_
    rintro e w1 ⟨rfl, hr⟩
    have X := Lib.hid (xwrong p w1 s' hr.rx)
    obtain ⟨b1, f1, g1, g2, g3⟩ := hr.rx
    have c0 : w1.cell? ⟨p, 0, none⟩ = some (.string (str b1)) := one_at g1
    have c1 : w1.cell? ⟨p, 1, none⟩ = some (.bool f1) := one_at g1
    have f0 : w1.frozen? ⟨p, 0, none⟩ = false := one_free g1
    cases f1 with
    | true =>
      obtain rfl : s' = none := g3
      obtain rfl := rInt_zero hq
      clear g1 g2 H
      replace hq := Lib.hid hq
      go_wp2_with (go_at_call 67; ((with_reducible refine X.out.mono ?_); rintro e w' ⟨rfl, hx⟩))
      go_ret
      exact ⟨rfl, hr.trans hx⟩
    | false =>
      obtain rfl : s' = some b1 := g3
      obtain ⟨h0, -⟩ := rInt_pos hq
      obtain ⟨k, rfl⟩ := Int.eq_ofNat_of_zero_le h0
      clear h0
      have hq' := Lib.hid hq
      clear hq
      obtain ⟨S, hS⟩ : ∃ S, S = str b1 := ⟨_, rfl⟩
      have hsz : S.size = b1.length := by rw [hS, str_size]
      have hsb : S.size ≤ 400 := by omega
      rw [← hS] at c0
      have fin : Hid (RxTo w1 p (some (b1.drop k)) (w1.setCell ⟨p, 0, none⟩ (.string (str (b1.drop k))))) := rx_put g1 (Below.refl _ _) (by rw [List.length_drop]; omega)
      have t1 : S.extract 0 k = str (b1.take k) := by rw [hS]; exact str_take b1 k
      have t2 : S.extract k S.size = str (b1.drop k) := by rw [hS]; exact str_drop b1 k
      replace hS := Lib.hid hS
      replace hsz := Lib.hid hsz
      clear g1 g2 H
      by_cases hk : k ≤ S.size
      · have e : k ≤ b1.length := by rw [← hsz.out]; exact hk
        replace e := Lib.hid e
        go_wp2
        go_ret
        simp only [Int.toNat_natCast, if_pos e.out]
        exact ⟨rfl, hr.trans fin.out⟩
      · have e : ¬ k ≤ b1.length := by rw [← hsz.out]; exact hk
        replace e := Lib.hid e
        have hk1 : S.size < k := by omega
        go_wp2_with (go_at_call 67; ((with_reducible refine X.out.mono ?_); rintro e' w' ⟨rfl, hx⟩))
        go_ret
        simp only [Int.toNat_natCast, if_neg e.out]
        exact ⟨rfl, hr.trans hx⟩

theorem xtext (p : Nat) (w : World) (s : St) (most : Int) (h : Rx w p s) :
    Calls Tryd.prog 38 #[.pointer (some ⟨p, 0, none⟩), .int .i64 most] w (XtTo w p (rText most s)) := by
  obtain ⟨v, s', hq⟩ : ∃ v s', rInt 0 (max most 0) s = (v, s') := ⟨_, _, rfl⟩
  unfold rText
  rw [hq]
  exact xtext_at p w s most (max most 0) h (by omega) v s' hq
end Pk
end Go.Proofs.YtidfpbnepdjagaaDoor
