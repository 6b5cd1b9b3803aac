/- Text, and New with its copy (chapter 1, promise 1.2). -/
import Derived.Test.YtidfpbnepdjagaaDoorPk3
import Derived.Laws.IdiomStrings
import Derived.Laws.BytesArg
namespace Go.Proofs.YtidfpbnepdjagaaDoor
open Go.RowKit
namespace Pk

def str (bs : List UInt8) : ByteArray := ⟨bs.toArray⟩
theorem str_run {w : World} {T : Nat → Prop} {A : Option Addr} {n c : Nat} {bs : List UInt8} (h : Rb w T A n bs) : (convert 31 9 (.slice A n c)).run Tryd.prog w = .ok (.string (str bs)) w := by
  obtain rfl := h.len
  cases A with
  | none =>
    rcases bs with _ | ⟨x, t⟩
    · exact run_convert_bytes_nil w 31 5 Tryd.underlying31 Tryd.underlying5 _ _ _ Tryd.underlying9
    · obtain ⟨ad, e, _⟩ := h.at_ (by simp)
      cases e
  | some a =>
    refine run_convert_bytes_back w 31 9 5 a c bs Tryd.underlying31 Tryd.underlying5 Tryd.underlying9 fun j hj => ?_
    obtain ⟨ad, e, _, hc⟩ := h.at_ (by omega)
    injection e with e
    subst e
    exact hc j _ (List.getElem?_eq_getElem hj)
theorem str_nil (w : World) : (convert 31 9 (.slice none 0 0)).run Tryd.prog w = .ok (.string (str [])) w := str_run (T := fun _ => True) Rb.none_

theorem rInt_zero {lo hi : Int} {s : St} {v : Int} (h : rInt lo hi s = (v, none)) : v = 0 := by
  cases s with
  | none => simp only [rInt, Prod.mk.injEq] at h; exact h.1.symm
  | some l =>
    simp only [rInt] at h
    split at h
    · simp only [Prod.mk.injEq] at h; exact h.1.symm
    · split at h
      · simp at h
      · simp only [Prod.mk.injEq] at h; exact h.1.symm
theorem rInt_pos {hi : Int} {s : St} {v : Int} {l : List UInt8} (h : rInt 0 hi s = (v, some l)) : 0 ≤ v ∧ v ≤ hi := by
  cases s with
  | none => simp [rInt] at h
  | some l =>
    simp only [rInt] at h
    split at h
    · simp at h
    · split at h
      · rename_i hb
        simp only [Prod.mk.injEq] at h
        rw [← h.1]; exact hb
      · simp at h

def TxtTo (w : World) (p : Nat) (q : List UInt8 × St) (e : Ending) (w' : World) : Prop := e = .returned (.string (str q.1)) ∧ RdTo w p q.2 w'

set_option maxHeartbeats 800000 in
theorem rtext_lo (p : Nat) (w : World) (s : St) (most : Int) (h : Rd w p s) (hm : most < 0) (v : Int) (s' : St) (hq : rInt 0 0 s = (v, s')) :
    Calls Tryd.prog 61 #[.pointer (some ⟨p, 0, none⟩), .int .i64 most] w (TxtTo w p (match (v, s') with | (_, none) => ([], none) | (n, some l) => if n.toNat ≤ l.length then (l.take n.toNat, some (l.drop n.toNat)) else ([], none))) := by
  have H := number_any p w s 0 0 h
  rw [hq] at H
  replace H := Lib.hid H
  clear h
  go_enter Tryd.func61, Tryd.ntmps61
  go_wp2_with fail
  have H' : Hid (Calls Tryd.prog 77 #[.pointer (some ⟨p, 0, none⟩), .int .i64 0, .int .i64 0] w (NumTo w p (v, s'))) := H
  refine H'.out.mono ?_
  rintro e w1 ⟨rfl, hr⟩
  cases s' with
  | none =>
    obtain rfl := rInt_zero hq
    have hs := str_nil w1
    go_wp2_with (go_at_call 78; ((with_reducible refine (take_wrong p w1 0 hr.rd).mono ?_); rintro e w' ⟨rfl, rfl⟩))
    go_ret
    exact ⟨rfl, hr⟩
  | some l =>
    obtain ⟨h0, _⟩ := rInt_pos hq
    obtain ⟨k, rfl⟩ := Int.eq_ofNat_of_zero_le h0
    clear h0
    have hq' := Lib.hid hq
    clear hq
    by_cases hk : k ≤ l.length
    · go_wp2_with fail
      refine (take_ok p w1 k l hr.rd hk).mono ?_
      rintro e w' ⟨A, c, rfl, hc1, hc2, hrb, hrr⟩
      have hs := str_run (c := c) hrb
      go_wp2
      go_ret
      exact ⟨rfl, hr.trans hrr⟩
    · go_wp2_with fail
      refine (take_past p w1 k l hr.rd (by omega)).mono ?_
      rintro e w' ⟨rfl, hrr⟩
      have hs := str_nil w'
      go_wp2
      go_ret
      exact ⟨rfl, hr.trans hrr⟩

set_option maxHeartbeats 800000 in
theorem rtext_hi (p : Nat) (w : World) (s : St) (most : Int) (h : Rd w p s) (hm : 0 ≤ most) (v : Int) (s' : St) (hq : rInt 0 most s = (v, s')) :
    Calls Tryd.prog 61 #[.pointer (some ⟨p, 0, none⟩), .int .i64 most] w (TxtTo w p (match (v, s') with | (_, none) => ([], none) | (n, some l) => if n.toNat ≤ l.length then (l.take n.toNat, some (l.drop n.toNat)) else ([], none))) := by
  have H := number_any p w s 0 most h
  rw [hq] at H
  replace H := Lib.hid H
  clear h
  go_enter Tryd.func61, Tryd.ntmps61
  go_wp2_with fail
  have H' : Hid (Calls Tryd.prog 77 #[.pointer (some ⟨p, 0, none⟩), .int .i64 0, .int .i64 most] w (NumTo w p (v, s'))) := H
  refine H'.out.mono ?_
  rintro e w1 ⟨rfl, hr⟩
  cases s' with
  | none =>
    obtain rfl := rInt_zero hq
    have hs := str_nil w1
    go_wp2_with (go_at_call 78; ((with_reducible refine (take_wrong p w1 0 hr.rd).mono ?_); rintro e w' ⟨rfl, rfl⟩))
    go_ret
    exact ⟨rfl, hr⟩
  | some l =>
    obtain ⟨h0, _⟩ := rInt_pos hq
    obtain ⟨k, rfl⟩ := Int.eq_ofNat_of_zero_le h0
    clear h0
    have hq' := Lib.hid hq
    clear hq
    by_cases hk : k ≤ l.length
    · go_wp2_with fail
      refine (take_ok p w1 k l hr.rd hk).mono ?_
      rintro e w' ⟨A, c, rfl, hc1, hc2, hrb, hrr⟩
      have hs := str_run (c := c) hrb
      go_wp2
      go_ret
      exact ⟨rfl, hr.trans hrr⟩
    · go_wp2_with fail
      refine (take_past p w1 k l hr.rd (by omega)).mono ?_
      rintro e w' ⟨rfl, hrr⟩
      have hs := str_nil w'
      go_wp2
      go_ret
      exact ⟨rfl, hr.trans hrr⟩

theorem rtext_any (p : Nat) (w : World) (s : St) (most : Int) (h : Rd w p s) :
    Calls Tryd.prog 61 #[.pointer (some ⟨p, 0, none⟩), .int .i64 most] w (TxtTo w p (rText most s)) := by
  obtain ⟨v, s', hq⟩ : ∃ v s', rInt 0 (max most 0) s = (v, s') := ⟨_, _, rfl⟩
  unfold rText
  rw [hq]
  by_cases hm : most < 0
  · rw [show max most 0 = 0 by omega] at hq
    exact rtext_lo p w s most h hm v s' hq
  · rw [show max most 0 = most by omega] at hq
    exact rtext_hi p w s most h (by omega) v s' hq
end Pk
end Go.Proofs.YtidfpbnepdjagaaDoor
