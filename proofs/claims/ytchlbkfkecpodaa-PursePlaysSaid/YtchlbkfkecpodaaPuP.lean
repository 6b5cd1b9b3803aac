/- More words for the laws: few operations, what is gone. -/
import Derived.Test.YtchlbkfkecpodaaPuO
namespace Go.Proofs.Ytchlbkfkecpodaa
set_option maxRecDepth 100000
open Go.RowKit
open Go.Proofs.Ytchlbkfkecpodaa.Pk (one_at one_free one_set lt_some adr_block)
namespace Pu
open Wt (Opn mayOp)

section
variable {p : S} {b k c m : Int} {ok : Bool}
theorem stp_other {x : Int} (h : x ≠ b) : (stp p ok k b c m).1.f x = p.f x := by
  unfold stp
  split
  · rfl
  · split
    · unfold auth
      split
      · split
        · exact upd_other h
        · exact upd_other h
      · split <;> rfl
    · split
      · unfold capt
        split
        · rfl
        · split
          · exact upd_other h
          · exact upd_other h
      · split
        · unfold void
          split
          · exact upd_other h
          · split
            · exact upd_other h
            · exact upd_other h
        · rfl
theorem void_at : (void p b).f b = eg := by
  unfold void
  split
  · exact upd_same _ _ _
  · split
    · exact upd_same _ _ _
    · exact upd_same _ _ _
theorem gone_stp (h : p.f b = eg) (_hk : 1 ≤ k) : (stp p ok k b c m).1.f b = eg ∧ ((stp p ok k b c m).2 == 1) = ((k == 6) && ok) := by
  have h3 : (p.f b).st = 3 := by rw [h]; rfl
  unfold stp
  cases ok with
  | false => rw [if_pos rfl]; exact ⟨h, by rw [Bool.and_false]; rfl⟩
  | true =>
    rw [if_neg (by simp), Bool.and_true]
    by_cases h4 : k = 4
    · rw [if_pos h4]
      unfold auth
      rw [if_neg (by omega), if_neg (fun h => h.1 h3)]
      exact ⟨h, by rw [h4]; rfl⟩
    · rw [if_neg h4]
      by_cases h5 : k = 5
      · rw [if_pos h5]
        unfold capt
        rw [if_neg (by omega), if_neg (by omega)]
        exact ⟨upd_same _ _ _, by rw [h5]; rfl⟩
      · rw [if_neg h5]
        by_cases h6 : k = 6
        · rw [if_pos h6]
          exact ⟨void_at, by rw [h6]; rfl⟩
        · rw [if_neg h6]
          exact ⟨h, by
            have : (k == 6) = false := by simpa using h6
            rw [this]; rfl⟩
end
theorem gone_do {p : S} {b : Int} {o : Opn} (h : p.f b = eg) : (dstp p o).1.f b = eg ∧ (o.book = b → ((dstp p o).2 == 1) = ((o.kind == 6) && mayOp o)) := by
  unfold dstp
  by_cases hb : o.book = b
  · rw [hb]
    cases hm : mayOp o with
    | false => exact ⟨h, fun _ => by rw [Bool.and_false]; rfl⟩
    | true =>
      have := gone_stp (p := p) (b := b) (k := o.kind) (c := o.cust) (m := o.amount) (ok := true) h (mayop_bds hm).2.1.1
      exact ⟨this.1, fun _ => this.2⟩
  · refine ⟨?_, fun e => absurd e hb⟩
    rw [stp_other (fun e => hb e.symm)]
    exact h
theorem may_void {b : Int} (h1 : 1 ≤ b) (h2 : b ≤ 200) : mayOp ⟨6, b, 0, 0, 0⟩ = true := by simp [mayOp, Wt.inR, h1, h2]
theorem d_void {p : S} {b : Int} (h1 : 1 ≤ b) (h2 : b ≤ 200) : dstp p ⟨6, b, 0, 0, 0⟩ = (void p b, 1) := by
  unfold dstp
  rw [may_void h1 h2]
  rfl
theorem may_capt {b : Int} (h1 : 1 ≤ b) (h2 : b ≤ 200) : mayOp ⟨5, b, 0, 0, 0⟩ = true := by simp [mayOp, Wt.inR, h1, h2]
theorem d_capt {p : S} {b : Int} (h1 : 1 ≤ b) (h2 : b ≤ 200) : dstp p ⟨5, b, 0, 0, 0⟩ = capt p b := by
  unfold dstp
  rw [may_capt h1 h2]
  rfl
theorem may_auth {b c m : Int} (h1 : 1 ≤ b) (h2 : b ≤ 200) (c0 : 0 ≤ c) (c3 : c ≤ 3) (m0 : 0 ≤ m) (m1 : m ≤ 1099511627776) : mayOp ⟨4, b, 0, c, m⟩ = true := by simp [mayOp, Wt.inR, h1, h2, c0, c3, m0, m1]
theorem d_auth {p : S} {b c m : Int} (h1 : 1 ≤ b) (h2 : b ≤ 200) (c0 : 0 ≤ c) (c3 : c ≤ 3) (m0 : 0 ≤ m) (m1 : m ≤ 1099511627776) : dstp p ⟨4, b, 0, c, m⟩ = auth p b c m := by
  unfold dstp
  rw [may_auth h1 h2 c0 c3 m0 m1]
  rfl
theorem OwTo.less {B : Nat} {X X' : Nat → Prop} {w0 w w1 : World} {q : Nat} {p : S} (O : OwTo B X w0 w q p w1) (h : ∀ g, X' g → X g) : OwTo B X' w0 w q p w1 := ⟨O.1.less h, O.2.1, fun g hg => O.2.2 g (h g hg)⟩
end Pu
end Go.Proofs.Ytchlbkfkecpodaa
