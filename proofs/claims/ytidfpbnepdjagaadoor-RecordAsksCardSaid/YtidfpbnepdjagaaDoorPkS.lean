/- The document's own reader (sojournref1.R): each call by the same lists. -/
import Derived.Test.YtidfpbnepdjagaaDoorLwReadsM
import Derived.Test.YtidfpbnepdjagaaDoorPkR
import Derived.Test.YtidfpbnepdjagaaDoorPk3
import Derived.Test.YtidfpbnepdjagaaDoorPk4
import Derived.Deep.QuietTactic
import Derived.BigQuiet
import Derived.Deep.RegionWith
namespace Go.Proofs.YtidfpbnepdjagaaDoor
open Go.RowKit
namespace Pk

/-- The document's reader in block p. -/
def Rx (w : World) (p : Nat) (s : St) : Prop := ∃ bs f, w.heap[p]? = some (.cells #[.string (str bs), .bool f] 72 (0, 0)) ∧ bs.length ≤ 400 ∧ s = if f then none else some bs
structure RxTo (w : World) (p : Nat) (s : St) (w' : World) : Prop where
  rx : Rx w' p s
  gr : w.grownBy w' (some p)
theorem Rx.lt {w : World} {p : Nat} {s : St} (h : Rx w p s) : p < w.heap.size := by obtain ⟨bs, f, h1, _⟩ := h; exact lt_some h1
theorem Rx.drewN {w : World} {p : Nat} {s : St} (h : Rx w p s) (k : Nat) : Rx (w.drewN k) p s := h
theorem Rx.same {w w' : World} {p : Nat} {s : St} (h : Rx w p s) (hb : w'.heap[p]? = w.heap[p]?) : Rx w' p s := by obtain ⟨bs, f, h1, h2⟩ := h; exact ⟨bs, f, hb.trans h1, h2⟩

set_option maxHeartbeats 400000 in
theorem xwrong (p : Nat) (w : World) (s : St) (h : Rx w p s) : Calls Tryd.prog 67 #[.pointer (some ⟨p, 0, none⟩)] w fun e w' => e = .returned (.tuple #[]) ∧ RxTo w p none w' := by
  obtain ⟨bs, f, h1, h2, h3⟩ := h
  have c0 : w.cell? ⟨p, 0, none⟩ = some (.string (str bs)) := one_at h1
  have c1 : w.cell? ⟨p, 1, none⟩ = some (.bool f) := one_at h1
  have f0 : w.frozen? ⟨p, 0, none⟩ = false := one_free h1
  have f1 : w.frozen? ⟨p, 1, none⟩ = false := one_free h1
  have fin : Hid (RxTo w p none ((w.setCell ⟨p, 1, none⟩ (.bool true)).setCell ⟨p, 0, none⟩ (.string ⟨#[]⟩))) :=
    ⟨⟨[], true, one_set (one_set h1 _) _, by simp, rfl⟩, grown_trans (grown_set _ _ _ _) (grown_set _ _ _ _)⟩
  clear h1 h2 h3
  go_enter Tryd.func67, Tryd.ntmps67
  go_wp2
  go_end0
  exact ⟨rfl, fin.out⟩

set_option maxHeartbeats 400000 in
theorem xend (p : Nat) (w : World) (s : St) (h : Rx w p s) : Calls Tryd.prog 40 #[.pointer (some ⟨p, 0, none⟩)] w fun e w' => e = .returned (.int .i64 (rEnd s)) ∧ w = w' := by
  obtain ⟨bs, f, h1, h2, h3⟩ := h
  have c0 : w.cell? ⟨p, 0, none⟩ = some (.string (str bs)) := one_at h1
  have c1 : w.cell? ⟨p, 1, none⟩ = some (.bool f) := one_at h1
  clear h1
  subst h3
  cases f with
  | true =>
    go_enter Tryd.func40, Tryd.ntmps40
    go_wp2
    go_ret
    exact ⟨rfl, rfl⟩
  | false =>
    rcases bs with _ | ⟨x, t⟩
    · have hs : (str []).size = 0 := rfl
      go_enter Tryd.func40, Tryd.ntmps40
      go_wp2
      go_ret
      exact ⟨rfl, rfl⟩
    · have hs : 0 < (str (x :: t)).size := by rw [str_size]; simp
      go_enter Tryd.func40, Tryd.ntmps40
      go_wp2
      go_ret
      exact ⟨rfl, rfl⟩

theorem str_drop (bs : List UInt8) (k : Nat) : (str bs).extract k (str bs).size = str (bs.drop k) := by
  apply ByteArray.ext
  apply Array.toList_inj.1
  simp [str, ByteArray.size]
  exact List.take_of_length_le (by simp)
theorem str_take (bs : List UInt8) (k : Nat) : (str bs).extract 0 k = str (bs.take k) := by
  apply ByteArray.ext
  apply Array.toList_inj.1
  simp [str]

/-- The loop of the document's Int. -/
def XAt (l : List UInt8) (u i : Value) : Prop := ∃ (k x : Nat), i = .int .i64 k ∧ u = .int .u64 x ∧ k ≤ 10 ∧ k ≤ l.length ∧ x < 128 ^ k ∧ dec 0 0 l = dec k x (l.drop k) ∧ (k = 10 → dec 0 0 l = none)

theorem and127_64 (c : UInt8) : bits .and .u64 (c.toNat : Int) 127 = ((c.toNat % 128 : Nat) : Int) := by
  have hc := c.toNat_lt
  have h := u64_and_nat c.toNat 127 (by omega) (by omega)
  rw [Nat.and_two_pow_sub_one_eq_mod c.toNat 7] at h
  exact h

theorem grpx (k x : Nat) (c : UInt8) (hk : k ≤ 9) (hx : x < 128 ^ k) (h9 : ¬ (k = 9 ∧ 1 < c.toNat % 128)) :
    bits .or .u64 (x : Int) (IntKind.u64.wrap (bits .and .u64 (c.toNat : Int) 127 * 2 ^ (7 * k))) = ((x + c.toNat % 128 * 128 ^ k : Nat) : Int) := by
  have h := grp_at k x c hk hx h9
  rw [wrap_and] at h
  rw [and127_64]
  exact h
theorem grpx9 (x : Nat) (c : UInt8) (hx : x < 128 ^ 9) (h9 : ¬ 1 < c.toNat % 128) :
    bits .or .u64 (x : Int) (IntKind.u64.wrap (bits .and .u64 (c.toNat : Int) 127 * 9223372036854775808)) = ((x + c.toNat % 128 * 128 ^ 9 : Nat) : Int) := by
  have h := grpx 9 x c (by omega) hx (by omega)
  exact h
theorem drop_at {bs : List UInt8} {k : Nat} {c : UInt8} (h : bs[k]? = some c) : bs.drop k = c :: bs.drop (k + 1) := by
  obtain ⟨hl, rfl⟩ := List.getElem?_eq_some_iff.1 h
  exact List.drop_eq_getElem_cons hl
theorem x_next {bs : List UInt8} {k x : Nat} {c : UInt8} {v : Int} (hc : bs[k]? = some c) (hdec : dec 0 0 bs = dec k x (bs.drop k)) (hk : k < 10) (h9 : ¬ k = 9) (h128 : 128 ≤ c.toNat) (hx : x < 128 ^ k) (hv : v = ((x + c.toNat % 128 * 128 ^ k : Nat) : Int)) :
    XAt bs (.int .u64 v) (.int .i64 ((k : Int) + 1)) := by
  subst hv
  refine ⟨k + 1, _, rfl, rfl, by omega, (List.getElem?_eq_some_iff.1 hc).1, ?_, ?_, by omega⟩
  · have : c.toNat % 128 * 128 ^ k ≤ 127 * 128 ^ k := Nat.mul_le_mul_right _ (by omega)
    rw [Nat.pow_succ]; omega
  · rw [hdec, drop_at hc, dec, if_neg (by omega), if_neg (by omega)]

theorem uz_even {y : Nat} (h : y % 2 = 0) : ((y : Int) / 2) = uz y := by unfold uz; rw [if_pos h]; omega
theorem uz_odd {y : Nat} (h : y % 2 = 1) (hy : y < 18446744073709551616) : bits .xor .i64 (-1) ((y : Int) / 2) = uz y := by
  have := i64_not (y / 2) (by omega)
  rw [show ((y : Int) / 2) = ((y / 2 : Nat) : Int) by omega, this]
  unfold uz; rw [if_neg (by omega)]; omega
theorem and1_64 (y : Nat) (h : y < 18446744073709551616) : bits .and .u64 (y : Int) 1 = ((y % 2 : Nat) : Int) := by
  have := u64_and_nat y 1 h (by omega)
  rw [Nat.and_one_is_mod] at this
  exact this
section
variable {bs : List UInt8} {k x y : Nat} {c : UInt8} {lo hi : Int}
theorem x_dec (hc : bs[k]? = some c) (h9 : ¬ (k = 9 ∧ 1 < c.toNat)) (h128 : c.toNat < 128) (hy : y = x + c.toNat % 128 * 128 ^ k) :
    dec k x (bs.drop k) = if k = 0 ∨ c.toNat ≠ 0 then some (y, bs.drop (k + 1)) else none := by
  rw [drop_at hc, dec, if_neg h9, if_pos h128, hy, Nat.mod_eq_of_lt h128]
theorem x_out (hc : bs[k]? = some c) (hdec : dec 0 0 bs = dec k x (bs.drop k)) (h9 : ¬ (k = 9 ∧ 1 < c.toNat)) (h128 : c.toNat < 128) (hy : y = x + c.toNat % 128 * 128 ^ k) (hb : uz y < lo ∨ hi < uz y) : rInt lo hi (some bs) = (0, none) := by
  have hd := x_dec hc h9 h128 hy
  by_cases hz : k = 0 ∨ c.toNat ≠ 0
  · rw [if_pos hz] at hd
    exact rInt_out (hdec.trans hd) hb
  · rw [if_neg hz] at hd
    exact rInt_none (.inr ⟨bs, rfl, hdec.trans hd⟩)
theorem x_yes (hc : bs[k]? = some c) (hdec : dec 0 0 bs = dec k x (bs.drop k)) (h9 : ¬ (k = 9 ∧ 1 < c.toNat)) (h128 : c.toNat < 128) (hy : y = x + c.toNat % 128 * 128 ^ k) (hz : k = 0 ∨ c.toNat ≠ 0) (h1 : ¬ uz y < lo) (h2 : ¬ hi < uz y) :
    rInt lo hi (some bs) = (uz y, some (bs.drop (k + 1))) ∧ encI (uz y) = bs.take (k + 1) := by
  have hd := x_dec hc h9 h128 hy
  rw [if_pos hz] at hd
  refine ⟨rInt_in (hdec.trans hd) h1 h2, ?_⟩
  unfold encI
  rw [zz_uz]
  have hl := (List.getElem?_eq_some_iff.1 hc).1
  have hd2 := hdec
  rw [drop_at hc] at hd2 hd
  exact form_yes hd2 rfl hd hl
theorem x_no (hc : bs[k]? = some c) (hdec : dec 0 0 bs = dec k x (bs.drop k)) (h9 : ¬ (k = 9 ∧ 1 < c.toNat)) (h128 : c.toNat < 128) (hy : y = x + c.toNat % 128 * 128 ^ k) (hyb : y < 18446744073709551616) (hz : ¬ (k = 0 ∨ c.toNat ≠ 0)) :
    rInt lo hi (some bs) = (0, none) ∧ encI (uz y) ≠ bs.take (k + 1) := by
  have hd := x_dec hc h9 h128 hy
  rw [if_neg hz] at hd
  refine ⟨rInt_none (.inr ⟨bs, rfl, hdec.trans hd⟩), ?_⟩
  unfold encI
  rw [zz_uz]
  have hd2 := hdec
  rw [drop_at hc] at hd2 hd
  exact form_no hd2 hd hyb
end
theorem rx_drewN {w w' : World} {p : Nat} {s : St} {n : Nat} (h : RxTo (w.drewN n) p s w') : RxTo w p s w' := ⟨h.rx, h.gr.os, h.gr.tape, h.gr.output, h.gr.size, h.gr.block⟩

end Pk
end Go.Proofs.YtidfpbnepdjagaaDoor
