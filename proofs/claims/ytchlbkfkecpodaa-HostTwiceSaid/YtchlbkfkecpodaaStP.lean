/- For the laws: what few operations do, as plain values. -/
import Derived.Test.YtchlbkfkecpodaaStQ
namespace Go.Proofs.Ytchlbkfkecpodaa
set_option maxRecDepth 100000
namespace St
open Wt (Opn mayOp inR)

theorem rise_ext {xs ys : List Int} (hx : xs.Pairwise (· < ·)) (hy : ys.Pairwise (· < ·)) (h : ∀ x, x ∈ xs ↔ x ∈ ys) : xs = ys := by
  have nx : xs.Nodup := hx.imp fun {a b} h => by omega
  have ny : ys.Nodup := hy.imp fun {a b} h => by omega
  exact List.Perm.eq_of_pairwise (le := fun a b => a < b) (fun a b _ _ h1 h2 => by omega) hx hy ((List.perm_ext_iff_of_nodup nx ny).2 h)
theorem upd_upd (f : F) (b : Int) (e e' : E) : upd (upd f b e) b e' = upd f b e' := by
  funext k
  unfold upd
  split <;> rfl
theorem hold_may {b u : Int} (b1 : 1 ≤ b) (b2 : b ≤ 200) (u1 : 1 ≤ u) (u2 : u ≤ 1000) : mayOp ⟨1, b, u, 0, 0⟩ = true := by
  unfold mayOp inR
  simp
  omega
theorem conf_may {b : Int} (b1 : 1 ≤ b) (b2 : b ≤ 200) : mayOp ⟨2, b, 0, 0, 0⟩ = true := by
  unfold mayOp inR
  simp
  omega
theorem rel_may {b : Int} (b1 : 1 ≤ b) (b2 : b ≤ 200) : mayOp ⟨3, b, 0, 0, 0⟩ = true := by
  unfold mayOp inR
  simp
  omega
theorem tick_of {n : Int} (h0 : 0 ≤ n) (h1 : n ≤ 1099511627776) : tick n = true := tick_iff.2 ⟨h0, h1⟩
section
variable {cap over now b u : Int} {f : F}
theorem d_hold_yes (b1 : 1 ≤ b) (b2 : b ≤ 200) (u1 : 1 ≤ u) (u2 : u ≤ 1000) (ht : tick now = true) (h0 : (f b).st = 0) (hr : u ≤ room cap over f) : dstp cap over f ⟨1, b, u, 0, 0⟩ now = (upd f b ⟨1, u, now + 60⟩, 1) := by
  unfold dstp stp
  rw [hold_may b1 b2 u1 u2, ht]
  simp only [Bool.and_self, Bool.true_eq_false, if_false, if_true]
  rw [if_pos h0, if_pos hr]
theorem d_hold_no (b1 : 1 ≤ b) (b2 : b ≤ 200) (u1 : 1 ≤ u) (u2 : u ≤ 1000) (ht : tick now = true) (h0 : (f b).st = 0) (hr : ¬ u ≤ room cap over f) : dstp cap over f ⟨1, b, u, 0, 0⟩ now = (upd f b eg, 2) := by
  unfold dstp stp
  rw [hold_may b1 b2 u1 u2, ht]
  simp only [Bool.and_self, Bool.true_eq_false, if_false, if_true]
  rw [if_pos h0, if_neg hr]
theorem d_rel (b1 : 1 ≤ b) (b2 : b ≤ 200) (ht : tick now = true) : dstp cap over f ⟨3, b, 0, 0, 0⟩ now = (upd f b eg, 1) := by
  unfold dstp stp
  rw [rel_may b1 b2, ht]
  rfl
theorem d_conf_have (b1 : 1 ≤ b) (b2 : b ≤ 200) (ht : tick now = true) (h2 : (f b).st = 2) : dstp cap over f ⟨2, b, 0, 0, 0⟩ now = (f, 1) := by
  unfold dstp stp
  rw [conf_may b1 b2, ht]
  simp only [Bool.and_self, Bool.true_eq_false, if_false]
  rw [if_neg (by decide), if_pos trivial, if_pos h2]
theorem d_conf_yes (b1 : 1 ≤ b) (b2 : b ≤ 200) (ht : tick now = true) (h1 : (f b).st = 1) (hu : now < (f b).ut) : dstp cap over f ⟨2, b, 0, 0, 0⟩ now = (upd f b ⟨2, (f b).un, 0⟩, 1) := by
  unfold dstp stp
  rw [conf_may b1 b2, ht]
  simp only [Bool.and_self, Bool.true_eq_false, if_false]
  rw [if_neg (by decide), if_pos trivial, if_neg (by omega), if_pos ⟨h1, hu⟩]
theorem d_conf_no (b1 : 1 ≤ b) (b2 : b ≤ 200) (ht : tick now = true) (h2 : (f b).st ≠ 2) (h1 : ¬ ((f b).st = 1 ∧ now < (f b).ut)) : dstp cap over f ⟨2, b, 0, 0, 0⟩ now = (upd f b eg, 2) := by
  unfold dstp stp
  rw [conf_may b1 b2, ht]
  simp only [Bool.and_self, Bool.true_eq_false, if_false]
  rw [if_neg (by decide), if_pos trivial, if_neg h2, if_neg h1]
end
theorem ovr_ez (now : Int) : ovr now ez = false := by simp [ovr, ez]
theorem sel_one {p : E → Bool} (hp : p ez = false) {b : Int} (b1 : 1 ≤ b) (b2 : b ≤ 200) (e : E) : sel p (upd fz b e) 200 = if p e = true then [b] else [] := by
  refine rise_ext (sel_rise _ _ _) ?_ fun x => ?_
  · split
    · exact List.pairwise_singleton _ _
    · exact List.Pairwise.nil
  · rw [mem_sel]
    by_cases hx : x = b
    · subst hx
      rw [upd_same]
      split
      · rename_i h; simp [h]; omega
      · rename_i h; simp [h]
    · rw [upd_other hx]
      show _ ∧ p (fz x) = true ↔ _
      rw [show fz x = ez from rfl, hp]
      split <;> simp [hx]
theorem swl_one {b now : Int} (b1 : 1 ≤ b) (b2 : b ≤ 200) (e : E) (ht : tick now = true) : swL (upd fz b e) now = if ovr now e = true then [b] else [] := by
  unfold swL ovs
  rw [if_pos ht]
  exact sel_one (ovr_ez now) b1 b2 e
theorem swp_one (b now : Int) (e : E) : swp (upd fz b e) now = upd fz b (if ovr now e = true then eg else e) := by
  funext k
  unfold swp
  by_cases hk : k = b
  · subst hk
    rw [upd_same, upd_same]
  · rw [upd_other hk, upd_other hk, show fz k = ez from rfl, ovr_ez]
    rfl
theorem swf_one {b now : Int} (e : E) (ht : tick now = true) : swF (upd fz b e) now = if ovr now e = true then upd fz b eg else upd fz b e := by
  unfold swF
  rw [if_pos ht, swp_one]
  split <;> rfl
theorem uni_one {s b : Int} (b1 : 1 ≤ b) (b2 : b ≤ 200) (e : E) : uni s (upd fz b e) = hu s e := by
  rw [uni_upd s fz e b1 b2, uni_z]
  have : hu s (fz b) = 0 := by unfold hu fz ez; split <;> rfl
  omega
theorem room_z (cap over : Int) : room cap over fz = cap + over := by
  unfold room
  rw [uni_z, uni_z]
  omega
end St
end Go.Proofs.Ytchlbkfkecpodaa
