/- The Reader's calls, each by a contract: what is left, or that it is wrong. -/
import Derived.Test.YtidfpbnepdjagaaDoorPkW
import Derived.WalkSpells
import Derived.WalkLawsBesides
import Derived.Lib.Hide
import Derived.Deep.QuietTactic
import Derived.BigQuiet
import Derived.Laws.BitsAllLaws
namespace Go.Proofs.YtidfpbnepdjagaaDoor
open Go.RowKit
namespace Pk

/-- The Reader in block p: what is left, or nothing where it is wrong. -/
def Rd (w : World) (p : Nat) (s : St) : Prop := ∃ A n c f bs, w.heap[p]? = some (.cells #[.slice A n c, .bool f] 96 (0, 0)) ∧ n ≤ c ∧ c ≤ 9223372036854775807 ∧ Rb w (Row w) A n bs ∧ s = if f then none else some bs
theorem Rd.grown {w w' : World} {p g : Nat} {s : St} {cs : Array Value} {t : TypeId} (h : Rd w p s) (hg : w.grownBy w' (some g)) (hp : p ≠ g) (hc : w.heap[g]? = some (.cells cs t (0, 0))) (ht : t ≠ 5) : Rd w' p s := by
  obtain ⟨A, n, c, f, bs, h1, h2, h3, h4, h5⟩ := h
  exact ⟨A, n, c, f, bs, (hg.block p (lt_some h1) (fun e => hp (by injection e))).trans h1, h2, h3, h4.row (fun k hk => hg.block k hk.lt (fun e => hk.ne_ hc ht (by injection e))), h5⟩
theorem Rd.below {w w' : World} {p : Nat} {s : St} (h : Rd w p s) (hg : Below w.heap.size w w') : Rd w' p s := by
  obtain ⟨A, n, c, f, bs, h1, h2, h3, h4, h5⟩ := h
  exact ⟨A, n, c, f, bs, (hg.block p (lt_some h1)).trans h1, h2, h3, h4.row (fun k hk => hg.block k hk.lt), h5⟩
theorem Rd.lt {w : World} {p : Nat} {s : St} (h : Rd w p s) : p < w.heap.size := by obtain ⟨A, n, c, f, bs, h1, _⟩ := h; exact lt_some h1

set_option maxHeartbeats 400000 in
theorem fail_at (p : Nat) (w : World) (f : Bool) (h1 : w.cell? ⟨p, 1, none⟩ = some (.bool f)) (f1 : w.frozen? ⟨p, 1, none⟩ = false) :
    Calls Tryd.prog 76 #[.pointer (some ⟨p, 0, none⟩)] w fun e w' => e = .returned (.tuple #[]) ∧ w.setCell ⟨p, 1, none⟩ (.bool true) = w' := by
  go_enter Tryd.func76, Tryd.ntmps76
  go_wp2
  go_end0
  exact ⟨rfl, rfl⟩

theorem Rd.failed {w : World} {p : Nat} {s : St} (h : Rd w p s) : Rd (w.setCell ⟨p, 1, none⟩ (.bool true)) p none := by
  obtain ⟨A, n, c, f, bs, h1, h2, h3, h4, h5⟩ := h
  exact ⟨A, n, c, true, bs, one_set h1 _, h2, h3, h4.row (fun k hk => Below.heap_setCell _ _ _ _ (hk.ne_ h1 (by decide))), rfl⟩

structure RdTo (w : World) (p : Nat) (s : St) (w' : World) : Prop where
  rd : Rd w' p s
  gr : w.grownBy w' (some p)
theorem RdTo.trans {a b c : World} {p : Nat} {s s' : St} (h : RdTo a p s b) (k : RdTo b p s' c) : RdTo a p s' c := ⟨k.1, grown_trans h.2 k.2⟩

theorem Rd.drewN {w : World} {p : Nat} {s : St} (h : Rd w p s) (k : Nat) : Rd (w.drewN k) p s := by
  obtain ⟨A, n, c, f, bs, h1, h2, h3, h4, h5⟩ := h
  exact ⟨A, n, c, f, bs, h1, h2, h3, ⟨h4.len, h4.at_⟩, h5⟩
theorem RdTo.drewN {a b : World} {p : Nat} {s : St} (h : RdTo a p s b) (k : Nat) : RdTo a p s (b.drewN k) := ⟨h.rd.drewN k, h.gr.os, h.gr.tape, h.gr.output, h.gr.size, h.gr.block⟩

theorem fail_any (p : Nat) (w : World) (s : St) (h : Rd w p s) :
    Calls Tryd.prog 76 #[.pointer (some ⟨p, 0, none⟩)] w fun e w' => e = .returned (.tuple #[]) ∧ RdTo w p none w' := by
  have h' := h
  obtain ⟨A, n, c, f, bs, h1, h2, h3, h4, h5⟩ := h
  refine (fail_at p w f (one_at h1) (one_free h1)).mono ?_
  rintro e w' ⟨rfl, rfl⟩
  exact ⟨rfl, h'.failed, grown_set _ _ _ _⟩

set_option maxHeartbeats 400000 in
theorem take_wrong (p : Nat) (w : World) (k : Int) (h : Rd w p none) :
    Calls Tryd.prog 78 #[.pointer (some ⟨p, 0, none⟩), .int .i64 k] w fun e w' => e = .returned (.tuple #[.slice none 0 0, .bool false]) ∧ w = w' := by
  obtain ⟨A, n, c, f, bs, h1, h2, h3, h4, h5⟩ := h
  obtain rfl : f = true := by cases f <;> simp_all
  have c1 : w.cell? ⟨p, 1, none⟩ = some (.bool true) := one_at h1
  clear h1 h2 h3 h4 h5
  go_enter Tryd.func78, Tryd.ntmps78
  go_wp2
  go_ret2
  exact ⟨rfl, rfl⟩

set_option maxHeartbeats 400000 in
theorem take_past (p : Nat) (w : World) (k : Nat) (bs : List UInt8) (h : Rd w p (some bs)) (hk : bs.length < k) :
    Calls Tryd.prog 78 #[.pointer (some ⟨p, 0, none⟩), .int .i64 k] w fun e w' => e = .returned (.tuple #[.slice none 0 0, .bool false]) ∧ RdTo w p none w' := by
  have h' := h
  obtain ⟨A, n, c, f, bs', h1, h2, h3, h4, h5⟩ := h
  obtain rfl : f = false := by cases f <;> simp_all
  obtain rfl : bs = bs' := by simpa using h5
  have c0 : w.cell? ⟨p, 0, none⟩ = some (.slice A n c) := one_at h1
  have c1 : w.cell? ⟨p, 1, none⟩ = some (.bool false) := one_at h1
  have f1 : w.frozen? ⟨p, 1, none⟩ = false := one_free h1
  have hn : n < k := by have := h4.len; omega
  have H : RdTo w p none (w.setCell ⟨p, 1, none⟩ (.bool true)) := ⟨h'.failed, grown_set _ _ _ _⟩
  clear h' h1 h4 h5 hk
  go_enter Tryd.func78, Tryd.ntmps78
  go_wp2
  go_end0
  go_wp2
  go_ret2
  exact ⟨rfl, H⟩

def Taken (w : World) (p k : Nat) (bs : List UInt8) (e : Ending) (w' : World) : Prop :=
  ∃ A c, e = .returned (.tuple #[.slice A k c, .bool true]) ∧ k ≤ c ∧ c ≤ 9223372036854775807 ∧ Rb w' (Row w') A k (bs.take k) ∧ RdTo w p (some (bs.drop k)) w'

set_option maxHeartbeats 400000 in
theorem take_ok (p : Nat) (w : World) (k : Nat) (bs : List UInt8) (h : Rd w p (some bs)) (hk : k ≤ bs.length) :
    Calls Tryd.prog 78 #[.pointer (some ⟨p, 0, none⟩), .int .i64 k] w (Taken w p k bs) := by
  obtain ⟨A, n, c, f, bs', h1, h2, h3, h4, h5⟩ := h
  obtain rfl : f = false := by cases f <;> simp_all
  obtain rfl : bs = bs' := by simpa using h5
  have c0 : w.cell? ⟨p, 0, none⟩ = some (.slice A n c) := one_at h1
  have c1 : w.cell? ⟨p, 1, none⟩ = some (.bool false) := one_at h1
  have f0 : w.frozen? ⟨p, 0, none⟩ = false := one_free h1
  have hn : k ≤ n := by have := h4.len; omega
  have H : ∀ A', (A' = A.map (fun x => x.add k) ∨ n = k) → Taken w p k bs (.returned (.tuple #[.slice A k c, .bool true])) (w.setCell ⟨p, 0, none⟩ (.slice A' (n - k) (c - k))) := fun A' hA =>
    ⟨A, c, rfl, by omega, h3, (h4.take hn).row (fun g hg => Below.heap_setCell _ _ _ _ (hg.ne_ h1 (by decide))),
      ⟨A', n - k, c - k, false, bs.drop k, one_set h1 _, by omega, by omega, (h4.drop hn hA).row (fun g hg => Below.heap_setCell _ _ _ _ (hg.ne_ h1 (by decide))), rfl⟩, grown_set _ _ _ _⟩
  have HH := Lib.hid H
  clear H h1 h4 h5 hk
  go_enter Tryd.func78, Tryd.ntmps78
  go_wp2
  · obtain rfl : c = k := by assumption
    go_ret2
    have := HH.out A (.inr (by omega))
    simpa using this
  · go_ret2
    exact HH.out _ (.inl rfl)
theorem take1_past (p : Nat) (w : World) (h : Rd w p (some [])) :
    Calls Tryd.prog 78 #[.pointer (some ⟨p, 0, none⟩), .int .i64 1] w fun e w' => e = .returned (.tuple #[.slice none 0 0, .bool false]) ∧ RdTo w p none w' := take_past p w 1 [] h (by simp)
def Taken1 (w : World) (p : Nat) (x : UInt8) (t : List UInt8) (e : Ending) (w' : World) : Prop :=
  ∃ ad c, e = .returned (.tuple #[.slice (some ad) 1 c, .bool true]) ∧ 1 ≤ c ∧ c ≤ 9223372036854775807 ∧ w'.cell? ad = some (.int .u8 (x.toNat : Int)) ∧ RdTo w p (some t) w'
theorem take1_ok (p : Nat) (w : World) (x : UInt8) (t : List UInt8) (h : Rd w p (some (x :: t))) :
    Calls Tryd.prog 78 #[.pointer (some ⟨p, 0, none⟩), .int .i64 1] w (Taken1 w p x t) := by
  refine (take_ok p w 1 (x :: t) h (by simp)).mono ?_
  rintro e w' ⟨A, c, rfl, h1, h2, h3, h4⟩
  obtain ⟨ad, rfl, _, hc⟩ := h3.at_ (by omega)
  refine ⟨ad, c, rfl, h1, h2, ?_, h4⟩
  have := hc 0 x (by simp)
  rwa [Addr.add_zero'] at this
end Pk
end Go.Proofs.YtidfpbnepdjagaaDoor
