/- The document's wheel: Find. -/
import Derived.Test.YtnfakkinaockiaaDwA
namespace Go.Proofs.Ytnfakkinaockiaa
set_option maxRecDepth 100000
open Go.RowKit
open Go.Proofs.Ytnfakkinaockiaa.Pk (one_at one_free one_set lt_some grown_set)
namespace Wh

/-- A loop that looks for an id: none yet. -/
def FdAt (id : Int) (S : List Tm) (w : World) (i : Value) (wr : World) : Prop := ∃ k : Nat, i = .int .i64 k ∧ k ≤ S.length ∧ (∀ j, j < k → (gt S j).1 ≠ id) ∧ wr = w
set_option maxHeartbeats 1600000 in
theorem dfind (w : World) (d c : Nat) (now : Int) (S : List Tm) (A : Option Addr) (D : Dw w d now S A c) (id : Int) :
    Calls Try.prog 19 #[.pointer (some ⟨d, 0, none⟩), .int .i64 id] w fun e w' => e = .returned (.tuple #[.int .i64 (tm2 (fnd id S)), .bool (fnd id S).isSome]) ∧ w = w' := by
  have st : Hid (FdAt id S w (.int .i64 0) w) := ⟨0, rfl, Nat.zero_le _, fun j hj => absurd hj (by omega), rfl⟩
  have c1 : w.cell? ⟨d, 1, none⟩ = some (.slice A S.length c) := one_at (i := 1) D.cells
  have hcap := D.cap
  have hmax := D.max
  have DH := Lib.hid D
  obtain ⟨n, hn⟩ : ∃ z, z = S.length := ⟨_, rfl⟩
  rw [← hn] at c1 hcap
  have i9 : (n : Int) ≤ 9223372036854775807 := by omega
  replace hn := Lib.hid hn
  clear D hcap hmax
  go_enter Try.func19, Try.ntmps19
  go_wp2_with fail
  go_loopw [6] (fun i wr => FdAt id S w i wr) (fun i _ => n - (intOf i).toNat)
  case atStart => exact st.out
  case round =>
    clear st
    obtain ⟨k, rfl, hk, hno, rfl⟩ := hrel
    by_cases hlt : k < n
    · obtain ⟨g, o, rfl, e1, e2⟩ := DH.out.row.tm (k := k) (by rw [← hn.out]; exact hlt)
      have i1 : (k : Int) < (n : Int) := by omega
      have i2 : (0 : Int) ≤ (k : Int) := by omega
      by_cases h : (gt S k).1 = id
      · have F := Lib.hid (fnd_first (by rw [← hn.out]; exact hlt) hno h)
        have q1 : ((gt S k).1 == id) = true := by simpa using h
        clear hno h hk
        generalize gt S k = t at *
        go_wp2
        go_ret2
        exact ⟨by rw [F.out]; rfl, rfl⟩
      · have q1 : ((gt S k).1 == id) = false := by simpa using h
        have nx : Hid (FdAt id S wr (.int .i64 ((k : Int) + 1)) wr) := ⟨k + 1, by simp, by have := hn.out; omega, fun j hj => by
          by_cases e : j = k
          · rw [e]; exact h
          · exact hno j (by omega), rfl⟩
        clear hno h hk
        generalize gt S k = t at *
        go_wp2
        exact ⟨nx.out, by simp [intOf]; omega⟩
    · obtain rfl : k = n := by have := hn.out; omega
      have F : fnd id S = none := fnd_no fun j hj => hno j (by have := hn.out; omega)
      replace F := Lib.hid F
      clear hno hk hlt
      go_wp2
      go_ret2
      exact ⟨by rw [F.out]; rfl, rfl⟩
end Wh
end Go.Proofs.Ytnfakkinaockiaa
