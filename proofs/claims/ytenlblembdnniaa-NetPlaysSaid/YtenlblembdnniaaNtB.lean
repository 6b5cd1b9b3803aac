/- To, Is, newInbox, Up of a net. -/
import Derived.Test.YtenlblembdnniaaNtA
import Derived.Conc.SmallLaws
import Derived.Deep.RegionLaw
import Derived.Deep.QuietTactic
import Derived.Laws.ResultCell
import Derived.Lib.QuietBelow
namespace Go.Proofs.Ytenlblembdnniaa
set_option maxRecDepth 100000
open Go.RowKit
open Go.Proofs.Ytenlblembdnniaa.Pk (one_at one_free one_set lt_some grown_set grown_trans below_grown grown_refl)
namespace Nt

section
variable {w : World} {q most : Nat} {us : List Bool} {L : List Ms} {fp : Nat → Prop}
/-- For whom the message at a place is. -/
def toE (L : List Ms) (k : Int) : Int := if node L.length k = true then (mt L k.toNat).to_ else -1
set_option maxHeartbeats 1600000 in
theorem to_any (W : NtO w q most us L fp) (k : Int) : Calls Try.prog 19 #[.pointer (some ⟨q, 0, none⟩), .int .i64 k] w fun e w' => e = .returned (.int .i64 (toE L k)) ∧ w = w' := by
  obtain ⟨bi, cs, v, O, hu, hf⟩ := W.ex
  obtain ⟨A, c, rfl, hc, hm, _⟩ := re_form O.row
  obtain ⟨n, hn⟩ : ∃ z, z = L.length := ⟨_, rfl⟩
  have c2 : w.cell? ⟨q, 2, none⟩ = some (.slice A L.length c) := one_at (i := 2) O.cells
  have R := O.row
  rw [← hn] at c2 R
  have PL := Lib.hid (place_cell w q A n c k c2)
  unfold toE
  rw [← hn]
  cases hp : node n k with
  | false =>
    rw [hp] at PL
    simp only [Bool.false_eq_true, if_false]
    clear W O R hf hu
    go_enter Try.func19, Try.ntmps19
    go_wp2_with fail
    refine PL.out.mono ?_
    rintro e w1 ⟨rfl, rfl⟩
    clear PL
    go_wp2
    go_ret
    exact ⟨rfl, rfl⟩
  | true =>
    rw [hp] at PL
    simp only [if_true]
    obtain ⟨h0, h1⟩ := node_iff.1 hp
    obtain ⟨j, rfl⟩ : ∃ j : Nat, k = j := ⟨k.toNat, by omega⟩
    obtain ⟨g, c', hv, _⟩ := re_some R (by omega)
    injection hv with hA _ hcc
    subst hA; subst hcc
    have hj : j < n := by omega
    have k1 := (re_cell R hj).2.1
    rw [show ((j : Int)).toNat = j from by omega]
    generalize mt L j = m at *
    clear W O R hf hu hp
    go_enter Try.func19, Try.ntmps19
    go_wp2_with fail
    refine PL.out.mono ?_
    rintro e w1 ⟨rfl, rfl⟩
    clear PL
    go_wp2
    go_ret
    exact ⟨rfl, rfl⟩
theorem ch_neq (o : Option Nat) (w : World) : (binOp .neq 64 (.chan o) (.chan none)).run Try.prog w = .ok (.bool o.isSome) w := by
  cases o with
  | none => kernel_rfl
  | some c => kernel_rfl
def upE (us : List Bool) (k : Int) : Bool := node us.length k && (us[k.toNat]?).getD false
theorem box_at {bi j : Nat} {cs : List (Option Nat)} (h : w.heap[bi]? = some (.cells (cs.map Value.chan).toArray 64 (0, 0))) (hj : j < cs.length) : w.cell? ⟨bi, j, none⟩ = some (.chan cs[j]) := by
  rw [one_at h]
  simp [hj]
set_option maxHeartbeats 1600000 in
theorem is_any (W : NtO w q most us L fp) (k : Int) : Calls Try.prog 20 #[.pointer (some ⟨q, 0, none⟩), .int .i64 k] w fun e w' => e = .returned (.bool (upE us k)) ∧ w = w' := by
  obtain ⟨bi, cs, v, O, hu, hf⟩ := W.ex
  have hl : cs.length = us.length := by rw [← hu, List.length_map]
  obtain ⟨n, hn⟩ : ∃ z, z = us.length := ⟨_, rfl⟩
  have c1 : w.cell? ⟨q, 1, none⟩ = some (.slice (some ⟨bi, 0, none⟩) cs.length cs.length) := one_at (i := 1) O.cells
  rw [hl, ← hn] at c1
  have PL := Lib.hid (node_cell w q _ n _ k c1)
  unfold upE
  rw [← hn]
  cases hp : node n k with
  | false =>
    rw [hp] at PL
    rw [Bool.false_and]
    clear W O hf hu hl
    go_enter Try.func20, Try.ntmps20
    go_wp2_with fail
    refine PL.out.mono ?_
    rintro e w1 ⟨rfl, rfl⟩
    clear PL
    go_wp2
    go_ret
    exact ⟨rfl, rfl⟩
  | true =>
    rw [hp] at PL
    obtain ⟨h0, h1⟩ := node_iff.1 hp
    obtain ⟨j, rfl⟩ : ∃ j : Nat, k = j := ⟨k.toNat, by omega⟩
    have hj : j < n := by omega
    have hj2 : j < cs.length := by omega
    have b1 := box_at O.box hj2
    have E : (us[((j : Int)).toNat]?).getD false = (cs[j]).isSome := by
      rw [← hu, show ((j : Int)).toNat = j from by omega]
      simp [hj2]
    rw [E, Bool.true_and]
    generalize cs[j] = o at *
    have cn := ch_neq o
    clear W O hf hu hl hp hj2 E
    go_enter Try.func20, Try.ntmps20
    go_wp2_with fail
    refine PL.out.mono ?_
    rintro e w1 ⟨rfl, rfl⟩
    clear PL
    go_wp2
    go_ret
    exact ⟨rfl, rfl⟩
theorem mk1 (w : World) : (Instr.makeChan 64 (.int .i64 1)).run Try.prog w = .ok (.chan (some w.heap.size)) (w.alloc (.chan 1 #[] false 0 0 false)) := by
  obtain ⟨i, hi, hz0, hz1, hb⟩ := info_parts msg_info
  simpa using Go.Conc.run_makeChan (P := Try.prog) (w := w) Try.underlying64 hi .i64 1 (by omega) (by rw [hb]; omega)
set_option maxHeartbeats 800000 in
theorem newinbox_any (w : World) : Calls Try.prog 29 #[] w fun e w' => e = .returned (.chan (some w.heap.size)) ∧ w' = w.alloc (.chan 1 #[] false 0 0 false) := by
  have hmc := mk1
  go_enter Try.func29, Try.ntmps29
  go_wp2
  go_ret
  exact ⟨rfl, rfl⟩
end
end Nt
end Go.Proofs.Ytenlblembdnniaa
