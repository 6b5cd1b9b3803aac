/- For the laws over wheels: what stands beside a wheel; numbers brought small. -/
import Derived.Test.YtnfakkinaockiaaWhW
import Derived.Test.YtnfakkinaockiaaLsM
namespace Go.Proofs.Ytnfakkinaockiaa
set_option maxRecDepth 100000
open Go.RowKit
open Go.Proofs.Ytnfakkinaockiaa.Pk (one_at one_free one_set lt_some grown_set grown_trans below_grown grown_refl)
namespace Wh

/-- A block that is none of the wheel's is written. -/
theorem Lw.side {B w w' : World} {q d : Nat} {now : Int} {S : List Tm} {X : Nat → Prop} (h : Lw B w q now S X) (g : w.grownBy w' (some d)) (hX : X d) (hd : B.heap.size ≤ d) : Lw B w' q now S X := by
  obtain ⟨fp, D, hf⟩ := h.wh
  refine ⟨⟨fp, D.keep g.size fun k hk => g.block k (D.size k hk) (fun e => (hf k hk).2 (by injection e with e; rw [e]; exact hX)), hf⟩, ?_, fun k hk => Nat.lt_of_lt_of_le (h.xs k hk) g.size⟩
  exact ⟨g.os.trans h.be.os, g.tape.trans h.be.tape, g.output.trans h.be.output, Nat.le_trans h.be.size g.size, fun k hk => (g.block k (Nat.lt_of_lt_of_le hk h.be.size) (fun e => by injection e; omega)).trans (h.be.block k hk)⟩
/-- int(uint(z) % n). -/
def usm (z : Int) (n : Nat) : Nat := ((z % 18446744073709551616) % (n : Int)).toNat
theorem usm_lt (z : Int) {n : Nat} (hn : 0 < n) : usm z n < n := by
  have h1 := Int.emod_nonneg (z % 18446744073709551616) (b := (n : Int)) (by omega)
  have h2 := Int.emod_lt_of_pos (z % 18446744073709551616) (b := (n : Int)) (by omega)
  unfold usm
  omega
theorem usm_is (z : Int) {n : Nat} (hn : 0 < n) : ((z % 18446744073709551616) % (n : Int)) = (usm z n : Int) := by
  have h1 := Int.emod_nonneg (z % 18446744073709551616) (b := (n : Int)) (by omega)
  unfold usm
  omega
theorem usm_slot (z : Int) {n : Nat} (hn : 0 < n) (hs : n ≤ 1000000) : wrap64 ((IntKind.u64.wrap z).tmod (n : Int)) = (usm z n : Int) := by
  have h0 : 0 ≤ IntKind.u64.wrap z := by rw [IntKind.wrap_u64]; omega
  have h1 := usm_lt z hn
  rw [Int.tmod_eq_emod_of_nonneg h0, IntKind.wrap_u64, usm_is z hn, IntWalk.wrap64_in _ (by omega)]
end Wh
end Go.Proofs.Ytnfakkinaockiaa
