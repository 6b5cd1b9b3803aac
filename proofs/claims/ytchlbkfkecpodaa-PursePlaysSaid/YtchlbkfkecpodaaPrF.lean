/- For PursePlays: a ledger and the document's purse, side by side. -/
import Derived.Test.YtchlbkfkecpodaaPrE
import Derived.Test.YtchlbkfkecpodaaPrC
import Derived.Test.YtchlbkfkecpodaaPrB
namespace Go.Proofs.Ytchlbkfkecpodaa
set_option maxRecDepth 100000
open Go.RowKit
open Go.Sort (grow)
open Go.Proofs.Ytchlbkfkecpodaa.Pk (one_at one_free one_set lt_some grown_set grown_trans below_grown grown_refl)
namespace Pu
open Wt (Opn mayOp)

/-- What Copy answers: another purse, whose row of moves may be the same. -/
def CpTo2 (w : World) (q : Nat) (p : S) (fp : Nat → Prop) (e : Ending) (w' : World) : Prop := ∃ q', e = .returned (.pointer (some ⟨q', 0, none⟩)) ∧ w.heap.size ≤ q' ∧ LedP w' q' p (fun g => g = q' ∨ (fp g ∧ g ≠ q ∧ g < w.heap.size)) ∧ Below w.heap.size w w'
set_option maxHeartbeats 1600000 in
theorem copy2_any (w : World) (q : Nat) (p : S) (fp : Nat → Prop) (L : LedP w q p fp) : Calls Try.prog 32 #[.pointer (some ⟨q, 0, none⟩)] w (CpTo2 w q p fp) := by
  obtain ⟨v, D, R, hne, hv⟩ := L.at_
  have hall := D.all
  obtain ⟨d, hu, hd⟩ := led_under
  have hv1 : v.oneCell' = true := by
    obtain ⟨A, c, rfl, _⟩ := rt_form R
    rfl
  have hb : Below w.heap.size w (w.alloc (.cells (pcs zero (.slice none 0 0)).toArray 113)) := (Below.refl _ _).alloc (Nat.le_refl _) _
  have hz := heap_alloc_new w (.cells (pcs zero (.slice none 0 0)).toArray 113)
  have Z : Pm _ w.heap.size zero _ := .of_block hz
  have th : (w.alloc (.cells (pcs zero (.slice none 0 0)).toArray 113)).there w.heap.size 0 (pcs p v).toArray.size := fun j hj => by
    have hj : j < 1012 := by simpa [pcs_len] using hj
    refine ⟨Z.all.isSome j (by rw [pcs_len]; exact hj) |> fun h => ?_, Z.free _⟩
    exact h
  have th' : (w.alloc (.cells (pcs zero (.slice none 0 0)).toArray 113)).there w.heap.size 0 (pcs p v).length := th
  have E : Hid (CpTo2 w q p fp (.returned (.pointer (some ⟨w.heap.size, 0, none⟩))) ((w.alloc (.cells (pcs zero (.slice none 0 0)).toArray 113)).setCells w.heap.size 0 (pcs p v).toArray.toList)) := by
    have K := Kq.of_cells (w.alloc (.cells (pcs zero (.slice none 0 0)).toArray 113)) w.heap.size 0 (pcs p v)
    have hs : w.heap.size < ((w.alloc (.cells (pcs zero (.slice none 0 0)).toArray 113)).setCells w.heap.size 0 (pcs p v)).heap.size := Nat.lt_of_lt_of_le (lt_some hz) K.size
    have K2 : Below w.heap.size w ((w.alloc (.cells (pcs zero (.slice none 0 0)).toArray 113)).setCells w.heap.size 0 (pcs p v)) := hb.trans (K.below (fun g hg => by omega) hb.size)
    refine ⟨_, rfl, Nat.le_refl _, ⟨⟨.inl rfl, fun g hg => ?_, v, .of_range hs (World.rangeAt_setCells_same _ _ _ _ th') (fun i => by rw [World.frozen?_setCells]; exact Z.free i), rt_below R K2, fun e => ?_, fun g hg => .inr ⟨hv g hg, fun e => hne (by rw [hg, e]), rt_lt R hg⟩⟩, L.ok⟩, K2⟩
    · rcases hg with rfl | ⟨_, _, hg⟩
      · exact hs
      · exact Nat.lt_trans hg hs
    · have := rt_lt R e
      omega
  replace th := Lib.hid th
  replace hall := Lib.hid hall
  replace hu := Lib.hid hu
  replace hd := Lib.hid hd
  have hi : Hid ((Try.prog.info? 113).map (·.size) = some (pcs p v).length) := by rw [pcs_len]; exact led_size
  have hi2 : Hid ((Try.prog.info? 113).map (·.size) = some (pcs p v).toArray.size) := hi
  have h1 := Lib.hid (pcs_one p hv1)
  clear D R hne hv Z th' hz hb L hv1
  go_enter Try.func32, Try.ntmps32
  go_wp2_with (first
    | (refine wpList_load_mid rfl 113 (.tmp 7) rfl q 0 rfl (pcs p v) d hall.out hu.out hd.out hi.out ?_)
    | (refine wpList_alloc10 rfl rfl ?_)
    | (refine wpList_store_mid rfl 113 (.tmp 3) (.tmp 8) rfl w.heap.size 0 (pcs p v).toArray rfl rfl th.out hi2.out h1.out ?_))
  go_ret
  exact E.out
/-- The program's ledger at q, the document's purse at d. -/
structure Md (B : World) (q d : Nat) (p1 p2 : S) (W : World) : Prop where
  ex : ∃ fp, Led DLineT W d p2 fp ∧ (∀ g, fp g → B.heap.size ≤ g) ∧ Ow B.heap.size fp B W q p1
section
variable {B W W' : World} {q d : Nat} {p p1 p2 : S} {b : Nat} {X : Nat → Prop}
/-- The document's is written beside a ledger. -/
theorem Ow.beside (O : Ow b X B W q p) (K : Kq X W W') (hB : ∀ g, X g → b ≤ g) : Ow b (grq X W W') B W' q p := by
  obtain ⟨fp, L, hf⟩ := O.ex
  refine ⟨⟨fp, L.keep K.size fun g hg => K.block g (L.size g hg) (hf g hg).2, fun g hg => ⟨(hf g hg).1, fun hx => ?_⟩⟩, O.be.trans (K.below hB O.bs), Nat.le_trans O.bs K.size, fun g hg => ?_⟩
  · rcases hx with hx | ⟨hx, _⟩
    · exact (hf g hg).2 hx
    · have := L.size g hg
      omega
  · rcases hg with hg | ⟨_, hg⟩
    · exact Nat.lt_of_lt_of_le (O.xs g hg) K.size
    · exact hg
theorem Md.below (M : Md B q d p1 p2 W) (hb : Below W.heap.size W W') : Md B q d p1 p2 W' := by
  obtain ⟨fp, L, hf, O⟩ := M.ex
  exact ⟨fp, L.below hb, hf, O.below hb⟩
theorem Md.drew (M : Md B q d p1 p2 W) : Md B q d p1 p2 W.drew := M.below ⟨rfl, rfl, rfl, Nat.le_refl _, fun _ _ => rfl⟩
theorem Md.be (M : Md B q d p1 p2 W) : Below B.heap.size B W := by
  obtain ⟨fp, L, hf, O⟩ := M.ex
  exact O.be
theorem md_start (O : Ow B.heap.size X B W q p) (hd : W.heap.size ≤ d) (L : Led DLineT W' d p2 (fun g => g = d)) (hb : Below W.heap.size W W') : Md B q d p p2 W' := by
  refine ⟨_, L, fun g hg => by rw [hg]; exact Nat.le_trans O.bs hd, (O.add hb).less fun g hg => .inr ⟨by rw [hg]; exact hd, by rw [hg]; exact L.size d rfl⟩⟩
theorem md_do (M : Md B q d p1 p2 W) (o : Opn) : Calls Try.prog 30 #[.pointer (some ⟨q, 0, none⟩), opv o] W fun e w' => e = .returned (.int .i64 (dstp p1 o).2) ∧ Md B q d (dstp p1 o).1 p2 w' := by
  obtain ⟨fp, L, hf, O⟩ := M.ex
  refine (ow_do O o).mono ?_
  rintro e w' ⟨rfl, h1, h2⟩
  exact ⟨rfl, fp, L.keep h2.1 h2.2, hf, h1⟩
theorem mx_do (M : Md B q d p1 p2 W) (o : Opn) : Calls Try.prog 31 #[.pointer (some ⟨d, 0, none⟩), opv o] W fun e w' => e = .returned (.int .i64 (dstp p2 o).2) ∧ Md B q d p1 (dstp p2 o).1 w' := by
  obtain ⟨fp, L, hf, O⟩ := M.ex
  refine (refdo_any W d p2 fp L o).mono ?_
  rintro e w' ⟨rfl, h1, K⟩
  refine ⟨rfl, _, ⟨h1, dstp_ok L.ok o⟩, fun g hg => ?_, O.beside K.toKq hf⟩
  rcases hg with hg | ⟨hg, _⟩
  · exact hf g hg
  · exact Nat.le_trans O.bs hg
/-- A copy, and an operation on the old one behind it. -/
theorem md_copy (M : Md B q d p p2 W) : Calls Try.prog 32 #[.pointer (some ⟨q, 0, none⟩)] W fun e w' => ∃ q', e = .returned (.pointer (some ⟨q', 0, none⟩)) ∧ ∀ o, Calls Try.prog 30 #[.pointer (some ⟨q, 0, none⟩), opv o] w' fun e w'' => e = .returned (.int .i64 (dstp p o).2) ∧ Md B q' d p p2 w'' := by
  obtain ⟨fp, L, hf, O⟩ := M.ex
  obtain ⟨fq, Lq, hq⟩ := O.ex
  have hql := Lq.size q Lq.pin
  refine (copy2_any W q p fq Lq).mono ?_
  rintro e w' ⟨q', rfl, hq', L', hb⟩
  refine ⟨q', rfl, fun o => (do_any w' q p fq (Lq.below hb) o).mono ?_⟩
  rintro e w'' ⟨rfl, -, K⟩
  refine ⟨rfl, fp, (L.below hb).keep K.size fun g hg => K.block g ((L.below hb).size g hg) fun e => (hq q Lq.pin).2 (by rw [← e]; exact hg), hf, ?_⟩
  refine ⟨⟨_, L'.keep K.size fun g hg => K.block g (L'.size g hg) fun e => ?_, fun g hg => ?_⟩, (O.be.trans (hb.mono O.bs)).trans (K.below (fun g hg => by rw [hg]; exact (hq q Lq.pin).1) (Nat.le_trans O.bs hb.size)), Nat.le_trans O.bs (Nat.le_trans hb.size K.size), fun g hg => Nat.lt_of_lt_of_le (O.xs g hg) (Nat.le_trans hb.size K.size)⟩
  · rcases hg with hg | ⟨_, hg, _⟩
    · omega
    · exact hg e
  · rcases hg with hg | ⟨hg, _, _⟩
    · rw [hg]
      exact ⟨Nat.le_trans O.bs hq', fun hx => by have := O.xs q' hx; omega⟩
    · exact hq g hg
theorem md_same (M : Md B q d p p W) : Calls Try.prog 33 #[.pointer (some ⟨q, 0, none⟩), .pointer (some ⟨d, 0, none⟩)] W fun e w' => e = .returned (.bool true) ∧ Below W.heap.size W w' := by
  obtain ⟨fp, L, hf, O⟩ := M.ex
  exact same_any W _ fp B q d p fp O L
end
theorem i64_and7 (n : Int) : bits .and .i64 n 7 = n % 8 := by
  have h3 : (BitVec.ofInt 64 7).toNat = 2 ^ 3 - 1 := by decide
  have key : (BitVec.ofInt 64 n &&& BitVec.ofInt 64 7).toNat = (n % ((2 ^ 64 : Nat) : Int)).toNat % 2 ^ 3 := by
    rw [BitVec.toNat_and, BitVec.toNat_ofInt, h3, Nat.and_two_pow_sub_one_eq_mod]
  show IntKind.i64.wrap ((BitVec.ofInt 64 n &&& BitVec.ofInt 64 7).toNat : Nat) = n % 8
  rw [key, IntKind.wrap_i64]
  omega
theorem i64_and31 (n : Int) : bits .and .i64 n 31 = n % 32 := by
  have h3 : (BitVec.ofInt 64 31).toNat = 2 ^ 5 - 1 := by decide
  have key : (BitVec.ofInt 64 n &&& BitVec.ofInt 64 31).toNat = (n % ((2 ^ 64 : Nat) : Int)).toNat % 2 ^ 5 := by
    rw [BitVec.toNat_and, BitVec.toNat_ofInt, h3, Nat.and_two_pow_sub_one_eq_mod]
  show IntKind.i64.wrap ((BitVec.ofInt 64 n &&& BitVec.ofInt 64 31).toNat : Nat) = n % 32
  rw [key, IntKind.wrap_i64]
  omega
end Pu
end Go.Proofs.Ytchlbkfkecpodaa
