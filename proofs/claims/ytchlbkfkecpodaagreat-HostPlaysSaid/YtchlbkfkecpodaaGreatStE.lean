/- appendInts: numbers behind bytes. -/
import Derived.Test.YtchlbkfkecpodaaGreatStD
import Derived.Test.YtchlbkfkecpodaaGreatInA
namespace Go.Proofs.YtchlbkfkecpodaaGreat
set_option maxRecDepth 100000
open Go.RowKit
open Go.Sort (grow)
open Go.Proofs.YtchlbkfkecpodaaGreat.Pk (one_at one_free one_set lt_some grown_set grown_trans below_grown grown_refl u8s enc zz zz_lt zz_pos enc_lo enc_hi enc_ne encI_len rb_one byte_hi byte_lo own_form wpList_append_b adr_block Rb)
namespace St

/-- Numbers as bytes, one behind the other. -/
def cat (zs : List Int) : Bs := zs.flatMap Pk.encI
theorem cat_nil : cat [] = [] := rfl
theorem cat_app (a b : List Int) : cat (a ++ b) = cat a ++ cat b := by simp [cat]
theorem cat_snoc {zs : List Int} {k : Nat} {z : Int} (h : zs[k]? = some z) : cat (zs.take (k + 1)) = cat (zs.take k) ++ Pk.encI z := by
  obtain ⟨hl, rfl⟩ := List.getElem?_eq_some_iff.1 h
  rw [List.take_succ_eq_append_getElem hl, cat_app]
  simp [cat]
theorem cat_len (zs : List Int) (h : ∀ z ∈ zs, 0 ≤ z ∧ z ≤ 4000000000000000000) : (cat zs).length ≤ 10 * zs.length := by
  induction zs with
  | nil => simp [cat]
  | cons z zs ih =>
    have e : cat (z :: zs) = Pk.encI z ++ cat zs := by simp [cat]
    rw [e, List.length_append]
    have h1 := h z (by simp)
    have := encI_len z (by omega) (by omega)
    have := ih (fun y hy => h y (by simp [hy]))
    simp only [List.length_cons]
    omega
/-- What lies below base, and each block that holds no bytes, is as it was. -/
structure Gu (base : Nat) (w w' : World) : Prop where
  os : w'.os = w.os
  tape : w'.tape = w.tape
  output : w'.output = w.output
  size : w.heap.size ≤ w'.heap.size
  block : ∀ g, g < w.heap.size → (g < base ∨ ∀ cs fr, w.heap[g]? ≠ some (.cells cs 5 fr)) → w'.heap[g]? = w.heap[g]?
section
variable {w w1 w2 : World} {base : Nat}
theorem Gu.refl (base : Nat) (w : World) : Gu base w w := ⟨rfl, rfl, rfl, Nat.le_refl _, fun _ _ _ => rfl⟩
theorem Gu.trans (h : Gu base w w1) (k : Gu base w1 w2) : Gu base w w2 :=
  ⟨k.os.trans h.os, k.tape.trans h.tape, k.output.trans h.output, Nat.le_trans h.size k.size, fun g hg hn => by
    have e := h.block g hg hn
    exact (k.block g (Nat.lt_of_lt_of_le hg h.size) (by rw [e]; exact hn)).trans e⟩
theorem Gu.of_below (h : Below w.heap.size w w1) : Gu base w w1 := ⟨h.os, h.tape, h.output, h.size, fun g hg _ => h.block g hg⟩
theorem Gu.below (h : Gu base w w1) (hb : base ≤ w.heap.size) : Below base w w1 := ⟨h.os, h.tape, h.output, h.size, fun g hg => h.block g (by omega) (.inl hg)⟩
theorem Gu.of_row {v : Value} {n : Nat} {xs : List Value} (hg : w.grownBy w1 v.ownBlock) (ho : w.ownsRow base 5 1 v n xs) : Gu base w w1 :=
  ⟨hg.os, hg.tape, hg.output, hg.size, fun g hlt hn => hg.block g hlt fun e => by
    rcases ho.2 with ⟨rfl, _⟩ | ⟨g', cap, cur, rfl, hb, hh, _⟩
    · simp [Value.ownBlock] at e
    · have e1 : g = g' := by simpa [Value.ownBlock] using e
      subst e1
      rcases hn with hn | hn
      · omega
      · exact hn _ _ hh⟩
end
/-- Numbers that lie in a block that holds no bytes. -/
structure Ns (w : World) (ad : Addr) (zs : List Int) : Prop where
  lt : ad.block < w.heap.size
  blk : ∀ cs fr, w.heap[ad.block]? ≠ some (Obj.cells cs 5 fr)
  at_ : ∀ (j : Nat) (z : Int), zs[j]? = some z → w.cell? (ad.add j) = some (.int .i64 z)
theorem Ns.gu {w w' : World} {ad : Addr} {zs : List Int} {base : Nat} (h : Ns w ad zs) (k : Gu base w w') : Ns w' ad zs := by
  have e := k.block _ h.lt (.inr h.blk)
  exact ⟨Nat.lt_of_lt_of_le h.lt k.size, by rw [e]; exact h.blk, fun j z hj => (World.cell?_of_block (by rw [adr_block]; exact e)).trans (h.at_ j z hj)⟩
abbrev RowB (w : World) (base : Nat) (v : Value) (bs : Bs) : Prop := w.ownsRow base 5 1 v bs.length (u8s bs)
def InAt (base : Nat) (w : World) (all : Bs) (v u : Value) (wr : World) : Prop :=
  ∃ (x : Nat) (pre : Bs), u = .int .u64 x ∧ x < 18446744073709551616 ∧ RowB wr base v pre ∧ pre ++ enc x = all ∧ Gu base w wr ∧ base ≤ wr.heap.size
theorem in_next {base : Nat} {w wr w6 : World} {all pre : Bs} {x : Nat} {A : Option Addr} {c : Nat} {v6 : Value} {b : Int} (hx : 127 < x) (hx2 : x < 18446744073709551616) (hall : pre ++ enc x = all) (hb : Gu base w wr) (hs : base ≤ wr.heap.size)
    (ho : RowB wr base (.slice A pre.length c) pre) (h6 : w6.ownsRow base 5 1 v6 (pre.length + 1) (u8s (pre ++ [UInt8.ofNat (x % 128 + 128)]))) (hg6 : (wr.alloc (.cells #[.int .u8 b] 5)).grownBy w6 (Value.slice A pre.length c).ownBlock) :
    InAt base w all v6 (.int .u64 ((x : Int) / 128)) w6 := by
  refine ⟨x / 128, pre ++ [UInt8.ofNat (x % 128 + 128)], by simp, by omega, by unfold RowB; rw [List.length_append]; exact h6, ?_, hb.trans (Gu.of_row ((World.grownBy_alloc _ _ _).trans hg6) ho), by have := hg6.size; simp at this; omega⟩
  have e := enc_hi (u := x) (by omega)
  rw [← hall, e, List.append_assoc]; rfl
def ApAt (base : Nat) (w : World) (bs : Bs) (zs : List Int) (v i : Value) (wr : World) : Prop :=
  ∃ k : Nat, i = .int .i64 k ∧ k ≤ zs.length ∧ RowB wr base v (bs ++ cat (zs.take k)) ∧ Gu base w wr ∧ base ≤ wr.heap.size
/-- What appendInts answers. -/
def ApTo (base : Nat) (w : World) (bs : Bs) (e : Ending) (w' : World) : Prop := ∃ v, e = .returned v ∧ RowB w' base v bs ∧ Gu base w w' ∧ base ≤ w'.heap.size
theorem appendInts_any (base : Nat) (w : World) (v : Value) (bs : Bs) (ho : RowB w base v bs) (hB : base ≤ w.heap.size) (ad : Addr) (n : Nat) (zs : List Int) (hl : zs.length = n) (hs : Ns w ad zs) (hz : ∀ z ∈ zs, 0 ≤ z ∧ z ≤ 4000000000000000000) (hn : bs.length ≤ 100000) (hm : n ≤ 100) :
    Calls Tryz.prog 53 #[v, .slice (some ad) n n] w (ApTo base w (bs ++ cat zs)) :=
  (In.append_any base w v bs ho hB ad n zs hl ⟨hs.lt, .inr hs.blk, hs.at_⟩ hz hn hm).mono fun _ _ ⟨x, he, hr, hg, hb⟩ => ⟨x, he, hr, ⟨hg.os, hg.tape, hg.output, hg.size, hg.block⟩, hb⟩
end St
end Go.Proofs.YtchlbkfkecpodaaGreat
