/- A net in memory; Len, isNode, isPlace, To, Is. -/
import Derived.Test.YtenlblembdnniaaNtC
namespace Go.Proofs.Ytenlblembdnniaa
set_option maxRecDepth 100000
open Go.RowKit
open Go.Proofs.Ytenlblembdnniaa.Pk (one_at one_free one_set lt_some grown_set grown_trans below_grown grown_refl)
namespace Nt

/-- All but the blocks S, and what is new, is as it was. -/
structure Kq (S : Nat → Prop) (w w' : World) : Prop where
  os : w'.os = w.os
  tape : w'.tape = w.tape
  output : w'.output = w.output
  size : w.heap.size ≤ w'.heap.size
  block : ∀ g, g < w.heap.size → ¬ S g → w'.heap[g]? = w.heap[g]?
section
variable {S S' : Nat → Prop} {w w' w1 w2 : World}
theorem Kq.refl (S : Nat → Prop) (w : World) : Kq S w w := ⟨rfl, rfl, rfl, Nat.le_refl _, fun _ _ _ => rfl⟩
theorem Kq.trans (h : Kq S w w1) (k : Kq S' w1 w2) (hs : ∀ g, S' g → S g ∨ w.heap.size ≤ g) : Kq S w w2 :=
  ⟨k.os.trans h.os, k.tape.trans h.tape, k.output.trans h.output, Nat.le_trans h.size k.size, fun g hg hn =>
    (k.block g (Nat.lt_of_lt_of_le hg h.size) (fun e => by
      rcases hs g e with e | e
      · exact hn e
      · omega)).trans (h.block g hg hn)⟩
theorem Kq.trans' (h : Kq S w w1) (k : Kq S w1 w2) : Kq S w w2 := h.trans k fun _ h => .inl h
theorem Kq.mono (h : Kq S w w') (hs : ∀ g, S g → S' g ∨ w.heap.size ≤ g) : Kq S' w w' := ⟨h.os, h.tape, h.output, h.size, fun g hg hn => h.block g hg fun e => by
  rcases hs g e with e | e
  · exact hn e
  · omega⟩
theorem Kq.of_below (h : Below w.heap.size w w') : Kq S w w' := ⟨h.os, h.tape, h.output, h.size, fun g hg _ => h.block g hg⟩
theorem Kq.below {B : Nat} (h : Kq S w w') (hS : ∀ g, S g → B ≤ g) (hB : B ≤ w.heap.size) : Below B w w' :=
  ⟨h.os, h.tape, h.output, h.size, fun g hg => h.block g (by omega) fun e => by have := hS g e; omega⟩
theorem Kq.of_grown {o : Option Nat} (h : w.grownBy w' o) (ho : ∀ g, o = some g → S g) : Kq S w w' :=
  ⟨h.os, h.tape, h.output, h.size, fun g hg hn => h.block g hg fun e => hn (ho g e.symm)⟩
end

/-- May a message lie on the net of n nodes? -/
def wf (n : Nat) (m : Ms) : Prop := (0 ≤ m.to_ ∧ m.to_ < n) ∧ m.tx.length ≤ 1000
/-- The net at q: its inboxes in bi, the messages in v. -/
structure No (w : World) (q bi most : Nat) (cs : List (Option Nat)) (v : Value) (L : List Ms) : Prop where
  cells : w.heap[q]? = some (.cells #[.int .i64 most, .slice (some ⟨bi, 0, none⟩) cs.length cs.length, v] 58 (0, 0))
  box : w.heap[bi]? = some (.cells (cs.map Value.chan).toArray 64 (0, 0))
  inb : ∀ c, some c ∈ cs → Ch w c
  row : RowE w 0 61 v L.length L
  few : L.length ≤ most
  top : most ≤ 4096
  wide : cs.length ≤ 16
  wf : ∀ m ∈ L, wf cs.length m
def nin (q bi : Nat) (cs : List (Option Nat)) (v : Value) : Nat → Prop := fun g => g = q ∨ g = bi ∨ some g ∈ cs ∨ v.ownBlock = some g
section
variable {w w' w1 : World} {q bi most : Nat} {cs : List (Option Nat)} {v : Value} {L : List Ms}
theorem No.keep (O : No w q bi most cs v L) (hk : ∀ g, nin q bi cs v g → w'.heap[g]? = w.heap[g]?) : No w' q bi most cs v L :=
  ⟨(hk q (.inl rfl)).trans O.cells, (hk bi (.inr (.inl rfl))).trans O.box, fun c hc => by
    obtain ⟨s, r, h⟩ := O.inb c hc
    exact ⟨s, r, (hk c (.inr (.inr (.inl hc)))).trans h⟩, re_same O.row fun g hg => hk g (.inr (.inr (.inr hg))), O.few, O.top, O.wide, O.wf⟩
theorem No.lt (O : No w q bi most cs v L) : ∀ g, nin q bi cs v g → g < w.heap.size := by
  rintro g (rfl | rfl | hg | hg)
  · exact lt_some O.cells
  · exact lt_some O.box
  · obtain ⟨s, r, h⟩ := O.inb g hg
    exact lt_some h
  · exact lt_some (re_block O.row hg).2.choose_spec
theorem No.below (O : No w q bi most cs v L) (hb : Below w.heap.size w w') : No w' q bi most cs v L := O.keep fun g hg => hb.block g (O.lt g hg)
theorem no_two {g : Nat} {o o' : Obj} (h : w.heap[g]? = some o) (h' : w.heap[g]? = some o') (hn : o ≠ o') : False := by
  rw [h] at h'
  injection h' with h'
  exact hn h'
theorem No.row_ne (O : No w q bi most cs v L) : v.ownBlock ≠ some q ∧ v.ownBlock ≠ some bi ∧ ∀ c, some c ∈ cs → v.ownBlock ≠ some c := by
  refine ⟨fun e => ?_, fun e => ?_, fun c hc e => ?_⟩
  all_goals obtain ⟨_, cur, h⟩ := re_block O.row e
  · refine no_two h O.cells fun e => ?_
    injection e with _ e
    exact absurd e (by decide)
  · refine no_two h O.box fun e => ?_
    injection e with _ e
    exact absurd e (by decide)
  · obtain ⟨s, r, h2⟩ := O.inb c hc
    exact no_two h h2 fun e => by cases e
theorem No.q_ne (O : No w q bi most cs v L) : q ≠ bi ∧ some q ∉ cs ∧ some bi ∉ cs := by
  refine ⟨fun e => ?_, fun e => ?_, fun e => ?_⟩
  · refine no_two (by rw [e]; exact O.box) O.cells fun e => ?_
    injection e with _ e
    exact absurd e (by decide)
  · obtain ⟨s, r, h2⟩ := O.inb q e
    exact no_two O.cells h2 fun e => by cases e
  · obtain ⟨s, r, h2⟩ := O.inb bi e
    exact no_two O.box h2 fun e => by cases e
end
def grq (S : Nat → Prop) (w w' : World) : Nat → Prop := fun g => S g ∨ (w.heap.size ≤ g ∧ g < w'.heap.size)
/-- The net at q: how many may be on their way, which nodes are up, what is on its way; in what lies in fp. -/
structure NtO (w : World) (q most : Nat) (us : List Bool) (L : List Ms) (fp : Nat → Prop) : Prop where
  ex : ∃ bi cs v, No w q bi most cs v L ∧ cs.map Option.isSome = us ∧ ∀ g, nin q bi cs v g → fp g
  size : ∀ g, fp g → g < w.heap.size
def NTo (w : World) (q most : Nat) (us : List Bool) (L : List Ms) (fp : Nat → Prop) (w' : World) : Prop := NtO w' q most us L (grq fp w w') ∧ Kq fp w w'
section
variable {w w' w1 : World} {q bi most : Nat} {us us' : List Bool} {cs : List (Option Nat)} {v : Value} {L L' : List Ms} {fp fp' : Nat → Prop}
theorem NtO.keep (W : NtO w q most us L fp) (hs : w.heap.size ≤ w'.heap.size) (hk : ∀ g, fp g → w'.heap[g]? = w.heap[g]?) : NtO w' q most us L fp := by
  obtain ⟨bi, cs, v, O, hu, hf⟩ := W.ex
  exact ⟨⟨bi, cs, v, O.keep fun g hg => hk g (hf g hg), hu, hf⟩, fun g hg => Nat.lt_of_lt_of_le (W.size g hg) hs⟩
theorem NtO.below (W : NtO w q most us L fp) (hb : Below w.heap.size w w') : NtO w' q most us L fp := W.keep hb.size fun g hg => hb.block g (W.size g hg)
theorem NtO.mono (W : NtO w q most us L fp) (hf : ∀ g, fp g → fp' g) (hs : ∀ g, fp' g → g < w.heap.size) : NtO w q most us L fp' := by
  obtain ⟨bi, cs, v, O, hu, hn⟩ := W.ex
  exact ⟨⟨bi, cs, v, O, hu, fun g hg => hf g (hn g hg)⟩, hs⟩
theorem NTo.of_below (W : NtO w q most us L fp) (hb : Below w.heap.size w w') : NTo w q most us L fp w' :=
  ⟨(W.below hb).mono (fun _ h => .inl h) fun g hg => by
    rcases hg with hg | ⟨_, hg⟩
    · exact Nat.lt_of_lt_of_le (W.size g hg) hb.size
    · exact hg, .of_below hb⟩
theorem NTo.of_no (W : NtO w q most us L fp) (O : No w' q bi most cs v L') (hu : cs.map Option.isSome = us') (hn : ∀ g, nin q bi cs v g → fp g ∨ w.heap.size ≤ g) (K : Kq fp w w') : NTo w q most us' L' fp w' :=
  ⟨⟨⟨bi, cs, v, O, hu, fun g hg => by
      rcases hn g hg with h | h
      · exact .inl h
      · exact .inr ⟨h, O.lt g hg⟩⟩, fun g hg => by
      rcases hg with hg | ⟨_, hg⟩
      · exact Nat.lt_of_lt_of_le (W.size g hg) K.size
      · exact hg⟩, K⟩
/-- What the methods read. -/
theorem NtO.parts (W : NtO w q most us L fp) : ∃ bi A n c, w.cell? ⟨q, 1, none⟩ = some (.slice (some ⟨bi, 0, none⟩) us.length us.length) ∧ w.cell? ⟨q, 2, none⟩ = some (.slice A n c) ∧ n = L.length ∧ us.length ≤ 16 ∧ L.length ≤ most ∧ most ≤ 4096 := by
  obtain ⟨bi, cs, v, O, hu, hf⟩ := W.ex
  obtain ⟨A, c, rfl, _⟩ := re_form O.row
  have hl : cs.length = us.length := by rw [← hu, List.length_map]
  exact ⟨bi, A, _, c, by rw [← hl]; exact one_at (i := 1) O.cells, one_at (i := 2) O.cells, rfl, by have := O.wide; omega, O.few, O.top⟩
end

/-! ### the readers -/
def node (n : Nat) (k : Int) : Bool := decide (0 ≤ k) && decide (k < n)
theorem node_iff {n : Nat} {k : Int} : node n k = true ↔ 0 ≤ k ∧ k < n := by simp [node]
section
variable {w : World} {q most : Nat} {us : List Bool} {L : List Ms} {fp : Nat → Prop}
set_option maxHeartbeats 800000 in
theorem len_cell (w : World) (q : Nat) (A : Option Addr) (n c : Nat) (c2 : w.cell? ⟨q, 2, none⟩ = some (.slice A n c)) : Calls Try.prog 18 #[.pointer (some ⟨q, 0, none⟩)] w fun e w' => e = .returned (.int .i64 n) ∧ w = w' := by
  go_enter Try.func18, Try.ntmps18
  go_wp2
  go_ret
  exact ⟨rfl, rfl⟩
set_option maxHeartbeats 800000 in
theorem node_cell (w : World) (q : Nat) (A : Option Addr) (n c : Nat) (k : Int) (c1 : w.cell? ⟨q, 1, none⟩ = some (.slice A n c)) : Calls Try.prog 21 #[.pointer (some ⟨q, 0, none⟩), .int .i64 k] w fun e w' => e = .returned (.bool (node n k)) ∧ w = w' := by
  unfold node
  cases e1 : decide (0 ≤ k) with
  | false =>
    go_enter Try.func21, Try.ntmps21
    go_wp2
    go_ret
    exact ⟨rfl, rfl⟩
  | true =>
    go_enter Try.func21, Try.ntmps21
    go_wp2
    go_ret
    exact ⟨by simp, rfl⟩
set_option maxHeartbeats 800000 in
theorem place_cell (w : World) (q : Nat) (A : Option Addr) (n c : Nat) (k : Int) (c2 : w.cell? ⟨q, 2, none⟩ = some (.slice A n c)) : Calls Try.prog 24 #[.pointer (some ⟨q, 0, none⟩), .int .i64 k] w fun e w' => e = .returned (.bool (node n k)) ∧ w = w' := by
  have LN := Lib.hid (len_cell w q A n c c2)
  unfold node
  cases e1 : decide (0 ≤ k) with
  | false =>
    clear LN
    go_enter Try.func24, Try.ntmps24
    go_wp2
    go_ret
    exact ⟨rfl, rfl⟩
  | true =>
    go_enter Try.func24, Try.ntmps24
    go_wp2_with fail
    refine LN.out.mono ?_
    rintro e w1 ⟨rfl, rfl⟩
    clear LN
    go_wp2
    go_ret
    exact ⟨by simp, rfl⟩
end
end Nt
end Go.Proofs.Ytenlblembdnniaa
