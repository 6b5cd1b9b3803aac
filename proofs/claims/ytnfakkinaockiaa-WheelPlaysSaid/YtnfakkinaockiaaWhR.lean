/- Numbers that are read; ints; a wheel of the call's own; told. -/
import Derived.Test.YtnfakkinaockiaaWhU
import Derived.ProofKit
import Derived.OpenShut
import Derived.Deep.Slices
import Derived.Carry
namespace Go.Proofs.Ytnfakkinaockiaa
set_option maxRecDepth 100000
open Go.RowKit
open Go.Sort (grow)
open Go.Proofs.Ytnfakkinaockiaa.Pk (one_at one_free one_set lt_some grown_set grown_trans below_grown grown_refl adr_block)
namespace Wh

/-- The slice value '.slice A n c' reads as the numbers zs; what it lies in is a block of T. -/
structure Rr (w : World) (T : Nat → Prop) (A : Option Addr) (n : Nat) (zs : List Int) : Prop where
  len : zs.length = n
  at_ : 0 < n → ∃ ad, A = some ad ∧ T ad.block ∧ ∀ j z, zs[j]? = some z → w.cell? (ad.add j) = some (.int .i64 z)
section
variable {w w' : World} {T T' : Nat → Prop} {A : Option Addr} {n : Nat} {zs : List Int}
theorem Rr.keep (h : Rr w T A n zs) (hk : ∀ g, T g → w'.heap[g]? = w.heap[g]?) (hT : ∀ g, T g → T' g) : Rr w' T' A n zs :=
  ⟨h.len, fun h0 => by
    obtain ⟨ad, e, ht, hc⟩ := h.at_ h0
    refine ⟨ad, e, hT _ ht, fun j c hj => ?_⟩
    rw [← hc j c hj]
    exact World.cell?_of_block (by rw [adr_block]; exact hk _ ht)⟩
theorem Rr.mono (h : Rr w T A n zs) (hT : ∀ g, T g → T' g) : Rr w T' A n zs := h.keep (fun _ _ => rfl) hT
theorem Rr.below {B : Nat} (h : Rr w (fun g => g < B) A n zs) (hb : Below B w w') : Rr w' (fun g => g < B) A n zs := h.keep (fun g hg => hb.block g hg) fun _ h => h
theorem Rr.nil (w : World) (T : Nat → Prop) (A : Option Addr) : Rr w T A 0 [] := ⟨rfl, fun h => absurd h (by omega)⟩
theorem Rr.cell {ad : Addr} {k : Nat} {z : Int} (h : Rr w T (some ad) n zs) (hz : zs[k]? = some z) : w.cell? (ad.add k) = some (.int .i64 z) := by
  have hk : k < n := by rw [← h.len]; exact (List.getElem?_eq_some_iff.1 hz).1
  obtain ⟨ad', e, _, hc⟩ := h.at_ (by omega)
  injection e with e
  subst e
  exact hc k z hz
end
def nums (zs : List Int) : List Value := zs.map fun z => .int .i64 z
theorem iv_nums (l : List Tm) : iv l = nums (l.map (·.1)) := by simp [iv, nums]
theorem Rr.of_row {w : World} {base c n : Nat} {A : Option Addr} {zs : List Int} (h : RowI w base (.slice A n c) n (nums zs)) : Rr w (fun g => (Value.slice A n c).ownBlock = some g) A n zs := by
  have hl := h.1
  have hl2 : zs.length = n := by simpa [nums] using hl
  refine ⟨hl2, fun hn => ?_⟩
  rcases h.2 with ⟨_, h0⟩ | ⟨g, cap, cur, hv, hb, hh, _⟩
  · omega
  · have hA : A = some ⟨g, 0, none⟩ := by injection hv
    subst hA
    exact ⟨_, rfl, rfl, fun j z hj => h.cells (g := g) rfl j _ (by rw [nums, List.getElem?_map, hj]; rfl)⟩

/-- A loop that only reads: its counter. -/
def GoAt (w : World) (P : Nat → Prop) (i : Value) (wr : World) : Prop := ∃ k : Nat, i = .int .i64 k ∧ P k ∧ Below w.heap.size w wr
theorem below_drewN (w : World) (n : Nat) {B : Nat} : Below B w (w.drewN n) := ⟨rfl, rfl, rfl, Nat.le_refl _, fun _ _ => rfl⟩
set_option maxHeartbeats 1600000 in
theorem ints_any (w : World) {T T' : Nat → Prop} (A B : Option Addr) (n c m d : Nat) (zs ys : List Int) (h : Rr w T A n zs) (k : Rr w T' B m ys) (hT : ∀ g, T g → g < w.heap.size) (hT' : ∀ g, T' g → g < w.heap.size) (hc : n ≤ 9223372036854775807) (hd : m ≤ 9223372036854775807) :
    Calls Try.prog 12 #[.slice A n c, .slice B m d] w fun e w' => e = .returned (.bool (decide (zs = ys))) ∧ Below w.heap.size w w' := by
  have hl := h.len
  have kl := k.len
  by_cases hnm : n = m
  · subst hnm
    have st : Hid (GoAt w (fun j => j ≤ n ∧ zs.take j = ys.take j) (.int .i64 0) w) := ⟨0, rfl, ⟨Nat.zero_le _, rfl⟩, Below.refl _ _⟩
    have hk : Hid (∀ w', Below w.heap.size w w' → Rr w' T A n zs ∧ Rr w' T' B n ys) := fun w' hb => ⟨h.keep (fun g hg => hb.block g (hT g hg)) fun _ h => h, k.keep (fun g hg => hb.block g (hT' g hg)) fun _ h => h⟩
    have hl' := Lib.hid hl
    have kl' := Lib.hid kl
    clear h k hl kl hT hT'
    have q0 : ((n : Int) != (n : Int)) = false := by simp
    obtain ⟨r, hr⟩ : ∃ r, r = decide (zs = ys) := ⟨_, rfl⟩
    rw [← hr]
    replace hr := Lib.hid hr
    go_enter Try.func12, Try.ntmps12
    go_wp2_with fail
    go_loopw [5] (fun i wr => GoAt w (fun j => j ≤ n ∧ zs.take j = ys.take j) i wr) (fun i _ => n - (intOf i).toNat)
    case atStart => exact st.out
    case round =>
      clear st q0
      obtain ⟨j, rfl, ⟨hj, he⟩, hb⟩ := hrel
      by_cases hlt : j < n
      · obtain ⟨R1, R2⟩ := hk.out wr hb
        obtain ⟨z, hz⟩ : ∃ z, zs[j]? = some z := ⟨_, List.getElem?_eq_getElem (by rw [hl'.out]; omega)⟩
        obtain ⟨y, hy⟩ : ∃ y, ys[j]? = some y := ⟨_, List.getElem?_eq_getElem (by rw [kl'.out]; omega)⟩
        obtain ⟨a, rfl, _, _⟩ := R1.at_ (by omega)
        obtain ⟨b, rfl, _, _⟩ := R2.at_ (by omega)
        have c1 := R1.cell hz
        have c2 := R2.cell hy
        have i1 : (j : Int) < (n : Int) := by omega
        have i2 : (0 : Int) ≤ (j : Int) := by omega
        by_cases e : z = y
        · have q1 : (z != y) = false := by simp [e]
          have nx : Hid (∀ k, GoAt w (fun j => j ≤ n ∧ zs.take j = ys.take j) (.int .i64 ((j : Int) + 1)) (wr.drewN k)) := fun k => ⟨j + 1, by simp, ⟨by omega, by rw [List.take_add_one, List.take_add_one, he, hz, hy, e]⟩, hb.trans (below_drewN _ _)⟩
          clear hb R1 R2 hz hy e he hk
          go_wp2_with fail
          go_quiet (fail)
          go_wp2
          exact ⟨nx.out _, by simp [intOf]; omega⟩
        · have q1 : (z != y) = true := by simp [e]
          have E : Hid (decide (zs = ys) = false ∧ ∀ k, Below w.heap.size w (wr.drewN k)) := ⟨decide_eq_false fun e2 => by rw [e2, hy] at hz; injection hz with hz; exact e hz.symm, fun k => hb.trans (below_drewN _ _)⟩
          clear hb R1 R2 hz hy e he hk
          go_wp2_with fail
          go_quiet (fail)
          go_wp2
          go_ret
          exact ⟨by rw [hr.out, E.out.1]; rfl, E.out.2 _⟩
      · obtain rfl : j = n := by omega
        have E : Hid (decide (zs = ys) = true ∧ Below w.heap.size w wr) := ⟨decide_eq_true (by
          rw [List.take_of_length_le (by rw [hl'.out]; exact Nat.le_refl _), List.take_of_length_le (by rw [kl'.out]; exact Nat.le_refl _)] at he
          exact he), hb⟩
        clear hb he hk hlt
        go_wp2
        go_ret
        exact ⟨by rw [hr.out, E.out.1]; rfl, E.out.2⟩
  · have E : decide (zs = ys) = false := decide_eq_false fun e => hnm (by rw [← hl, ← kl, e])
    rw [E]
    have q0 : ((n : Int) != (m : Int)) = true := by simp; omega
    clear h k hl kl hT hT' E hnm
    go_enter Try.func12, Try.ntmps12
    go_wp2
    go_ret
    exact ⟨rfl, Below.refl _ _⟩

/-! ### a wheel that the call made -/
theorem WhO.minus {w : World} {q : Nat} {now : Int} {S : List Tm} {fp : Nat → Prop} {v : Value} {n base : Nat} {xs : List Value} (W : WhO w q now S fp) (R : RowI w base v n xs) : WhO w q now S (fun g => fp g ∧ v.ownBlock ≠ some g) := by
  have hq : v.ownBlock ≠ some q := fun e => by
    obtain ⟨_, cur, hc⟩ := ri_block R e
    rcases W.at_ with ⟨h1, _⟩ | ⟨h, v, mo, h1, _⟩
    all_goals
      rw [hc] at h1
      injection h1 with h1
      injection h1 with _ e
      exact absurd e (by decide)
  refine ⟨W.srt, W.nd, W.wf, W.few, ⟨W.pin, hq⟩, fun g hg => W.size g hg.1, ?_⟩
  rcases W.at_ with h1 | ⟨h, v', mo, h1, ⟨l, H, h2, h3⟩, hi⟩
  · exact .inl h1
  · exact .inr ⟨h, v', mo, h1, ⟨l, H, h2, h3⟩, fun g hg => ⟨hi g hg, fun e => H.not_ints R e hg⟩⟩
/-- The wheel at q lies in blocks that the call begun in B made, and in none of X. -/
structure Lw (B w : World) (q : Nat) (now : Int) (S : List Tm) (X : Nat → Prop) : Prop where
  wh : ∃ fp, WhO w q now S fp ∧ ∀ g, fp g → B.heap.size ≤ g ∧ ¬ X g
  be : Below B.heap.size B w
  xs : ∀ g, X g → g < w.heap.size
def LwTo (B w : World) (q : Nat) (now : Int) (S : List Tm) (X : Nat → Prop) (w' : World) : Prop := Lw B w' q now S X ∧ (∀ g, X g → w'.heap[g]? = w.heap[g]?) ∧ w.heap.size ≤ w'.heap.size
section
variable {B w w' : World} {q : Nat} {now now' : Int} {S S' : List Tm} {X X' : Nat → Prop} {fp : Nat → Prop}
theorem WTo.live (h : WTo w q now' S' fp w') (be : Below B.heap.size B w) (hf : ∀ g, fp g → B.heap.size ≤ g ∧ ¬ X g) (xs : ∀ g, X g → g < w.heap.size) : LwTo B w q now' S' X w' :=
  ⟨⟨⟨_, h.1, fun g hg => by
      rcases hg with hg | ⟨hg, _⟩
      · exact hf g hg
      · exact ⟨Nat.le_trans be.size hg, fun e => by have := xs g e; omega⟩⟩, be.trans (h.2.below (fun g hg => (hf g hg).1) be.size), fun g hg => Nat.lt_of_lt_of_le (xs g hg) h.2.size⟩,
    fun g hg => h.2.block g (xs g hg) fun e => (hf g e).2 hg, h.2.size⟩
theorem Lw.below (h : Lw B w q now S X) (hb : Below w.heap.size w w') : Lw B w' q now S X := by
  obtain ⟨fp, D, hf⟩ := h.wh
  exact ⟨⟨fp, D.below hb, hf⟩, h.be.trans (hb.mono h.be.size), fun g hg => Nat.lt_of_lt_of_le (h.xs g hg) hb.size⟩
theorem Lw.srt (h : Lw B w q now S X) : Srt S := by obtain ⟨fp, D, hf⟩ := h.wh; exact D.srt
theorem Lw.nd (h : Lw B w q now S X) : Nd S := by obtain ⟨fp, D, hf⟩ := h.wh; exact D.nd
theorem Lw.wf (h : Lw B w q now S X) : ∀ t ∈ S, wfT t := by obtain ⟨fp, D, hf⟩ := h.wh; exact D.wf
theorem Lw.few (h : Lw B w q now S X) : S.length ≤ 100000 := by obtain ⟨fp, D, hf⟩ := h.wh; exact D.few
/-- More that it lies in none of: what is new. -/
theorem Lw.more (h : Lw B w q now S X) (hb : Below w.heap.size w w') : Lw B w' q now S (fun g => X g ∨ (w.heap.size ≤ g ∧ g < w'.heap.size)) := by
  obtain ⟨fp, D, hf⟩ := h.wh
  refine ⟨⟨fp, D.below hb, fun g hg => ⟨(hf g hg).1, fun e => ?_⟩⟩, h.be.trans (hb.mono h.be.size), fun g hg => ?_⟩
  · rcases e with e | ⟨e, _⟩
    · exact (hf g hg).2 e
    · have := D.size g hg
      omega
  · rcases hg with hg | ⟨_, hg⟩
    · exact Nat.lt_of_lt_of_le (h.xs g hg) hb.size
    · exact hg
theorem Lw.less (h : Lw B w q now S X) (hx : ∀ g, X' g → X g) : Lw B w q now S X' := by
  obtain ⟨fp, D, hf⟩ := h.wh
  exact ⟨⟨fp, D, fun g hg => ⟨(hf g hg).1, fun e => (hf g hg).2 (hx g e)⟩⟩, h.be, fun g hg => h.xs g (hx g hg)⟩
/-- Blocks that were there when the call began are none of its own. -/
theorem Lw.old (h : Lw B w q now S X) : Lw B w q now S (fun g => X g ∨ g < B.heap.size) := by
  obtain ⟨fp, D, hf⟩ := h.wh
  refine ⟨⟨fp, D, fun g hg => ⟨(hf g hg).1, fun e => ?_⟩⟩, h.be, fun g hg => ?_⟩
  · rcases e with e | e
    · exact (hf g hg).2 e
    · have := (hf g hg).1; omega
  · rcases hg with hg | hg
    · exact h.xs g hg
    · exact Nat.lt_of_lt_of_le hg h.be.size
theorem lw_new (n : Int) (hn : tick n = true) (be : Below B.heap.size B w) :
    Calls Try.prog 9 #[.int .i64 n] w fun e w' => ∃ q, e = .returned (.tuple #[.pointer (some ⟨q, 0, none⟩), .int .i64 0]) ∧ Lw B w' q n [] (fun g => g < w.heap.size) ∧ Below w.heap.size w w' :=
  (new_yes w n hn).mono fun e w' ⟨q, h1, h2, h3, h4⟩ => ⟨q, h1, ⟨⟨_, h3, fun g hg => by subst hg; exact ⟨Nat.le_trans be.size h2, by omega⟩⟩, be.trans (h4.mono be.size), fun g hg => Nat.lt_of_lt_of_le hg h4.size⟩, h4⟩
theorem lw_set (V : Lw B w q now S X) (id at_ : Int) (hw : -9223372036854775808 ≤ id ∧ id ≤ 9223372036854775807) (few : S.length + 1 ≤ 100000) :
    Calls Try.prog 10 #[.pointer (some ⟨q, 0, none⟩), .int .i64 id, .int .i64 at_] w fun e w' => e = .returned (.int .i64 (setE at_)) ∧ LwTo B w q now (setS id at_ S) X w' := by
  obtain ⟨fp, D, hf⟩ := V.wh
  exact (set_any w q now S fp D id at_ hw few).mono fun e w' h => ⟨h.1, h.2.live V.be hf V.xs⟩
theorem lw_off (V : Lw B w q now S X) (id : Int) (hw : -9223372036854775808 ≤ id ∧ id ≤ 9223372036854775807) :
    Calls Try.prog 15 #[.pointer (some ⟨q, 0, none⟩), .int .i64 id] w fun e w' => e = .returned (.bool (fnd id S).isSome) ∧ LwTo B w q now (without id S) X w' := by
  obtain ⟨fp, D, hf⟩ := V.wh
  exact (off_any w q now S fp D id hw).mono fun e w' h => ⟨h.1, h.2.live V.be hf V.xs⟩
theorem lw_at (V : Lw B w q now S X) (id : Int) (hw : -9223372036854775808 ≤ id ∧ id ≤ 9223372036854775807) :
    Calls Try.prog 18 #[.pointer (some ⟨q, 0, none⟩), .int .i64 id] w fun e w' => e = .returned (.tuple #[.int .i64 (tm2 (fnd id S)), .bool (fnd id S).isSome]) ∧ Below w.heap.size w w' := by
  obtain ⟨fp, D, hf⟩ := V.wh
  exact at_of w _ S fp (timers_any w q now S fp D) D.nd id hw
theorem lw_next (V : Lw B w q now S X) :
    Calls Try.prog 20 #[.pointer (some ⟨q, 0, none⟩)] w fun e w' => e = .returned (.tuple #[.int .i64 (tm2 S.head?), .bool S.head?.isSome]) ∧ Below w.heap.size w w' := by
  obtain ⟨fp, D, hf⟩ := V.wh
  exact next_of w _ S fp (timers_any w q now S fp D) D.srt
theorem lw_len (V : Lw B w q now S X) : Calls Try.prog 13 #[.pointer (some ⟨q, 0, none⟩)] w fun e w' => e = .returned (.int .i64 (S.length : Nat)) ∧ Below w.heap.size w w' := by
  obtain ⟨fp, D, hf⟩ := V.wh
  exact wlen_of w _ S fp (timers_any w q now S fp D)
theorem lw_now (V : Lw B w q now S X) : Calls Try.prog 21 #[.pointer (some ⟨q, 0, none⟩)] w fun e w' => e = .returned (.int .i64 now) ∧ w = w' := by
  obtain ⟨fp, D, hf⟩ := V.wh
  exact now_any w q now S fp D
/-- What Turn answers: a row in a block of its own. -/
def LtTo (B w : World) (q : Nat) (now : Int) (S : List Tm) (X : Nat → Prop) (e : Ending) (w' : World) : Prop :=
  ∃ A n c, e = .returned (.slice A n c) ∧ n = (offs now S).length ∧ RowI w' w.heap.size (.slice A n c) n (nums ((offs now S).map (·.1))) ∧
    Lw B w' q now (left now S) (fun g => X g ∨ (Value.slice A n c).ownBlock = some g) ∧ (∀ g, X g → w'.heap[g]? = w.heap[g]?) ∧ w.heap.size ≤ w'.heap.size
theorem lw_turn (V : Lw B w q now S X) (n : Int) (hn : now ≤ n) (ht : tick n = true) : Calls Try.prog 11 #[.pointer (some ⟨q, 0, none⟩), .int .i64 n] w (LtTo B w q n S X) := by
  obtain ⟨fp, D, hf⟩ := V.wh
  refine (turn_yes w q now n S fp D hn ht).mono ?_
  rintro e w' ⟨v, rfl, R, T⟩
  obtain ⟨A, c, rfl, _⟩ := ri_form R
  have L := T.live V.be hf V.xs
  refine ⟨A, _, c, rfl, rfl, by rw [← iv_nums]; exact R, ⟨⟨_, T.1.minus R, fun g hg => ⟨?_, fun e => ?_⟩⟩, L.1.be, fun g hg => ?_⟩, L.2.1, L.2.2⟩
  · rcases hg.1 with h | ⟨h, _⟩
    · exact (hf g h).1
    · exact Nat.le_trans V.be.size h
  · rcases e with e | e
    · rcases hg.1 with h | ⟨h, _⟩
      · exact (hf g h).2 e
      · have := V.xs g e; omega
    · exact hg.2 e
  · rcases hg with hg | hg
    · exact L.1.xs g hg
    · exact lt_some (ri_block R hg).2.choose_spec
theorem lw_turn_no (V : Lw B w q now S X) (n : Int) (hn : n < now ∨ tick n = false) : Calls Try.prog 11 #[.pointer (some ⟨q, 0, none⟩), .int .i64 n] w fun e w' => e = .returned (.slice none 0 0) ∧ w = w' := by
  obtain ⟨fp, D, hf⟩ := V.wh
  exact turn_no w q now n S fp D hn
end
end Wh
end Go.Proofs.Ytnfakkinaockiaa
