/- New of a net; a net of the call's own. -/
import Derived.Test.YtenlblembdnniaaNtH
import Derived.LoopTactic
namespace Go.Proofs.Ytenlblembdnniaa
set_option maxRecDepth 100000
open Go.RowKit
open Go.Proofs.Ytenlblembdnniaa.Pk (Rb one_at one_free one_set lt_some grown_set grown_trans below_grown grown_refl)
namespace Nt

def newOk (nodes most : Int) : Bool := decide (1 ≤ nodes) && decide (nodes ≤ 16) && decide (0 ≤ most) && decide (most ≤ 4096)
theorem newOk_iff {nodes most : Int} : newOk nodes most = true ↔ ((1 ≤ nodes ∧ nodes ≤ 16) ∧ 0 ≤ most) ∧ most ≤ 4096 := by simp [newOk, and_assoc]
set_option maxHeartbeats 1600000 in
theorem new_no (w : World) (nodes most : Int) (h : newOk nodes most = false) : Calls Try.prog 7 #[.int .i64 nodes, .int .i64 most] w fun e w' => e = .returned (.tuple #[.pointer none, .int .i64 1]) ∧ w = w' := by
  cases e1 : decide (nodes < 1) with
  | true =>
    clear h
    go_enter Try.func7, Try.ntmps7
    go_wp2
    go_ret2
    exact ⟨rfl, rfl⟩
  | false =>
    cases e2 : decide (16 < nodes) with
    | true =>
      clear h
      go_enter Try.func7, Try.ntmps7
      go_wp2
      go_ret2
      exact ⟨rfl, rfl⟩
    | false =>
      cases e3 : decide (most < 0) with
      | true =>
        clear h
        go_enter Try.func7, Try.ntmps7
        go_wp2
        go_ret2
        exact ⟨rfl, rfl⟩
      | false =>
        have n1 := of_decide_eq_false e1
        have n2 := of_decide_eq_false e2
        have n3 := of_decide_eq_false e3
        have e4 : decide (4096 < most) = true := decide_eq_true (by
          rcases Int.lt_or_le 4096 most with h' | h'
          · exact h'
          · exact absurd ((newOk_iff (nodes := nodes) (most := most)).2 ⟨⟨⟨by omega, by omega⟩, by omega⟩, h'⟩) (by rw [h]; decide))
        clear n1 n2 n3
        clear h
        go_enter Try.func7, Try.ntmps7
        go_wp2
        go_ret2
        exact ⟨rfl, rfl⟩

/-! ### a net of the call's own -/
/-- The net at q lies in blocks that the call begun in B made, and in none of X. -/
structure Ln (B w : World) (q most : Nat) (us : List Bool) (L : List Ms) (X : Nat → Prop) : Prop where
  nt : ∃ fp, NtO w q most us L fp ∧ ∀ g, fp g → B.heap.size ≤ g ∧ ¬ X g
  be : Below B.heap.size B w
  xs : ∀ g, X g → g < w.heap.size
def LnTo (B w : World) (q most : Nat) (us : List Bool) (L : List Ms) (X : Nat → Prop) (w' : World) : Prop := Ln B w' q most us L X ∧ (∀ g, X g → w'.heap[g]? = w.heap[g]?) ∧ w.heap.size ≤ w'.heap.size
section
variable {B w w' : World} {q most : Nat} {us us' : List Bool} {L L' : List Ms} {X X' : Nat → Prop} {fp : Nat → Prop}
theorem NTo.live (h : NTo w q most us' L' fp w') (be : Below B.heap.size B w) (hf : ∀ g, fp g → B.heap.size ≤ g ∧ ¬ X g) (xs : ∀ g, X g → g < w.heap.size) : LnTo B w q most us' L' X w' :=
  ⟨⟨⟨_, h.1, fun g hg => by
      rcases hg with hg | ⟨hg, _⟩
      · exact hf g hg
      · exact ⟨Nat.le_trans be.size hg, fun e => by have := xs g e; omega⟩⟩, be.trans (h.2.below (fun g hg => (hf g hg).1) be.size), fun g hg => Nat.lt_of_lt_of_le (xs g hg) h.2.size⟩,
    fun g hg => h.2.block g (xs g hg) fun e => (hf g e).2 hg, h.2.size⟩
theorem Ln.below (h : Ln B w q most us L X) (hb : Below w.heap.size w w') : Ln B w' q most us L X := by
  obtain ⟨fp, D, hf⟩ := h.nt
  exact ⟨⟨fp, D.below hb, hf⟩, h.be.trans (hb.mono h.be.size), fun g hg => Nat.lt_of_lt_of_le (h.xs g hg) hb.size⟩
theorem Ln.less (h : Ln B w q most us L X) (hx : ∀ g, X' g → X g) : Ln B w q most us L X' := by
  obtain ⟨fp, D, hf⟩ := h.nt
  exact ⟨⟨fp, D, fun g hg => ⟨(hf g hg).1, fun e => (hf g hg).2 (hx g e)⟩⟩, h.be, fun g hg => h.xs g (hx g hg)⟩
theorem Ln.few (h : Ln B w q most us L X) : L.length ≤ most ∧ most ≤ 4096 := by
  obtain ⟨fp, D, hf⟩ := h.nt
  obtain ⟨_, _, _, _, _, _, _, _, h1, h2⟩ := D.parts
  exact ⟨h1, h2⟩
theorem ln_send (V : Ln B w q most us L X) (f t : Int) {T : Nat → Prop} {A : Option Addr} {n c : Nat} {bs : List UInt8} (R : Rb w T A n bs) (hbs : bs.length ≤ 1000) :
    Calls Try.prog 9 #[.pointer (some ⟨q, 0, none⟩), .int .i64 f, .int .i64 t, .slice A n c] w fun e w' => e = .returned (.int .i64 (sendC us most L f t)) ∧ LnTo B w q most us (sendS us most L ⟨f, t, bs⟩) X w' := by
  obtain ⟨fp, D, hf⟩ := V.nt
  exact (send_any D f t R hbs).mono fun e w' h => ⟨h.1, h.2.live V.be hf V.xs⟩
theorem ln_double (V : Ln B w q most us L X) (k : Int) :
    Calls Try.prog 13 #[.pointer (some ⟨q, 0, none⟩), .int .i64 k] w fun e w' => e = .returned (.int .i64 (dblC most L k)) ∧ LnTo B w q most us (dblS most L k) X w' := by
  obtain ⟨fp, D, hf⟩ := V.nt
  exact (double_any D k).mono fun e w' h => ⟨h.1, h.2.live V.be hf V.xs⟩
theorem ln_drop (V : Ln B w q most us L X) (k : Int) :
    Calls Try.prog 15 #[.pointer (some ⟨q, 0, none⟩), .int .i64 k] w fun e w' => e = .returned (.int .i64 (dropC L k)) ∧ LnTo B w q most us (outS L k) X w' := by
  obtain ⟨fp, D, hf⟩ := V.nt
  exact (drop_any D k).mono fun e w' h => ⟨h.1, h.2.live V.be hf V.xs⟩
theorem ln_up (V : Ln B w q most us L X) (k : Int) (b : Bool) :
    Calls Try.prog 17 #[.pointer (some ⟨q, 0, none⟩), .int .i64 k, .bool b] w fun e w' => e = .returned (.int .i64 (upC us k)) ∧ LnTo B w q most (upS us k b) L X w' := by
  obtain ⟨fp, D, hf⟩ := V.nt
  exact (up_any D k b).mono fun e w' h => ⟨h.1, h.2.live V.be hf V.xs⟩
theorem ln_to (V : Ln B w q most us L X) (k : Int) : Calls Try.prog 19 #[.pointer (some ⟨q, 0, none⟩), .int .i64 k] w fun e w' => e = .returned (.int .i64 (toE L k)) ∧ w = w' := by
  obtain ⟨fp, D, hf⟩ := V.nt
  exact to_any D k
theorem ln_is (V : Ln B w q most us L X) (k : Int) : Calls Try.prog 20 #[.pointer (some ⟨q, 0, none⟩), .int .i64 k] w fun e w' => e = .returned (.bool (upE us k)) ∧ w = w' := by
  obtain ⟨fp, D, hf⟩ := V.nt
  exact is_any D k
theorem ln_len (V : Ln B w q most us L X) : Calls Try.prog 18 #[.pointer (some ⟨q, 0, none⟩)] w fun e w' => e = .returned (.int .i64 (L.length : Nat)) ∧ w = w' := by
  obtain ⟨fp, D, hf⟩ := V.nt
  obtain ⟨bi, A, n, c, c1, c2, hn, _⟩ := D.parts
  rw [← hn]
  exact len_cell w q A n c c2
/-- What Take answers: its bytes lie in blocks that are new. -/
def LkTo (B w : World) (q most : Nat) (us : List Bool) (L : List Ms) (X : Nat → Prop) (r : Ms × Int) (e : Ending) (w' : World) : Prop :=
  ∃ A c, e = .returned (.tuple #[.int .i64 r.1.fr, .int .i64 r.1.to_, .slice A r.1.tx.length c, .int .i64 r.2]) ∧ Rb w' (fun g => w.heap.size ≤ g ∧ g < w'.heap.size) A r.1.tx.length r.1.tx ∧ r.1.tx.length ≤ c ∧ c ≤ 9223372036854775807 ∧ Ln B w' q most us L (fun g => X g ∨ (w.heap.size ≤ g ∧ g < w'.heap.size)) ∧ (∀ g, X g → w'.heap[g]? = w.heap[g]?) ∧ w.heap.size ≤ w'.heap.size
theorem ln_take (V : Ln B w q most us L X) (k : Int) : Calls Try.prog 11 #[.pointer (some ⟨q, 0, none⟩), .int .i64 k] w (LkTo B w q most us (outS L k) X (tkR us L k)) := by
  obtain ⟨fp, D, hf⟩ := V.nt
  refine (take_any D k).mono ?_
  rintro e w' ⟨A, c, h1, h2, h3, h4, h5, h6⟩
  refine ⟨A, c, h1, h2, h3, h4, ⟨⟨fp, h5, fun g hg => ⟨(hf g hg).1, fun e => ?_⟩⟩, V.be.trans (h6.below (fun g hg => (hf g hg).1) V.be.size), fun g hg => ?_⟩, fun g hg => h6.block g (V.xs g hg) fun e => (hf g e).2 hg, h6.size⟩
  · rcases e with e | ⟨e, _⟩
    · exact (hf g hg).2 e
    · have := D.size g hg
      omega
  · rcases hg with hg | ⟨_, hg⟩
    · exact Nat.lt_of_lt_of_le (V.xs g hg) h6.size
    · exact hg

theorem in_info : (Try.prog.info? 64).map (fun i => (i.zero, i.size, i.bytes)) = some (some (.chan none), 1, 8) := by kernel_rfl
/-- Between two rounds of New. -/
def NwAt (w : World) (q most n : Nat) (i : Value) (wr : World) : Prop := ∃ k : Nat, i = .int .i64 k ∧ k ≤ n ∧ Ln w wr q most (List.replicate k true ++ List.replicate (n - k) false) [] (fun g => g < w.heap.size)
theorem made_ln {w w1 : World} {n most : Nat} (hn : n ≤ 16) (hm : most ≤ 4096) (o : w1.ownsRow w.heap.size 64 1 (.slice (some ⟨w.heap.size, 0, none⟩) n n) n (madeCells #[Value.chan none] n).toList) (g : w.grownBy w1 none) :
    Ln w (w1.alloc (.cells #[.int .i64 most, .slice (some ⟨w.heap.size, 0, none⟩) n n, .slice none 0 0] 58)) w1.heap.size most (List.replicate n false) [] (fun g => g < w.heap.size) := by
  obtain ⟨W2, hW2⟩ : ∃ z, z = w1.alloc (.cells #[.int .i64 most, .slice (some ⟨w.heap.size, 0, none⟩) n n, .slice none 0 0] 58) := ⟨_, rfl⟩
  rw [toList_madeCells_one] at o
  rcases o.2 with ⟨h, _⟩ | ⟨b, cap, cur, hv, hb, hh, h1, h2, h3, h4⟩
  · cases h
  · injection hv with hv _ hcap
    injection hv with hv
    injection hv with hv
    subst hv; subst hcap
    have hcur : cur = ((List.replicate n none).map Value.chan).toArray := by
      apply Array.ext'
      rw [List.take_of_length_le (by simp; omega)] at h4
      rw [h4]
      simp
    subst hcur
    have b1 : Below w.heap.size w w1 := ⟨g.os, g.tape, g.output, g.size, fun k hk => g.block k hk (by simp)⟩
    have hsz : w.heap.size < w1.heap.size := lt_some hh
    have hq : W2.heap[w1.heap.size]? = some (.cells #[.int .i64 most, .slice (some ⟨w.heap.size, 0, none⟩) n n, .slice none 0 0] 58 (0, 0)) := by rw [hW2]; exact heap_alloc_new _ _
    have hbx : W2.heap[w.heap.size]? = some (.cells ((List.replicate n none).map Value.chan).toArray 64 (0, 0)) := by rw [hW2]; exact (heap_alloc_old _ _ hsz).trans hh
    have hs2 : W2.heap.size = w1.heap.size + 1 := by rw [hW2]; simp
    rw [← hW2]
    have hl : (List.replicate n (none : Option Nat)).length = n := by simp
    refine ⟨⟨fun g => g = w.heap.size ∨ g = w1.heap.size, ⟨⟨w.heap.size, List.replicate n none, .slice none 0 0, ⟨by rw [hl]; exact hq, hbx, fun c hc => ?_, World.ownsRow_nil _ _ _ _, Nat.zero_le _, hm, by rw [hl]; exact hn, fun m hm => (nomatch hm)⟩, by simp, fun g hg => ?_⟩, fun g hg => ?_⟩, fun g hg => ?_⟩, ?_, fun g hg => by omega⟩
    · exact absurd (List.eq_of_mem_replicate hc) (by simp)
    · rcases hg with hg | hg | hg | hg
      · exact .inr hg
      · exact .inl hg
      · exact absurd (List.eq_of_mem_replicate hg) (by simp)
      · simp [Value.ownBlock] at hg
    · rcases hg with hg | hg <;> omega
    · rcases hg with hg | hg <;> exact ⟨by omega, by omega⟩
    · rw [hW2]; exact b1.alloc b1.size _
end
set_option maxHeartbeats 3200000 in
theorem new_yes (w : World) (n most : Nat) (h1 : 1 ≤ n) (h2 : n ≤ 16) (h3 : most ≤ 4096) : Calls Try.prog 7 #[.int .i64 (n : Int), .int .i64 (most : Int)] w fun e w' => ∃ q, e = .returned (.tuple #[.pointer (some ⟨q, 0, none⟩), .int .i64 0]) ∧ Ln w w' q most (List.replicate n true) [] (fun g => g < w.heap.size) := by
  obtain ⟨i0, hi, hz0, hz1, hz2⟩ := info_parts in_info
  have j1 : decide ((n : Int) < 1) = false := decide_eq_false (by omega)
  have j2 : decide (16 < (n : Int)) = false := decide_eq_false (by omega)
  have j3 : decide ((most : Int) < 0) = false := decide_eq_false (by omega)
  have j4 : decide (4096 < (most : Int)) = false := decide_eq_false (by omega)
  replace hi := Lib.hid hi
  replace hz0 := Lib.hid hz0
  replace hz1 := Lib.hid hz1
  replace hz2 := Lib.hid hz2
  go_enter Try.func7, Try.ntmps7
  go_wp2_with (at_make; go_loud (refine wpList_make_full _ rfl _ _ 55 rfl w.heap.size 64 i0 (.chan none) 1 Try.underlying55 hi.out hz0.out hz1.out .i64 .i64 _ _ n rfl rfl rfl rfl ?c1 ?c2 ?c3 ?_))
  case c1 => rw [hz2.out]; omega
  case c2 => unfold maxLen; omega
  case c3 => exact Nat.le_refl _
  intro w1 hown hg
  have ML := Lib.hid (made_ln (most := most) h2 h3 hown hg)
  clear hown hg
  go_wp2_with fail
  obtain ⟨q, hq⟩ : ∃ z, z = w1.heap.size := ⟨_, rfl⟩
  have st : Hid (NwAt w q most n (.int .i64 0) (w1.alloc (.cells #[.int .i64 most, .slice (some ⟨w.heap.size, 0, none⟩) n n, .slice none 0 0] 58))) := ⟨0, rfl, Nat.zero_le _, by rw [hq]; exact ML.out⟩
  clear ML
  go_loopw [28] (fun i wr => NwAt w q most n i wr) (fun i _ => n - (intOf i).toNat)
  case atStart => exact st.out
  case round =>
    clear st
    rw [← hq]
    replace hq := Lib.hid hq
    obtain ⟨k, rfl, hk, V⟩ := hrel
    by_cases hlt : k < n
    · have i1 : (k : Int) < (n : Int) := by omega
      have U := Lib.hid (ln_up V (k : Int) true)
      have hup : upS (List.replicate k true ++ List.replicate (n - k) false) (k : Int) true = List.replicate (k + 1) true ++ List.replicate (n - (k + 1)) false := by
        unfold upS
        rw [if_pos (node_iff.2 ⟨by omega, by simp; omega⟩), show ((k : Int)).toNat = k from by omega]
        obtain ⟨p, hp⟩ : ∃ p, n - k = p + 1 := ⟨n - k - 1, by omega⟩
        have hp2 : n - (k + 1) = p := by omega
        rw [hp, hp2, List.replicate_succ, List.set_append_right _ _ (by simp)]
        simp [List.replicate_succ' (n := k)]
      rw [hup] at U
      have ew : IntKind.i64.wrap ((k : Int) + 1) = ((k + 1 : Nat) : Int) := by rw [IntKind.wrap_i64]; omega
      clear V hup
      go_wp2_with fail
      refine U.out.mono ?_
      rintro e w2 ⟨rfl, V2⟩
      have nx : Hid (NwAt w q most n (.int .i64 ((k + 1 : Nat) : Int)) w2) := ⟨k + 1, rfl, by omega, V2.1⟩
      clear U V2
      go_wp2
      exact ⟨nx.out, by simp [intOf]; omega⟩
    · obtain rfl : k = n := by omega
      have E : Hid (Ln w wr q most (List.replicate k true) [] (fun g => g < w.heap.size)) := by
        show Ln w wr q most (List.replicate k true) [] (fun g => g < w.heap.size)
        have := V
        rw [Nat.sub_self] at this
        simpa using this
      clear V
      go_wp2
      go_ret2
      exact ⟨_, rfl, E.out⟩
end Nt
end Go.Proofs.Ytenlblembdnniaa
