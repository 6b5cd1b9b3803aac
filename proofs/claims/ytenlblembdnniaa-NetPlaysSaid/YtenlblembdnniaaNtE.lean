/- add, Send, Double of a net. -/
import Derived.Test.YtenlblembdnniaaNtD
namespace Go.Proofs.Ytenlblembdnniaa
set_option maxRecDepth 100000
open Go.RowKit
open Go.Proofs.Ytenlblembdnniaa.Pk (Rb one_at one_free one_set lt_some grown_set grown_trans below_grown grown_refl)
namespace Nt

section
variable {w w6 : World} {q bi most : Nat} {us : List Bool} {L : List Ms} {fp : Nat → Prop} {cs : List (Option Nat)} {v : Value}
def addC (most : Nat) (L : List Ms) : Int := if L.length < most then 0 else 4
def addS (most : Nat) (L : List Ms) (m : Ms) : List Ms := if L.length < most then L ++ [m] else L
/-- A longer row stored. -/
theorem No.row_store {A : Option Addr} {c n : Nat} {L' : List Ms} (W : NtO w q most us L fp) (hu : cs.map Option.isSome = us) (hf : ∀ g, nin q bi cs v g → fp g) (O0 : No w q bi most cs v L) (hb : Below w.heap.size w w6) {w7 : World} (hg : w6.grownBy w7 v.ownBlock) (R : RowE w7 0 61 (.slice A n c) n L')
    (hA : (Value.slice A n c).ownBlock = v.ownBlock ∨ (Value.slice A n c).ownBlock = some w6.heap.size) (few : L'.length ≤ most) (hw : ∀ m ∈ L', Nt.wf cs.length m) :
    w7.cell? ⟨q, 2, none⟩ = some v ∧ w7.frozen? ⟨q, 2, none⟩ = false ∧ NTo w q most us L' fp (w7.setCell ⟨q, 2, none⟩ (.slice A n c)) := by
  have O := O0.below hb
  have hn := re_len R
  subst hn
  have hq7 : w7.heap[q]? = some (.cells #[.int .i64 most, .slice (some ⟨bi, 0, none⟩) cs.length cs.length, v] 58 (0, 0)) := (hg.block q (lt_some O.cells) (fun e => O.row_ne.1 e.symm)).trans O.cells
  have k7 : ∀ g, g < w6.heap.size → v.ownBlock ≠ some g → w7.heap[g]? = w6.heap[g]? := fun g hl hn => hg.block g hl (fun e => hn e.symm)
  have G := grown_set w7 q 2 (.slice A L'.length c)
  have k8 : ∀ g, g ≠ q → g < w7.heap.size → (w7.setCell ⟨q, 2, none⟩ (.slice A L'.length c)).heap[g]? = w7.heap[g]? := fun g hn hl => G.block g hl (fun e => hn (by injection e))
  refine ⟨one_at (i := 2) hq7, one_free hq7, NTo.of_no (cs := cs) (bi := bi) (v := .slice A L'.length c) W ⟨one_set hq7 (.slice A L'.length c), ?_, fun g hc => ?_, ?_, few, O.top, O.wide, hw⟩ hu (fun g hg' => ?_) ((Kq.of_below hb).trans' ((Kq.of_grown hg fun g h => ?_).trans' (.of_grown G fun g h => ?_)))⟩
  · exact (k8 bi (fun e => O.q_ne.1 e.symm) (Nat.lt_of_lt_of_le (lt_some O.box) hg.size)).trans ((k7 bi (lt_some O.box) O.row_ne.2.1).trans O.box)
  · obtain ⟨s, r, h⟩ := O.inb g hc
    exact ⟨s, r, (k8 g (fun e => O.q_ne.2.1 (by rw [← e]; exact hc)) (Nat.lt_of_lt_of_le (lt_some h) hg.size)).trans ((k7 g (lt_some h) (O.row_ne.2.2 g hc)).trans h)⟩
  · refine re_same R fun g h => k8 g (fun e => ?_) (lt_some (re_block R h).2.choose_spec)
    subst e
    obtain ⟨_, cur, h2⟩ := re_block R h
    refine no_two h2 hq7 fun e => ?_
    injection e with _ e
    exact absurd e (by decide)
  · rcases hg' with h | h | h | h
    · exact .inl (hf g (.inl h))
    · exact .inl (hf g (.inr (.inl h)))
    · exact .inl (hf g (.inr (.inr (.inl h))))
    · rcases hA with e | e
      · exact .inl (hf g (.inr (.inr (.inr (by rw [← e]; exact h)))))
      · right
        rw [h] at e
        injection e with e
        rw [e]
        exact hb.size
  · exact hf g (.inr (.inr (.inr h)))
  · injection h with h
    exact hf g (.inl h.symm)
theorem ms_append : Try.prog.underlying 56 = some (.slice 61) := Try.underlying56
set_option maxHeartbeats 3200000 in
theorem add_any (W : NtO w q most us L fp) (m : Ms) (hm : wf us.length m) : Calls Try.prog 22 #[.pointer (some ⟨q, 0, none⟩), am m] w fun e w' => e = .returned (.int .i64 (addC most L)) ∧ NTo w q most us (addS most L m) fp w' := by
  obtain ⟨bi, cs, v, O, hu, hf⟩ := W.ex
  have hl : cs.length = us.length := by rw [← hu, List.length_map]
  obtain ⟨A, c, rfl, hc, hmx, _⟩ := re_form O.row
  have few := O.few
  have top := O.top
  have ba : Below w.heap.size w (w.alloc (.cells #[.int .i64 m.fr, .int .i64 m.to_, .string (str m.tx)] 61)) := (Below.refl _ _).alloc (Nat.le_refl _) _
  have T1 : (w.alloc (.cells #[.int .i64 m.fr, .int .i64 m.to_, .string (str m.tx)] 61)).heap[w.heap.size]? = some (.cells #[.int .i64 m.fr, .int .i64 m.to_, .string (str m.tx)] 61 (0, 0)) := heap_alloc_new _ _
  obtain ⟨n, hn⟩ : ∃ z, z = L.length := ⟨_, rfl⟩
  obtain ⟨x, hx⟩ : ∃ z, z = w.heap.size := ⟨_, rfl⟩
  obtain ⟨W1, hW1⟩ : ∃ z, z = w.alloc (.cells #[.int .i64 m.fr, .int .i64 m.to_, .string (str m.tx)] 61) := ⟨_, rfl⟩
  rw [← hW1] at ba T1
  rw [← hx] at T1
  have t0 : W1.cell? ⟨x, 0, none⟩ = some (.int .i64 m.fr) := one_at (i := 0) T1
  have t1 : W1.cell? ⟨x, 1, none⟩ = some (.int .i64 m.to_) := one_at (i := 1) T1
  have t2 : W1.cell? ⟨x, 2, none⟩ = some (.string (str m.tx)) := one_at (i := 2) T1
  have O1 := O.below ba
  have d0 : W1.cell? ⟨q, 0, none⟩ = some (.int .i64 most) := one_at (i := 0) O1.cells
  have d2 : W1.cell? ⟨q, 2, none⟩ = some (.slice A L.length c) := one_at (i := 2) O1.cells
  rw [← hn] at d2
  unfold addC addS
  rw [← hn]
  by_cases hlt : n < most
  · simp only [if_pos hlt]
    have d1 : ¬ most ≤ n := by omega
    have d3 : ¬ (most : Int) ≤ (n : Int) := by omega
    obtain ⟨W2, hW2⟩ : ∃ z, z = (W1.alloc (.cells #[.int .i64 m.fr, .int .i64 m.to_, .string (str m.tx)] 61)).drew.drew := ⟨_, rfl⟩
    have b2 : Below w.heap.size w W2 := by rw [hW2]; exact (ba.alloc ba.size _).drew.drew
    have O2 := O.below b2
    have e2 : (W1.alloc (.cells #[.int .i64 m.fr, .int .i64 m.to_, .string (str m.tx)] 61)).cell? ⟨q, 2, none⟩ = some (.slice A L.length c) := one_at (i := 2) (O.below (ba.alloc ba.size (.cells #[.int .i64 m.fr, .int .i64 m.to_, .string (str m.tx)] 61))).cells
    have R2 := O2.row
    rw [← hn] at e2 R2
    have h2 : W2.heap[W1.heap.size]? = some (.cells #[.int .i64 m.fr, .int .i64 m.to_, .string (str m.tx)] 61 (0, 0)) := by rw [hW2]; exact heap_alloc_new _ _
    obtain ⟨A3, c3, W3, r3, R3, g3, h3⟩ := row_app1 ms_append msg_info W2 0 _ n L R2 m W1.heap.size h2 (by omega) (Nat.zero_le _)
    obtain ⟨f2, z2, E⟩ := No.row_store W hu hf O b2 (by rw [← hn]; exact g3) R3 (by rw [← hn]; exact h3) (by simp; omega) (fun y hy => by
      rcases List.mem_append.1 hy with h | h
      · exact O.wf y h
      · have : y = m := by simpa using h
        rw [this, hl]; exact hm)
    rw [← hn] at f2
    replace E := Lib.hid E
    replace hx := Lib.hid hx
    rw [hW2] at r3
    unfold am
    clear W O O1 O2 R2 R3 g3 h3 h2 b2 hW2 hu hf hl ba T1 hm few top hn hc hmx hlt
    go_enter Try.func22, Try.ntmps22
    go_upto_region 1 with fail
    rw [← hW1, ← hx.out]
    clear hW1
    go_region
    go_upto_region 3 with fail
    go_region_law (refine step_run_app rfl (.tmp 19) (.tmp 21) rfl rfl (.slice A n c) (.slice (some ⟨W1.heap.size, 0, none⟩) 1 1) rfl rfl r3 ?_)
    all_goals
      go_wp2
      go_ret
      exact ⟨rfl, E.out⟩
  · simp only [if_neg hlt]
    have d1 : most ≤ n := by omega
    have d3 : (most : Int) ≤ (n : Int) := by omega
    have E : Hid (NTo w q most us L fp W1.drew) := NTo.of_below W ba.drew
    replace hx := Lib.hid hx
    unfold am
    clear W O O1 hu hf hl ba T1 hm few top hn hc hmx hlt
    go_enter Try.func22, Try.ntmps22
    go_upto_region 1 with fail
    rw [← hW1, ← hx.out]
    clear hW1
    go_region
    go_wp2
    go_ret
    exact ⟨rfl, E.out⟩
end
end Nt
end Go.Proofs.Ytenlblembdnniaa
