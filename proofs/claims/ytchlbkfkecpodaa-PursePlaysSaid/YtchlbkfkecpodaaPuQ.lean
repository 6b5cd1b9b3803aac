/- What each operation does to a purse, told by kind; the accounts by the moves; an array beside a purse; the document's MayFunds. -/
import Derived.Test.YtchlbkfkecpodaaPuP
namespace Go.Proofs.Ytchlbkfkecpodaa
set_option maxRecDepth 100000
open Go.RowKit
open Go.Sort (grow)
open Go.Proofs.Ytchlbkfkecpodaa.Pk (one_at one_free one_set lt_some adr_block)
namespace Pu
open Wt (Opn mayOp)

/-- Nothing, an entry put, or a move and an entry put. -/
def Step (b : Int) (p p' : S) : Prop := p' = p ∨ p' = put p b eg ∨ ∃ fr tg am e, p' = put (mv p b fr tg am) b e ∧ (0 ≤ fr ∧ fr ≤ 5) ∧ (0 ≤ tg ∧ tg ≤ 5) ∧ fr ≠ tg ∧ 0 ≤ am ∧ am ≤ 1099511627776
section
variable {p : S} {b : Int}
theorem step_dstp (h : Ok p) (o : Opn) : Step o.book p (dstp p o).1 := by
  unfold dstp stp
  cases hm : mayOp o with
  | false => exact .inl rfl
  | true =>
    obtain ⟨⟨b1, b2⟩, -, hc⟩ := mayop_bds hm
    obtain ⟨-, -, c0, c1, m0, m1⟩ := (h.shp o.book).bds
    rw [if_neg (by simp)]
    split
    · rename_i k4
      obtain ⟨⟨c0, c1⟩, m0, m1⟩ := hc k4
      unfold auth
      split
      · split
        · exact .inr (.inr ⟨_, _, _, _, rfl, by omega, by omega, by omega, m0, m1⟩)
        · exact .inr (.inl rfl)
      · split <;> exact .inl rfl
    · split
      · unfold capt
        split
        · exact .inl rfl
        · split
          · exact .inr (.inr ⟨_, _, _, _, rfl, by omega, by omega, by omega, m0, m1⟩)
          · exact .inr (.inl rfl)
      · split
        · show Step _ _ (void p o.book)
          unfold void
          split
          · exact .inr (.inr ⟨_, _, _, _, rfl, by omega, by omega, by omega, m0, m1⟩)
          · split
            · exact .inr (.inr ⟨_, _, _, _, rfl, by omega, by omega, by omega, m0, m1⟩)
            · exact .inr (.inl rfl)
        · exact .inl rfl
theorem tot_mv {a : Ac} {fr tg am : Int} (h1 : 0 ≤ fr ∧ fr ≤ 5) (h2 : 0 ≤ tg ∧ tg ≤ 5) (hn : fr ≠ tg) : mvA a fr tg am 0 + mvA a fr tg am 1 + mvA a fr tg am 2 + mvA a fr tg am 3 + mvA a fr tg am 4 + mvA a fr tg am 5 = a 0 + a 1 + a 2 + a 3 + a 4 + a 5 := by
  rcases (by omega : fr = 0 ∨ fr = 1 ∨ fr = 2 ∨ fr = 3 ∨ fr = 4 ∨ fr = 5) with rfl | rfl | rfl | rfl | rfl | rfl <;> rcases (by omega : tg = 0 ∨ tg = 1 ∨ tg = 2 ∨ tg = 3 ∨ tg = 4 ∨ tg = 5) with rfl | rfl | rfl | rfl | rfl | rfl <;> first | exact absurd rfl hn | (simp [mvA, upd]; omega)
theorem tot_step {p' : S} (h : Step b p p') : tot p' = tot p := by
  rcases h with rfl | rfl | ⟨fr, tg, am, e, rfl, h1, h2, h3, _⟩
  · rfl
  · rfl
  · exact tot_mv h1 h2 h3
end
/-- The accounts by the moves. -/
def fld (a : Ac) (l : List Ln) : Ac := l.foldl (fun a x => mvA a x.fr x.tg x.am) a
theorem fld_snoc (a : Ac) (l : List Ln) (x : Ln) : fld a (l ++ [x]) = mvA (fld a l) x.fr x.tg x.am := by simp [fld]
structure His (f0 : Ac) (p : S) : Prop where
  eq : p.a = fld f0 p.l
  pre : ∀ k, ∀ j : Int, 0 ≤ j → j ≤ 5 → 0 ≤ fld f0 (p.l.take k) j ∧ fld f0 (p.l.take k) j ≤ 4398046511104
  shp : ∀ x ∈ p.l, (0 ≤ x.fr ∧ x.fr ≤ 5) ∧ (0 ≤ x.tg ∧ x.tg ≤ 5) ∧ x.fr ≠ x.tg ∧ 0 ≤ x.am ∧ x.am ≤ 1099511627776
theorem his_step {f0 : Ac} {b : Int} {p p' : S} (H : His f0 p) (ho : Ok p') (h : Step b p p') : His f0 p' := by
  rcases h with rfl | rfl | ⟨fr, tg, am, e, rfl, h1, h2, h3, h4, h5⟩
  · exact H
  · exact ⟨H.eq, H.pre, H.shp⟩
  · have e1 : fld f0 (p.l ++ [(⟨b, fr, tg, am⟩ : Ln)]) = mvA p.a fr tg am := by rw [fld_snoc, ← H.eq]
    refine ⟨e1.symm, fun k j j0 j5 => ?_, fun x hx => ?_⟩
    · show 0 ≤ fld f0 ((p.l ++ [(⟨b, fr, tg, am⟩ : Ln)]).take k) j ∧ fld f0 ((p.l ++ [(⟨b, fr, tg, am⟩ : Ln)]).take k) j ≤ _
      by_cases hk : k ≤ p.l.length
      · rw [List.take_append_of_le_length hk]
        exact H.pre k j j0 j5
      · rw [List.take_of_length_le (by simp; omega), e1]
        exact ho.bds j0 j5
    · rcases List.mem_append.1 hx with hx | hx
      · exact H.shp x hx
      · rw [List.mem_singleton] at hx
        subst hx
        exact ⟨h1, h2, h3, h4, h5⟩
theorem his_new {a b c d : Int} (h : mayF a b c d = true) : His (new a b c d).a (new a b c d) := by
  obtain ⟨ha, hb, hc, hd⟩ := mayF_iff.1 h
  refine ⟨rfl, fun k j j0 j5 => ?_, fun x hx => by cases hx⟩
  have e : (new a b c d).l.take k = [] := by simp [new]
  rw [e]
  exact (ok_new ha hb hc hd).bds j0 j5
/-- The funds by their numbers. -/
theorem new_a (a b c d : Int) : (new a b c d).a 0 = a ∧ (new a b c d).a 1 = b ∧ (new a b c d).a 2 = c ∧ (new a b c d).a 3 = d ∧ (new a b c d).a 4 = 0 ∧ (new a b c d).a 5 = 0 := ⟨rfl, rfl, rfl, rfl, rfl, rfl⟩
theorem fcs_at (a b c d : Int) {k : Nat} (hk : k ≤ 3) : (fcs a b c d)[k]? = some (.int .i64 ((new a b c d).a (k : Int))) := by
  rcases (by omega : k = 0 ∨ k = 1 ∨ k = 2 ∨ k = 3) with rfl | rfl | rfl | rfl <;> rfl
theorem mayF_all {a b c d : Int} : mayF a b c d = true ↔ ∀ k : Nat, k ≤ 3 → okF ((new a b c d).a (k : Int)) = true := by
  constructor
  · intro h k hk
    obtain ⟨ha, hb, hc, hd⟩ := mayF_iff.1 h
    rcases (by omega : k = 0 ∨ k = 1 ∨ k = 2 ∨ k = 3) with rfl | rfl | rfl | rfl
    · exact okF_iff.2 ha
    · exact okF_iff.2 hb
    · exact okF_iff.2 hc
    · exact okF_iff.2 hd
  · intro h
    have h0 := h 0 (by omega)
    have h1 := h 1 (by omega)
    have h2 := h 2 (by omega)
    have h3 := h 3 (by omega)
    unfold mayF
    have e0 : okF a = true := h0
    have e1 : okF b = true := h1
    have e2 : okF c = true := h2
    have e3 : okF d = true := h3
    rw [e0, e1, e2, e3]
    rfl
def MyAt (a b c d : Int) (i : Value) (w wr : World) : Prop := ∃ k : Nat, i = .int .i64 k ∧ k ≤ 4 ∧ (∀ j : Nat, j < k → okF ((new a b c d).a (j : Int)) = true) ∧ wr = w
set_option maxHeartbeats 1600000 in
theorem refMayFunds_any (w : World) (a b c d : Int) : Calls Try.prog 27 #[.agg #[.int .i64 a, .int .i64 b, .int .i64 c, .int .i64 d]] w fun e w' => e = .returned (.bool (mayF a b c d)) ∧ Below w.heap.size w w' := by
  obtain ⟨w1, hw1⟩ : ∃ x, x = w.alloc (.cells #[.int .i64 a, .int .i64 b, .int .i64 c, .int .i64 d] 54) := ⟨_, rfl⟩
  have B1 : Hid (Below w.heap.size w w1) := by rw [hw1]; exact (Below.refl _ _).alloc (Nat.le_refl _) _
  have CE : Hid (∀ k : Nat, k ≤ 3 → w1.cell? ⟨w.heap.size, k, none⟩ = some (.int .i64 ((new a b c d).a (k : Int)))) := fun k hk => by
    rw [← fcs_at a b c d hk, hw1]
    exact one_at (heap_alloc_new _ _)
  have st : Hid (MyAt a b c d (.int .i64 0) w1 w1) := ⟨0, rfl, by omega, fun j hj => by omega, rfl⟩
  replace hw1 := Lib.hid hw1
  go_enter Try.func27, Try.ntmps27
  go_upto_region 1 with fail
  rw [← hw1.out]
  go_wp2_with fail
  go_loopw [3] (fun i wr => MyAt a b c d i w1 wr) (fun i _ => 4 - (intOf i).toNat)
  case atStart => exact st.out
  case round =>
    clear st
    obtain ⟨k, rfl, hk, hall, rfl⟩ := hrel
    by_cases h4 : k < 4
    · have c1 := CE.out k (by omega)
      have i1 : (k : Int) < 4 := by omega
      have i0 : (0 : Int) ≤ (k : Int) := by omega
      obtain ⟨x, hx⟩ : ∃ x, x = (new a b c d).a (k : Int) := ⟨_, rfl⟩
      rw [← hx] at c1
      cases ho : okF x with
      | true =>
        obtain ⟨o1, o2⟩ := okF_iff.1 ho
        have d1 : decide (x < 0) = false := decide_eq_false (by omega)
        have d2 : decide (1099511627776 < x) = false := decide_eq_false (by omega)
        have nx : Hid (MyAt a b c d (.int .i64 ((k + 1 : Nat) : Int)) wr wr) := ⟨k + 1, rfl, by omega, fun j hj => by
          by_cases e : j = k
          · rw [e, ← hx]; exact ho
          · exact hall j (by omega), rfl⟩
        clear hall hx ho
        go_wp2
        exact ⟨nx.out, by simp [intOf]; omega⟩
      | false =>
        have F : Hid (mayF a b c d = false) := by
          cases hm : mayF a b c d with
          | false => rfl
          | true =>
            have := mayF_all.1 hm k (by omega)
            rw [← hx, ho] at this
            cases this
        by_cases h0 : x < 0
        · have d1 : decide (x < 0) = true := decide_eq_true h0
          clear hall hx ho
          go_wp2
          go_ret
          rw [F.out]
          exact ⟨rfl, B1.out⟩
        · have d1 : decide (x < 0) = false := decide_eq_false h0
          have d2 : decide (1099511627776 < x) = true := decide_eq_true (by
            refine Decidable.byContradiction fun hn => ?_
            have := okF_iff.2 ⟨(by omega : 0 ≤ x), by omega⟩
            rw [ho] at this
            cases this)
          clear hall hx ho
          go_wp2
          go_ret
          rw [F.out]
          exact ⟨rfl, B1.out⟩
    · obtain rfl : k = 4 := by omega
      have F : Hid (mayF a b c d = true) := mayF_all.2 fun j hj => hall j (by omega)
      clear hall
      go_wp2
      go_ret
      rw [F.out]
      exact ⟨rfl, B1.out⟩

/-! ### an array beside a purse -/
section
variable {B d q : Nat} {X : Nat → Prop} {w0 w w' : World} {p : S}
/-- What X has is written. -/
theorem Ow.side (O : Ow B X w0 w q p) (K : Kq (fun g => g = d) w w') (hX : X d) (hB : B ≤ d) : Ow B X w0 w' q p := by
  obtain ⟨fp, L, hf⟩ := O.ex
  refine ⟨⟨fp, L.keep K.size fun g hg => K.block g (L.size g hg) fun e => (hf g hg).2 (by rw [e]; exact hX), hf⟩, O.be.trans (K.below (fun g hg => by rw [hg]; exact hB) O.bs), Nat.le_trans O.bs K.size, fun g hg => Nat.lt_of_lt_of_le (O.xs g hg) K.size⟩
end
/-- An array of n numbers. -/
structure Sm (w : World) (n sb : Nat) (s : Ac) : Prop where
  lt : sb < w.heap.size
  at_ : ∀ k : Nat, k < n → w.cell? ⟨sb, k, none⟩ = some (.int .i64 (s (k : Int)))
  free : ∀ i, w.frozen? ⟨sb, i, none⟩ = false
section
variable {w w' : World} {n sb : Nat} {s s' : Ac}
theorem Sm.keep (S : Sm w n sb s) (h : w'.heap[sb]? = w.heap[sb]?) : Sm w' n sb s := by
  have e : ∀ i, w'.cell? ⟨sb, i, none⟩ = w.cell? ⟨sb, i, none⟩ := fun i => World.cell?_of_block h
  refine ⟨?_, fun k hk => (e k).trans (S.at_ k hk), fun i => ?_⟩
  · have := Array.getElem?_eq_getElem S.lt
    rw [← h] at this
    exact lt_some this
  · have := S.free i
    unfold World.frozen? at this ⊢
    simp only [h]
    exact this
theorem Sm.below (S : Sm w n sb s) (hb : Below w.heap.size w w') : Sm w' n sb s := S.keep (hb.block _ S.lt)
theorem Sm.set (S : Sm w n sb s) {k : Nat} (hk : k < n) (x : Int) : Sm (w.setCell ⟨sb, k, none⟩ (.int .i64 x)) n sb (upd s (k : Int) x) := by
  rw [set1]
  refine ⟨by rw [(setCells_block sb _ _ w).1]; exact S.lt, fun j hj => ?_, fun i => ?_⟩
  · by_cases h : j = k
    · subst h
      rw [upd_same]
      have := World.cell?_setCells_in sb [.int .i64 x] j w (fun i hi => by
        obtain rfl : i = 0 := by simpa using hi
        rw [Nat.add_zero, S.at_ j hj]; rfl) 0 (by simp)
      simpa using this
    · rw [upd_other (by omega), World.cell?_setCells_out sb _ _ w ⟨sb, j, none⟩ (fun _ _ => by show j < k ∨ k + 1 ≤ j; omega)]
      exact S.at_ j hj
  · rw [World.frozen?_setCells]
    exact S.free i
theorem Sm.ext (S : Sm w n sb s) (h : ∀ k : Nat, k < n → s (k : Int) = s' (k : Int)) : Sm w n sb s' := ⟨S.lt, fun k hk => by rw [← h k hk]; exact S.at_ k hk, S.free⟩
theorem sm_zero (n : Nat) {t : TypeId} (h : w.heap[sb]? = some (.cells (Array.replicate n (.int .i64 0)) t (0, 0))) : Sm w n sb (fun _ => 0) :=
  ⟨lt_some h, fun k hk => by rw [one_at (i := k) h]; simp [hk], fun i => one_free h⟩
end
end Pu
end Go.Proofs.Ytchlbkfkecpodaa
