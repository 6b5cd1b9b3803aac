/- Up, add, Send, Double of a net. -/
import Derived.Test.YtenlblembdnniaaNtB
import Derived.Deep.RegionHeld3
import Derived.Maps.AppendAt
import Derived.Deep.CutBlock
import Derived.Deep.CutRange
namespace Go.Proofs.Ytenlblembdnniaa
set_option maxRecDepth 100000
open Go.RowKit
open Go.Proofs.Ytenlblembdnniaa.Pk (one_at one_free one_set lt_some grown_set grown_trans below_grown grown_refl)
namespace Nt

/-- An append whose run is known, in a region that draws. -/
theorem step_run_app {w : World} {ops : Array Oper} {o : Oper} {a : Act} {K : Act → World → Prop} {Q : Exit → Act → World → Prop} {E : Prop} {t : TypeId} (hgd : o.guard = none) (s x : Operand) (ho : o.op = .call { callee := .builtin .append, args := #[s, x], argTypes := #[t, t] }) (hty : o.type = t)
    (v0 x0 : Value) (hs : a.eval s = v0) (hx : a.eval x = x0) {v' : Value} {w' : World} (hrun : (Builtin.append_ #[t, t] t #[v0, x0]).run Try.prog w = .ok v' w') (h : K (a.put o.dst v') w') :
    if Region.wanted o (yielded ops a.tmps) = true then Oper.wp Try.prog o a w K Q else E := by
  have hw : Region.wanted o (yielded ops a.tmps) = true := by simp [Region.wanted, hgd]
  rw [if_pos hw]
  unfold Oper.wp execOp
  simp only [ho, resolve, invoke, builtin, Sem.run_bind, Sem.run_pure, Result.andThen_ok, List.map_toArray, List.map_cons, List.map_nil, hs, hx, hty, hrun]
  exact h
/-- Messages put behind a row. -/
theorem row_append {t e : TypeId} (ht : Try.prog.underlying t = some (.slice e)) (hi : (Try.prog.info? e).map (fun i => (i.zero, i.size, i.bytes)) = some (some (am m0), 3, 32)) (w : World) (base : Nat) (v : Value) (n : Nat) (X : List Ms) (hown : RowE w base e v n X) (ad : Addr) (m c : Nat) (Y : List Ms) (hl : Y.length = m) (hnews : ∀ j u, (fm Y)[j]? = some u → w.cell? (ad.add j) = some u) (hb : n + m ≤ 1000000) (hbase : base ≤ w.heap.size) :
    ∃ A' c' w', (Builtin.append_ #[t, t] t #[v, .slice (some ad) m c]).run Try.prog w = .ok (.slice A' (n + m) c') w' ∧ RowE w' base e (.slice A' (n + m) c') (n + m) (X ++ Y) ∧ w.grownBy w' v.ownBlock ∧ ((Value.slice A' (n + m) c').ownBlock = v.ownBlock ∨ (Value.slice A' (n + m) c').ownBlock = some w.heap.size) := by
  obtain ⟨i0, hi, hz0, hz1, hz2⟩ := info_parts hi
  obtain ⟨v', w', h1, h2, h3, _, h5⟩ := run_append_own_at (P := Try.prog) w base t t e i0 _ 3 32 ht hi hz0 hz1 hz2 rfl (by decide) v n (fm X) hown ad m c (fm Y) (by rw [fm_len, hl]) hnews (fm_one Y) (by unfold maxLen; omega) (by omega) hbase
  rw [← fm_app] at h2
  obtain ⟨A', c', rfl, _⟩ := re_form h2
  exact ⟨A', c', w', h1, h2, h3, h5⟩
/-- One message put behind a row: it lies in a block of its own. -/
theorem row_app1 {t e : TypeId} (ht : Try.prog.underlying t = some (.slice e)) (hi : (Try.prog.info? e).map (fun i => (i.zero, i.size, i.bytes)) = some (some (am m0), 3, 32)) (w : World) (base : Nat) (v : Value) (n : Nat) (X : List Ms) (hown : RowE w base e v n X) (m : Ms) (g : Nat) (hg : w.heap[g]? = some (.cells #[.int .i64 m.fr, .int .i64 m.to_, .string (str m.tx)] e (0, 0))) (hb : n + 1 ≤ 1000000) (hbase : base ≤ w.heap.size) :
    ∃ A' c' w', (Builtin.append_ #[t, t] t #[v, .slice (some ⟨g, 0, none⟩) 1 1]).run Try.prog w = .ok (.slice A' (n + 1) c') w' ∧ RowE w' base e (.slice A' (n + 1) c') (n + 1) (X ++ [m]) ∧ w.grownBy w' v.ownBlock ∧ ((Value.slice A' (n + 1) c').ownBlock = v.ownBlock ∨ (Value.slice A' (n + 1) c').ownBlock = some w.heap.size) :=
  row_append ht hi w base v n X hown ⟨g, 0, none⟩ 1 1 [m] rfl (fun j u hu => by
    rw [Addr.add_lit, Nat.zero_add, one_at hg]
    match j, hu with
    | 0, hu => exact hu
    | 1, hu => exact hu
    | 2, hu => exact hu
    | j + 3, hu => simp [fm, em] at hu) hb hbase

section
variable {w w6 : World} {q bi most : Nat} {us : List Bool} {L : List Ms} {fp : Nat → Prop} {cs : List (Option Nat)} {v : Value}
/-! ### Up -/
theorem newinbox_at (W : World) : Calls Try.prog 29 #[] W fun e w' => ∃ c, e = .returned (.chan (some c)) ∧ Ch w' c ∧ W.heap.size ≤ c ∧ Below W.heap.size W w' :=
  (newinbox_any W).mono fun e w' ⟨h1, h2⟩ => ⟨_, h1, by rw [h2]; exact ⟨0, 0, heap_alloc_new _ _⟩, Nat.le_refl _, by rw [h2]; exact (Below.refl _ _).alloc (Nat.le_refl _) _⟩
/-- An inbox stored. -/
theorem No.store (W : NtO w q most us L fp) (hu : cs.map Option.isSome = us) (hf : ∀ g, nin q bi cs v g → fp g) (O0 : No w q bi most cs v L) (hb : Below w.heap.size w w6) {j : Nat} (_hj : j < cs.length) (o : Option Nat) (ho : ∀ c, o = some c → Ch w6 c ∧ w.heap.size ≤ c) :
    NTo w q most (us.set j o.isSome) L fp (w6.setCell ⟨bi, j, none⟩ (.chan o)) := by
  have O := O0.below hb
  have G := grown_set w6 bi j (.chan o)
  have hn : ∀ g, g ≠ bi → g < w6.heap.size → (w6.setCell ⟨bi, j, none⟩ (.chan o)).heap[g]? = w6.heap[g]? := fun g hg hl => G.block g hl fun e => hg (by injection e)
  have chn : ∀ c, Ch w6 c → Ch (w6.setCell ⟨bi, j, none⟩ (.chan o)) c := fun c ⟨s, r, h⟩ => ⟨s, r, (hn c (fun e => no_two O.box (by rw [← e]; exact h) (fun e => by cases e)) (lt_some h)).trans h⟩
  refine NTo.of_no (cs := cs.set j o) (bi := bi) (v := v) W ⟨?_, ?_, fun c hc => ?_, ?_, O.few, O.top, ?_, ?_⟩ ?_ (fun g hg => ?_) ((Kq.of_below hb).trans' (.of_grown G fun g hg => ?_))
  · rw [List.length_set]
    exact (hn q O.q_ne.1 (lt_some O.cells)).trans O.cells
  · rw [one_set O.box]
    simp
  · rcases List.mem_or_eq_of_mem_set hc with h | h
    · exact chn c (O.inb c h)
    · exact chn c (ho c h.symm).1
  · exact re_same O.row fun g hg => hn g (fun e => O.row_ne.2.1 (by rw [← e]; exact hg)) (lt_some (re_block O.row hg).2.choose_spec)
  · rw [List.length_set]; exact O.wide
  · rw [List.length_set]; exact O.wf
  · rw [List.map_set, hu]
  · rcases hg with hg | hg | hg | hg
    · exact .inl (hf g (.inl hg))
    · exact .inl (hf g (.inr (.inl hg)))
    · rcases List.mem_or_eq_of_mem_set hg with h | h
      · exact .inl (hf g (.inr (.inr (.inl h))))
      · exact .inr (ho g h.symm).2
    · exact .inl (hf g (.inr (.inr (.inr hg))))
  · injection hg with hg
    exact hf g (.inr (.inl hg.symm))
def upC (us : List Bool) (k : Int) : Int := if node us.length k = true then 0 else 5
def upS (us : List Bool) (k : Int) (b : Bool) : List Bool := if node us.length k = true then us.set k.toNat b else us
set_option maxHeartbeats 3200000 in
theorem up_any (W : NtO w q most us L fp) (k : Int) (b : Bool) : Calls Try.prog 17 #[.pointer (some ⟨q, 0, none⟩), .int .i64 k, .bool b] w fun e w' => e = .returned (.int .i64 (upC us k)) ∧ NTo w q most (upS us k b) L fp w' := by
  obtain ⟨bi, cs, v, O, hu, hf⟩ := W.ex
  have hl : cs.length = us.length := by rw [← hu, List.length_map]
  obtain ⟨n, hn⟩ : ∃ z, z = us.length := ⟨_, rfl⟩
  have c1 : w.cell? ⟨q, 1, none⟩ = some (.slice (some ⟨bi, 0, none⟩) cs.length cs.length) := one_at (i := 1) O.cells
  rw [hl, ← hn] at c1
  have PL := Lib.hid (node_cell w q _ n _ k c1)
  unfold upC upS
  rw [← hn]
  cases hp : node n k with
  | false =>
    rw [hp] at PL
    simp only [Bool.false_eq_true, if_false]
    have E := Lib.hid (NTo.of_below W (Below.refl _ _))
    clear W O hf hu hl hn
    go_enter Try.func17, Try.ntmps17
    go_wp2_with fail
    refine PL.out.mono ?_
    rintro e w1 ⟨rfl, rfl⟩
    clear PL
    go_wp2
    go_ret
    exact ⟨rfl, E.out⟩
  | true =>
    rw [hp] at PL
    simp only [if_true]
    obtain ⟨h0, h1⟩ := node_iff.1 hp
    obtain ⟨j, rfl⟩ : ∃ j : Nat, k = j := ⟨k.toNat, by omega⟩
    have hj : j < n := by omega
    have hj2 : j < cs.length := by omega
    have b1 : w.cell? ⟨bi, j, none⟩ = some (.chan cs[j]) := box_at O.box hj2
    have f1 : w.frozen? ⟨bi, j, none⟩ = false := one_free O.box
    rw [show ((j : Int)).toNat = j from by omega]
    have ST : Hid (∀ w6, Below w.heap.size w w6 → ∀ o : Option Nat, (∀ c, o = some c → Ch w6 c ∧ w.heap.size ≤ c) → NTo w q most (us.set j o.isSome) L fp (w6.setCell ⟨bi, j, none⟩ (.chan o))) := fun w6 hb o ho => No.store W hu hf O hb hj2 o ho
    have AT : Hid (∀ w6, Below w.heap.size w w6 → w6.cell? ⟨q, 1, none⟩ = some (.slice (some ⟨bi, 0, none⟩) n n) ∧ w6.cell? ⟨bi, j, none⟩ = some (.chan cs[j]) ∧ w6.frozen? ⟨bi, j, none⟩ = false) := fun w6 hb =>
      ⟨(World.cell?_of_block (hb.block q (lt_some O.cells))).trans c1, (World.cell?_of_block (hb.block bi (lt_some O.box))).trans b1, one_free (O.below hb).box⟩
    generalize cs[j] = o at *
    clear W O hf hu hl hn hp hj2
    cases b with
    | false =>
      have E := Lib.hid (ST.out w (Below.refl _ _) none (fun c e => by cases e))
      clear ST AT
      go_enter Try.func17, Try.ntmps17
      go_wp2_with fail
      refine PL.out.mono ?_
      rintro e w1 ⟨rfl, rfl⟩
      clear PL
      go_wp2
      go_ret
      exact ⟨rfl, E.out⟩
    | true =>
      have NI := newinbox_at
      go_enter Try.func17, Try.ntmps17
      go_wp2_with fail
      refine PL.out.mono ?_
      rintro e w1 ⟨rfl, rfl⟩
      clear PL
      go_upto_region 5 with fail
      go_region_with (first
          | (go_at_call 29; refine (NI _).mono ?_; rintro e w6 ⟨c, rfl, hc6, hs6, hb6⟩; have b6 : Below w.heap.size w w6 := ⟨hb6.os, hb6.tape, hb6.output, hb6.size, hb6.block⟩; have a6 := AT.out w6 b6; have s1 := a6.1; have s2 := a6.2.1; have s3 := a6.2.2; have E6 := Lib.hid (ST.out w6 b6 (some c) (fun c' e => by injection e with e; subst e; exact ⟨hc6, hs6⟩)); clear hb6 hc6 a6 b6))
      all_goals
        go_wp2
        go_ret
        exact ⟨rfl, E6.out⟩
end
end Nt
end Go.Proofs.Ytenlblembdnniaa
