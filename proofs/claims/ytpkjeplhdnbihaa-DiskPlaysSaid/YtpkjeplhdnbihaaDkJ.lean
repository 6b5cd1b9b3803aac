/- Copy. -/
import Derived.Test.YtpkjeplhdnbihaaDkH
namespace Go.Proofs.Ytpkjeplhdnbihaa
open Go.RowKit
open Go.Proofs.Ytpkjeplhdnbihaa.Pk
namespace Dk

theorem put_end {α : Type} {x : Bs} {a : α} : ∀ {X : List (Bs × α)}, Rise (X ++ [(x, a)]) → put x a X = X ++ [(x, a)]
  | [], _ => rfl
  | q :: X, h => by
    obtain ⟨h1, h2⟩ := List.pairwise_cons.1 (show (q :: (X ++ [(x, a)])).Pairwise _ from h)
    have hq := h1 (x, a) (by simp)
    have e1 : q.1 ≠ x := bb_ne hq
    have e2 : ¬ bytesBefore x q.1 = true := by rw [bb_asym hq]; simp
    show put x a (q :: X) = q :: (X ++ [(x, a)])
    rw [put, if_neg e1, if_neg e2, put_end h2]
theorem put_take {L : St} {k : Nat} {x : Bs} {a : Bs × Nat} (h : L[k]? = some (x, a)) (hr : Rise L) : put x a (L.take k) = L.take (k + 1) := by
  have e : L.take (k + 1) = L.take k ++ [(x, a)] := by rw [List.take_add_one, h]; rfl
  rw [e]
  exact put_end (by rw [← e]; exact List.Pairwise.sublist (List.take_sublist _ _) hr)
theorem sum_take_le {α : Type} (f : α → Nat) (l : List (Bs × α)) (k : Nat) : sum f (l.take k) ≤ sum f l := by
  have : sum f l = sum f (l.take k) + sum f (l.drop k) := by
    unfold sum
    rw [← List.sum_append, ← List.map_append, List.take_append_drop]
  omega
theorem look_take {L : St} {k : Nat} {x : Bs} {a : Bs × Nat} (h : L[k]? = some (x, a)) (hr : Rise L) : look x (L.take k) = none := by
  refine look_none.2 fun p hp e => ?_
  obtain ⟨i, hi, hpi⟩ := List.getElem_of_mem hp
  have hik : i < k := by have := hi; rw [List.length_take] at this; omega
  obtain ⟨hk, hx⟩ := List.getElem?_eq_some_iff.1 h
  have := List.pairwise_iff_getElem.1 hr i k (by omega) hk hik
  rw [List.getElem_take] at hpi
  rw [hpi, hx] at this
  exact bb_ne this e

/-- What Copy answers. -/
def CopyTo (w : World) (room : Nat) (L : St) (e : Ending) (w' : World) : Prop :=
  ∃ q, e = .returned (.pointer (some ⟨q, 0, none⟩)) ∧ w.heap.size ≤ q ∧ Disk w' q room L (fun g => w.heap.size ≤ g ∧ g < w'.heap.size) ∧ Below w.heap.size w w'
def CpAt (w w1 : World) (q room : Nat) (L : St) (i : Value) (wr : World) : Prop :=
  ∃ k : Nat, i = .int .i64 (k : Nat) ∧ k ≤ L.length ∧ DTo w1 q room (fun g => g = q) (L.take k) wr ∧ Below w.heap.size w wr

set_option maxHeartbeats 3200000 in
set_option maxRecDepth 20000 in
theorem copy_any (w : World) (p room : Nat) (L : St) (fp : Nat → Prop) (D : Disk w p room L fp) (hl : L.length ≤ 1000000) :
    Calls Try.prog 23 #[.pointer (some ⟨p, 0, none⟩)] w (CopyTo w room L) := by
  have hrise : Rise L := by obtain ⟨mo, l, D, rfl⟩ := D; exact (rise_vals abs).2 D.rise
  have hroom : used L ≤ room ∧ room ≤ 1000000 := by obtain ⟨mo, l, D, rfl⟩ := D; exact ⟨by rw [used_abs]; exact D.fits, D.most⟩
  have hp : p < w.heap.size := by obtain ⟨mo, l, D, rfl⟩ := D; exact lt_some D.cells
  have c0 : w.cell? ⟨p, 0, none⟩ = some (.int .i64 room) := by obtain ⟨mo, l, D, rfl⟩ := D; exact one_at (i := 0) D.cells
  have hB0 : Below w.heap.size w (w.alloc (.cells #[.int .i64 room, .int .i64 0, .map none] 57)) := (Below.refl _ _).alloc (Nat.le_refl _) _
  have N : Calls Try.prog 29 #[.pointer (some ⟨p, 0, none⟩)] (w.alloc (.cells #[.int .i64 room, .int .i64 0, .map none] 57)) (NamesTo (w.alloc (.cells #[.int .i64 room, .int .i64 0, .map none] 57)) (L.map (·.1))) := by
    obtain ⟨mo, l, d, rfl⟩ := D.below hB0
    have := names_dsk _ p room mo l fp d (by rw [len_vals] at hl; exact hl)
    simpa [vals, List.map_map, Function.comp_def] using this
  have Q0 : Disk (w.alloc (.cells #[.int .i64 room, .int .i64 0, .map none] 57)) w.heap.size room [] (fun g => g = w.heap.size) := ⟨none, [], dsk_new w room hroom.2, rfl⟩
  replace N := Lib.hid N
  replace D := Lib.hid D
  replace hrise := Lib.hid hrise
  replace hroom := Lib.hid hroom
  replace hB0 := Lib.hid hB0
  replace Q0 := Lib.hid Q0
  obtain ⟨n, hn⟩ : ∃ n, n = L.length := ⟨_, rfl⟩
  rw [← hn] at hl
  replace hn := Lib.hid hn
  go_enter Try.func23, Try.ntmps23
  go_wp2_with fail
  refine N.out.mono ?_
  rintro e w1 ⟨v, rfl, hown, hb⟩
  obtain ⟨A, c, rfl⟩ := own_form hown
  rw [List.length_map, ← hn.out] at hown ⊢
  have Q1 : Hid (Disk w1 w.heap.size room [] (fun g => g = w.heap.size)) := Q0.out.below hb
  have hb0 : Hid (Below w.heap.size w w1) := hB0.out.trans (hb.mono hB0.out.size)
  have hqr : Hid (w.heap.size < w1.heap.size) := by
    have := hb.size
    simp only [World.alloc, Array.size_push] at this
    unfold Hid
    omega
  replace hown := Lib.hid (own_mono hown (base' := w.heap.size + 1) (by simp))
  clear N hB0 Q0 hb c0
  obtain ⟨q, hq⟩ : ∃ q, q = w.heap.size := ⟨_, rfl⟩
  rw [← hq] at Q1
  rw [← hq]
  replace hq := Lib.hid hq
  have st : Hid (CpAt w w1 q room L (.int .i64 0) w1) := ⟨0, rfl, Nat.zero_le _, DTo.of_below Q1.out (Below.refl _ _), hb0.out⟩
  go_wp2_with fail
  go_loopw [18] (fun i wr => CpAt w w1 q room L i wr) (fun i _ => n - (intOf i).toNat)
  case atStart => exact st.out
  case round =>
    obtain ⟨k, rfl, hk, hd, hbw⟩ := hrel
    replace hd := Lib.hid hd
    replace hbw := Lib.hid hbw
    by_cases hlt : k < n
    · obtain ⟨⟨x, a⟩, hx⟩ : ∃ r, L[k]? = some r := ⟨_, List.getElem?_eq_getElem (by have := hn.out; omega)⟩
      have hk0 : 0 < n := by omega
      obtain ⟨g, rfl, hgl, hcell⟩ : ∃ g, A = some ⟨g, 0, none⟩ ∧ (w.heap.size + 1 ≤ g ∧ g < w1.heap.size) ∧ w1.cell? ⟨g, k, none⟩ = some (.string (str x)) := by
        have ho := hown.out
        rcases ho.2 with ⟨_, h0⟩ | ⟨g, cap, cur, hv, hb1, hh, _⟩
        · omega
        · injection hv with hA _ _
          subst hA
          refine ⟨g, rfl, ⟨hb1, lt_some hh⟩, ?_⟩
          have := ho.cells (g := g) rfl k (.string (str x)) (by rw [List.map_map, List.getElem?_map, hx]; rfl)
          simpa [Addr.add_lit] using this
      have hkp := hd.out.2
      have e0 : wr.cell? ⟨g, k, none⟩ = some (.string (str x)) := (World.cell?_of_block (hkp.block g hgl.2 (fun e => by have := hq.out; omega))).trans hcell
      obtain ⟨mo, l, d, hL⟩ := D.out.below hbw.out
      have hlk := mem_look hrise.out (List.mem_of_getElem? hx)
      rw [hL, look_vals] at hlk
      cases hf : look x l with
      | none => rw [hf] at hlk; cases hlk
      | some f =>
      rw [hf] at hlk
      have ha : abs f = a := by injection hlk
      have hm := look_mem hf
      obtain ⟨⟨A', c', hv, h1, h2, h3⟩, hn20, hks⟩ := d.head _ hm
      have hrow := (d.rows _ hm (by simp)).1
      simp only at hv h1 hn20 hks
      have hz : f.s.length ≤ 1000000 := Nat.le_trans (Nat.le_trans (le_sum use hm) d.fits) d.most
      rw [hv] at hrow
      have R : Rb wr (Row wr) A' f.s.length f.s := (Rb.of_own hrow).keep (fun _ _ => rfl) (fun _ h => h.2)
      have LK : Hid ((Instr.lookup 55 (.map mo) (.string (str x)) false).run Try.prog wr = .ok (.agg #[.slice A' f.s.length c', .int .i64 f.k]) wr) := by
        have := look_run wr mo l (str x) d.map (by have : (str x).size = x.length := by simp [str, ByteArray.size]
                                                   rw [this]; unfold maxLen; omega)
        rw [nm_str, hf] at this
        simp only [Option.elim, cell] at this
        rw [hv] at this
        exact this
      have c2 : wr.cell? ⟨p, 2, none⟩ = some (.map mo) := one_at (i := 2) d.cells
      have hC : Hid (∀ W : World, Below wr.heap.size wr W → Calls Try.prog 38 #[.slice A' f.s.length c'] W (Copied W f.s.length f.s)) := fun W hb =>
        clone_any W A' _ c' f.s (R.row fun g hg => hb.block g hg.lt) (fun g hg => hg.lt) (by omega) h3
      obtain ⟨mo', l', d', hL'⟩ := hd.out.1
      have hll : l'.length ≤ 1000000 := by have := congrArg List.length hL'; rw [len_vals, List.length_take] at this; have := hn.out; omega
      have hG : Hid (∀ (W : World) (v : Value), Below wr.heap.size wr W → W.ownsRow wr.heap.size 5 1 v f.s.length (u8s f.s) →
          Calls Try.prog 31 #[.pointer (some ⟨q, 0, none⟩), .string (str x), .agg #[v, .int .i64 f.k]] W fun e w' => e = .returned (.tuple #[]) ∧ CpAt w w1 q room L (.int .i64 ((k : Int) + 1)) w') := fun W v hb O => by
        have hlk' : look x l' = none := by
          have := look_take hx hrise.out
          rw [hL', look_vals] at this
          cases h : look x l' with
          | none => rfl
          | some y => rw [h] at this; cases this
        have hput : put x (abs ⟨v, f.s, f.k⟩) (vals abs l') = L.take (k + 1) := by
          rw [← hL', ← put_take hx hrise.out, ← ha]; rfl
        have hsm : sum use l' + f.s.length ≤ room := by
          have e1 : used (L.take (k + 1)) = sum use l' + f.s.length := by
            have := sum_put use x (⟨v, f.s, f.k⟩ : Fil) d'.rise
            rw [hlk'] at this
            rw [← hput, ← put_vals, used_abs]
            simpa [use] using this
          have e2 : used (L.take (k + 1)) ≤ used L := sum_take_le _ L (k + 1)
          have := hroom.out.1
          omega
        obtain ⟨g1, g2⟩ := fits_new (n := x) (k := f.k) d' hb O hn20 hks (by omega)
        have := put_any (str x) W q room mo' l' (gr (gr (fun g => g = q) w1 wr) wr W) ⟨v, f.s, f.k⟩ (by rw [nm_str]; exact g1) (by rw [nm_str]; exact g2) hll
        refine this.mono fun e w' h => ⟨h.1, k + 1, by simp, by have := hn.out; omega, ?_, ?_⟩
        · have h2 := h.2.dto (.of_below hb)
          rw [nm_str, hput] at h2
          exact hd.out.trans h2
        · have h2 := h.2.dto (.of_below hb)
          refine hbw.out.trans (h2.2.below (fun g hg => ?_) hbw.out.size)
          rcases hg with rfl | ⟨hg, _⟩
          · have := hq.out; omega
          · have := hb0.out.size; omega
      have i1 : (k : Int) < (n : Int) := by omega
      have L1 := LK.out
      clear hx hcell hgl hk0 hkp d d' hL hL' hlk hf ha hm hv h1 h2 h3 hn20 hks hrow hz R hll LK
      generalize f.s = bs at *
      generalize f.k = ky at *
      go_wp2_with fail
      clear e0 c2 L1
      have B : Hid (Below wr.heap.size wr (wr.alloc (.cells #[.slice A' bs.length c', .int .i64 ky] 60))) := (Below.refl _ _).alloc (Nat.le_refl _) _
      have C := Lib.hid (hC.out _ B.out)
      clear hC
      refine C.out.mono ?_
      rintro e w2 ⟨v, rfl, hown2, hb2⟩
      obtain ⟨A2, c2, rfl⟩ := own_form hown2
      have hq2 : w2.heap[wr.heap.size]? = some (.cells #[.slice A' bs.length c', .int .i64 ky] 60 (0, 0)) := (hb2.block _ (by simp)).trans (heap_alloc_new _ _)
      have q0 : w2.cell? ⟨wr.heap.size, 0, none⟩ = some (.slice A' bs.length c') := one_at (i := 0) hq2
      have q1 : w2.cell? ⟨wr.heap.size, 1, none⟩ = some (.int .i64 ky) := one_at (i := 1) hq2
      have qf : w2.frozen? ⟨wr.heap.size, 0, none⟩ = false := one_free hq2
      have B3 : Below wr.heap.size wr (w2.setCell ⟨wr.heap.size, 0, none⟩ (.slice A2 bs.length c2)) := (B.out.trans (hb2.mono B.out.size)).setCell (Nat.le_refl _) _
      have G := Lib.hid (hG.out _ _ B3 (own_mono (own_same hown2 fun g hg => Below.heap_setCell _ _ _ _ (by
        have := (own_block hown2 hg).1
        simp at this
        show g ≠ wr.heap.size
        omega)) (by simp)))
      clear hown2 hb2 C B B3 hG hq2
      generalize wr.heap.size = r at *
      go_wp2_with fail
      refine G.out.mono ?_
      rintro e w3 ⟨rfl, nx⟩
      replace nx := Lib.hid nx
      clear G q0 q1 qf
      go_wp2
      exact ⟨nx.out, by simp [intOf]; omega⟩
    · obtain rfl : k = n := by have := hn.out; omega
      have E : Hid (CopyTo w room L (.returned (.pointer (some ⟨q, 0, none⟩))) wr) := by
        have := hd.out
        rw [hn.out, List.take_length] at this
        obtain ⟨⟨mo, l, d, e⟩, kk⟩ := this
        refine ⟨q, rfl, by have := hq.out; omega, ⟨mo, l, d.mono (fun g hg => ?_) (fun g hg => hg.2), e⟩, hbw.out⟩
        refine ⟨?_, d.size g hg⟩
        rcases hg with rfl | ⟨h, _⟩
        · have := hq.out; omega
        · have := hb0.out.size; omega
      go_wp2
      go_ret
      exact E.out
end Dk
end Go.Proofs.Ytpkjeplhdnbihaa
