/- The document's purse in memory: new; its move. -/
import Derived.Test.YtchlbkfkecpodaaPuQ
namespace Go.Proofs.Ytchlbkfkecpodaa
set_option maxRecDepth 100000
open Go.RowKit
open Go.Sort (grow)
open Go.Proofs.Ytchlbkfkecpodaa.Pk (one_at one_free one_set lt_some adr_block)
namespace Pu
open Wt (Opn mayOp)

abbrev DLineT : TypeId := 117
/-- What a call on it leaves. -/
abbrev RTo (w : World) (d : Nat) (fp : Nat → Prop) (p : S) (w' : World) : Prop := MvTo DLineT fp w d fp p w'
theorem RTo.then {w w1 w2 : World} {d : Nat} {fp : Nat → Prop} {p p' : S} (h : RTo w d fp p w1) (k : RTo w1 d (grq fp w w1) p' w2) : RTo w d fp p' w2 := by
  obtain ⟨h1, h2⟩ := h
  obtain ⟨k1, k2⟩ := k
  rw [grq_grq h2.size k2.size] at k1
  exact ⟨k1, h2.trans k2⟩
theorem RTo.put {w w1 : World} {d : Nat} {fp : Nat → Prop} {p : S} (h : RTo w d fp p w1) {k : Nat} (hk : k ≤ 200) (e : E) : RTo w d fp (Pu.put p (k : Int) e) (w1.setCells d (6 + k * 5) (entc e)) :=
  h.then (MvTo.of_same (h.1.put hk e) ((Kt.of_cells _ _ _ _ (by show 6 + k * 5 + 5 ≤ 1012; omega)).mono fun g hg => by rw [hg]; exact h.1.pin))
theorem RTo.drew {w w1 : World} {d : Nat} {fp : Nat → Prop} {p : S} (h : RTo w d fp p w1) : RTo w d fp p w1.drew := ⟨h.1.keep (Nat.le_refl _) fun _ _ => rfl, h.2.drew⟩
theorem RTo.wide {w w0 w1 : World} {d : Nat} {fp : Nat → Prop} {p : S} (h : RTo w d fp p w1) (_hs : w0.heap.size ≤ w.heap.size) : RTo w d (grq fp w0 w) p w1 := by
  refine ⟨h.1.mono (fun g hg => ?_) (fun g hg => ?_), h.2.mono fun g hg => .inl hg⟩
  · rcases hg with hg | hg
    · exact .inl (.inl hg)
    · exact .inr hg
  · rcases hg with (hg | ⟨_, hg⟩) | ⟨_, hg⟩
    · exact h.1.size g (.inl hg)
    · exact Nat.lt_of_lt_of_le hg h.2.size
    · exact hg
/-- A move put behind its row. -/
theorem drow_stored {w w3 w4 : World} {d n c c' : Nat} {A A' : Option Addr} {p : S} {fp : Nat → Prop} {x : Ln} (L : Lax DLineT w d p fp) (D : Pm w d p (.slice A n c)) (_R : RowT DLineT w 0 (.slice A n c) n p.l) (hne : (Value.slice A n c).ownBlock ≠ some d) (hv : ∀ g, (Value.slice A n c).ownBlock = some g → fp g)
    (hb : Below w.heap.size w w3) (R4 : RowT DLineT w4 0 (.slice A' (n + 1) c') (n + 1) (p.l ++ [x])) (hg : w3.grownBy w4 (Value.slice A n c).ownBlock) (hA : (Value.slice A' (n + 1) c').ownBlock = (Value.slice A n c).ownBlock ∨ (Value.slice A' (n + 1) c').ownBlock = some w3.heap.size) :
    RTo w d fp ⟨p.a, p.f, p.l ++ [x]⟩ (w4.setCell ⟨d, 1011, none⟩ (.slice A' (n + 1) c')) := by
  have hd := L.size d L.pin
  have D3 := D.below hb
  have D4 : Pm w4 d p (.slice A n c) := D3.keep (hg.block d (Nat.lt_of_lt_of_le hd hb.size) (fun e => hne e.symm))
  have D5 := D4.lines (.slice A' (n + 1) c') (p.l ++ [x])
  have K4 : Kt d fp w w4 := (Kt.of_below hd hb).self ((Kt.of_grown (Nat.lt_of_lt_of_le hd hb.size) (fun e => hne e.symm) hg (S := fp) fun g h => hv g h))
  have K5 : Kt d fp w (w4.setCell ⟨d, 1011, none⟩ (.slice A' (n + 1) c')) := K4.self (by rw [set1]; exact (Kt.of_cells _ _ _ _ (Nat.le_refl _)).mono fun g hg => by rw [hg]; exact L.pin)
  have hn := rt_len R4
  have hA' : ∀ g, (Value.slice A' (n + 1) c').ownBlock = some g → g ≠ d ∧ grq fp w (w4.setCell ⟨d, 1011, none⟩ (.slice A' (n + 1) c')) g := fun g h => by
    rcases hA with e | e
    · rw [e] at h
      exact ⟨fun e' => hne (by rw [h, e']), .inl (hv g h)⟩
    · have hl := rt_lt R4 h
      rw [e] at h
      injection h with h
      refine ⟨by rw [← h]; have := hb.size; omega, .inr ⟨by rw [← h]; exact hb.size, ?_⟩⟩
      rw [set1, (setCells_block d _ _ w4).1]
      exact hl
  refine ⟨⟨.inl L.pin, fun g hg => ?_, .slice A' (n + 1) c', D5, ?_, fun e => (hA' d e).1 rfl, fun g hg => (hA' g hg).2⟩, K5⟩
  · rcases hg with hg | ⟨_, hg⟩
    · exact Nat.lt_of_lt_of_le (L.size g hg) K5.size
    · exact hg
  · show RowT DLineT _ 0 _ (p.l ++ [x]).length (p.l ++ [x])
    rw [hn]
    refine rt_same R4 fun g hg => ?_
    rw [set1]
    exact (setCells_block d _ _ w4).2.2.2.2 g (hA' g hg).1
set_option maxHeartbeats 3200000 in
theorem refmove_any (w : World) (d : Nat) (p : S) (fp : Nat → Prop) (L : Lax DLineT w d p fp) (b am : Int) (fr tg : Nat) (hf : fr ≤ 5) (ht : tg ≤ 5) (hft : fr ≠ tg) (few : p.l.length ≤ 900)
    (s1 : 0 ≤ p.a fr ∧ p.a fr ≤ 4398046511104) (s2 : 0 ≤ p.a tg ∧ p.a tg ≤ 4398046511104) (m : 0 ≤ am ∧ am ≤ 1099511627776) :
    Calls Try.prog 79 #[.pointer (some ⟨d, 0, none⟩), .int .i64 b, .int .i64 (fr : Int), .int .i64 (tg : Int), .int .i64 am] w fun e w' => e = .returned (.tuple #[]) ∧ RTo w d fp (mv p b fr tg am) w' := by
  obtain ⟨v, D, R, hne, hv⟩ := L.at_
  obtain ⟨A, c, rfl, hnc, hc63, -⟩ := rt_form R
  obtain ⟨x1, hx1⟩ : ∃ x, x = p.a (fr : Int) := ⟨_, rfl⟩
  obtain ⟨x2, hx2⟩ : ∃ x, x = p.a (tg : Int) := ⟨_, rfl⟩
  have c1 := D.acc fr hf
  have q1 := D.free fr
  rw [← hx1] at s1 c1
  rw [← hx2] at s2
  obtain ⟨y1, hy1⟩ : ∃ x, x = x1 - am := ⟨_, rfl⟩
  obtain ⟨y2, hy2⟩ : ∃ x, x = x2 + am := ⟨_, rfl⟩
  have v1 : IntKind.i64.wrap (x1 - am) = y1 := by rw [IntKind.wrap_i64]; omega
  have v2 : IntKind.i64.wrap (x2 + am) = y2 := by rw [IntKind.wrap_i64]; omega
  obtain ⟨W1, hW1⟩ : ∃ W, W = (w.setCell ⟨d, fr, none⟩ (.int .i64 y1)).drew := ⟨_, rfl⟩
  have D1 : Pm W1 d ⟨upd p.a (fr : Int) y1, p.f, p.l⟩ (.slice A p.l.length c) := by rw [hW1]; exact (D.acct hf y1).keep rfl
  have c2 := D1.acc tg ht
  have q2 := D1.free tg
  rw [show (⟨upd p.a (fr : Int) y1, p.f, p.l⟩ : S).a (tg : Int) = x2 by rw [hx2]; exact upd_other (by omega)] at c2
  obtain ⟨W2, hW2⟩ : ∃ W, W = (W1.setCell ⟨d, tg, none⟩ (.int .i64 y2)).drew := ⟨_, rfl⟩
  have K2 : Kt d fp w W2 := by
    have k1 : Kt d (fun g => g = d) w W1 := by rw [hW1, set1]; exact (Kt.of_cells _ _ _ _ (by show fr + 1 ≤ 1012; omega)).drew
    have k2 : Kt d (fun g => g = d) W1 W2 := by rw [hW2, set1]; exact (Kt.of_cells _ _ _ _ (by show tg + 1 ≤ 1012; omega)).drew
    exact (k1.self k2).mono fun g hg => by rw [hg]; exact L.pin
  have D2 : Pm W2 d ⟨mvA p.a fr tg am, p.f, p.l⟩ (.slice A p.l.length c) := by
    have e : mvA p.a fr tg am = upd (upd p.a (fr : Int) y1) (tg : Int) y2 := by rw [mvA, hy1, hy2, hx1, hx2]
    rw [e, hW2]
    exact (D1.acct ht y2).keep rfl
  have KD : Kq (fun g => g = d) w W2 := by
    have k1 : Kq (fun g => g = d) w W1 := by rw [hW1, set1]; exact (Kq.of_cells _ _ _ _).drew
    have k2 : Kq (fun g => g = d) W1 W2 := by rw [hW2, set1]; exact (Kq.of_cells _ _ _ _).drew
    exact k1.self k2
  have R2 : RowT DLineT W2 0 (.slice A p.l.length c) p.l.length p.l := rt_same R fun g hg => KD.block g (rt_lt R hg) (fun e => hne (by rw [hg, e]))
  have L2 : Lax DLineT W2 d ⟨mvA p.a fr tg am, p.f, p.l⟩ fp := ⟨L.pin, fun g hg => Nat.lt_of_lt_of_le (L.size g hg) K2.size, _, D2, R2, hne, hv⟩
  obtain ⟨W3, hW3⟩ : ∃ W, W = W2.alloc (.cells #[.int .i64 b, .int .i64 (fr : Int), .int .i64 (tg : Int), .int .i64 am] 117) := ⟨_, rfl⟩
  have B3 : Below W2.heap.size W2 W3 := by rw [hW3]; exact (Below.refl _ _).alloc (Nat.le_refl _) _
  have G3 : W3.heap[W2.heap.size]? = some (.cells (lnc ⟨b, fr, tg, am⟩).toArray 117 (0, 0)) := by rw [hW3]; exact heap_alloc_new _ _
  have R3 := rt_below R2 B3
  obtain ⟨n, hn⟩ : ∃ n, n = p.l.length := ⟨_, rfl⟩
  rw [← hn] at R3 R2 D2 hne hv few hnc
  obtain ⟨A4, c4, w4, r4, R4, g4, h4⟩ := row_app1 dlines_append dline_info W3 0 _ n p.l R3 ⟨b, fr, tg, am⟩ W2.heap.size G3 (by omega) (Nat.zero_le _)
  have FR := drow_stored L2 D2 R2 hne hv B3 R4 g4 h4
  have F : Hid (RTo w d fp (mv p b fr tg am) (w4.setCell ⟨d, 1011, none⟩ (.slice A4 (n + 1) c4))) := RTo.then (MvTo.of_same L2 K2) (FR.wide K2.size)
  have e2 : W2.cell? ⟨d, 1011, none⟩ = some (.slice A n c) := D2.lin
  have hd4 : w4.heap[d]? = W3.heap[d]? := g4.block d (Nat.lt_of_lt_of_le (L2.size d L2.pin) B3.size) (fun e => hne e.symm)
  have e4 : w4.cell? ⟨d, 1011, none⟩ = some (.slice A n c) := ((D2.below B3).keep hd4).lin
  have q4 : w4.frozen? ⟨d, 1011, none⟩ = false := ((D2.below B3).keep hd4).free _
  have z2 := Lib.hid e2
  have f0 : (0 : Int) ≤ (fr : Int) := by omega
  have f6 : (fr : Int) < 6 := by omega
  have t0 : (0 : Int) ≤ (tg : Int) := by omega
  have t6 : (tg : Int) < 6 := by omega
  replace hW1 := Lib.hid hW1
  replace hW2 := Lib.hid hW2
  replace hW3 := Lib.hid hW3
  replace hn := Lib.hid hn
  clear D R hne hv hx1 hx2 hy1 hy2 D1 K2 D2 KD R2 L2 B3 G3 R3 R4 g4 h4 FR hd4 L s1 s2 m hft e2
  go_enter Try.func79, Try.ntmps79
  go_upto_region 0 with fail
  go_still_tail 13, (by kernel_rfl)
  change wpList _ _ _ _ _ w.drew
  go_upto_region 1 with fail
  rw [← hW1.out]
  clear c1 q1
  go_still_tail 13, (by kernel_rfl)
  change wpList _ _ _ _ _ W1.drew
  go_upto_region 2 with fail
  rw [← hW2.out]
  clear c2 q2
  have e2 := z2.out
  go_wp2_with (at_builtin; rw [← hW3.out]; refine wpList_run_app rfl (.tmp 40) (.tmp 46) rfl rfl _ _ rfl rfl r4 ?_)
  go_end0
  exact ⟨rfl, F.out⟩
end Pu
end Go.Proofs.Ytchlbkfkecpodaa
