/- The document's purse: Bytes. -/
import Derived.Test.YtchlbkfkecpodaaPoY
import Derived.Test.YtchlbkfkecpodaaWtC
import Derived.Test.YtchlbkfkecpodaaPkR
import Derived.Lib.QuietBelow
namespace Go.Proofs.Ytchlbkfkecpodaa
set_option maxRecDepth 100000
open Go.RowKit
open Go.Sort (grow)
open Go.Proofs.Ytchlbkfkecpodaa.Pk (one_at one_free one_set lt_some adr_block)
namespace Pu
open Wt (Opn mayOp)

abbrev DLineT : TypeId := 117
/-- What a call on it leaves. -/
abbrev RTo (w : World) (d : Nat) (fp : Nat → Prop) (p : S) (w' : World) : Prop := MvTo DLineT fp w d fp p w'
theorem RTo.then {w w1 w2 : World} {d : Nat} {fp : Nat → Prop} {p p' : S} (h : RTo w d fp p w1) (k : RTo w1 d (grq fp w w1) p' w2) : RTo w d fp p' w2 := by
  obtain ⟨h1, h2⟩ := h
  obtain ⟨k1, k2⟩ := k
  rw [grq_grq h2.size k2.size] at k1
  exact ⟨k1, h2.trans k2⟩
theorem RTo.put {w w1 : World} {d : Nat} {fp : Nat → Prop} {p : S} (h : RTo w d fp p w1) {k : Nat} (hk : k ≤ 200) (e : E) : RTo w d fp (Pu.put p (k : Int) e) (w1.setCells d (6 + k * 5) (entc e)) :=
  h.then (MvTo.of_same (h.1.put hk e) ((Kt.of_cells _ _ _ _ (by show 6 + k * 5 + 5 ≤ 1012; omega)).mono fun g hg => by rw [hg]; exact h.1.pin))
theorem RTo.drew {w w1 : World} {d : Nat} {fp : Nat → Prop} {p : S} (h : RTo w d fp p w1) : RTo w d fp p w1.drew := ⟨h.1.keep (Nat.le_refl _) fun _ _ => rfl, h.2.drew⟩
theorem RTo.wide {w w0 w1 : World} {d : Nat} {fp : Nat → Prop} {p : S} (h : RTo w d fp p w1) (_hs : w0.heap.size ≤ w.heap.size) : RTo w d (grq fp w0 w) p w1 := by
  refine ⟨h.1.mono (fun g hg => ?_) (fun g hg => ?_), h.2.mono fun g hg => .inl hg⟩
  · rcases hg with hg | hg
    · exact .inl (.inl hg)
    · exact .inr hg
  · rcases hg with (hg | ⟨_, hg⟩) | ⟨_, hg⟩
    · exact h.1.size g (.inl hg)
    · exact Nat.lt_of_lt_of_le hg h.2.size
    · exact hg
/-- A move put behind its row. -/
theorem drow_stored {w w3 w4 : World} {d n c c' : Nat} {A A' : Option Addr} {p : S} {fp : Nat → Prop} {x : Ln} (L : Lax DLineT w d p fp) (D : Pm w d p (.slice A n c)) (_R : RowT DLineT w 0 (.slice A n c) n p.l) (hne : (Value.slice A n c).ownBlock ≠ some d) (hv : ∀ g, (Value.slice A n c).ownBlock = some g → fp g)
    (hb : Below w.heap.size w w3) (R4 : RowT DLineT w4 0 (.slice A' (n + 1) c') (n + 1) (p.l ++ [x])) (hg : w3.grownBy w4 (Value.slice A n c).ownBlock) (hA : (Value.slice A' (n + 1) c').ownBlock = (Value.slice A n c).ownBlock ∨ (Value.slice A' (n + 1) c').ownBlock = some w3.heap.size) :
    RTo w d fp ⟨p.a, p.f, p.l ++ [x]⟩ (w4.setCell ⟨d, 1011, none⟩ (.slice A' (n + 1) c')) := by
  have hd := L.size d L.pin
  have D3 := D.below hb
  have D4 : Pm w4 d p (.slice A n c) := D3.keep (hg.block d (Nat.lt_of_lt_of_le hd hb.size) (fun e => hne e.symm))
  have D5 := D4.lines (.slice A' (n + 1) c') (p.l ++ [x])
  have K4 : Kt d fp w w4 := (Kt.of_below hd hb).self ((Kt.of_grown (Nat.lt_of_lt_of_le hd hb.size) (fun e => hne e.symm) hg (S := fp) fun g h => hv g h))
  have K5 : Kt d fp w (w4.setCell ⟨d, 1011, none⟩ (.slice A' (n + 1) c')) := K4.self (by rw [set1]; exact (Kt.of_cells _ _ _ _ (Nat.le_refl _)).mono fun g hg => by rw [hg]; exact L.pin)
  have hn := rt_len R4
  have hA' : ∀ g, (Value.slice A' (n + 1) c').ownBlock = some g → g ≠ d ∧ grq fp w (w4.setCell ⟨d, 1011, none⟩ (.slice A' (n + 1) c')) g := fun g h => by
    rcases hA with e | e
    · rw [e] at h
      exact ⟨fun e' => hne (by rw [h, e']), .inl (hv g h)⟩
    · have hl := rt_lt R4 h
      rw [e] at h
      injection h with h
      refine ⟨by rw [← h]; have := hb.size; omega, .inr ⟨by rw [← h]; exact hb.size, ?_⟩⟩
      rw [set1, (setCells_block d _ _ w4).1]
      exact hl
  refine ⟨⟨.inl L.pin, fun g hg => ?_, .slice A' (n + 1) c', D5, ?_, fun e => (hA' d e).1 rfl, fun g hg => (hA' g hg).2⟩, K5⟩
  · rcases hg with hg | ⟨_, hg⟩
    · exact Nat.lt_of_lt_of_le (L.size g hg) K5.size
    · exact hg
  · show RowT DLineT _ 0 _ (p.l ++ [x]).length (p.l ++ [x])
    rw [hn]
    refine rt_same R4 fun g hg => ?_
    rw [set1]
    exact (setCells_block d _ _ w4).2.2.2.2 g (hA' g hg).1
set_option maxHeartbeats 3200000 in
theorem refmove_any (w : World) (d : Nat) (p : S) (fp : Nat → Prop) (L : Lax DLineT w d p fp) (b am : Int) (fr tg : Nat) (hf : fr ≤ 5) (ht : tg ≤ 5) (hft : fr ≠ tg) (few : p.l.length ≤ 900)
    (s1 : 0 ≤ p.a fr ∧ p.a fr ≤ 4398046511104) (s2 : 0 ≤ p.a tg ∧ p.a tg ≤ 4398046511104) (m : 0 ≤ am ∧ am ≤ 1099511627776) :
    Calls Try.prog 79 #[.pointer (some ⟨d, 0, none⟩), .int .i64 b, .int .i64 (fr : Int), .int .i64 (tg : Int), .int .i64 am] w fun e w' => e = .returned (.tuple #[]) ∧ RTo w d fp (mv p b fr tg am) w' := by
  obtain ⟨v, D, R, hne, hv⟩ := L.at_
  obtain ⟨A, c, rfl, hnc, hc63, -⟩ := rt_form R
  obtain ⟨x1, hx1⟩ : ∃ x, x = p.a (fr : Int) := ⟨_, rfl⟩
  obtain ⟨x2, hx2⟩ : ∃ x, x = p.a (tg : Int) := ⟨_, rfl⟩
  have c1 := D.acc fr hf
  have q1 := D.free fr
  rw [← hx1] at s1 c1
  rw [← hx2] at s2
  obtain ⟨y1, hy1⟩ : ∃ x, x = x1 - am := ⟨_, rfl⟩
  obtain ⟨y2, hy2⟩ : ∃ x, x = x2 + am := ⟨_, rfl⟩
  have v1 : IntKind.i64.wrap (x1 - am) = y1 := by rw [IntKind.wrap_i64]; omega
  have v2 : IntKind.i64.wrap (x2 + am) = y2 := by rw [IntKind.wrap_i64]; omega
  obtain ⟨W1, hW1⟩ : ∃ W, W = (w.setCell ⟨d, fr, none⟩ (.int .i64 y1)).drew := ⟨_, rfl⟩
  have D1 : Pm W1 d ⟨upd p.a (fr : Int) y1, p.f, p.l⟩ (.slice A p.l.length c) := by rw [hW1]; exact (D.acct hf y1).keep rfl
  have c2 := D1.acc tg ht
  have q2 := D1.free tg
  rw [show (⟨upd p.a (fr : Int) y1, p.f, p.l⟩ : S).a (tg : Int) = x2 by rw [hx2]; exact upd_other (by omega)] at c2
  obtain ⟨W2, hW2⟩ : ∃ W, W = (W1.setCell ⟨d, tg, none⟩ (.int .i64 y2)).drew := ⟨_, rfl⟩
  have K2 : Kt d fp w W2 := by
    have k1 : Kt d (fun g => g = d) w W1 := by rw [hW1, set1]; exact (Kt.of_cells _ _ _ _ (by show fr + 1 ≤ 1012; omega)).drew
    have k2 : Kt d (fun g => g = d) W1 W2 := by rw [hW2, set1]; exact (Kt.of_cells _ _ _ _ (by show tg + 1 ≤ 1012; omega)).drew
    exact (k1.self k2).mono fun g hg => by rw [hg]; exact L.pin
  have D2 : Pm W2 d ⟨mvA p.a fr tg am, p.f, p.l⟩ (.slice A p.l.length c) := by
    have e : mvA p.a fr tg am = upd (upd p.a (fr : Int) y1) (tg : Int) y2 := by rw [mvA, hy1, hy2, hx1, hx2]
    rw [e, hW2]
    exact (D1.acct ht y2).keep rfl
  have KD : Kq (fun g => g = d) w W2 := by
    have k1 : Kq (fun g => g = d) w W1 := by rw [hW1, set1]; exact (Kq.of_cells _ _ _ _).drew
    have k2 : Kq (fun g => g = d) W1 W2 := by rw [hW2, set1]; exact (Kq.of_cells _ _ _ _).drew
    exact k1.self k2
  have R2 : RowT DLineT W2 0 (.slice A p.l.length c) p.l.length p.l := rt_same R fun g hg => KD.block g (rt_lt R hg) (fun e => hne (by rw [hg, e]))
  have L2 : Lax DLineT W2 d ⟨mvA p.a fr tg am, p.f, p.l⟩ fp := ⟨L.pin, fun g hg => Nat.lt_of_lt_of_le (L.size g hg) K2.size, _, D2, R2, hne, hv⟩
  obtain ⟨W3, hW3⟩ : ∃ W, W = W2.alloc (.cells #[.int .i64 b, .int .i64 (fr : Int), .int .i64 (tg : Int), .int .i64 am] 117) := ⟨_, rfl⟩
  have B3 : Below W2.heap.size W2 W3 := by rw [hW3]; exact (Below.refl _ _).alloc (Nat.le_refl _) _
  have G3 : W3.heap[W2.heap.size]? = some (.cells (lnc ⟨b, fr, tg, am⟩).toArray 117 (0, 0)) := by rw [hW3]; exact heap_alloc_new _ _
  have R3 := rt_below R2 B3
  obtain ⟨n, hn⟩ : ∃ n, n = p.l.length := ⟨_, rfl⟩
  rw [← hn] at R3 R2 D2 hne hv few hnc
  obtain ⟨A4, c4, w4, r4, R4, g4, h4⟩ := row_app1 dlines_append dline_info W3 0 _ n p.l R3 ⟨b, fr, tg, am⟩ W2.heap.size G3 (by omega) (Nat.zero_le _)
  have FR := drow_stored L2 D2 R2 hne hv B3 R4 g4 h4
  have F : Hid (RTo w d fp (mv p b fr tg am) (w4.setCell ⟨d, 1011, none⟩ (.slice A4 (n + 1) c4))) := RTo.then (MvTo.of_same L2 K2) (FR.wide K2.size)
  have e2 : W2.cell? ⟨d, 1011, none⟩ = some (.slice A n c) := D2.lin
  have hd4 : w4.heap[d]? = W3.heap[d]? := g4.block d (Nat.lt_of_lt_of_le (L2.size d L2.pin) B3.size) (fun e => hne e.symm)
  have e4 : w4.cell? ⟨d, 1011, none⟩ = some (.slice A n c) := ((D2.below B3).keep hd4).lin
  have q4 : w4.frozen? ⟨d, 1011, none⟩ = false := ((D2.below B3).keep hd4).free _
  have z2 := Lib.hid e2
  have f0 : (0 : Int) ≤ (fr : Int) := by omega
  have f6 : (fr : Int) < 6 := by omega
  have t0 : (0 : Int) ≤ (tg : Int) := by omega
  have t6 : (tg : Int) < 6 := by omega
  replace hW1 := Lib.hid hW1
  replace hW2 := Lib.hid hW2
  replace hW3 := Lib.hid hW3
  replace hn := Lib.hid hn
  clear D R hne hv hx1 hx2 hy1 hy2 D1 K2 D2 KD R2 L2 B3 G3 R3 R4 g4 h4 FR hd4 L s1 s2 m hft e2
  go_enter Try.func79, Try.ntmps79
  go_upto_region 0 with fail
  go_still_tail 13, (by kernel_rfl)
  change wpList _ _ _ _ _ w.drew
  go_upto_region 1 with fail
  rw [← hW1.out]
  clear c1 q1
  go_still_tail 13, (by kernel_rfl)
  change wpList _ _ _ _ _ W1.drew
  go_upto_region 2 with fail
  rw [← hW2.out]
  clear c2 q2
  have e2 := z2.out
  go_wp2_with (at_builtin; rw [← hW3.out]; refine wpList_run_app rfl (.tmp 40) (.tmp 46) rfl rfl _ _ rfl rfl r4 ?_)
  go_end0
  exact ⟨rfl, F.out⟩
end Pu
end Go.Proofs.Ytchlbkfkecpodaa

namespace Go.Proofs.Ytchlbkfkecpodaa
set_option maxRecDepth 100000
open Go.RowKit
open Go.Sort (grow)
open Go.Proofs.Ytchlbkfkecpodaa.Pk (one_at one_free one_set lt_some adr_block)
namespace Pu
open Wt (Opn mayOp)

theorem dbuild_run (w : World) : (Instr.build 84 #[]).run Try.prog w = .ok (.agg (pcs zero (.slice none 0 0)).toArray) w := by kernel_rfl
theorem dbox_run (w : World) (cs : Array Value) : (Instr.box 84 (.agg cs)).run Try.prog w = .ok (.pointer (some ⟨w.heap.size, 0, none⟩)) (w.alloc (.cells cs 84)) := by
  simp only [Instr.box, newVar, newRow, Sem.run_bind]
  kernel_rfl
section
variable {ops : Array Oper} {rest : List Oper} {o : Oper} {a : Act} {w : World} {Q : Exit → Act → World → Prop}
theorem wpList_dbuild (hg : o.guard = none) (ho : o.op = .build 84 #[])
    (h : wpList Try.prog ops Q rest (a.put o.dst (.agg (pcs zero (.slice none 0 0)).toArray)) w) : wpList Try.prog ops Q (o :: rest) a w := by
  refine wpList_plain hg fun K hK => ?_
  unfold Oper.wp execOp
  simp only [ho, Sem.run_bind, List.map_toArray, List.map_nil, dbuild_run, Sem.run_pure, Result.andThen_ok]
  exact hK _ _ h
theorem wpList_dbox (hg : o.guard = none) (x : Operand) (ho : o.op = .box 84 x) (cs : Array Value) (hx : a.eval x = .agg cs)
    (h : wpList Try.prog ops Q rest (a.put o.dst (.pointer (some ⟨w.heap.size, 0, none⟩))) (w.alloc (.cells cs 84))) : wpList Try.prog ops Q (o :: rest) a w := by
  refine wpList_plain hg fun K hK => ?_
  unfold Oper.wp execOp
  simp only [ho, hx, Sem.run_bind, dbox_run, Sem.run_pure, Result.andThen_ok]
  exact hK _ _ h
end
/-- The first k funds put. -/
def nk (f0 : Ac) (k : Int) : Ac := fun j => if j < k then f0 j else 0
theorem nk_next (f0 : Ac) (k : Int) : nk f0 (k + 1) = upd (nk f0 k) k (f0 k) := by
  funext j
  show (if j < k + 1 then f0 j else 0) = if j = k then f0 k else if j < k then f0 j else 0
  by_cases h : j = k
  · subst h; rw [if_pos (by omega), if_pos rfl]
  · by_cases h2 : j < k
    · rw [if_pos (by omega), if_neg h, if_pos h2]
    · rw [if_neg (by omega), if_neg h, if_neg h2]
theorem nk_0 (a b c d : Int) : nk (new a b c d).a 0 = fun _ => 0 := by
  funext j
  unfold nk new
  split
  · simp only
    rw [if_neg (by omega), if_neg (by omega), if_neg (by omega), if_neg (by omega)]
  · rfl
theorem nk_4 (a b c d : Int) : nk (new a b c d).a 4 = (new a b c d).a := by
  funext j
  unfold nk new
  simp only
  split
  · rfl
  · rw [if_neg (by omega), if_neg (by omega), if_neg (by omega), if_neg (by omega)]
def NkAt (w1 : World) (d : Nat) (f0 : Ac) (i : Value) (wr : World) : Prop := ∃ k : Nat, i = .int .i64 k ∧ k ≤ 4 ∧ Lax DLineT wr d ⟨nk f0 (k : Int), fz, []⟩ (fun g => g = d) ∧ Kq (fun g => g = d) w1 wr
set_option maxHeartbeats 1600000 in
theorem refnew_any (w : World) (a b c d : Int) (h : mayF a b c d = true) : Calls Try.prog 29 #[.agg #[.int .i64 a, .int .i64 b, .int .i64 c, .int .i64 d]] w fun e w' => ∃ q, e = .returned (.pointer (some ⟨q, 0, none⟩)) ∧ w.heap.size ≤ q ∧ Led DLineT w' q (new a b c d) (fun g => g = q) ∧ Below w.heap.size w w' := by
  obtain ⟨ha, hb, hc, hd⟩ := mayF_iff.1 h
  have ho := Lib.hid (ok_new ha hb hc hd)
  obtain ⟨w1, hw1⟩ : ∃ x, x = w.alloc (.cells #[.int .i64 a, .int .i64 b, .int .i64 c, .int .i64 d] 54) := ⟨_, rfl⟩
  have B1 : Hid (Below w.heap.size w w1) := by rw [hw1]; exact (Below.refl _ _).alloc (Nat.le_refl _) _
  have G1 : w1.heap[w.heap.size]? = some (.cells (fcs a b c d) 54 (0, 0)) := by rw [hw1]; exact heap_alloc_new _ _
  obtain ⟨w2, hw2⟩ : ∃ x, x = w1.alloc (.cells (pcs zero (.slice none 0 0)).toArray 84) := ⟨_, rfl⟩
  have B2 : Below w1.heap.size w1 w2 := by rw [hw2]; exact (Below.refl _ _).alloc (Nat.le_refl _) _
  have G2 : w2.heap[w1.heap.size]? = some (.cells (pcs zero (.slice none 0 0)).toArray 84 (0, 0)) := by rw [hw2]; exact heap_alloc_new _ _
  obtain ⟨q, hq⟩ : ∃ q, q = w1.heap.size := ⟨_, rfl⟩
  have hq1 : Hid (w.heap.size + 1 = q) := by show _ = _; rw [hq, hw1]; simp
  obtain ⟨f0, hf0⟩ : ∃ f, f = (new a b c d).a := ⟨_, rfl⟩
  have st : Hid (NkAt w1 q f0 (.int .i64 0) w2) := by
    refine ⟨0, rfl, by omega, ⟨rfl, fun g hg => by rw [hg, hq]; exact lt_some G2, .slice none 0 0, ?_, World.ownsRow_nil _ _ _ _, by simp [Value.ownBlock], fun g hg => by simp [Value.ownBlock] at hg⟩, .of_below B2⟩
    rw [hf0, hq, show nk (new a b c d).a ((0 : Nat) : Int) = fun _ => 0 from nk_0 a b c d]
    exact .of_block G2
  have CE : Hid (∀ k : Nat, k ≤ 3 → w1.cell? ⟨w.heap.size, k, none⟩ = some (.int .i64 (f0 (k : Int)))) := fun k hk => by
    rw [hf0, ← fcs_at a b c d hk]
    exact one_at G1
  have l1 : Hid (w.heap.size < w1.heap.size) := lt_some G1
  have n4 : Hid (nk f0 4 = f0) := by unfold Hid; rw [hf0]; exact nk_4 a b c d
  replace hw1 := Lib.hid hw1
  replace hw2 := Lib.hid hw2
  replace hq := Lib.hid hq
  replace hf0 := Lib.hid hf0
  clear ha hb hc hd h G1 G2 B2
  go_enter Try.func29, Try.ntmps29
  go_upto_region 2 with (first
    | (refine wpList_dbuild rfl rfl ?_)
    | (refine wpList_dbox rfl (.tmp 5) rfl (pcs zero (.slice none 0 0)).toArray rfl ?_))
  rw [← hw1.out, ← hw2.out, hq1.out]
  go_wp2_with fail
  go_loopw [4] (fun i wr => NkAt w1 q f0 i wr) (fun i _ => 4 - (intOf i).toNat)
  case atStart => exact st.out
  case round =>
    clear st
    obtain ⟨k, rfl, hk, L, K⟩ := hrel
    by_cases h4 : k < 4
    · have c1 : wr.cell? ⟨w.heap.size, k, none⟩ = some (.int .i64 (f0 (k : Int))) := (World.cell?_of_block (a := ⟨w.heap.size, k, none⟩) (K.block w.heap.size l1.out (by have := hq.out; have := l1.out; omega))).trans (CE.out k (by omega))
      have i1 : (k : Int) < 4 := by omega
      have i0 : (0 : Int) ≤ (k : Int) := by omega
      have i6 : (k : Int) < 6 := by omega
      obtain ⟨v, D, R, hne, hv⟩ := L.at_
      have c2 := D.acc k (by omega)
      have c3 := D.free k
      obtain ⟨y, hy⟩ : ∃ y, y = f0 (k : Int) := ⟨_, rfl⟩
      have nx : Hid (NkAt w1 q f0 (.int .i64 ((k + 1 : Nat) : Int)) (wr.setCell ⟨q, k, none⟩ (.int .i64 y)).drew) := by
        have K1 := Kq.of_cells wr q k [.int .i64 y]
        refine ⟨k + 1, rfl, by omega, ⟨rfl, fun g hg => by rw [hg]; exact Nat.lt_of_lt_of_le (L.size q rfl) K1.size, v, ?_, rt_same R fun g hg => K1.block g (rt_lt R hg) (fun e => hne (by rw [hg, e])), hne, hv⟩, (K.self K1).drew⟩
        have := D.acct (k := k) (by omega) y
        rw [hy] at this
        rw [show nk f0 (((k + 1 : Nat) : Int)) = upd (nk f0 (k : Int)) (k : Int) (f0 (k : Int)) from nk_next f0 (k : Int), hy]
        exact this.keep rfl
      rw [← hy] at c1
      replace hy := Lib.hid hy
      clear L K D R hne hv
      go_upto_region 5 with fail
      go_still_tail 8, (by kernel_rfl)
      change wpList _ _ _ _ _ wr.drew
      go_wp2
      exact ⟨nx.out, by simp [intOf]; omega⟩
    · obtain rfl : k = 4 := by omega
      have F : Hid (w.heap.size ≤ q ∧ Led DLineT wr q (new a b c d) (fun g => g = q) ∧ Below w.heap.size w wr) := by
        refine ⟨by have := hq.out; have := l1.out; omega, ⟨?_, ho.out⟩, B1.out.trans (K.below (fun g hg => by rw [hg, hq.out]; exact B1.out.size) B1.out.size)⟩
        rw [show ((4 : Nat) : Int) = 4 from rfl, n4.out, hf0.out] at L
        exact L
      clear L K
      go_wp2
      go_ret
      exact ⟨_, rfl, F.out⟩
end Pu
end Go.Proofs.Ytchlbkfkecpodaa

namespace Go.Proofs.Ytchlbkfkecpodaa
set_option maxRecDepth 100000
open Go.RowKit
open Go.Sort (grow)
open Go.Proofs.Ytchlbkfkecpodaa.Pk (one_at one_free one_set lt_some adr_block)
namespace Pu
open Wt (Opn mayOp refmayop_any)

abbrev DPur (w : World) (d : Nat) (p : S) (fp : Nat → Prop) : Prop := Led DLineT w d p fp
/-- What the document's Do leaves. -/
def RDo (w : World) (d : Nat) (fp : Nat → Prop) (r : S × Int) (e : Ending) (w' : World) : Prop := e = .returned (.int .i64 r.2) ∧ RTo w d fp r.1 w'
set_option maxHeartbeats 6400000 in
theorem refdo_any (w : World) (d : Nat) (p : S) (fp : Nat → Prop) (L : DPur w d p fp) (o : Opn) : Calls Try.prog 31 #[.pointer (some ⟨d, 0, none⟩), opv o] w (RDo w d fp (dstp p o)) := by
  obtain ⟨W0, hW0⟩ : ∃ W, W = w.alloc (.cells #[.int .i64 o.kind, .int .i64 o.book, .int .i64 o.units, .int .i64 o.cust, .int .i64 o.amount] 30) := ⟨_, rfl⟩
  have B0 : Hid (Below w.heap.size w W0) := by rw [hW0]; exact (Below.refl _ _).alloc (Nat.le_refl _) _
  have h0 : Hid (W0.heap[w.heap.size]? = some (.cells #[.int .i64 o.kind, .int .i64 o.book, .int .i64 o.units, .int .i64 o.cust, .int .i64 o.amount] 30 (0, 0))) := by rw [hW0]; exact heap_alloc_new _ _
  have MO := Lib.hid (refmayop_any W0 o)
  have x0 : W0.cell? ⟨w.heap.size, 0, none⟩ = some (.int .i64 o.kind) := one_at h0.out
  have x1 : W0.cell? ⟨w.heap.size, 1, none⟩ = some (.int .i64 o.book) := one_at h0.out
  have x2 : W0.cell? ⟨w.heap.size, 2, none⟩ = some (.int .i64 o.units) := one_at h0.out
  have x3 : W0.cell? ⟨w.heap.size, 3, none⟩ = some (.int .i64 o.cust) := one_at h0.out
  have x4 : W0.cell? ⟨w.heap.size, 4, none⟩ = some (.int .i64 o.amount) := one_at h0.out
  replace hW0 := Lib.hid hW0
  have NO : Hid (mayOp o = false ∨ o.kind < 4 → ∀ w', Below w.heap.size w w' → RDo w d fp (dstp p o) (.returned (.int .i64 2)) w') := by
    intro h w' hb
    have e : dstp p o = (p, 2) := by
      unfold dstp stp
      rcases h with h | h
      · rw [h]; rfl
      · cases hc : mayOp o with
        | false => rfl
        | true => rw [if_neg (by decide), if_neg (by omega), if_neg (by omega), if_neg (by omega)]
    unfold RDo
    rw [e]
    exact ⟨rfl, MvTo.of_below L.toLax hb⟩
  cases hm : mayOp o with
  | false =>
    rw [hm] at MO
    have N := Lib.hid (NO.out (.inl hm))
    clear NO hm L
    unfold opv
    go_enter Try.func31, Try.ntmps31
    go_wp2_with fail
    rw [← hW0.out]
    go_wp2_with fail
    refine MO.out.mono ?_
    rintro e w1 ⟨rfl, h1⟩
    have F := Lib.hid (N.out w1 (B0.out.trans (h1.mono B0.out.size)))
    clear x0 x1 x2 x3 x4 h1 MO h0 B0 hW0 N
    go_wp2
    go_ret
    exact F.out
  | true =>
    rw [hm] at MO
    obtain ⟨⟨b1, b2⟩, ⟨k1, k6⟩, hcu⟩ := mayop_bds hm
    by_cases h4 : o.kind < 4
    · have N := Lib.hid (NO.out (.inr h4))
      have g3 : decide (o.kind < 4) = true := decide_eq_true h4
      clear NO hm L hcu k1 k6
      unfold opv
      go_enter Try.func31, Try.ntmps31
      go_wp2_with fail
      rw [← hW0.out]
      go_wp2_with fail
      refine MO.out.mono ?_
      rintro e w1 ⟨rfl, h1⟩
      have y0 : w1.cell? ⟨w.heap.size, 0, none⟩ = some (.int .i64 o.kind) := one_at ((h1.block _ (lt_some h0.out)).trans h0.out)
      have F := Lib.hid (N.out w1 (B0.out.trans (h1.mono B0.out.size)))
      clear x0 x1 x2 x3 x4 h1 MO h0 B0 hW0 N
      go_wp2
      go_ret
      exact F.out
    · have EQ : Hid (dstp p o = stp p true o.kind o.book o.cust o.amount) := by unfold Hid dstp; rw [hm]
      clear NO
      obtain ⟨kd, bk, un, cu, am⟩ := o
      unfold opv
      dsimp only at *
      obtain ⟨kb, rfl⟩ : ∃ k : Nat, bk = (k : Int) := ⟨bk.toNat, by omega⟩
      have k200 : kb ≤ 200 := by omega
      have g3 : decide (kd < 4) = false := decide_eq_false (by omega)
      obtain ⟨st, hst⟩ : ∃ x, x = (p.f (kb : Int)).st := ⟨_, rfl⟩
      obtain ⟨eu, heu⟩ : ∃ x, x = (p.f (kb : Int)).cu := ⟨_, rfl⟩
      obtain ⟨et, het⟩ : ∃ x, x = (p.f (kb : Int)).am := ⟨_, rfl⟩
      have SH := L.ok.shp (kb : Int)
      have OK := Lib.hid L.ok
      have EX : Hid (∀ (p' : S) (r : Int) (w' : World), stp p true kd kb cu am = (p', r) → RTo w d fp p' w' → RDo w d fp (dstp p ⟨kd, kb, un, cu, am⟩) (.returned (.int .i64 r)) w') := by
        intro p' r w' h1 h2
        unfold RDo
        rw [EQ.out, h1]
        exact ⟨rfl, h2⟩
      have MV : Hid (∀ W, Below w.heap.size w W → ∀ (fr tg : Nat) (m : Int), fr ≤ 5 → tg ≤ 5 → fr ≠ tg → 0 ≤ m ∧ m ≤ 1099511627776 → Calls Try.prog 79 #[.pointer (some ⟨d, 0, none⟩), .int .i64 (kb : Int), .int .i64 (fr : Int), .int .i64 (tg : Int), .int .i64 m] W fun e w' => e = .returned (.tuple #[]) ∧ RTo w d fp (mv p (kb : Int) fr tg m) w' ∧ Kq fp W w') := fun W hb fr tg m h1 h2 h3 h4 => by
        refine (refmove_any W d p fp (L.below hb).toLax (kb : Int) m fr tg h1 h2 h3 (by have := L.ok.few; omega) (L.ok.bds (by omega) (by omega)) (L.ok.bds (by omega) (by omega)) h4).mono ?_
        rintro e w' ⟨rfl, h⟩
        exact ⟨rfl, MvTo.after L.lt hb h, h.2.toKq⟩
      have FP : Hid (∀ g, w.heap.size ≤ g → ¬ fp g) := fun g hg h => by have := L.size g h; omega
      have b200 : (kb : Int) < 201 := by omega
      have b0 : (0 : Int) ≤ (kb : Int) := by omega
      replace MV := Lib.hid MV.out
      go_enter Try.func31, Try.ntmps31
      go_wp2_with fail
      rw [← hW0.out]
      go_wp2_with fail
      refine MO.out.mono ?_
      rintro e w1 ⟨rfl, h1⟩
      have B1 : Hid (Below w.heap.size w w1) := B0.out.trans (h1.mono B0.out.size)
      have H1 : Hid (w1.heap[w.heap.size]? = some (.cells #[.int .i64 kd, .int .i64 kb, .int .i64 un, .int .i64 cu, .int .i64 am] 30 (0, 0))) := (h1.block _ (lt_some h0.out)).trans h0.out
      obtain ⟨v, D, R, hne, hv⟩ := L.at_
      have D1 := D.below B1.out
      have y0 : w1.cell? ⟨w.heap.size, 0, none⟩ = some (.int .i64 kd) := one_at H1.out
      have y1 : w1.cell? ⟨w.heap.size, 1, none⟩ = some (.int .i64 (kb : Int)) := one_at H1.out
      have c0 := D1.st k200
      have c1 := D1.z1 k200
      have c2 := D1.z2 k200
      have c3 := D1.cu k200
      have c4 := D1.am k200
      rw [← hst] at c0
      rw [← heu] at c3
      rw [← het] at c4
      have BZ : Below w1.heap.size w1 (w1.alloc (.cells #[.int .i64 0, .int .i64 0, .int .i64 0, .int .i64 0, .int .i64 0] 41)) := (Below.refl _ _).alloc (Nat.le_refl _) _
      have DZ := D1.below BZ
      have yz : (w1.alloc (.cells #[.int .i64 0, .int .i64 0, .int .i64 0, .int .i64 0, .int .i64 0] 41)).cell? ⟨w.heap.size, 1, none⟩ = some (.int .i64 (kb : Int)) := one_at ((BZ.block _ (lt_some H1.out)).trans H1.out)
      have d0 := DZ.st k200
      have d1 := DZ.z1 k200
      have d2 := DZ.z2 k200
      have d3 := DZ.cu k200
      have d4 := DZ.am k200
      rw [← hst] at d0
      rw [← heu] at d3
      rw [← het] at d4
      replace hst := Lib.hid hst
      replace heu := Lib.hid heu
      replace het := Lib.hid het
      replace SH := Lib.hid SH
      clear BZ DZ x0 x1 x2 x3 x4 h1 MO h0 B0 hW0 R hne hv
      go_upto_region 3 with fail
      go_region
      obtain ⟨w3, hw3⟩ : ∃ X, X = (w1.alloc (.cells #[.int .i64 st, .int .i64 0, .int .i64 0, .int .i64 eu, .int .i64 et] 41)).drew := ⟨_, rfl⟩
      rw [← hw3]
      have B3 : Below w1.heap.size w1 w3 := by rw [hw3]; exact below_drew ((Below.refl _ _).alloc (Nat.le_refl _) _)
      have E3 : w3.heap[w1.heap.size]? = some (.cells #[.int .i64 st, .int .i64 0, .int .i64 0, .int .i64 eu, .int .i64 et] 41 (0, 0)) := by rw [hw3]; exact heap_alloc_new w1 _
      have H3 : w3.heap[w.heap.size]? = some (.cells #[.int .i64 kd, .int .i64 kb, .int .i64 un, .int .i64 cu, .int .i64 am] 30 (0, 0)) := (B3.block _ (lt_some H1.out)).trans H1.out
      obtain ⟨W4, hW4⟩ : ∃ X, X = w3.alloc (.cells #[.int .i64 3, .int .i64 0, .int .i64 0, .int .i64 0, .int .i64 0] 41) := ⟨_, rfl⟩
      have B4 : Below w3.heap.size w3 W4 := by rw [hW4]; exact (Below.refl _ _).alloc (Nat.le_refl _) _
      have G4 : Hid (W4.heap[w3.heap.size]? = some (.cells #[.int .i64 3, .int .i64 0, .int .i64 0, .int .i64 0, .int .i64 0] 41 (0, 0))) := by rw [hW4]; exact heap_alloc_new _ _
      have E4 : Hid (W4.heap[w1.heap.size]? = some (.cells #[.int .i64 st, .int .i64 0, .int .i64 0, .int .i64 eu, .int .i64 et] 41 (0, 0))) := (B4.block _ (lt_some E3)).trans E3
      have H4 : Hid (W4.heap[w.heap.size]? = some (.cells #[.int .i64 kd, .int .i64 kb, .int .i64 un, .int .i64 cu, .int .i64 am] 30 (0, 0))) := (B4.block _ (lt_some H3)).trans H3
      have BW : Hid (Below w.heap.size w W4) := (B1.out.trans (B3.mono B1.out.size)).trans (B4.mono (Nat.le_trans B1.out.size B3.size))
      have s3 : Hid (w.heap.size ≤ w1.heap.size ∧ w.heap.size ≤ w3.heap.size) := ⟨B1.out.size, Nat.le_trans B1.out.size B3.size⟩
      have R4 : Hid (RTo w d fp p W4) := MvTo.of_below L.toLax BW.out
      have y0 : W4.cell? ⟨w.heap.size, 0, none⟩ = some (.int .i64 kd) := one_at H4.out
      have y1 : W4.cell? ⟨w.heap.size, 1, none⟩ = some (.int .i64 (kb : Int)) := one_at H4.out
      have y3 : W4.cell? ⟨w.heap.size, 3, none⟩ = some (.int .i64 cu) := one_at H4.out
      have y4 : W4.cell? ⟨w.heap.size, 4, none⟩ = some (.int .i64 am) := one_at H4.out
      have e0 : W4.cell? ⟨w1.heap.size, 0, none⟩ = some (.int .i64 st) := one_at E4.out
      have e3 : W4.cell? ⟨w1.heap.size, 3, none⟩ = some (.int .i64 eu) := one_at E4.out
      have e4 : W4.cell? ⟨w1.heap.size, 4, none⟩ = some (.int .i64 et) := one_at E4.out
      have v0 : W4.cell? ⟨w3.heap.size, 0, none⟩ = some (.int .i64 3) := one_at G4.out
      have v1 : W4.cell? ⟨w3.heap.size, 1, none⟩ = some (.int .i64 0) := one_at G4.out
      have v2 : W4.cell? ⟨w3.heap.size, 2, none⟩ = some (.int .i64 0) := one_at G4.out
      have v3 : W4.cell? ⟨w3.heap.size, 3, none⟩ = some (.int .i64 0) := one_at G4.out
      have v4 : W4.cell? ⟨w3.heap.size, 4, none⟩ = some (.int .i64 0) := one_at G4.out
      have LL := Lib.hid L
      replace k200 := Lib.hid k200
      replace hW4 := Lib.hid hW4
      clear d0 d1 d2 d3 d4 c0 c1 c2 c3 c4 yz hw3 B3 E3 H3 B4 D D1 EQ L
      go_upto_region 5 with fail
      rw [← hW4.out]
      clear hW4
      by_cases q6 : kd = 6
      · have n6 : (kd == 6) = true := by simpa using q6
        have ST : Hid (stp p true kd kb cu am = (void p kb, 1)) := by unfold Hid stp; rw [if_neg (by decide), if_neg (by omega), if_neg (by omega), if_pos q6]
        by_cases s4 : st = 4
        · have C := Lib.hid (MV.out W4 BW.out 4 eu.toNat et (by omega) (by have := SH.out.bds; rw [← heu.out] at this; omega) (by have := SH.out.bds; rw [← heu.out] at this; omega) (by have := SH.out.bds; rw [← het.out] at this; omega))
          have PV : Hid (void p (kb : Int) = Pu.put (mv p kb ((4 : Nat) : Int) (eu.toNat : Int) et) kb eg) := by
            have h1 := SH.out.bds
            unfold Hid void
            rw [← hst.out, if_pos s4, ← heu.out, ← het.out, show ((eu.toNat : Nat) : Int) = eu by rw [← heu.out] at h1; omega]
            rfl
          have eun : ((eu.toNat : Nat) : Int) = eu := by have h1 := SH.out.bds; rw [← heu.out] at h1; omega
          rw [eun] at C
          replace eun := Lib.hid eun
          subst s4
          clear MV q6
          go_wp2_with fail
          refine C.out.mono ?_
          rintro e w5 ⟨rfl, R5, K5⟩
          clear C
          rw [← eun.out] at R5
          have H5 := (K5.block _ (lt_some H4.out) (FP.out _ (Nat.le_refl _))).trans H4.out
          have E5 := (K5.block _ (lt_some E4.out) (FP.out _ s3.out.1)).trans E4.out
          have G5 := (K5.block _ (lt_some G4.out) (FP.out _ s3.out.2)).trans G4.out
          have y0 : w5.cell? ⟨w.heap.size, 0, none⟩ = some (.int .i64 kd) := one_at H5
          have y1 : w5.cell? ⟨w.heap.size, 1, none⟩ = some (.int .i64 (kb : Int)) := one_at H5
          have v0 : w5.cell? ⟨w3.heap.size, 0, none⟩ = some (.int .i64 3) := one_at G5
          have v1 : w5.cell? ⟨w3.heap.size, 1, none⟩ = some (.int .i64 0) := one_at G5
          have v2 : w5.cell? ⟨w3.heap.size, 2, none⟩ = some (.int .i64 0) := one_at G5
          have v3 : w5.cell? ⟨w3.heap.size, 3, none⟩ = some (.int .i64 0) := one_at G5
          have v4 : w5.cell? ⟨w3.heap.size, 4, none⟩ = some (.int .i64 0) := one_at G5
          clear H5 E5 G5 K5
          go_upto_region 11 with fail
          have F : Hid (RTo w d fp _ (w5.drew.setCells d (6 + kb * 5) (entc eg).toArray.toList)) := R5.drew.put k200.out eg
          obtain ⟨v5, D5, -, -, -⟩ := R5.drew.1.at_
          have th := Lib.hid (D5.there k200.out)
          clear R5 D5
          go_still_tail 7, (by kernel_rfl)
          change wpList _ _ _ _ _ w5.drew
          go_wp2_with (refine wpList_store_mid rfl 41 (.tmp 55) (.tmp 52) rfl d (6 + kb * 5) (entc eg).toArray rfl rfl th.out entry_size (entc_one _) ?_)
          go_ret
          exact EX.out _ _ _ (by rw [ST.out, PV.out]) F.out
        · by_cases s5 : st = 5
          · have C := Lib.hid (MV.out W4 BW.out 5 eu.toNat et (by omega) (by have := SH.out.bds; rw [← heu.out] at this; omega) (by have := SH.out.bds; rw [← heu.out] at this; omega) (by have := SH.out.bds; rw [← het.out] at this; omega))
            have PV : Hid (void p (kb : Int) = Pu.put (mv p kb ((5 : Nat) : Int) (eu.toNat : Int) et) kb eg) := by
              have h1 := SH.out.bds
              unfold Hid void
              rw [← hst.out, if_neg s4, if_pos s5, ← heu.out, ← het.out, show ((eu.toNat : Nat) : Int) = eu by rw [← heu.out] at h1; omega]
              rfl
            have eun : ((eu.toNat : Nat) : Int) = eu := by have h1 := SH.out.bds; rw [← heu.out] at h1; omega
            rw [eun] at C
            replace eun := Lib.hid eun
            subst s5
            clear MV q6 s4
            go_wp2_with fail
            refine C.out.mono ?_
            rintro e w5 ⟨rfl, R5, K5⟩
            clear C
            rw [← eun.out] at R5
            have H5 := (K5.block _ (lt_some H4.out) (FP.out _ (Nat.le_refl _))).trans H4.out
            have E5 := (K5.block _ (lt_some E4.out) (FP.out _ s3.out.1)).trans E4.out
            have G5 := (K5.block _ (lt_some G4.out) (FP.out _ s3.out.2)).trans G4.out
            have y0 : w5.cell? ⟨w.heap.size, 0, none⟩ = some (.int .i64 kd) := one_at H5
            have y1 : w5.cell? ⟨w.heap.size, 1, none⟩ = some (.int .i64 (kb : Int)) := one_at H5
            have v0 : w5.cell? ⟨w3.heap.size, 0, none⟩ = some (.int .i64 3) := one_at G5
            have v1 : w5.cell? ⟨w3.heap.size, 1, none⟩ = some (.int .i64 0) := one_at G5
            have v2 : w5.cell? ⟨w3.heap.size, 2, none⟩ = some (.int .i64 0) := one_at G5
            have v3 : w5.cell? ⟨w3.heap.size, 3, none⟩ = some (.int .i64 0) := one_at G5
            have v4 : w5.cell? ⟨w3.heap.size, 4, none⟩ = some (.int .i64 0) := one_at G5
            clear H5 E5 G5 K5
            go_upto_region 11 with fail
            have F : Hid (RTo w d fp _ (w5.drew.setCells d (6 + kb * 5) (entc eg).toArray.toList)) := R5.drew.put k200.out eg
            obtain ⟨v5, D5, -, -, -⟩ := R5.drew.1.at_
            have th := Lib.hid (D5.there k200.out)
            clear R5 D5
            go_still_tail 7, (by kernel_rfl)
            change wpList _ _ _ _ _ w5.drew
            go_wp2_with (refine wpList_store_mid rfl 41 (.tmp 55) (.tmp 52) rfl d (6 + kb * 5) (entc eg).toArray rfl rfl th.out entry_size (entc_one _) ?_)
            go_ret
            exact EX.out _ _ _ (by rw [ST.out, PV.out]) F.out
          · have n4 : (st == 4) = false := by simpa using s4
            have n5 : (st == 5) = false := by simpa using s5
            have PV : Hid (void p (kb : Int) = Pu.put p kb eg) := by unfold Hid void; rw [← hst.out, if_neg s4, if_neg s5]
            have R5 := R4.out
            clear MV q6 s4 s5
            go_upto_region 11 with fail
            have F : Hid (RTo w d fp _ (W4.drew.setCells d (6 + kb * 5) (entc eg).toArray.toList)) := R5.drew.put k200.out eg
            obtain ⟨v5, D5, -, -, -⟩ := R5.drew.1.at_
            have th := Lib.hid (D5.there k200.out)
            clear R5 D5
            go_still_tail 7, (by kernel_rfl)
            change wpList _ _ _ _ _ W4.drew
            go_wp2_with (refine wpList_store_mid rfl 41 (.tmp 55) (.tmp 52) rfl d (6 + kb * 5) (entc eg).toArray rfl rfl th.out entry_size (entc_one _) ?_)
            go_ret
            exact EX.out _ _ _ (by rw [ST.out, PV.out]) F.out
      · have n6 : (kd == 6) = false := by simpa using q6
        by_cases s3' : st = 3
        · have P : Hid (stp p true kd kb cu am = (p, 2)) := by
            have hg : p.f (kb : Int) = eg := SH.out.gone (by rw [← hst.out]; exact s3')
            have e1 : Pu.put p (kb : Int) eg = p := by
              show (⟨p.a, upd p.f (kb : Int) eg, p.l⟩ : S) = p
              rw [upd_id hg]
            unfold Hid stp
            rw [if_neg (by decide)]
            by_cases h4 : kd = 4
            · rw [if_pos h4]; unfold auth; rw [← hst.out, if_neg (by omega), if_neg (fun h => h.1 s3')]
            · rw [if_neg h4]
              by_cases h5 : kd = 5
              · rw [if_pos h5]; unfold capt; rw [← hst.out, if_neg (by omega), if_neg (by omega), e1]
              · rw [if_neg h5, if_neg q6]
          have F := Lib.hid (EX.out _ _ _ P.out R4.out)
          have n3 : (st == 3) = true := by simpa using s3'
          clear MV EX q6 s3'
          go_wp2
          go_ret
          exact F.out
        · have n3 : (st == 3) = false := by simpa using s3'
          by_cases q4 : kd = 4
          · have n4 : (kd == 4) = true := by simpa using q4
            have ST : Hid (stp p true kd kb cu am = auth p kb cu am) := by unfold Hid stp; rw [if_neg (by decide), if_pos q4]
            obtain ⟨⟨c0, c3⟩, m0, m1⟩ := hcu q4
            obtain ⟨cn, rfl⟩ : ∃ k : Nat, cu = (k : Int) := ⟨cu.toNat, by omega⟩
            by_cases s0 : st = 0
            · have n0 : (st == 0) = true := by simpa using s0
              have ca : W4.cell? ⟨d, cn, none⟩ = some (.int .i64 (p.a (cn : Int))) := by
                obtain ⟨v, D, _⟩ := R4.out.1.at_
                exact D.acc cn (by omega)
              obtain ⟨ac, hac⟩ : ∃ x, x = p.a (cn : Int) := ⟨_, rfl⟩
              rw [← hac] at ca
              have j0 : (0 : Int) ≤ (cn : Int) := by omega
              have j6 : (cn : Int) < 6 := by omega
              by_cases hlt : ac < am
              · have dl : decide (ac < am) = true := decide_eq_true hlt
                have PV : Hid (auth p kb (cn : Int) am = (Pu.put p kb eg, 2)) := by unfold Hid auth; rw [← hst.out, if_pos s0, if_neg (by omega)]
                clear MV q6 s3' hcu c0 c3 m0 m1 hac hlt s0 q4
                go_upto_region 16 with fail
                go_quiet (fail)
                generalize hW5 : World.drewN _ _ = w5
                have B5 : Below W4.heap.size W4 w5 := by rw [← hW5]; exact ⟨rfl, rfl, rfl, Nat.le_refl _, fun _ _ => rfl⟩
                have BW5 : Hid (Below w.heap.size w w5) := BW.out.trans (B5.mono BW.out.size)
                have R5 : RTo w d fp p w5 := MvTo.of_below LL.out.toLax BW5.out
                have H5 := (B5.block _ (lt_some H4.out)).trans H4.out
                have G5 := (B5.block _ (lt_some G4.out)).trans G4.out
                have y1 : w5.cell? ⟨w.heap.size, 1, none⟩ = some (.int .i64 (kb : Int)) := one_at H5
                have y3 : w5.cell? ⟨w.heap.size, 3, none⟩ = some (.int .i64 (cn : Int)) := one_at H5
                have y4 : w5.cell? ⟨w.heap.size, 4, none⟩ = some (.int .i64 am) := one_at H5
                have v0 : w5.cell? ⟨w3.heap.size, 0, none⟩ = some (.int .i64 3) := one_at G5
                have v1 : w5.cell? ⟨w3.heap.size, 1, none⟩ = some (.int .i64 0) := one_at G5
                have v2 : w5.cell? ⟨w3.heap.size, 2, none⟩ = some (.int .i64 0) := one_at G5
                have v3 : w5.cell? ⟨w3.heap.size, 3, none⟩ = some (.int .i64 0) := one_at G5
                have v4 : w5.cell? ⟨w3.heap.size, 4, none⟩ = some (.int .i64 0) := one_at G5
                clear hW5 B5 G5
                go_upto_region 17 with fail
                have F : Hid (RTo w d fp _ (w5.drew.setCells d (6 + kb * 5) (entc eg).toArray.toList)) := R5.drew.put k200.out eg
                obtain ⟨v5, D5, -, -, -⟩ := R5.drew.1.at_
                have th := Lib.hid (D5.there k200.out)
                clear R5 D5
                go_still_tail 7, (by kernel_rfl)
                change wpList _ _ _ _ _ w5.drew
                go_wp2_with (refine wpList_store_mid rfl 41 (.tmp 85) (.tmp 82) rfl d (6 + kb * 5) (entc eg).toArray rfl rfl th.out entry_size (entc_one _) ?_)
                go_ret
                exact EX.out _ _ _ (by rw [ST.out, PV.out]) F.out
              · have dl : decide (ac < am) = false := decide_eq_false hlt
                have PV : Hid (auth p kb (cn : Int) am = (Pu.put (mv p kb (cn : Int) 4 am) kb ⟨4, (cn : Int), am⟩, 1)) := by unfold Hid auth; rw [← hst.out, if_pos s0, if_pos (by omega)]
                have MV2 := Lib.hid (fun W hb => MV.out W hb cn 4 am (by omega) (by omega) (by omega) ⟨m0, m1⟩)
                clear MV q6 s3' hcu c0 c3 m0 m1 hac hlt s0 q4
                go_upto_region 16 with fail
                go_quiet (fail)
                generalize hW5 : World.drewN _ _ = w5
                have B5 : Below W4.heap.size W4 w5 := by rw [← hW5]; exact ⟨rfl, rfl, rfl, Nat.le_refl _, fun _ _ => rfl⟩
                have BW5 : Hid (Below w.heap.size w w5) := BW.out.trans (B5.mono BW.out.size)
                have R5 : RTo w d fp p w5 := MvTo.of_below LL.out.toLax BW5.out
                have H5 := (B5.block _ (lt_some H4.out)).trans H4.out
                have G5 := (B5.block _ (lt_some G4.out)).trans G4.out
                have y1 : w5.cell? ⟨w.heap.size, 1, none⟩ = some (.int .i64 (kb : Int)) := one_at H5
                have y3 : w5.cell? ⟨w.heap.size, 3, none⟩ = some (.int .i64 (cn : Int)) := one_at H5
                have y4 : w5.cell? ⟨w.heap.size, 4, none⟩ = some (.int .i64 am) := one_at H5
                have v0 : w5.cell? ⟨w3.heap.size, 0, none⟩ = some (.int .i64 3) := one_at G5
                have v1 : w5.cell? ⟨w3.heap.size, 1, none⟩ = some (.int .i64 0) := one_at G5
                have v2 : w5.cell? ⟨w3.heap.size, 2, none⟩ = some (.int .i64 0) := one_at G5
                have v3 : w5.cell? ⟨w3.heap.size, 3, none⟩ = some (.int .i64 0) := one_at G5
                have v4 : w5.cell? ⟨w3.heap.size, 4, none⟩ = some (.int .i64 0) := one_at G5
                clear hW5 B5 G5
                have C := Lib.hid (MV2.out w5 BW5.out)
                go_wp2_with fail
                refine C.out.mono ?_
                rintro e w6 ⟨rfl, R6, K6⟩
                clear C MV2
                have H6 := (K6.block _ (lt_some H5) (FP.out _ (Nat.le_refl _))).trans H5
                have y1 : w6.cell? ⟨w.heap.size, 1, none⟩ = some (.int .i64 (kb : Int)) := one_at H6
                have y3 : w6.cell? ⟨w.heap.size, 3, none⟩ = some (.int .i64 (cn : Int)) := one_at H6
                have y4 : w6.cell? ⟨w.heap.size, 4, none⟩ = some (.int .i64 am) := one_at H6
                have R5 := R6
                clear H6 K6
                go_upto_region 20 with fail
                have F : Hid (RTo w d fp _ (w6.drew.setCells d (6 + kb * 5) (entc (⟨4, (cn:Int), am⟩ : E)).toArray.toList)) := R5.drew.put k200.out (⟨4, (cn:Int), am⟩ : E)
                obtain ⟨v5, D5, -, -, -⟩ := R5.drew.1.at_
                have th := Lib.hid (D5.there k200.out)
                clear R5 D5
                go_still_tail 11, (by kernel_rfl)
                change wpList _ _ _ _ _ w6.drew
                go_wp2_with (refine wpList_store_mid rfl 41 (.tmp 104) (.tmp 101) rfl d (6 + kb * 5) (entc (⟨4, (cn:Int), am⟩ : E)).toArray rfl rfl th.out entry_size (entc_one _) ?_)
                go_ret
                exact EX.out _ _ _ (by rw [ST.out, PV.out]; rfl) F.out
            · have n0 : (st == 0) = false := by simpa using s0
              have e0' : (st != 3) = true := by simpa using s3'
              by_cases hc : eu = (cn : Int)
              · have n7 : (eu == (cn : Int)) = true := by simpa using hc
                by_cases hm2 : et = am
                · have n8 : (et == am) = true := by simpa using hm2
                  have PV : Hid (auth p kb (cn : Int) am = (p, 1)) := by unfold Hid auth; rw [← hst.out, ← heu.out, ← het.out, if_neg s0, if_pos ⟨s3', hc, hm2⟩]
                  have F := Lib.hid (EX.out _ _ _ (by rw [ST.out, PV.out]) R4.out)
                  clear MV EX q6 s3' hcu c0 c3 m0 m1 hc hm2 s0 q4
                  go_wp2
                  go_ret
                  exact F.out
                · have n8 : (et == am) = false := by simpa using hm2
                  have PV : Hid (auth p kb (cn : Int) am = (p, 2)) := by unfold Hid auth; rw [← hst.out, ← heu.out, ← het.out, if_neg s0, if_neg (fun h => hm2 h.2.2)]
                  have F := Lib.hid (EX.out _ _ _ (by rw [ST.out, PV.out]) R4.out)
                  clear MV EX q6 s3' hcu c0 c3 m0 m1 hc hm2 s0 q4
                  go_wp2
                  go_ret
                  exact F.out
              · have n7 : (eu == (cn : Int)) = false := by simpa using hc
                have PV : Hid (auth p kb (cn : Int) am = (p, 2)) := by unfold Hid auth; rw [← hst.out, ← heu.out, ← het.out, if_neg s0, if_neg (fun h => hc h.2.1)]
                have F := Lib.hid (EX.out _ _ _ (by rw [ST.out, PV.out]) R4.out)
                clear MV EX q6 s3' hcu c0 c3 m0 m1 hc s0 q4
                go_wp2
                go_ret
                exact F.out
          · have n4 : (kd == 4) = false := by simpa using q4
            have q5 : kd = 5 := by omega
            have ST : Hid (stp p true kd kb cu am = capt p kb) := by unfold Hid stp; rw [if_neg (by decide), if_neg q4, if_pos q5]
            by_cases s0 : st = 0
            · have n0 : (st == 0) = true := by simpa using s0
              have PV : Hid (capt p (kb : Int) = (Pu.put p kb eg, 2)) := by unfold Hid capt; rw [← hst.out, if_neg (by omega), if_neg (by omega)]
              have R5 := R4.out
              clear MV q6 s3' hcu q4 q5 s0
              go_upto_region 27 with fail
              have F : Hid (RTo w d fp _ (W4.drew.setCells d (6 + kb * 5) (entc eg).toArray.toList)) := R5.drew.put k200.out eg
              obtain ⟨v5, D5, -, -, -⟩ := R5.drew.1.at_
              have th := Lib.hid (D5.there k200.out)
              clear R5 D5
              go_still_tail 7, (by kernel_rfl)
              change wpList _ _ _ _ _ W4.drew
              go_wp2_with (refine wpList_store_mid rfl 41 (.tmp 137) (.tmp 134) rfl d (6 + kb * 5) (entc eg).toArray rfl rfl th.out entry_size (entc_one _) ?_)
              go_ret
              exact EX.out _ _ _ (by rw [ST.out, PV.out]) F.out
            · have n0 : (st == 0) = false := by simpa using s0
              by_cases s4 : st = 4
              · have C := Lib.hid (MV.out W4 BW.out 4 5 et (by omega) (by omega) (by omega) (by have := SH.out.bds; rw [← het.out] at this; omega))
                have PV : Hid (capt p (kb : Int) = (Pu.put (mv p kb 4 5 et) kb ⟨5, eu, et⟩, 1)) := by unfold Hid capt; rw [← hst.out, if_neg (by omega), if_pos s4, ← heu.out, ← het.out]
                subst s4
                clear MV q6 s3' hcu q4 q5 s0
                go_wp2_with fail
                refine C.out.mono ?_
                rintro e w5 ⟨rfl, R5, K5⟩
                clear C
                have H5 := (K5.block _ (lt_some H4.out) (FP.out _ (Nat.le_refl _))).trans H4.out
                have E5 := (K5.block _ (lt_some E4.out) (FP.out _ s3.out.1)).trans E4.out
                have G5 := (K5.block _ (lt_some G4.out) (FP.out _ s3.out.2)).trans G4.out
                have y0 : w5.cell? ⟨w.heap.size, 0, none⟩ = some (.int .i64 kd) := one_at H5
                have y1 : w5.cell? ⟨w.heap.size, 1, none⟩ = some (.int .i64 (kb : Int)) := one_at H5
                have v0 : w5.cell? ⟨w3.heap.size, 0, none⟩ = some (.int .i64 3) := one_at G5
                have v1 : w5.cell? ⟨w3.heap.size, 1, none⟩ = some (.int .i64 0) := one_at G5
                have v2 : w5.cell? ⟨w3.heap.size, 2, none⟩ = some (.int .i64 0) := one_at G5
                have v3 : w5.cell? ⟨w3.heap.size, 3, none⟩ = some (.int .i64 0) := one_at G5
                have v4 : w5.cell? ⟨w3.heap.size, 4, none⟩ = some (.int .i64 0) := one_at G5
                clear H5 E5 G5 K5
                obtain ⟨v5, D5, -, -, -⟩ := R5.1.at_
                have c6 := D5.st k200.out
                have q6 := D5.free (6 + kb * 5)
                have F : Hid (RTo w d fp (Pu.put (mv p kb 4 5 et) kb ⟨5, eu, et⟩) (w5.setCell ⟨d, 6 + kb * 5, none⟩ (.int .i64 5)).drew) := by
                  have h1 := R5.1.state k200.out 5
                  rw [show (⟨5, ((mv p (kb : Int) ((4 : Nat) : Int) ((5 : Nat) : Int) et).f (kb : Int)).cu, ((mv p (kb : Int) ((4 : Nat) : Int) ((5 : Nat) : Int) et).f (kb : Int)).am⟩ : E) = ⟨5, eu, et⟩ by rw [heu.out, het.out]; rfl] at h1
                  exact (R5.then (MvTo.of_same h1 (by rw [set1]; exact (Kt.of_cells _ _ _ _ (by have := k200.out; show 6 + kb * 5 + 1 ≤ 1012; omega)).mono fun g hg => by rw [hg]; exact R5.1.pin))).drew
                clear R5 D5
                go_upto_region 31 with fail
                go_still_tail 7, (by kernel_rfl)
                change wpList _ _ _ _ _ w5.drew
                go_wp2
                go_ret
                exact EX.out _ _ _ (by rw [ST.out, PV.out]) F.out
              · have s5 : st = 5 := by
                  rcases SH.out.st_ne (by rw [← hst.out]; exact s0) with h | h | h
                  · rw [← hst.out] at h; exact absurd h s3'
                  · rw [← hst.out] at h; exact absurd h s4
                  · rw [← hst.out] at h; exact h
                have n5 : (st == 4) = false := by simpa using s4
                have PV : Hid (capt p (kb : Int) = (p, 1)) := by unfold Hid capt; rw [← hst.out, if_pos s5]
                have F := Lib.hid (EX.out _ _ _ (by rw [ST.out, PV.out]) R4.out)
                clear MV EX q6 s3' hcu q4 q5 s0 s4 s5
                go_wp2
                go_ret
                exact F.out
end Pu
end Go.Proofs.Ytchlbkfkecpodaa

namespace Go.Proofs.Ytchlbkfkecpodaa
set_option maxRecDepth 100000
open Go.RowKit
open Go.Sort (grow)
open Go.Proofs.Ytchlbkfkecpodaa.Pk (one_at one_free one_set lt_some refint str str_add str_cat str_size)
namespace Pu

theorem size_add2 {a b : List UInt8} (h : a.length + b.length ≤ 100000) : ¬ (str a).size + (str b).size > 9223372036854775807 := by rw [str_size, str_size]; omega
theorem int_of (v : Int) (bs : Bs) (hv : Cs.I v) (hb : bs = Pk.encI v) (w0 : World) : ∀ d os, Calls Try.prog 93 #[.int .i64 v] (grow (redrawn w0 d) os) fun e w'' => e = .returned (.string (str bs)) ∧ ∃ q : Regrown, w'' = grow (redrawn w0 q.d) q.os := fun d os => Calls.regrown_of (by rw [hb]; exact refint _ v hv.1 hv.2)
theorem int_at (v : Int) (bs : Bs) (hv : Cs.I v) (hb : bs = Pk.encI v) (w : World) : Calls Try.prog 93 #[.int .i64 v] w fun e w'' => e = .returned (.string (str bs)) ∧ Below w.heap.size w w'' := by rw [hb]; exact refint _ v hv.1 hv.2
theorem i_of {v : Int} (h0 : 0 ≤ v) (h1 : v ≤ 4398046511104) : Cs.I v := ⟨by omega, by omega⟩
def AcBy (w : World) (p : S) (s i : Value) (wr : World) : Prop := ∃ k : Nat, s = .string (str (cat ((acs p.a).take k))) ∧ i = .int .i64 (k : Int) ∧ k ≤ 6 ∧ Below w.heap.size w wr
def DyAt (w : World) (p : S) (s i : Value) (wr : World) : Prop := ∃ k : Nat, s = .string (str (bts p k)) ∧ i = .int .i64 ((k : Int) + 1) ∧ k ≤ 200 ∧ Below w.heap.size w wr
theorem acs_at (a : Ac) {k : Nat} (hk : k < 6) : (acs a)[k]? = some (a (k : Int)) := by
  rcases (by omega : k = 0 ∨ k = 1 ∨ k = 2 ∨ k = 3 ∨ k = 4 ∨ k = 5) with rfl | rfl | rfl | rfl | rfl | rfl <;> rfl
theorem cat4 (a b c d : Int) : cat [a, b, c, d] = Pk.encI a ++ Pk.encI b ++ Pk.encI c ++ Pk.encI d := by simp [cat]
set_option maxHeartbeats 6400000 in
theorem refbytes_any (w : World) (d : Nat) (p : S) (fp : Nat → Prop) (L : Led DLineT w d p fp) : Calls Try.prog 55 #[.pointer (some ⟨d, 0, none⟩)] w fun e w' => e = .returned (.string (str (bts p 200))) ∧ Below w.heap.size w w' := by
  obtain ⟨v, D, -, -, -⟩ := L.at_
  replace D := Lib.hid D
  have O := Lib.hid L.ok
  clear L
  have st : Hid (AcBy w p (.string (str [])) (.int .i64 0) w) := ⟨0, rfl, rfl, by omega, Below.refl _ _⟩
  go_enter Try.func55, Try.ntmps55
  go_wp2_with fail
  go_loopw [3, 4] (fun s i wr => AcBy w p s i wr) (fun _ i _ => 6 - (intOf i).toNat)
  case atStart => exact st.out
  case round =>
    clear st
    obtain ⟨k, rfl, rfl, hk, be⟩ := hrel
    by_cases h6 : k < 6
    · have D2 := D.out.below be
      have c0 := D2.acc k (by omega)
      have bd := O.out.bds (k := (k : Int)) (by omega) (by omega)
      obtain ⟨y, hy⟩ : ∃ y, y = p.a (k : Int) := ⟨_, rfl⟩
      rw [← hy] at c0 bd
      obtain ⟨b1, e1⟩ : ∃ b, b = Pk.encI y := ⟨_, rfl⟩
      have iy := i_of bd.1 bd.2
      have l1 : b1.length ≤ 10 := by rw [e1]; exact Pk.encI_len _ iy.1 iy.2
      have C1 := Lib.hid (int_at y b1 iy e1 wr)
      obtain ⟨s, hs⟩ : ∃ s, s = cat ((acs p.a).take k) := ⟨_, rfl⟩
      have ls : s.length ≤ 60 := by
        rw [hs]
        have := cat_len ((acs p.a).take k) fun z hz => by have := acs_bds O.out z (List.mem_of_mem_take hz); omega
        have hl : ((acs p.a).take k).length ≤ 6 := by rw [List.length_take]; show min k 6 ≤ 6; omega
        omega
      obtain ⟨s1, f1⟩ : ∃ x, x = s ++ b1 := ⟨_, rfl⟩
      have F : Hid (cat ((acs p.a).take (k + 1)) = s1) := by unfold Hid; rw [cat_snoc (acs_at p.a h6), f1, hs, e1, hy]
      have a1 := str_add s b1 (by omega)
      have q1 := size_add2 (a := s) (b := b1) (by omega)
      have t1 := str_cat s b1
      rw [← f1] at a1 t1
      rw [← hs]
      have i1 : (k : Int) < 6 := by omega
      have i0 : (0 : Int) ≤ (k : Int) := by omega
      replace be := Lib.hid be
      clear D2 bd hy e1 iy l1 hs ls f1
      go_wp2_with fail
      refine C1.out.mono ?_
      rintro e w2 ⟨rfl, h2⟩
      have nx : Hid (AcBy w p (.string (str s1)) (.int .i64 ((k + 1 : Nat) : Int)) w2) := ⟨k + 1, by rw [F.out], rfl, by omega, be.out.trans (h2.mono be.out.size)⟩
      clear C1 h2 c0 be
      go_wp2
      exact ⟨nx.out, by simp [intOf]; omega⟩
    · obtain rfl : k = 6 := by omega
      obtain ⟨s1, f1⟩ : ∃ x, x = bts p 0 := ⟨_, rfl⟩
      have e6 : cat ((acs p.a).take 6) = s1 := by rw [f1]; rfl
      rw [e6]
      have st : Hid (DyAt w p (.string (str s1)) (.int .i64 1) wr) := ⟨0, by rw [f1], rfl, by omega, be⟩
      clear be f1 e6
      go_wp2_with fail
      go_loopw [3, 5] (fun s i wr => DyAt w p s i wr) (fun _ i _ => 201 - (intOf i).toNat)
      case atStart => exact st.out
      case round =>
        clear st
        obtain ⟨k, rfl, rfl, hk, be⟩ := hrel
        have D2 := D.out.below be
        obtain ⟨s, hs⟩ : ∃ s, s = bts p k := ⟨_, rfl⟩
        have ls : s.length ≤ 8060 := by rw [hs]; have := bts_len O.out hk; omega
        rw [← hs]
        by_cases hk2 : k < 200
        · have i1 : (k : Int) + 1 ≤ 200 := by omega
          have c0 := D2.st (k := k + 1) (by omega)
          have c1 := D2.z1 (k := k + 1) (by omega)
          have c2 := D2.z2 (k := k + 1) (by omega)
          have c3 := D2.cu (k := k + 1) (by omega)
          have c4 := D2.am (k := k + 1) (by omega)
          have e1 : ((k + 1 : Nat) : Int) = (k : Int) + 1 := by omega
          have bd := (O.out.shp ((k : Int) + 1)).bds
          rw [e1] at c0 c3 c4
          have hb : bts p (k + 1) = if pre (p.f ((k : Int) + 1)) = true then bts p k ++ one p.f ((k : Int) + 1) else bts p k := rfl
          unfold one at hb
          rw [← hs] at hb
          obtain ⟨⟨st, cu, am⟩, hE⟩ : ∃ E, E = p.f ((k : Int) + 1) := ⟨_, rfl⟩
          rw [← hE] at c0 c3 c4 hb bd
          have hp : pre ⟨st, cu, am⟩ = !decide (st = 0) := rfl
          simp only at c0 c3 c4 hb bd
          obtain ⟨W, hW⟩ : ∃ W, W = wr.alloc (.cells #[.int .i64 st, .int .i64 0, .int .i64 0, .int .i64 cu, .int .i64 am] 41) := ⟨_, rfl⟩
          have bW : Hid (Below w.heap.size w W) := by rw [hW]; exact be.alloc be.size _
          have hB : Hid (W.heap[wr.heap.size]? = some (.cells #[.int .i64 st, .int .i64 0, .int .i64 0, .int .i64 cu, .int .i64 am] 41 (0, 0))) := by rw [hW]; exact heap_alloc_new _ _
          replace hW := Lib.hid hW
          clear D2 be hE e1
          go_upto_region 10 with fail
          rw [← hW.out]
          by_cases g : st = 0
          · have gb : (st == 0) = true := by simpa using g
            have x0 : W.cell? ⟨wr.heap.size, 0, none⟩ = some (.int .i64 st) := one_at hB.out
            rw [hp, decide_eq_true g] at hb
            simp only [Bool.not_true, Bool.false_eq_true, if_false] at hb
            have nx : Hid (DyAt w p (.string (str s)) (.int .i64 ((k : Int) + 1 + 1)) W) := ⟨k + 1, by rw [hb], by simp, by omega, bW.out⟩
            clear hb hs hp g
            go_wp2
            exact ⟨nx.out, by simp [intOf]; omega⟩
          · have gb : (st == 0) = false := by simpa using g
            rw [hp, decide_eq_false g] at hb
            simp only [Bool.not_false, if_true] at hb
            obtain ⟨d0, d1, d2, d3, d4, d5⟩ := bd
            have B1 : Cs.I ((k : Int) + 1) := i_of (by omega) (by omega)
            have B2 : Cs.I st := i_of (by omega) (by omega)
            have B3 : Cs.I cu := i_of (by omega) (by omega)
            have B4 : Cs.I am := i_of (by omega) (by omega)
            rw [cat4] at hb
            obtain ⟨b1, e1⟩ : ∃ b, b = Pk.encI ((k : Int) + 1) := ⟨_, rfl⟩
            obtain ⟨b2, e2⟩ : ∃ b, b = Pk.encI st := ⟨_, rfl⟩
            obtain ⟨b3, e3⟩ : ∃ b, b = Pk.encI cu := ⟨_, rfl⟩
            obtain ⟨b4, e4⟩ : ∃ b, b = Pk.encI am := ⟨_, rfl⟩
            have l1 : b1.length ≤ 10 := by rw [e1]; exact Pk.encI_len _ B1.1 B1.2
            have l2 : b2.length ≤ 10 := by rw [e2]; exact Pk.encI_len _ B2.1 B2.2
            have l3 : b3.length ≤ 10 := by rw [e3]; exact Pk.encI_len _ B3.1 B3.2
            have l4 : b4.length ≤ 10 := by rw [e4]; exact Pk.encI_len _ B4.1 B4.2
            have C1 := int_of _ b1 B1 e1 W
            have C2 := int_of _ b2 B2 e2 W
            have C3 := int_of _ b3 B3 e3 W
            have C4 := int_of _ b4 B4 e4 W
            rw [← e1, ← e2, ← e3, ← e4] at hb
            clear e1 e2 e3 e4 B1 B2 B3 B4 d0 d1 d2 d3 d4 d5
            obtain ⟨s1, f1⟩ : ∃ x, x = s ++ b1 := ⟨_, rfl⟩
            obtain ⟨s2, f2⟩ : ∃ x, x = s1 ++ b2 := ⟨_, rfl⟩
            obtain ⟨s3, f3⟩ : ∃ x, x = s2 ++ b3 := ⟨_, rfl⟩
            obtain ⟨s4, f4⟩ : ∃ x, x = s3 ++ b4 := ⟨_, rfl⟩
            have F : Hid (bts p (k + 1) = s4) := by unfold Hid; rw [hb, f4, f3, f2, f1]; simp
            have m1 : s1.length ≤ 8070 := by rw [f1, List.length_append]; omega
            have m2 : s2.length ≤ 8080 := by rw [f2, List.length_append]; omega
            have m3 : s3.length ≤ 8090 := by rw [f3, List.length_append]; omega
            have a1 := str_add s b1 (by omega)
            have a2 := str_add s1 b2 (by omega)
            have a3 := str_add s2 b3 (by omega)
            have a4 := str_add s3 b4 (by omega)
            have q1 := size_add2 (a := s) (b := b1) (by omega)
            have q2 := size_add2 (a := s1) (b := b2) (by omega)
            have q3 := size_add2 (a := s2) (b := b3) (by omega)
            have q4 := size_add2 (a := s3) (b := b4) (by omega)
            have t1 := str_cat s b1
            have t2 := str_cat s1 b2
            have t3 := str_cat s2 b3
            have t4 := str_cat s3 b4
            rw [← f1] at a1 t1
            rw [← f2] at a2 t2
            rw [← f3] at a3 t3
            rw [← f4] at a4 t4
            have x0 : W.cell? ⟨wr.heap.size, 0, none⟩ = some (.int .i64 st) := one_at hB.out
            have z0 := cell_regrown x0
            have z1 := cell_regrown (show W.cell? ⟨wr.heap.size, 3, none⟩ = some (.int .i64 cu) from one_at hB.out)
            have z2 := cell_regrown (show W.cell? ⟨wr.heap.size, 4, none⟩ = some (.int .i64 am) from one_at hB.out)
            have hk3 : Hid (k + 1 ≤ 200) := by unfold Hid; omega
            clear f1 f2 f3 f4 m1 m2 m3 l1 l2 l3 l4 ls hb hs hp g c0 c1 c2 c3 c4 hk hk2
            go_upto_region 11 with fail
            refine wp_region_quiet_below (by kernel_rfl) (by kernel_rfl) ?_
            repeat (go_big_quiet_step (first | with_reducible exact C1 _ _ | with_reducible exact C2 _ _ | with_reducible exact C3 _ _ | with_reducible exact C4 _ _))
            refine wpQuiet_nil ?_
            intro w2 hw'
            obtain ⟨⟨dq, osq⟩, hw''⟩ := hw'
            have be2 : Hid (RowKit.Below w.heap.size w w2) := by rw [hw'']; exact bW.out.trans ((below_regrown W dq osq).mono bW.out.size)
            have nx : Hid (DyAt w p (.string (str s4)) (.int .i64 ((k : Int) + 1 + 1)) w2) := ⟨k + 1, by rw [F.out], by simp, hk3.out, be2.out⟩
            clear hw'' z0 z1 z2 C1 C2 C3 C4 x0
            go_wp2_with fail
            exact ⟨nx.out, by
              have h3 : k + 1 ≤ 200 := hk3.out
              simp [intOf]
              omega⟩
        · have i1 : ¬ (k : Int) + 1 ≤ 200 := by omega
          have EX : Hid (bts p 200 = s ∧ Below w.heap.size w wr) := by
            obtain rfl : k = 200 := by omega
            exact ⟨hs.symm, be⟩
          clear hs ls D2 be
          go_wp2
          go_ret
          rw [EX.out.1]
          exact ⟨rfl, EX.out.2⟩
end Pu
end Go.Proofs.Ytchlbkfkecpodaa
