/- The document's net: Drop, Take. -/
import Derived.Test.YtenlblembdnniaaNtT
namespace Go.Proofs.Ytenlblembdnniaa
set_option maxRecDepth 100000
open Go.RowKit
open Go.Proofs.Ytenlblembdnniaa.Pk (Rb one_at one_free one_set lt_some grown_set grown_trans below_grown grown_refl)
namespace Nt
section
variable {w w' W W' : World} {d most q : Nat} {us ds : List Bool} {L L' : List Ms} {v : Value} {m : Ms}
set_option maxHeartbeats 1600000 in
theorem ddrop (D : Dn w d most us ds L v) (k : Int) : Calls Try.prog 16 #[.pointer (some ⟨d, 0, none⟩), .int .i64 k] w fun e w' => e = .returned (.int .i64 (dropC L k)) ∧ DnTo w d most us ds (outS L k) v w' := by
  have OU := dout D k
  unfold ouR at OU
  unfold dropC
  cases hp : node L.length k with
  | false =>
    rw [hp] at OU
    simp only [Bool.false_eq_true, if_false] at OU ⊢
    unfold am at OU
    replace OU := Lib.hid OU
    clear D hp
    go_enter Try.func16, Try.ntmps16
    go_wp2_with fail
    refine OU.out.mono ?_
    rintro e w1 ⟨rfl, v1, D1, K1, h1⟩
    have E := Lib.hid (show DnTo w d most us ds (outS L k) v _ from ⟨v1, D1.below ((Below.refl _ w1).alloc (Nat.le_refl _) (.cells #[.int .i64 m0.fr, .int .i64 m0.to_, .string (str m0.tx)] 40)), K1.trans' (.of_below ((Below.refl _ w1).alloc (Nat.le_refl _) _)), h1⟩)
    clear OU D1 K1 h1
    go_wp2
    go_ret
    exact ⟨rfl, E.out⟩
  | true =>
    rw [hp] at OU
    simp only [if_true] at OU ⊢
    unfold am at OU
    generalize mt L k.toNat = m at *
    replace OU := Lib.hid OU
    clear D hp
    go_enter Try.func16, Try.ntmps16
    go_wp2_with fail
    refine OU.out.mono ?_
    rintro e w1 ⟨rfl, v1, D1, K1, h1⟩
    have E := Lib.hid (show DnTo w d most us ds (outS L k) v _ from ⟨v1, D1.below ((Below.refl _ w1).alloc (Nat.le_refl _) (.cells #[.int .i64 m.fr, .int .i64 m.to_, .string (str m.tx)] 40)), K1.trans' (.of_below ((Below.refl _ w1).alloc (Nat.le_refl _) _)), h1⟩)
    clear OU D1 K1 h1
    go_wp2
    go_ret
    exact ⟨rfl, E.out⟩
set_option maxHeartbeats 3200000 in
theorem dtake (D : Dn w d most us ds L v) (k : Int) : Calls Try.prog 12 #[.pointer (some ⟨d, 0, none⟩), .int .i64 k] w fun e w' => e = .returned (.tuple #[am (tkR us L k).1, .int .i64 (tkR us L k).2]) ∧ DnTo w d most us ds (outS L k) v w' := by
  have S0 := Dt.start D
  have hvq : v.ownBlock ≠ some w.heap.size := fun e => by have := D.lt _ (.inr e); omega
  obtain ⟨W1, hW1⟩ : ∃ z, z = w.alloc (.cells #[.int .i64 0, .int .i64 0, .string ⟨#[]⟩] 40) := ⟨_, rfl⟩
  have S1 : Dt w d most us ds L v w.heap.size m0 W1 := by rw [hW1]; exact S0
  obtain ⟨q, hq⟩ : ∃ z, z = w.heap.size := ⟨_, rfl⟩
  rw [← hq] at S1 hvq
  have D1 : Dn W1 d most us ds L v := by rw [hW1]; exact D.below ((Below.refl _ _).alloc (Nat.le_refl _) _)
  have OU := dout D1 k
  have CA : Hid (∀ w2, DnTo W1 d most us ds (outS L k) v w2 → Dt w d most us ds (outS L k) v q m0 w2) := fun w2 h => S1.call hvq (fun _ h => .inl h) h
  have bz := dmz
  unfold ouR at OU
  unfold tkR
  replace hq := Lib.hid hq
  cases hp : node L.length k with
  | false =>
    rw [hp] at OU
    simp only [Bool.false_eq_true, if_false] at OU ⊢
    unfold am at OU
    replace OU := Lib.hid OU
    clear D hp S0 S1 D1 hvq
    go_enter Try.func12, Try.ntmps12
    go_upto_region 1 with fail
    rw [← hW1, ← hq.out]
    clear hW1
    go_wp2_with fail
    refine OU.out.mono ?_
    rintro e w1 ⟨rfl, h1⟩
    have bx : Below w1.heap.size w1 (w1.alloc (.cells #[.int .i64 m0.fr, .int .i64 m0.to_, .string (str m0.tx)] 40)) := (Below.refl _ _).alloc (Nat.le_refl _) _
    have T2 := (CA.out w1 h1).below bx
    obtain ⟨y0, y1, y2, y3, y4, y5⟩ := T2.cells
    have T3 := T2.set m0
    have hq3 := Lib.hid T3.bx
    have E := Lib.hid T3.to
    have z1 : m0.fr = 0 := rfl
    have z2 : m0.to_ = 0 := rfl
    have z3 : str m0.tx = ByteArray.empty := rfl
    rw [z1, z2, z3] at E hq3 y0 y1 y2 y3 y4 y5 ⊢
    clear OU h1 T2 T3 CA
    go_wp2
    (try simp only [Exit.inBlock, Exit.then])
    refine bodyPost_ret (m_res tak_res _ _ q 40 (bxc m0) (0, 0) _ rfl hq3.out Try.underlying40 rfl dm_info) rfl ?_
    exact ⟨rfl, E.out⟩
  | true =>
    rw [hp] at OU
    simp only [if_true] at OU ⊢
    obtain ⟨h0, h1⟩ := node_iff.1 hp
    have wfm := D.wf (mt L k.toNat) (by rw [mt_eq (by omega)]; exact List.getElem_mem _)
    generalize mt L k.toNat = m at *
    obtain ⟨⟨t0, t1⟩, _⟩ := wfm
    obtain ⟨u, hu⟩ : ∃ u : Nat, m.to_ = u := ⟨m.to_.toNat, by omega⟩
    obtain ⟨b, hb⟩ : ∃ b, us[u]? = some b := ⟨_, List.getElem?_eq_getElem (by omega)⟩
    have hup : upE us m.to_ = b := by
      unfold upE
      rw [show node us.length m.to_ = true from node_iff.2 ⟨t0, t1⟩, Bool.true_and, show m.to_.toNat = u from by omega, hb]
      rfl
    rw [hup]
    have u16 : u < 16 := by have := D.wide; omega
    have i1 : (u : Int) < 16 := by omega
    have i2 : (0 : Int) ≤ (u : Int) := by omega
    unfold am at OU
    replace OU := Lib.hid OU
    replace hu := Lib.hid hu
    have RD : Hid (∀ w2, Dt w d most us ds (outS L k) v q m0 w2 → w2.cell? ⟨d, 3 + u, none⟩ = some (.bool !b)) := fun w2 T => by
      obtain ⟨v', D', _⟩ := T.dn
      exact D'.down hb
    obtain ⟨r, hr⟩ : ∃ r, r = (if b = true then (m, (0 : Int)) else (m0, 6)) := ⟨_, rfl⟩
    rw [← hr]
    replace hr := Lib.hid hr
    clear D hp S0 S1 D1 hvq hb hup t0 t1 h0 h1
    go_enter Try.func12, Try.ntmps12
    go_upto_region 1 with fail
    rw [← hW1, ← hq.out]
    clear hW1
    go_wp2_with fail
    refine OU.out.mono ?_
    rintro e w1 ⟨rfl, h1⟩
    have bx : Below w1.heap.size w1 (w1.alloc (.cells #[.int .i64 m.fr, .int .i64 m.to_, .string (str m.tx)] 40)) := (Below.refl _ _).alloc (Nat.le_refl _) _
    have T2 := (CA.out w1 h1).below bx
    have X2 : (w1.alloc (.cells #[.int .i64 m.fr, .int .i64 m.to_, .string (str m.tx)] 40)).heap[w1.heap.size]? = some (.cells #[.int .i64 m.fr, .int .i64 m.to_, .string (str m.tx)] 40 (0, 0)) := heap_alloc_new _ _
    obtain ⟨w2, hw2⟩ : ∃ z, z = w1.alloc (.cells #[.int .i64 m.fr, .int .i64 m.to_, .string (str m.tx)] 40) := ⟨_, rfl⟩
    rw [← hw2] at T2 X2
    obtain ⟨x, hx⟩ : ∃ z, z = w1.heap.size := ⟨_, rfl⟩
    rw [← hx] at X2
    have x0 : w2.cell? ⟨x, 0, none⟩ = some (.int .i64 m.fr) := one_at (i := 0) X2
    have x1 : w2.cell? ⟨x, 1, none⟩ = some (.int .i64 m.to_) := one_at (i := 1) X2
    have x2 : w2.cell? ⟨x, 2, none⟩ = some (.string (str m.tx)) := one_at (i := 2) X2
    have rd := RD.out _ T2
    have T3 := Lib.hid (T2.below (Below.refl _ w2).drew)
    have Y := Lib.hid T2.cells
    replace hx := Lib.hid hx
    clear OU h1 T2 CA bx X2 RD
    go_upto_region 2 with fail
    rw [← hw2, ← hx.out]
    clear hw2
    go_upto_region 4 with fail
    rw [hu.out] at x1
    go_region
    obtain ⟨y0, y1, y2, y3, y4, y5⟩ := Y.out
    cases b with
    | false =>
      have T4 := T3.out.set m0
      have hq3 := Lib.hid T4.bx
      have E := Lib.hid T4.to
      have z1 : m0.fr = 0 := rfl
      have z2 : m0.to_ = 0 := rfl
      have z3 : str m0.tx = ByteArray.empty := rfl
      rw [z1, z2, z3] at E hq3
      rw [z1] at y0
      rw [z2] at y1
      rw [z3] at y2
      clear T3 T4 rd
      go_wp2
      (try simp only [Exit.inBlock, Exit.then])
      refine bodyPost_ret (m_res tak_res _ _ q 40 (bxc m0) (0, 0) _ rfl hq3.out Try.underlying40 rfl dm_info) rfl ?_
      rw [hr.out]
      exact ⟨rfl, E.out⟩
    | true =>
      have T4 := T3.out.set m
      have hq3 := Lib.hid T4.bx
      have E := Lib.hid T4.to
      have z1 : m0.fr = 0 := rfl
      have z2 : m0.to_ = 0 := rfl
      have z3 : str m0.tx = ByteArray.empty := rfl
      rw [z1] at y0
      rw [z2] at y1
      rw [z3] at y2
      clear T3 T4 rd
      rw [← hu.out] at x1
      go_wp2
      (try simp only [Exit.inBlock, Exit.then])
      refine bodyPost_ret (m_res tak_res _ _ q 40 (bxc m) (0, 0) _ rfl hq3.out Try.underlying40 rfl dm_info) rfl ?_
      rw [hr.out]
      exact ⟨rfl, E.out⟩
end
end Nt
end Go.Proofs.Ytenlblembdnniaa
