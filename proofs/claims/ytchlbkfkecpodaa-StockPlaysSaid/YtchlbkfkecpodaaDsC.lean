/- The document's inventory: Bytes. -/
import Derived.Test.YtchlbkfkecpodaaDsB
import Derived.Test.YtchlbkfkecpodaaStE
import Derived.Lib.QuietBelow
namespace Go.Proofs.Ytchlbkfkecpodaa
set_option maxRecDepth 100000
open Go.RowKit Go.Sort
open Go.Proofs.Ytchlbkfkecpodaa.Pk (one_at one_free one_set lt_some grown_set grown_trans below_grown grown_refl refint str str_add str_cat str_size)
namespace St

theorem size_add2 {a b : List UInt8} (h : a.length + b.length ≤ 100000) : ¬ (str a).size + (str b).size > 9223372036854775807 := by rw [str_size, str_size]; omega
theorem int_of (v : Int) (bs : Bs) (hv : Bd v) (hb : bs = Pk.encI v) (w0 : World) : ∀ d os, Calls Try.prog 93 #[.int .i64 v] (grow (redrawn w0 d) os) fun e w'' => e = .returned (.string (str bs)) ∧ ∃ q : Regrown, w'' = grow (redrawn w0 q.d) q.os := fun d os => Calls.regrown_of (by rw [hb]; exact refint _ v hv.1 hv.2)
theorem bd_of {v a b : Int} (h1 : a ≤ v) (h2 : v ≤ b) (ha : -9223372036854775808 ≤ a) (hb : b ≤ 9223372036854775807) : Bd v := ⟨by omega, by omega⟩
def ByAt (w : World) (cap over : Int) (f : F) (s i : Value) (wr : World) : Prop := ∃ k : Nat, s = .string (str (bts cap over f k)) ∧ i = .int .i64 ((k : Int) + 1) ∧ k ≤ 200 ∧ Below w.heap.size w wr
set_option maxHeartbeats 6400000 in
theorem refbytes_any (w : World) (p : Nat) (cap over : Int) (f : F) (D : Ds w p cap over f) (O : Ok cap over f) : Calls Try.prog 72 #[.pointer (some ⟨p, 0, none⟩)] w fun e w' => e = .returned (.string (str (bts cap over f 200))) ∧ Below w.heap.size w w' := by
  have bc : Bd cap := bd_of O.c0 O.c1 (by decide) (by decide)
  have bo : Bd over := bd_of O.o0 O.o1 (by decide) (by decide)
  have k0 := cell_regrown D.c0
  have k1 := cell_regrown D.c1
  obtain ⟨b0, e0⟩ : ∃ b, b = Pk.encI cap := ⟨_, rfl⟩
  obtain ⟨b1, e1⟩ : ∃ b, b = Pk.encI over := ⟨_, rfl⟩
  have l0 : b0.length ≤ 10 := by rw [e0]; exact Pk.encI_len _ bc.1 bc.2
  have l1 : b1.length ≤ 10 := by rw [e1]; exact Pk.encI_len _ bo.1 bo.2
  have C0 := int_of cap b0 bc e0 w
  have C1 := int_of over b1 bo e1 w
  obtain ⟨s1, f1⟩ : ∃ s, s = b0 ++ b1 := ⟨_, rfl⟩
  have a1 := str_add b0 b1 (by omega)
  have q1 := size_add2 (a := b0) (b := b1) (by omega)
  have t1 := str_cat b0 b1
  rw [← f1] at a1 t1
  have F0 : Hid (s1 = bts cap over f 0) := by
    unfold Hid
    rw [f1, e0, e1]
    simp [bts, sel, rn, many]
  replace D := Lib.hid D
  replace O := Lib.hid O
  clear f1 e0 e1 l0 l1 bc bo
  go_enter Try.func72, Try.ntmps72
  go_upto_region 1 with fail
  refine wp_region_quiet_below (by kernel_rfl) (by kernel_rfl) ?_
  repeat (go_big_quiet_step (first | with_reducible exact C0 _ _ | with_reducible exact C1 _ _))
  refine wpQuiet_nil ?_
  intro w2 hw'
  obtain ⟨⟨dq, osq⟩, hw''⟩ := hw'
  have be2 : Hid (RowKit.Below w.heap.size w w2) := by rw [hw'']; exact below_regrown w dq osq
  have st : Hid (ByAt w cap over f (.string (str s1)) (.int .i64 1) w2) := ⟨0, by rw [F0.out], rfl, by omega, be2.out⟩
  clear hw'' k0 k1 C0 C1 a1 q1 t1 F0 be2
  go_wp2_with fail
  go_loopw [3, 4] (fun s i wr => ByAt w cap over f s i wr) (fun _ i _ => 201 - (intOf i).toNat)
  case atStart => exact st.out
  case round =>
    clear st
    obtain ⟨k, rfl, rfl, hk, be⟩ := hrel
    have D2 := D.out.below be
    obtain ⟨s, hs⟩ : ∃ s, s = bts cap over f k := ⟨_, rfl⟩
    have ls : s.length ≤ 8020 := by rw [hs]; exact bts_len O.out hk
    rw [← hs]
    by_cases hk2 : k < 200
    · have i1 : (k : Int) + 1 ≤ 200 := by omega
      have c0 := D2.st (k := k + 1) (by omega)
      have c1 := D2.un (k := k + 1) (by omega)
      have c2 := D2.ut (k := k + 1) (by omega)
      have c3 := D2.z3 (k := k + 1) (by omega)
      have c4 := D2.z4 (k := k + 1) (by omega)
      have e1 : ((k + 1 : Nat) : Int) = (k : Int) + 1 := by omega
      have bd := (O.out.shp ((k : Int) + 1)).bds
      rw [e1] at c0 c1 c2
      have hb := bts_succ cap over f k
      unfold one at hb
      rw [← hs] at hb
      obtain ⟨⟨st, un, ut⟩, hE⟩ : ∃ E, E = f ((k : Int) + 1) := ⟨_, rfl⟩
      rw [← hE] at c0 c1 c2 hb bd
      have hp : pre ⟨st, un, ut⟩ = !decide (st = 0) := rfl
      simp only at c0 c1 c2 hb bd
      obtain ⟨W, hW⟩ : ∃ W, W = wr.alloc (.cells #[.int .i64 st, .int .i64 un, .int .i64 ut, .int .i64 0, .int .i64 0] 41) := ⟨_, rfl⟩
      have bW : Hid (Below w.heap.size w W) := by rw [hW]; exact be.alloc be.size _
      have hB : Hid (W.heap[wr.heap.size]? = some (.cells #[.int .i64 st, .int .i64 un, .int .i64 ut, .int .i64 0, .int .i64 0] 41 (0, 0))) := by rw [hW]; exact heap_alloc_new _ _
      replace hW := Lib.hid hW
      clear D2 be hE e1
      go_upto_region 6 with fail
      rw [← hW.out]
      by_cases g : st = 0
      · have gb : (st == 0) = true := by simpa using g
        have x0 : W.cell? ⟨wr.heap.size, 0, none⟩ = some (.int .i64 st) := one_at hB.out
        rw [hp, decide_eq_true g] at hb
        simp only [Bool.not_true, Bool.false_eq_true, if_false] at hb
        have nx : Hid (ByAt w cap over f (.string (str s)) (.int .i64 ((k : Int) + 1 + 1)) W) := ⟨k + 1, by rw [hb], by simp, by omega, bW.out⟩
        clear hb hs hp g
        go_wp2
        exact ⟨nx.out, by simp [intOf]; omega⟩
      · have gb : (st == 0) = false := by simpa using g
        rw [hp, decide_eq_false g] at hb
        simp only [Bool.not_false, if_true] at hb
        obtain ⟨d0, d1, d2, d3, d4, d5⟩ := bd
        have B1 : Bd ((k : Int) + 1) := ⟨by omega, by omega⟩
        have B2 : Bd st := ⟨by omega, by omega⟩
        have B3 : Bd un := ⟨by omega, by omega⟩
        have B4 : Bd ut := ⟨by omega, by omega⟩
        obtain ⟨b1, e1⟩ : ∃ b, b = Pk.encI ((k : Int) + 1) := ⟨_, rfl⟩
        obtain ⟨b2, e2⟩ : ∃ b, b = Pk.encI st := ⟨_, rfl⟩
        obtain ⟨b3, e3⟩ : ∃ b, b = Pk.encI un := ⟨_, rfl⟩
        obtain ⟨b4, e4⟩ : ∃ b, b = Pk.encI ut := ⟨_, rfl⟩
        have l1 : b1.length ≤ 10 := by rw [e1]; exact Pk.encI_len _ B1.1 B1.2
        have l2 : b2.length ≤ 10 := by rw [e2]; exact Pk.encI_len _ B2.1 B2.2
        have l3 : b3.length ≤ 10 := by rw [e3]; exact Pk.encI_len _ B3.1 B3.2
        have l4 : b4.length ≤ 10 := by rw [e4]; exact Pk.encI_len _ B4.1 B4.2
        have C1 := int_of _ b1 B1 e1 W
        have C2 := int_of _ b2 B2 e2 W
        have C3 := int_of _ b3 B3 e3 W
        have C4 := int_of _ b4 B4 e4 W
        rw [← e1, ← e2, ← e3, ← e4] at hb
        clear e1 e2 e3 e4 B1 B2 B3 B4 d0 d1 d2 d3 d4 d5
        obtain ⟨s1, f1⟩ : ∃ x, x = s ++ b1 := ⟨_, rfl⟩
        obtain ⟨s2, f2⟩ : ∃ x, x = s1 ++ b2 := ⟨_, rfl⟩
        obtain ⟨s3, f3⟩ : ∃ x, x = s2 ++ b3 := ⟨_, rfl⟩
        obtain ⟨s4, f4⟩ : ∃ x, x = s3 ++ b4 := ⟨_, rfl⟩
        have F : Hid (bts cap over f (k + 1) = s4) := by unfold Hid; rw [hb, f4, f3, f2, f1]; simp
        have m1 : s1.length ≤ 8030 := by rw [f1, List.length_append]; omega
        have m2 : s2.length ≤ 8040 := by rw [f2, List.length_append]; omega
        have m3 : s3.length ≤ 8050 := by rw [f3, List.length_append]; omega
        have a1 := str_add s b1 (by omega)
        have a2 := str_add s1 b2 (by omega)
        have a3 := str_add s2 b3 (by omega)
        have a4 := str_add s3 b4 (by omega)
        have q1 := size_add2 (a := s) (b := b1) (by omega)
        have q2 := size_add2 (a := s1) (b := b2) (by omega)
        have q3 := size_add2 (a := s2) (b := b3) (by omega)
        have q4 := size_add2 (a := s3) (b := b4) (by omega)
        have t1 := str_cat s b1
        have t2 := str_cat s1 b2
        have t3 := str_cat s2 b3
        have t4 := str_cat s3 b4
        rw [← f1] at a1 t1
        rw [← f2] at a2 t2
        rw [← f3] at a3 t3
        rw [← f4] at a4 t4
        have x0 : W.cell? ⟨wr.heap.size, 0, none⟩ = some (.int .i64 st) := one_at hB.out
        have z0 := cell_regrown x0
        have z1 := cell_regrown (show W.cell? ⟨wr.heap.size, 1, none⟩ = some (.int .i64 un) from one_at hB.out)
        have z2 := cell_regrown (show W.cell? ⟨wr.heap.size, 2, none⟩ = some (.int .i64 ut) from one_at hB.out)
        have hk3 : Hid (k + 1 ≤ 200) := by unfold Hid; omega
        clear f1 f2 f3 f4 m1 m2 m3 l1 l2 l3 l4 ls hb hs hp g c0 c1 c2 c3 c4 hk hk2
        go_upto_region 7 with fail
        refine wp_region_quiet_below (by kernel_rfl) (by kernel_rfl) ?_
        repeat (go_big_quiet_step (first | with_reducible exact C1 _ _ | with_reducible exact C2 _ _ | with_reducible exact C3 _ _ | with_reducible exact C4 _ _))
        refine wpQuiet_nil ?_
        intro w2 hw'
        obtain ⟨⟨dq, osq⟩, hw''⟩ := hw'
        have be2 : Hid (RowKit.Below w.heap.size w w2) := by rw [hw'']; exact bW.out.trans ((below_regrown W dq osq).mono bW.out.size)
        have nx : Hid (ByAt w cap over f (.string (str s4)) (.int .i64 ((k : Int) + 1 + 1)) w2) := ⟨k + 1, by rw [F.out], by simp, hk3.out, be2.out⟩
        clear hw'' z0 z1 z2 C1 C2 C3 C4 x0
        go_wp2_with fail
        exact ⟨nx.out, by
          have h3 : k + 1 ≤ 200 := hk3.out
          simp [intOf]
          omega⟩
    · have i1 : ¬ (k : Int) + 1 ≤ 200 := by omega
      have EX : Hid (bts cap over f 200 = s ∧ Below w.heap.size w wr) := by
        obtain rfl : k = 200 := by omega
        exact ⟨hs.symm, be⟩
      clear hs ls D2 be
      go_wp2
      go_ret
      rw [EX.out.1]
      exact ⟨rfl, EX.out.2⟩
end St
end Go.Proofs.Ytchlbkfkecpodaa
