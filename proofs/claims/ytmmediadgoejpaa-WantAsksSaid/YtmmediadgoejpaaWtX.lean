/- The document's own writer of bookings. -/
import Derived.Test.YtmmediadgoejpaaWtV
namespace Go.Proofs.Ytmmediadgoejpaa
open Go.RowKit Go.Sort Go.Proofs.Ytmmediadgoejpaa.Pk
namespace Wt

theorem cat7 (a b c d e f g : Int) : cat [a, b, c, d, e, f, g] = encI a ++ encI b ++ encI c ++ encI d ++ encI e ++ encI f ++ encI g := by simp [cat, List.append_assoc]
set_option maxHeartbeats 3200000 in
set_option maxRecDepth 100000 in
theorem rraw_any (w : World) (x : Wan) (hx : ∀ z ∈ wz x, I z) :
    Calls Try.prog 17 #[.agg #[.int .i64 x.book, .int .i64 x.cust, .int .i64 x.dead, .int .i64 x.u0, .int .i64 x.u1, .int .i64 x.u2, .int .i64 x.price]] w fun e w' => e = .returned (.string (str (raw x))) ∧ Below w.heap.size w w' := by
  have i0 := hx x.book (by simp [wz])
  have i1 := hx x.cust (by simp [wz])
  have i2 := hx x.dead (by simp [wz])
  have i3 := hx x.u0 (by simp [wz])
  have i4 := hx x.u1 (by simp [wz])
  have i5 := hx x.u2 (by simp [wz])
  have i6 := hx x.price (by simp [wz])
  obtain ⟨w0, e0⟩ : ∃ z, z = w.alloc (.cells #[.int .i64 x.book, .int .i64 x.cust, .int .i64 x.dead, .int .i64 x.u0, .int .i64 x.u1, .int .i64 x.u2, .int .i64 x.price] 24) := ⟨_, rfl⟩
  have be0 : Hid (Below w.heap.size w w0) := by rw [e0]; exact (Below.refl _ w).alloc (Nat.le_refl _) _
  have h0 : Hid (w0.heap[w.heap.size]? = some (.cells #[.int .i64 x.book, .int .i64 x.cust, .int .i64 x.dead, .int .i64 x.u0, .int .i64 x.u1, .int .i64 x.u2, .int .i64 x.price] 24 (0, 0))) := by rw [e0]; exact heap_alloc_new _ _
  have k0 := cell_regrown (show w0.cell? ⟨w.heap.size, 0, none⟩ = some (.int .i64 x.book) from one_at h0.out)
  have k1 := cell_regrown (show w0.cell? ⟨w.heap.size, 1, none⟩ = some (.int .i64 x.cust) from one_at h0.out)
  have k2 := cell_regrown (show w0.cell? ⟨w.heap.size, 2, none⟩ = some (.int .i64 x.dead) from one_at h0.out)
  have C : ∀ (v : Int) (bs : List UInt8), I v → bs = encI v → ∀ d os, Calls Try.prog 32 #[.int .i64 v] (grow (redrawn w0 d) os) fun e w'' => e = .returned (.string (str bs)) ∧ ∃ q : Regrown, w'' = grow (redrawn w0 q.d) q.os := fun v bs hv hb d os => Calls.regrown_of (by rw [hb]; exact refint _ v hv.1 hv.2)
  have D : ∀ (v : Int) (bs : List UInt8), I v → bs = encI v → ∀ w, Calls Try.prog 32 #[.int .i64 v] w (RefTo w bs) := fun v bs hv hb w => by rw [hb]; exact refint w v hv.1 hv.2
  have F : Hid (raw x = encI x.book ++ encI x.cust ++ encI x.dead ++ encI x.u0 ++ encI x.u1 ++ encI x.u2 ++ encI x.price) := cat7 _ _ _ _ _ _ _
  obtain ⟨b0, e0'⟩ : ∃ b, b = encI x.book := ⟨_, rfl⟩
  have l0 : b0.length ≤ 10 := by rw [e0']; exact encI_len _ i0.1 i0.2
  obtain ⟨b1, e1'⟩ : ∃ b, b = encI x.cust := ⟨_, rfl⟩
  have l1 : b1.length ≤ 10 := by rw [e1']; exact encI_len _ i1.1 i1.2
  obtain ⟨b2, e2'⟩ : ∃ b, b = encI x.dead := ⟨_, rfl⟩
  have l2 : b2.length ≤ 10 := by rw [e2']; exact encI_len _ i2.1 i2.2
  obtain ⟨b3, e3'⟩ : ∃ b, b = encI x.u0 := ⟨_, rfl⟩
  have l3 : b3.length ≤ 10 := by rw [e3']; exact encI_len _ i3.1 i3.2
  obtain ⟨b4, e4'⟩ : ∃ b, b = encI x.u1 := ⟨_, rfl⟩
  have l4 : b4.length ≤ 10 := by rw [e4']; exact encI_len _ i4.1 i4.2
  obtain ⟨b5, e5'⟩ : ∃ b, b = encI x.u2 := ⟨_, rfl⟩
  have l5 : b5.length ≤ 10 := by rw [e5']; exact encI_len _ i5.1 i5.2
  obtain ⟨b6, e6'⟩ : ∃ b, b = encI x.price := ⟨_, rfl⟩
  have l6 : b6.length ≤ 10 := by rw [e6']; exact encI_len _ i6.1 i6.2
  rw [← e0', ← e1', ← e2', ← e3', ← e4', ← e5', ← e6'] at F
  obtain ⟨s1, f1⟩ : ∃ s, s = b0 ++ b1 := ⟨_, rfl⟩
  have m1 : s1.length ≤ 20 := by rw [f1, List.length_append]; omega
  have a1 := str_add b0 b1 (by omega)
  have q1 := size_add (a := b0) (b := b1) (by omega)
  have t1 := str_cat b0 b1
  rw [← f1] at a1 t1
  obtain ⟨s2, f2⟩ : ∃ s, s = s1 ++ b2 := ⟨_, rfl⟩
  have m2 : s2.length ≤ 30 := by rw [f2, List.length_append]; omega
  have a2 := str_add s1 b2 (by omega)
  have q2 := size_add (a := s1) (b := b2) (by omega)
  have t2 := str_cat s1 b2
  rw [← f2] at a2 t2
  obtain ⟨s3, f3⟩ : ∃ s, s = s2 ++ b3 := ⟨_, rfl⟩
  have m3 : s3.length ≤ 40 := by rw [f3, List.length_append]; omega
  have a3 := str_add s2 b3 (by omega)
  have q3 := size_add (a := s2) (b := b3) (by omega)
  have t3 := str_cat s2 b3
  rw [← f3] at a3 t3
  obtain ⟨s4, f4⟩ : ∃ s, s = s3 ++ b4 := ⟨_, rfl⟩
  have m4 : s4.length ≤ 50 := by rw [f4, List.length_append]; omega
  have a4 := str_add s3 b4 (by omega)
  have q4 := size_add (a := s3) (b := b4) (by omega)
  have t4 := str_cat s3 b4
  rw [← f4] at a4 t4
  obtain ⟨s5, f5⟩ : ∃ s, s = s4 ++ b5 := ⟨_, rfl⟩
  have m5 : s5.length ≤ 60 := by rw [f5, List.length_append]; omega
  have a5 := str_add s4 b5 (by omega)
  have q5 := size_add (a := s4) (b := b5) (by omega)
  have t5 := str_cat s4 b5
  rw [← f5] at a5 t5
  obtain ⟨s6, f6⟩ : ∃ s, s = s5 ++ b6 := ⟨_, rfl⟩
  have m6 : s6.length ≤ 70 := by rw [f6, List.length_append]; omega
  have a6 := str_add s5 b6 (by omega)
  have q6 := size_add (a := s5) (b := b6) (by omega)
  have t6 := str_cat s5 b6
  rw [← f6] at a6 t6
  rw [← f1, ← f2, ← f3, ← f4, ← f5, ← f6] at F
  have C0 := C _ b0 i0 e0'
  have C1 := C _ b1 i1 e1'
  have C2 := C _ b2 i2 e2'
  have D3 := Lib.hid (D _ b3 i3 e3')
  have D4 := Lib.hid (D _ b4 i4 e4')
  have D5 := Lib.hid (D _ b5 i5 e5')
  have D6 := Lib.hid (D _ b6 i6 e6')
  clear C D hx i0 e0' l0 i1 e1' l1 i2 e2' l2 i3 e3' l3 i4 e4' l4 i5 e5' l5 i6 e6' l6 f1 m1 f2 m2 f3 m3 f4 m4 f5 m5 f6 m6
  go_enter Try.func17, Try.ntmps17
  go_upto_region 1 with fail
  rw [← e0]
  clear e0
  refine wp_region_quiet_below (by kernel_rfl) (by kernel_rfl) ?_
  repeat (go_big_quiet_step (first | with_reducible exact C0 _ _ | with_reducible exact C1 _ _ | with_reducible exact C2 _ _))
  refine wpQuiet_nil ?_
  intro w2 hw'
  obtain ⟨⟨dq, osq⟩, hw''⟩ := hw'
  have b20 : RowKit.Below w0.heap.size w0 w2 := by rw [hw'']; exact below_regrown w0 dq osq
  have be2 : Hid (RowKit.Below w.heap.size w w2) := be0.out.trans (b20.mono be0.out.size)
  have h2 := stay h0 b20
  have c3 : w2.cell? ⟨w.heap.size, 3, none⟩ = some (.int .i64 x.u0) := one_at h2.out
  clear hw'' b20 be0 h0 k0 k1 k2 C0 C1 C2
  go_wp2_with fail
  refine wp_loop_rounds 4 ?_
  rw [rounds_succ]
  go_wp2_with fail
  refine (D3.out w2).mono ?_
  rintro e w3 ⟨rfl, g3⟩
  have be3 : Hid (RowKit.Below w.heap.size w w3) := be2.out.trans (g3.mono be2.out.size)
  have h3 := stay h2 g3
  have c4 : w3.cell? ⟨w.heap.size, 4, none⟩ = some (.int .i64 x.u1) := one_at h3.out
  clear g3 be2 h2 c3 D3
  go_wp2_with fail
  rw [rounds_succ]
  go_wp2_with fail
  refine (D4.out w3).mono ?_
  rintro e w4 ⟨rfl, g4⟩
  have be4 : Hid (RowKit.Below w.heap.size w w4) := be3.out.trans (g4.mono be3.out.size)
  have h4 := stay h3 g4
  have c5 : w4.cell? ⟨w.heap.size, 5, none⟩ = some (.int .i64 x.u2) := one_at h4.out
  clear g4 be3 h3 c4 D4
  go_wp2_with fail
  rw [rounds_succ]
  go_wp2_with fail
  refine (D5.out w4).mono ?_
  rintro e w5 ⟨rfl, g5⟩
  have be5 : Hid (RowKit.Below w.heap.size w w5) := be4.out.trans (g5.mono be4.out.size)
  have h5 := stay h4 g5
  have c6 : w5.cell? ⟨w.heap.size, 6, none⟩ = some (.int .i64 x.price) := one_at h5.out
  clear g5 be4 h4 c5 D5
  go_wp2_with fail
  rw [rounds_succ]
  go_wp2_with fail
  refine (D6.out w5).mono ?_
  rintro e w6 ⟨rfl, g6⟩
  have be6 : Hid (RowKit.Below w.heap.size w w6) := be5.out.trans (g6.mono be5.out.size)
  clear g6 be5 h5 c6 D6
  go_wp2_with fail
  go_ret
  rw [F.out]
  exact ⟨rfl, be6.out⟩
end Wt
end Go.Proofs.Ytmmediadgoejpaa
