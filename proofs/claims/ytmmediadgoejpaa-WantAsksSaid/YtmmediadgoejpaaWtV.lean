/- The document's own writers of operations and of bookings. -/
import Derived.Test.YtmmediadgoejpaaWtO
import Derived.Test.YtmmediadgoejpaaPkT
import Derived.Lib.QuietBelow
import Derived.BigQuiet
namespace Go.Proofs.Ytmmediadgoejpaa
open Go.RowKit Go.Sort Go.Proofs.Ytmmediadgoejpaa.Pk
namespace Wt

theorem size_add {a b : List UInt8} (h : a.length + b.length ≤ 1000) : ¬ (str a).size + (str b).size > 9223372036854775807 := by rw [str_size, str_size]; omega
theorem cat5 (a b c d e : Int) : cat [a, b, c, d, e] = encI a ++ encI b ++ encI c ++ encI d ++ encI e := by simp [cat, List.append_assoc]
set_option maxHeartbeats 3200000 in
theorem rputop_any (w : World) (o : Opn) (ho : ∀ z ∈ oz o, I z) :
    Calls Try.prog 18 #[.agg #[.int .i64 o.kind, .int .i64 o.book, .int .i64 o.units, .int .i64 o.cust, .int .i64 o.amount]] w fun e w' => e = .returned (.string (str (rawOp o))) ∧ Below w.heap.size w w' := by
  have i0 := ho o.kind (by simp [oz])
  have i1 := ho o.book (by simp [oz])
  have i2 := ho o.units (by simp [oz])
  have i3 := ho o.cust (by simp [oz])
  have i4 := ho o.amount (by simp [oz])
  obtain ⟨w0, e0⟩ : ∃ z, z = w.alloc (.cells #[.int .i64 o.kind, .int .i64 o.book, .int .i64 o.units, .int .i64 o.cust, .int .i64 o.amount] 35) := ⟨_, rfl⟩
  have be0 : Hid (Below w.heap.size w w0) := by rw [e0]; exact (Below.refl _ w).alloc (Nat.le_refl _) _
  have h0 : Hid (w0.heap[w.heap.size]? = some (.cells #[.int .i64 o.kind, .int .i64 o.book, .int .i64 o.units, .int .i64 o.cust, .int .i64 o.amount] 35 (0, 0))) := by rw [e0]; exact heap_alloc_new _ _
  have k0 := cell_regrown (show w0.cell? ⟨w.heap.size, 0, none⟩ = some (.int .i64 o.kind) from one_at h0.out)
  have k1 := cell_regrown (show w0.cell? ⟨w.heap.size, 1, none⟩ = some (.int .i64 o.book) from one_at h0.out)
  have k2 := cell_regrown (show w0.cell? ⟨w.heap.size, 2, none⟩ = some (.int .i64 o.units) from one_at h0.out)
  have k3 := cell_regrown (show w0.cell? ⟨w.heap.size, 3, none⟩ = some (.int .i64 o.cust) from one_at h0.out)
  have k4 := cell_regrown (show w0.cell? ⟨w.heap.size, 4, none⟩ = some (.int .i64 o.amount) from one_at h0.out)
  have C : ∀ (v : Int) (bs : List UInt8), I v → bs = encI v → ∀ d os, Calls Try.prog 32 #[.int .i64 v] (grow (redrawn w0 d) os) fun e w'' => e = .returned (.string (str bs)) ∧ ∃ q : Regrown, w'' = grow (redrawn w0 q.d) q.os := fun v bs hv hb d os => Calls.regrown_of (by rw [hb]; exact refint _ v hv.1 hv.2)
  have F : Hid (rawOp o = encI o.kind ++ encI o.book ++ encI o.units ++ encI o.cust ++ encI o.amount) := cat5 _ _ _ _ _
  obtain ⟨b0, e0'⟩ : ∃ b, b = encI o.kind := ⟨_, rfl⟩
  obtain ⟨b1, e1'⟩ : ∃ b, b = encI o.book := ⟨_, rfl⟩
  obtain ⟨b2, e2'⟩ : ∃ b, b = encI o.units := ⟨_, rfl⟩
  obtain ⟨b3, e3'⟩ : ∃ b, b = encI o.cust := ⟨_, rfl⟩
  obtain ⟨b4, e4'⟩ : ∃ b, b = encI o.amount := ⟨_, rfl⟩
  have l0 : b0.length ≤ 10 := by rw [e0']; exact encI_len _ i0.1 i0.2
  have l1 : b1.length ≤ 10 := by rw [e1']; exact encI_len _ i1.1 i1.2
  have l2 : b2.length ≤ 10 := by rw [e2']; exact encI_len _ i2.1 i2.2
  have l3 : b3.length ≤ 10 := by rw [e3']; exact encI_len _ i3.1 i3.2
  have l4 : b4.length ≤ 10 := by rw [e4']; exact encI_len _ i4.1 i4.2
  have C0 := C _ b0 i0 e0'
  have C1 := C _ b1 i1 e1'
  have C2 := C _ b2 i2 e2'
  have C3 := C _ b3 i3 e3'
  have C4 := C _ b4 i4 e4'
  rw [← e0', ← e1', ← e2', ← e3', ← e4'] at F
  obtain ⟨s1, f1⟩ : ∃ s, s = b0 ++ b1 := ⟨_, rfl⟩
  obtain ⟨s2, f2⟩ : ∃ s, s = s1 ++ b2 := ⟨_, rfl⟩
  obtain ⟨s3, f3⟩ : ∃ s, s = s2 ++ b3 := ⟨_, rfl⟩
  obtain ⟨s4, f4⟩ : ∃ s, s = s3 ++ b4 := ⟨_, rfl⟩
  rw [← f1, ← f2, ← f3, ← f4] at F
  have m1 : s1.length ≤ 20 := by rw [f1, List.length_append]; omega
  have m2 : s2.length ≤ 30 := by rw [f2, List.length_append]; omega
  have m3 : s3.length ≤ 40 := by rw [f3, List.length_append]; omega
  have a1 := str_add b0 b1 (by omega)
  have a2 := str_add s1 b2 (by omega)
  have a3 := str_add s2 b3 (by omega)
  have a4 := str_add s3 b4 (by omega)
  have q1 := size_add (a := b0) (b := b1) (by omega)
  have q2 := size_add (a := s1) (b := b2) (by omega)
  have q3 := size_add (a := s2) (b := b3) (by omega)
  have q4 := size_add (a := s3) (b := b4) (by omega)
  have t1 := str_cat b0 b1
  have t2 := str_cat s1 b2
  have t3 := str_cat s2 b3
  have t4 := str_cat s3 b4
  rw [← f1] at a1 t1
  rw [← f2] at a2 t2
  rw [← f3] at a3 t3
  rw [← f4] at a4 t4
  clear f1 f2 f3 f4 m1 m2 m3
  clear C e0' e1' e2' e3' e4' i0 i1 i2 i3 i4 ho l0 l1 l2 l3 l4
  go_enter Try.func18, Try.ntmps18
  go_upto_region 1 with fail
  rw [← e0]
  clear e0 h0
  refine wp_region_quiet_below (by kernel_rfl) (by kernel_rfl) ?_
  repeat (go_big_quiet_step (first | with_reducible exact C0 _ _ | with_reducible exact C1 _ _ | with_reducible exact C2 _ _ | with_reducible exact C3 _ _ | with_reducible exact C4 _ _))
  refine wpQuiet_nil ?_
  intro w2 hw'
  obtain ⟨⟨dq, osq⟩, hw''⟩ := hw'
  have be2 : Hid (RowKit.Below w.heap.size w w2) := by rw [hw'']; exact be0.out.trans ((below_regrown w0 dq osq).mono be0.out.size)
  clear hw'' k0 k1 k2 k3 k4 C0 C1 C2 C3 C4
  go_wp2_with fail
  go_ret
  rw [F.out]
  exact ⟨rfl, be2.out⟩
end Wt
end Go.Proofs.Ytmmediadgoejpaa
