/- Parts of the claim: FnE, FnF -/
import Derived.Test.YtpkdigegkemogaaGreatDoorFnDT
import Derived.Test.YtpkdigegkemogaaGreatDoorFoXaT
namespace Go.Proofs.YtpkdigegkemogaaGreatDoor
set_option maxRecDepth 100000
open Go.RowKit
open Go.Proofs.YtpkdigegkemogaaGreatDoor.Pk (one_at one_free one_set lt_some)
namespace Fo
open Re (Rec rcc rcv BoxR rmay)
open St (Kq grq mayS)
open Pu (mayF)
open Ho (Hst)
open Ti (Til)
open Sg (Tab Sag sgv sz)
open Pl (regionAt)

def ini (n a b c d e f g h i j : Int) : Nd := if n = 0 then .host a b Ho.sz else if n = 1 then .host c d Ho.sz else if n = 2 then .host e f Ho.sz else if n = 3 then .till ⟨Pu.new g h i j, Tb.fz⟩ else .desk Fs.fz
def NwTo (w : World) (s : Nd) (e : Ending) (w' : World) : Prop := ∃ q fp, e = .returned (.tuple #[ptr q, .int .i64 0]) ∧ R w' q s fp ∧ (∀ g, fp g → w.heap.size ≤ g) ∧ Below w.heap.size w w' 
set_option maxHeartbeats 6400000 in
theorem new0_any (w : World) (a b c d e f g h i j : Int) (m0 : mayS a b = true) (m1 : mayS c d = true) (m2 : mayS e f = true) (hI : ∀ z ∈ [g, h, i, j], Cs.I z) (hF : mayF g h i j = true) :
    Calls Tryz.prog 13 #[.int .i64 0, .agg (cfg a b c d e f g h i j)] w (NwTo w (ini 0 a b c d e f g h i j)) := by
  obtain ⟨w0, e0⟩ : ∃ z, z = w.alloc (.cells (cfg a b c d e f g h i j) 29) := ⟨_, rfl⟩
  have be0 : Hid (Below w.heap.size w w0) := by rw [e0]; exact (Below.refl _ w).alloc (Nat.le_refl _) _
  have B0 : w0.heap[w.heap.size]? = some (.cells (cfg a b c d e f g h i j) 29 (0, 0)) := by rw [e0]; exact heap_alloc_new _ _
  have PA := Lib.hid (part_any w0 a b c d e f g h i j m0 m1 m2 hI hF)
  have c0 := one_at (i := 0) B0
  have c1 := one_at (i := 1) B0
  have c2 := one_at (i := 2) B0
  have c3 := one_at (i := 3) B0
  have c4 := one_at (i := 4) B0
  have c5 := one_at (i := 5) B0
  have c6 := one_at (i := 6) B0
  have c7 := one_at (i := 7) B0
  have c8 := one_at (i := 8) B0
  have c9 := one_at (i := 9) B0
  have lk := lt_some B0
  replace e0 := Lib.hid e0
  clear m0 m1 m2 hI hF B0
  go_enter Tryz.func13, Tryz.ntmps13
  go_upto_region 1 with fail
  have e0' := e0.out
  unfold cfg at e0'
  rw [← e0']
  clear e0' e0
  go_wp2_with fail
  refine PA.out.mono ?_
  rintro en w1 ⟨q0, q1, q2, q3, rfl, ⟨H0, H1, H2⟩, T3, ⟨n0, n1, n2, n3⟩, hb⟩
  have be1 : Hid (Below w.heap.size w w1) := be0.out.trans (hb.mono be0.out.size)
  have ge := be0.out.size
  have N0 : Hid (w.heap.size ≤ q0 ∧ w.heap.size ≤ q1 ∧ w.heap.size ≤ q2 ∧ w.heap.size ≤ q3) := ⟨Nat.le_trans ge n0, Nat.le_trans ge n1, Nat.le_trans ge n2, Nat.le_trans ge n3⟩
  replace H0 := Lib.hid H0
  replace H1 := Lib.hid H1
  replace H2 := Lib.hid H2
  replace T3 := Lib.hid T3
  clear PA c0 c1 c2 c3 c4 c5 c6 c7 c8 c9 lk hb n0 n1 n2 n3 ge be0
  go_upto_region 2 with fail
  obtain ⟨w2, e2⟩ : ∃ z, z = w1.alloc (.cells #[ptr q0, ptr q1, ptr q2] 98) := ⟨_, rfl⟩
  rw [← e2]
  have b2 : Hid (Below w1.heap.size w1 w2) := by rw [e2]; exact (Below.refl _ _).alloc (Nat.le_refl _) _
  have A2 : w2.heap[w1.heap.size]? = some (.cells #[ptr q0, ptr q1, ptr q2] 98 (0, 0)) := by rw [e2]; exact heap_alloc_new _ _
  have be2 : Hid (Below w.heap.size w w2) := be1.out.trans (b2.out.mono be1.out.size)
  have d0 := one_at (i := 0) A2
  have d1 := one_at (i := 1) A2
  have d2 := one_at (i := 2) A2
  have lk := lt_some A2
  clear e2 A2
  have L2 := Lib.hid (H0.out.below b2.out)
  clear H0 H1 H2 T3 b2
  go_wp2
  go_ret2
  have hq : q0 < w2.heap.size := L2.out.lt
  refine ⟨w2.heap.size, fun g => g = w2.heap.size ∨ g = q0, rfl, ⟨.inl rfl, fun g hg => ?_, fun g => g = q0, fun g hg => ⟨.inr hg, by omega⟩, q0, heap_alloc_new _ _, L2.out.below ((Below.refl _ _).alloc (Nat.le_refl _) _)⟩, fun g hg => ?_, be2.out.alloc be2.out.size _⟩
  · show g < (w2.alloc _).heap.size
    simp
    omega
  · have := be2.out.size
    have := N0.out.1
    omega
set_option maxHeartbeats 6400000 in
theorem new1_any (w : World) (a b c d e f g h i j : Int) (m0 : mayS a b = true) (m1 : mayS c d = true) (m2 : mayS e f = true) (hI : ∀ z ∈ [g, h, i, j], Cs.I z) (hF : mayF g h i j = true) :
    Calls Tryz.prog 13 #[.int .i64 1, .agg (cfg a b c d e f g h i j)] w (NwTo w (ini 1 a b c d e f g h i j)) := by
  obtain ⟨w0, e0⟩ : ∃ z, z = w.alloc (.cells (cfg a b c d e f g h i j) 29) := ⟨_, rfl⟩
  have be0 : Hid (Below w.heap.size w w0) := by rw [e0]; exact (Below.refl _ w).alloc (Nat.le_refl _) _
  have B0 : w0.heap[w.heap.size]? = some (.cells (cfg a b c d e f g h i j) 29 (0, 0)) := by rw [e0]; exact heap_alloc_new _ _
  have PA := Lib.hid (part_any w0 a b c d e f g h i j m0 m1 m2 hI hF)
  have c0 := one_at (i := 0) B0
  have c1 := one_at (i := 1) B0
  have c2 := one_at (i := 2) B0
  have c3 := one_at (i := 3) B0
  have c4 := one_at (i := 4) B0
  have c5 := one_at (i := 5) B0
  have c6 := one_at (i := 6) B0
  have c7 := one_at (i := 7) B0
  have c8 := one_at (i := 8) B0
  have c9 := one_at (i := 9) B0
  have lk := lt_some B0
  replace e0 := Lib.hid e0
  clear m0 m1 m2 hI hF B0
  go_enter Tryz.func13, Tryz.ntmps13
  go_upto_region 1 with fail
  have e0' := e0.out
  unfold cfg at e0'
  rw [← e0']
  clear e0' e0
  go_wp2_with fail
  refine PA.out.mono ?_
  rintro en w1 ⟨q0, q1, q2, q3, rfl, ⟨H0, H1, H2⟩, T3, ⟨n0, n1, n2, n3⟩, hb⟩
  have be1 : Hid (Below w.heap.size w w1) := be0.out.trans (hb.mono be0.out.size)
  have ge := be0.out.size
  have N0 : Hid (w.heap.size ≤ q0 ∧ w.heap.size ≤ q1 ∧ w.heap.size ≤ q2 ∧ w.heap.size ≤ q3) := ⟨Nat.le_trans ge n0, Nat.le_trans ge n1, Nat.le_trans ge n2, Nat.le_trans ge n3⟩
  replace H0 := Lib.hid H0
  replace H1 := Lib.hid H1
  replace H2 := Lib.hid H2
  replace T3 := Lib.hid T3
  clear PA c0 c1 c2 c3 c4 c5 c6 c7 c8 c9 lk hb n0 n1 n2 n3 ge be0
  go_upto_region 2 with fail
  obtain ⟨w2, e2⟩ : ∃ z, z = w1.alloc (.cells #[ptr q0, ptr q1, ptr q2] 98) := ⟨_, rfl⟩
  rw [← e2]
  have b2 : Hid (Below w1.heap.size w1 w2) := by rw [e2]; exact (Below.refl _ _).alloc (Nat.le_refl _) _
  have A2 : w2.heap[w1.heap.size]? = some (.cells #[ptr q0, ptr q1, ptr q2] 98 (0, 0)) := by rw [e2]; exact heap_alloc_new _ _
  have be2 : Hid (Below w.heap.size w w2) := be1.out.trans (b2.out.mono be1.out.size)
  have d0 := one_at (i := 0) A2
  have d1 := one_at (i := 1) A2
  have d2 := one_at (i := 2) A2
  have lk := lt_some A2
  clear e2 A2
  have L2 := Lib.hid (H1.out.below b2.out)
  clear H0 H1 H2 T3 b2
  go_wp2
  go_ret2
  have hq : q1 < w2.heap.size := L2.out.lt
  refine ⟨w2.heap.size, fun g => g = w2.heap.size ∨ g = q1, rfl, ⟨.inl rfl, fun g hg => ?_, fun g => g = q1, fun g hg => ⟨.inr hg, by omega⟩, q1, heap_alloc_new _ _, L2.out.below ((Below.refl _ _).alloc (Nat.le_refl _) _)⟩, fun g hg => ?_, be2.out.alloc be2.out.size _⟩
  · show g < (w2.alloc _).heap.size
    simp
    omega
  · have := be2.out.size
    have := N0.out.2.1
    omega
set_option maxHeartbeats 6400000 in
theorem new2_any (w : World) (a b c d e f g h i j : Int) (m0 : mayS a b = true) (m1 : mayS c d = true) (m2 : mayS e f = true) (hI : ∀ z ∈ [g, h, i, j], Cs.I z) (hF : mayF g h i j = true) :
    Calls Tryz.prog 13 #[.int .i64 2, .agg (cfg a b c d e f g h i j)] w (NwTo w (ini 2 a b c d e f g h i j)) := by
  obtain ⟨w0, e0⟩ : ∃ z, z = w.alloc (.cells (cfg a b c d e f g h i j) 29) := ⟨_, rfl⟩
  have be0 : Hid (Below w.heap.size w w0) := by rw [e0]; exact (Below.refl _ w).alloc (Nat.le_refl _) _
  have B0 : w0.heap[w.heap.size]? = some (.cells (cfg a b c d e f g h i j) 29 (0, 0)) := by rw [e0]; exact heap_alloc_new _ _
  have PA := Lib.hid (part_any w0 a b c d e f g h i j m0 m1 m2 hI hF)
  have c0 := one_at (i := 0) B0
  have c1 := one_at (i := 1) B0
  have c2 := one_at (i := 2) B0
  have c3 := one_at (i := 3) B0
  have c4 := one_at (i := 4) B0
  have c5 := one_at (i := 5) B0
  have c6 := one_at (i := 6) B0
  have c7 := one_at (i := 7) B0
  have c8 := one_at (i := 8) B0
  have c9 := one_at (i := 9) B0
  have lk := lt_some B0
  replace e0 := Lib.hid e0
  clear m0 m1 m2 hI hF B0
  go_enter Tryz.func13, Tryz.ntmps13
  go_upto_region 1 with fail
  have e0' := e0.out
  unfold cfg at e0'
  rw [← e0']
  clear e0' e0
  go_wp2_with fail
  refine PA.out.mono ?_
  rintro en w1 ⟨q0, q1, q2, q3, rfl, ⟨H0, H1, H2⟩, T3, ⟨n0, n1, n2, n3⟩, hb⟩
  have be1 : Hid (Below w.heap.size w w1) := be0.out.trans (hb.mono be0.out.size)
  have ge := be0.out.size
  have N0 : Hid (w.heap.size ≤ q0 ∧ w.heap.size ≤ q1 ∧ w.heap.size ≤ q2 ∧ w.heap.size ≤ q3) := ⟨Nat.le_trans ge n0, Nat.le_trans ge n1, Nat.le_trans ge n2, Nat.le_trans ge n3⟩
  replace H0 := Lib.hid H0
  replace H1 := Lib.hid H1
  replace H2 := Lib.hid H2
  replace T3 := Lib.hid T3
  clear PA c0 c1 c2 c3 c4 c5 c6 c7 c8 c9 lk hb n0 n1 n2 n3 ge be0
  go_upto_region 2 with fail
  obtain ⟨w2, e2⟩ : ∃ z, z = w1.alloc (.cells #[ptr q0, ptr q1, ptr q2] 98) := ⟨_, rfl⟩
  rw [← e2]
  have b2 : Hid (Below w1.heap.size w1 w2) := by rw [e2]; exact (Below.refl _ _).alloc (Nat.le_refl _) _
  have A2 : w2.heap[w1.heap.size]? = some (.cells #[ptr q0, ptr q1, ptr q2] 98 (0, 0)) := by rw [e2]; exact heap_alloc_new _ _
  have be2 : Hid (Below w.heap.size w w2) := be1.out.trans (b2.out.mono be1.out.size)
  have d0 := one_at (i := 0) A2
  have d1 := one_at (i := 1) A2
  have d2 := one_at (i := 2) A2
  have lk := lt_some A2
  clear e2 A2
  have L2 := Lib.hid (H2.out.below b2.out)
  clear H0 H1 H2 T3 b2
  go_wp2
  go_ret2
  have hq : q2 < w2.heap.size := L2.out.lt
  refine ⟨w2.heap.size, fun g => g = w2.heap.size ∨ g = q2, rfl, ⟨.inl rfl, fun g hg => ?_, fun g => g = q2, fun g hg => ⟨.inr hg, by omega⟩, q2, heap_alloc_new _ _, L2.out.below ((Below.refl _ _).alloc (Nat.le_refl _) _)⟩, fun g hg => ?_, be2.out.alloc be2.out.size _⟩
  · show g < (w2.alloc _).heap.size
    simp
    omega
  · have := be2.out.size
    have := N0.out.2.2.1
    omega
set_option maxHeartbeats 6400000 in
theorem new3_any (w : World) (a b c d e f g h i j : Int) (m0 : mayS a b = true) (m1 : mayS c d = true) (m2 : mayS e f = true) (hI : ∀ z ∈ [g, h, i, j], Cs.I z) (hF : mayF g h i j = true) :
    Calls Tryz.prog 13 #[.int .i64 3, .agg (cfg a b c d e f g h i j)] w (NwTo w (ini 3 a b c d e f g h i j)) := by
  obtain ⟨w0, e0⟩ : ∃ z, z = w.alloc (.cells (cfg a b c d e f g h i j) 29) := ⟨_, rfl⟩
  have be0 : Hid (Below w.heap.size w w0) := by rw [e0]; exact (Below.refl _ w).alloc (Nat.le_refl _) _
  have B0 : w0.heap[w.heap.size]? = some (.cells (cfg a b c d e f g h i j) 29 (0, 0)) := by rw [e0]; exact heap_alloc_new _ _
  have PA := Lib.hid (part_any w0 a b c d e f g h i j m0 m1 m2 hI hF)
  have c0 := one_at (i := 0) B0
  have c1 := one_at (i := 1) B0
  have c2 := one_at (i := 2) B0
  have c3 := one_at (i := 3) B0
  have c4 := one_at (i := 4) B0
  have c5 := one_at (i := 5) B0
  have c6 := one_at (i := 6) B0
  have c7 := one_at (i := 7) B0
  have c8 := one_at (i := 8) B0
  have c9 := one_at (i := 9) B0
  have lk := lt_some B0
  replace e0 := Lib.hid e0
  clear m0 m1 m2 hI hF B0
  go_enter Tryz.func13, Tryz.ntmps13
  go_upto_region 1 with fail
  have e0' := e0.out
  unfold cfg at e0'
  rw [← e0']
  clear e0' e0
  go_wp2_with fail
  refine PA.out.mono ?_
  rintro en w1 ⟨q0, q1, q2, q3, rfl, ⟨H0, H1, H2⟩, T3, ⟨n0, n1, n2, n3⟩, hb⟩
  have be1 : Hid (Below w.heap.size w w1) := be0.out.trans (hb.mono be0.out.size)
  have ge := be0.out.size
  have N0 : Hid (w.heap.size ≤ q0 ∧ w.heap.size ≤ q1 ∧ w.heap.size ≤ q2 ∧ w.heap.size ≤ q3) := ⟨Nat.le_trans ge n0, Nat.le_trans ge n1, Nat.le_trans ge n2, Nat.le_trans ge n3⟩
  replace H0 := Lib.hid H0
  replace H1 := Lib.hid H1
  replace H2 := Lib.hid H2
  replace T3 := Lib.hid T3
  clear PA c0 c1 c2 c3 c4 c5 c6 c7 c8 c9 lk hb n0 n1 n2 n3 ge be0
  go_upto_region 2 with fail
  obtain ⟨w2, e2⟩ : ∃ z, z = w1.alloc (.cells #[ptr q0, ptr q1, ptr q2] 98) := ⟨_, rfl⟩
  rw [← e2]
  have b2 : Hid (Below w1.heap.size w1 w2) := by rw [e2]; exact (Below.refl _ _).alloc (Nat.le_refl _) _
  have A2 : w2.heap[w1.heap.size]? = some (.cells #[ptr q0, ptr q1, ptr q2] 98 (0, 0)) := by rw [e2]; exact heap_alloc_new _ _
  have be2 : Hid (Below w.heap.size w w2) := be1.out.trans (b2.out.mono be1.out.size)
  have d0 := one_at (i := 0) A2
  have d1 := one_at (i := 1) A2
  have d2 := one_at (i := 2) A2
  have lk := lt_some A2
  clear e2 A2
  have L2 := Lib.hid (T3.out.below b2.out)
  clear H0 H1 H2 T3 b2
  go_wp2
  go_ret2
  have hq : q3 < w2.heap.size := L2.out.lt
  refine ⟨w2.heap.size, fun g => g = w2.heap.size ∨ g = q3, rfl, ⟨.inl rfl, fun g hg => ?_, fun g => g = q3, fun g hg => ⟨.inr hg, by omega⟩, q3, heap_alloc_new _ _, L2.out.below ((Below.refl _ _).alloc (Nat.le_refl _) _)⟩, fun g hg => ?_, be2.out.alloc be2.out.size _⟩
  · show g < (w2.alloc _).heap.size
    simp
    omega
  · have := be2.out.size
    have := N0.out.2.2.2
    omega
set_option maxHeartbeats 6400000 in
theorem new4_any (w : World) (a b c d e f g h i j : Int) (m0 : mayS a b = true) (m1 : mayS c d = true) (m2 : mayS e f = true) (hI : ∀ z ∈ [g, h, i, j], Cs.I z) (hF : mayF g h i j = true) :
    Calls Tryz.prog 13 #[.int .i64 4, .agg (cfg a b c d e f g h i j)] w (NwTo w (ini 4 a b c d e f g h i j)) := by
  obtain ⟨w0, e0⟩ : ∃ z, z = w.alloc (.cells (cfg a b c d e f g h i j) 29) := ⟨_, rfl⟩
  have be0 : Hid (Below w.heap.size w w0) := by rw [e0]; exact (Below.refl _ w).alloc (Nat.le_refl _) _
  have B0 : w0.heap[w.heap.size]? = some (.cells (cfg a b c d e f g h i j) 29 (0, 0)) := by rw [e0]; exact heap_alloc_new _ _
  have PA := Lib.hid (part_any w0 a b c d e f g h i j m0 m1 m2 hI hF)
  have c0 := one_at (i := 0) B0
  have c1 := one_at (i := 1) B0
  have c2 := one_at (i := 2) B0
  have c3 := one_at (i := 3) B0
  have c4 := one_at (i := 4) B0
  have c5 := one_at (i := 5) B0
  have c6 := one_at (i := 6) B0
  have c7 := one_at (i := 7) B0
  have c8 := one_at (i := 8) B0
  have c9 := one_at (i := 9) B0
  have lk := lt_some B0
  replace e0 := Lib.hid e0
  clear m0 m1 m2 hI hF B0
  go_enter Tryz.func13, Tryz.ntmps13
  go_upto_region 1 with fail
  have e0' := e0.out
  unfold cfg at e0'
  rw [← e0']
  clear e0' e0
  go_wp2_with fail
  refine PA.out.mono ?_
  rintro en w1 ⟨q0, q1, q2, q3, rfl, ⟨H0, H1, H2⟩, T3, ⟨n0, n1, n2, n3⟩, hb⟩
  have be1 : Hid (Below w.heap.size w w1) := be0.out.trans (hb.mono be0.out.size)
  have ge := be0.out.size
  have N0 : Hid (w.heap.size ≤ q0 ∧ w.heap.size ≤ q1 ∧ w.heap.size ≤ q2 ∧ w.heap.size ≤ q3) := ⟨Nat.le_trans ge n0, Nat.le_trans ge n1, Nat.le_trans ge n2, Nat.le_trans ge n3⟩
  replace H0 := Lib.hid H0
  replace H1 := Lib.hid H1
  replace H2 := Lib.hid H2
  replace T3 := Lib.hid T3
  clear PA c0 c1 c2 c3 c4 c5 c6 c7 c8 c9 lk hb n0 n1 n2 n3 ge be0
  go_upto_region 2 with fail
  obtain ⟨w2, e2⟩ : ∃ z, z = w1.alloc (.cells #[ptr q0, ptr q1, ptr q2] 98) := ⟨_, rfl⟩
  rw [← e2]
  have b2 : Hid (Below w1.heap.size w1 w2) := by rw [e2]; exact (Below.refl _ _).alloc (Nat.le_refl _) _
  have A2 : w2.heap[w1.heap.size]? = some (.cells #[ptr q0, ptr q1, ptr q2] 98 (0, 0)) := by rw [e2]; exact heap_alloc_new _ _
  have be2 : Hid (Below w.heap.size w w2) := be1.out.trans (b2.out.mono be1.out.size)
  have d0 := one_at (i := 0) A2
  have d1 := one_at (i := 1) A2
  have d2 := one_at (i := 2) A2
  have lk := lt_some A2
  clear e2 A2
  clear H0 H1 H2 T3 b2 d0 d1 d2 lk
  have hmm := @run_makeMap Tryz.prog
  go_wp2
  go_ret2
  have ez : (w2.alloc (.map #[] 0)).heap.size = w2.heap.size + 1 := by simp
  have bm : Below w2.heap.size w2 (w2.alloc (.map #[] 0)) := (Below.refl _ _).alloc (Nat.le_refl _) _
  have M := Fs.Map.made w2
  refine ⟨w2.heap.size + 1, fun g => g = w2.heap.size + 1 ∨ g = w2.heap.size, by rw [← ez]; rfl, ⟨.inl rfl, fun g hg => ?_, fun g => g = w2.heap.size, fun g hg => ⟨.inr hg, by omega⟩, w2.heap.size, ?_, M.below ((Below.refl _ _).alloc (Nat.le_refl _) _), Fs.ok_z, rfl, fun g hg => ?_⟩, fun g hg => ?_, (be2.out.trans (bm.mono be2.out.size)).alloc (by have := be2.out.size; omega) _⟩
  · simp
    omega
  · have := heap_alloc_new (w2.alloc (.map #[] 0)) (.cells (deskC w2.heap.size) 94)
    rw [ez] at this
    exact this
  · rw [hg]
    simp
    omega
  · have := be2.out.size
    omega
theorem new_any (w : World) (n : Int) (h0 : 0 ≤ n) (h4 : n ≤ 4) (a b c d e f g h i j : Int) (m0 : mayS a b = true) (m1 : mayS c d = true) (m2 : mayS e f = true) (hI : ∀ z ∈ [g, h, i, j], Cs.I z) (hF : mayF g h i j = true) :
    Calls Tryz.prog 13 #[.int .i64 n, .agg (cfg a b c d e f g h i j)] w (NwTo w (ini n a b c d e f g h i j)) := by
  rcases (by omega : n = 0 ∨ n = 1 ∨ n = 2 ∨ n = 3 ∨ n = 4) with rfl | rfl | rfl | rfl | rfl
  · exact new0_any w a b c d e f g h i j m0 m1 m2 hI hF
  · exact new1_any w a b c d e f g h i j m0 m1 m2 hI hF
  · exact new2_any w a b c d e f g h i j m0 m1 m2 hI hF
  · exact new3_any w a b c d e f g h i j m0 m1 m2 hI hF
  · exact new4_any w a b c d e f g h i j m0 m1 m2 hI hF

set_option maxHeartbeats 3200000 in
theorem bytes_any (w : World) (t : Tab w) (q : Nat) (s : Nd) (fp : Nat → Prop) (H : R w q s fp) : Calls Tryz.prog 11 #[ptr q] w (Pk.Copied w (bys s).length (bys s)) := by
  obtain ⟨ff, hf, C⟩ := H.core
  cases s with
  | host c v s =>
    obtain ⟨h, e, J⟩ := C
    have BY := Lib.hid (bytesH_any w h c v s ff J)
    have e2 : bys (.host c v s) = Ho.hbts c v s := rfl
    rw [e2]
    clear e2
    generalize Ho.hbts c v s = bs at *
    have c0 := one_at (i := 0) e
    have lk := lt_some e
    have MB := fun w => m_bytesH h w
    clear H J e hf
    go_enter Tryz.func11, Tryz.ntmps11
    go_wp2_with fail
    refine BY.out.mono ?_
    rintro e w1 ⟨v, rfl, h1, h2⟩
    replace h1 := Lib.hid h1
    replace h2 := Lib.hid h2
    clear BY c0 lk MB
    go_wp2
    go_ret
    exact ⟨v, rfl, h1.out, h2.out⟩
  | till s =>
    obtain ⟨h, e, J⟩ := C
    have BY := Lib.hid (bytesT_any w h s ff J)
    have e2 : bys (.till s) = Ti.tlbts s := rfl
    rw [e2]
    clear e2
    generalize Ti.tlbts s = bs at *
    have c0 := one_at (i := 0) e
    have lk := lt_some e
    have MB := fun w => m_bytesT h w
    clear H J e hf
    go_enter Tryz.func11, Tryz.ntmps11
    go_wp2_with fail
    refine BY.out.mono ?_
    rintro e w1 ⟨v, rfl, h1, h2⟩
    replace h1 := Lib.hid h1
    replace h2 := Lib.hid h2
    clear BY c0 lk MB
    go_wp2
    go_ret
    exact ⟨v, rfl, h1.out, h2.out⟩
  | desk f =>
    obtain ⟨h, e, M, O, -, -⟩ := C
    have BY := Lib.hid (bytesD_any w h t f M O)
    have e2 : bys (.desk f) = Fs.bts f := rfl
    rw [e2]
    clear e2
    generalize Fs.bts f = bs at *
    have c0 := one_at (i := 0) e
    have lk := lt_some e
    have MB := fun w => m_bytesD h w
    clear H M O e hf
    go_enter Tryz.func11, Tryz.ntmps11
    go_wp2_with fail
    refine BY.out.mono ?_
    rintro e w1 ⟨v, rfl, h1, h2⟩
    replace h1 := Lib.hid h1
    replace h2 := Lib.hid h2
    clear BY c0 lk MB
    go_wp2
    go_ret
    exact ⟨v, rfl, h1.out, h2.out⟩
theorem entry_results : Tryz.f16.results = #[.cell 4 37] := by kernel_rfl
theorem saga_results : Tryz.f15.results = #[.cell 4 57, .tmp 5] := by kernel_rfl
end Fo
end Go.Proofs.YtpkdigegkemogaaGreatDoor
namespace Go.Proofs.YtpkdigegkemogaaGreatDoor
set_option maxRecDepth 100000
open Go.RowKit
open Go.Proofs.YtpkdigegkemogaaGreatDoor.Pk (one_at one_free one_set lt_some)
namespace Fo
open Re (Rec rcc rcv r0 BoxR rmay wpList_rload wpList_rstore)
open St (Kq grq mayS RowI ivs)
open Pu (mayF)
open Ho (Hst)
open Sg (Tab Sag sgv sz)
open Pl (setRow_below)

def FdAt (w : World) (q : Nat) (s0 : Nd) (l : List Rec) (i : Value) (wr : World) : Prop :=
  ∃ (k : Nat) (s : Nd) (fp : Nat → Prop), i = .int .i64 k ∧ k ≤ l.length ∧ apl ap s0 (l.take k) = some s ∧ R wr q s fp ∧ (∀ g, fp g → w.heap.size ≤ g) ∧ Below w.heap.size w wr
theorem fold_step {w wr w1 w2 : World} {q k : Nat} {s0 s : Nd} {l : List Rec} {fp : Nat → Prop} {s' : Nd} (hk : k + 1 ≤ l.length) (ha : apl ap s0 (l.take (k + 1)) = some s') (_H : R wr q s fp) (hf : ∀ g, fp g → w.heap.size ≤ g) (hb : Below w.heap.size w wr) (h1 : Below wr.heap.size wr w1) (h2 : RTo w1 q fp s' w2) :
    FdAt w q s0 l (.int .i64 ((k + 1 : Nat) : Int)) w2 := by
  have b1 := hb.trans (h1.mono hb.size)
  refine ⟨k + 1, s', _, rfl, hk, ha, h2.1, fun g hg => ?_, b1.trans (h2.2.below hf b1.size)⟩
  rcases hg with hg | ⟨hg, _⟩
  · exact hf g hg
  · exact Nat.le_trans b1.size hg
set_option maxHeartbeats 6400000 in
theorem fold_any (w : World) (t : Tab w) (n : Int) (n0 : 0 ≤ n) (n4 : n ≤ 4) (a b c d e f g h i j : Int) (m0 : mayS a b = true) (m1 : mayS c d = true) (m2 : mayS e f = true) (hI : ∀ z ∈ [g, h, i, j], Cs.I z) (hF : mayF g h i j = true)
    (A : Option Addr) (m cp : Nat) (l : List Rec) (hr : Rin w (fun g => g < w.heap.size) A m l) (hm : m ≤ 1000) (s' : Nd) (ha : apl ap (ini n a b c d e f g h i j) l = some s') :
    Calls Tryz.prog 9 #[.int .i64 n, .agg (cfg a b c d e f g h i j), .slice A m cp] w (NwTo w s') := by
  obtain ⟨w0, e0⟩ : ∃ z, z = w.alloc (.cells (cfg a b c d e f g h i j) 29) := ⟨_, rfl⟩
  have be0 : Hid (Below w.heap.size w w0) := by rw [e0]; exact (Below.refl _ w).alloc (Nat.le_refl _) _
  have B0 : w0.heap[w.heap.size]? = some (.cells (cfg a b c d e f g h i j) 29 (0, 0)) := by rw [e0]; exact heap_alloc_new _ _
  have NW := Lib.hid (new_any w0 n n0 n4 a b c d e f g h i j m0 m1 m2 hI hF)
  have tw := Lib.hid t
  have hl := Lib.hid hr.len
  replace hr := Lib.hid hr
  replace hm := Lib.hid hm
  replace ha := Lib.hid ha
  generalize ini n a b c d e f g h i j = s0 at *
  have c0 := one_at (i := 0) B0
  have c1 := one_at (i := 1) B0
  have c2 := one_at (i := 2) B0
  have c3 := one_at (i := 3) B0
  have c4 := one_at (i := 4) B0
  have c5 := one_at (i := 5) B0
  have c6 := one_at (i := 6) B0
  have c7 := one_at (i := 7) B0
  have c8 := one_at (i := 8) B0
  have c9 := one_at (i := 9) B0
  have lk := lt_some B0
  replace e0 := Lib.hid e0
  clear m0 m1 m2 hI hF B0 t n0 n4
  go_enter Tryz.func9, Tryz.ntmps9
  go_upto_region 1 with fail
  have e0' := e0.out
  unfold cfg at e0'
  rw [← e0']
  clear e0' e0
  go_wp2_with fail
  refine NW.out.mono ?_
  rintro en w1 ⟨q, fp, rfl, R1, hf, hb⟩
  have be1 : Hid (Below w.heap.size w w1) := be0.out.trans (hb.mono be0.out.size)
  have st : Hid (FdAt w q s0 l (.int .i64 0) w1) := ⟨0, s0, fp, rfl, Nat.zero_le _, rfl, R1, fun g hg => Nat.le_trans be0.out.size (hf g hg), be1.out⟩
  clear NW c0 c1 c2 c3 c4 c5 c6 c7 c8 c9 lk hb R1 hf be0
  go_wp2_with fail
  go_loopw [23] (fun i wr => FdAt w q s0 l i wr) (fun i _ => m - (intOf i).toNat)
  case atStart => exact st.out
  case round =>
    clear st be1
    obtain ⟨w2, e2⟩ : ∃ x, x = wr := ⟨_, rfl⟩
    subst e2
    obtain ⟨k, s, fp, rfl, hk, hs, R2, hf, hb⟩ := hrel
    replace hk := Lib.hid hk
    replace hf := Lib.hid hf
    replace R2 := Lib.hid R2
    replace hb := Lib.hid hb
    by_cases hlt : k < m
    · obtain ⟨ad, rfl, hT, hat⟩ := (hr.out.keep (fun g hg => hb.out.block g hg) (fun _ h => h)).at_ (by omega)
      have hkl : k < l.length := by have := hl.out; omega
      obtain ⟨x, a1, a2, a3⟩ := apl_at ha.out hkl
      obtain rfl : s = x := by rw [hs] at a1; injection a1
      have ra := Lib.hid (hat k _ (List.getElem?_eq_getElem hkl))
      generalize l[k] = r at *
      replace a3 := Lib.hid a3
      have hk1 : Hid (k + 1 ≤ l.length) := hkl
      clear a1 hs hat hT hkl
      go_upto_region 7 with (first | (refine wpList_rload_at rfl (.tmp 25) rfl _ rfl r ra.out ?_) | (refine wpList_rstore rfl (.tmp 11) (.tmp 26) rfl w2.heap.size rfl r rfl r0 (heap_alloc_new _ _) ?_))
      obtain ⟨w3, e3⟩ : ∃ z, z = (w2.alloc (.cells #[.int .i64 0, .int .i64 0, .int .i64 0, .int .i64 0, .int .i64 0, .int .i64 0, .int .i64 0, .int .i64 0, .int .i64 0, .int .i64 0, .int .i64 0, .int .i64 0, .int .i64 0, .int .i64 0, .int .i64 0, .int .i64 0, .int .i64 0, .int .i64 0, .int .i64 0] 64)).setRow w2.heap.size (rcc r) := ⟨_, rfl⟩
      rw [← e3]
      have b3 : Hid (Below w2.heap.size w2 w3) := by rw [e3]; exact ((Below.refl _ _).alloc (Nat.le_refl _) _).trans (setRow_below _ (Nat.le_refl _))
      have B3 : Hid (BoxR w3 w2.heap.size r) := by rw [e3]; exact setRow_heap _ _ _ _ _ _ (heap_alloc_new _ _)
      have T3 := tw.out.below (hb.out.trans (b3.out.mono hb.out.size))
      have AP := Lib.hid (apply_any w3 T3 q s fp (R2.out.below b3.out) r)
      rw [a2] at AP
      clear e3 T3 ra
      go_wp2_with (refine wpList_rload rfl (.tmp 11) rfl w2.heap.size rfl r B3.out ?_)
      refine AP.out.mono ?_
      rintro en w4 ⟨rfl, h4⟩
      have st4 := Lib.hid (fold_step hk1.out a3.out R2.out hf.out hb.out b3.out h4)
      clear h4 AP B3 b3 R2 hf hb
      have hm' : m ≤ 1000 := hm.out
      go_wp2_with fail
      go_roundw
      case rel => exact st4.out
      case measure => simp [intOf]; omega
    · have F : Hid (NwTo w s' (.returned (.tuple #[ptr q, .int .i64 0])) w2) := by
        have h1 : l.take k = l := List.take_of_length_le (by have := hl.out; omega)
        have h2 := hs
        rw [h1, ha.out] at h2
        injection h2 with h2
        subst h2
        exact ⟨q, fp, rfl, R2.out, hf.out, hb.out⟩
      clear R2 hf hb hs
      go_wp2
      go_ret2
      exact F.out
theorem hostEntry_results : Tryz.f34.results = #[.cell 4 37] := by kernel_rfl
theorem nodeEntry_results : Tryz.f205.results = #[.cell 4 37] := by kernel_rfl
abbrev ec (e : St.E) : Array Value := #[.int .i64 e.st, .int .i64 e.un, .int .i64 e.ut, .int .i64 0, .int .i64 0]
set_option maxHeartbeats 1600000 in
theorem hentry_any (w : World) (h : Nat) (c v : Int) (s : Ho.S) (fp : Nat → Prop) (H : Hst w h c v s fp) (k : Int) (hk : St.Bd k) : Calls Tryz.prog 34 #[ptr h, .int .i64 k] w fun e w' => e = .returned (.agg (ec (s.f k))) ∧ Below w.heap.size w w' := by
  obtain ⟨w0, e0⟩ : ∃ z, z = w.alloc (.cells #[.int .i64 0, .int .i64 0, .int .i64 0, .int .i64 0, .int .i64 0] 37) := ⟨_, rfl⟩
  have be0 : Hid (Below w.heap.size w w0) := by rw [e0]; exact (Below.refl _ w).alloc (Nat.le_refl _) _
  have Z0 : Hid (w0.heap[w.heap.size]? = some (.cells #[.int .i64 0, .int .i64 0, .int .i64 0, .int .i64 0, .int .i64 0] 37 (0, 0))) := by rw [e0]; exact heap_alloc_new _ _
  have SK := Lib.hid (Ho.stock_any w0 h c v s fp (H.below be0.out))
  replace e0 := Lib.hid e0
  clear H
  generalize s.f = f at *
  replace hk := Lib.hid hk
  go_enter Tryz.func34, Tryz.ntmps34
  go_upto_region 1 with fail
  rw [← e0.out]
  clear e0
  go_wp2_with fail
  refine SK.out.mono ?_
  rintro en w1 ⟨q, fq, rfl, -, L, hb⟩
  have EN := Lib.hid (St.entry_any w1 q c v f fq L k hk.out)
  have Z1 := Lib.hid ((hb.block _ (lt_some Z0.out)).trans Z0.out)
  have be1 := Lib.hid (be0.out.trans (hb.mono be0.out.size))
  clear L hb SK Z0 be0
  go_wp2_with fail
  refine EN.out.mono ?_
  rintro en w2 ⟨rfl, hb⟩
  have Z2 := Lib.hid ((hb.block _ (lt_some Z1.out)).trans Z1.out)
  have be2 := Lib.hid (be1.out.trans (hb.mono be1.out.size))
  clear hb EN Z1 be1
  unfold St.cell
  go_wp2_with (refine Pl.wpList_store_row rfl 37 (.tmp 4) (.tmp 8) rfl w.heap.size (ec (f k)) rfl rfl 37 _ Z2.out St.entry_info rfl (by simp [Value.oneCell']) ?_)
  refine bodyPost_ret (results_cell_row hostEntry_results _ _ w.heap.size 37 (ec (f k)) (0, 0) _ rfl (setRow_heap _ _ _ _ _ _ Z2.out) Tryz.underlying37 rfl St.entry_info) rfl ?_
  exact ⟨rfl, be2.out.trans (setRow_below _ (Nat.le_refl _))⟩
set_option maxHeartbeats 1600000 in
theorem nentry_any (w : World) (h : Nat) (c v : Int) (s : Ho.S) (fp : Nat → Prop) (H : Hst w h c v s fp) (k : Int) (hk : St.Bd k) : Calls Tryz.prog 205 #[.agg (hostV h), .int .i64 k] w fun e w' => e = .returned (.agg (ec (s.f k))) ∧ Below w.heap.size w w' := by
  obtain ⟨w0, e0⟩ : ∃ z, z = (w.alloc (.cells (hostV h) 105)).alloc (.cells #[.int .i64 0, .int .i64 0, .int .i64 0, .int .i64 0, .int .i64 0] 37) := ⟨_, rfl⟩
  have be0 : Hid (Below w.heap.size w w0) := by rw [e0]; exact ((Below.refl _ w).alloc (Nat.le_refl _) _).alloc (by simp) _
  have BN : w0.heap[w.heap.size]? = some (.cells (hostV h) 105 (0, 0)) := by rw [e0]; exact heap_alloc2_old _ _ _
  have Z0 : Hid (w0.heap[w.heap.size + 1]? = some (.cells #[.int .i64 0, .int .i64 0, .int .i64 0, .int .i64 0, .int .i64 0] 37 (0, 0))) := by rw [e0]; exact heap_alloc2_new _ _ _
  have EN := hentry_any w0 h c v s fp (H.below be0.out) k hk
  generalize s.f k = e at *
  replace EN := Lib.hid EN
  have c0 := one_at (i := 0) BN
  have c2 := one_at (i := 2) BN
  have lk := lt_some BN
  replace e0 := Lib.hid e0
  clear H BN hk
  go_enter Tryz.func205, Tryz.ntmps205
  go_upto_region 1 with fail
  rw [← e0.out]
  clear e0
  go_wp2_with fail
  refine EN.out.mono ?_
  rintro en w2 ⟨rfl, hb⟩
  have Z2 := Lib.hid ((hb.block _ (lt_some Z0.out)).trans Z0.out)
  have be2 := Lib.hid (be0.out.trans (hb.mono be0.out.size))
  clear hb EN Z0 be0 c0 c2 lk
  go_wp2_with (refine Pl.wpList_store_row rfl 37 (.tmp 4) (.tmp 10) rfl (w.heap.size + 1) (ec e) rfl rfl 37 _ Z2.out St.entry_info rfl (by simp [Value.oneCell']) ?_)
  refine bodyPost_ret (results_cell_row nodeEntry_results _ _ (w.heap.size + 1) 37 (ec e) (0, 0) _ rfl (setRow_heap _ _ _ _ _ _ Z2.out) Tryz.underlying37 rfl St.entry_info) rfl ?_
  exact ⟨rfl, be2.out.trans (setRow_below _ (by omega))⟩
set_option maxHeartbeats 1600000 in
theorem entry_any (w : World) (q : Nat) (c v : Int) (s : Ho.S) (fp : Nat → Prop) (H : R w q (.host c v s) fp) (k : Int) (hk : St.Bd k) : Calls Tryz.prog 16 #[ptr q, .int .i64 k] w fun e w' => e = .returned (.agg (ec (s.f k))) ∧ Below w.heap.size w w' := by
  obtain ⟨w0, e0⟩ : ∃ z, z = w.alloc (.cells #[.int .i64 0, .int .i64 0, .int .i64 0, .int .i64 0, .int .i64 0] 37) := ⟨_, rfl⟩
  have be0 : Hid (Below w.heap.size w w0) := by rw [e0]; exact (Below.refl _ w).alloc (Nat.le_refl _) _
  have Z0 : Hid (w0.heap[w.heap.size]? = some (.cells #[.int .i64 0, .int .i64 0, .int .i64 0, .int .i64 0, .int .i64 0] 37 (0, 0))) := by rw [e0]; exact heap_alloc_new _ _
  obtain ⟨ff, hf, h, e, J⟩ := (H.below be0.out).core
  have EN := nentry_any w0 h c v s ff J k hk
  generalize s.f k = en at *
  replace EN := Lib.hid EN
  have c0 := one_at (i := 0) e
  have lk := lt_some e
  have ME := fun w => m_entryH h w
  replace e0 := Lib.hid e0
  clear H e J hf hk
  go_enter Tryz.func16, Tryz.ntmps16
  go_upto_region 1 with fail
  rw [← e0.out]
  clear e0
  go_wp2_with fail
  refine EN.out.mono ?_
  rintro ee w2 ⟨rfl, hb⟩
  have Z2 := Lib.hid ((hb.block _ (lt_some Z0.out)).trans Z0.out)
  have be2 := Lib.hid (be0.out.trans (hb.mono be0.out.size))
  clear hb EN Z0 be0 c0 lk ME
  go_wp2_with (refine Pl.wpList_store_row rfl 37 (.tmp 4) (.tmp 20) rfl w.heap.size (ec en) rfl rfl 37 _ Z2.out St.entry_info rfl (by simp [Value.oneCell']) ?_)
  refine bodyPost_ret (results_cell_row entry_results _ _ w.heap.size 37 (ec en) (0, 0) _ rfl (setRow_heap _ _ _ _ _ _ Z2.out) Tryz.underlying37 rfl St.entry_info) rfl ?_
  exact ⟨rfl, be2.out.trans (setRow_below _ (Nat.le_refl _))⟩
set_option maxHeartbeats 1600000 in
theorem saga_any (w : World) (q : Nat) (f : Fs.F) (fp : Nat → Prop) (H : R w q (.desk f) fp) (k : Int) (hk : St.Bd k) : Calls Tryz.prog 15 #[ptr q, .int .i64 k] w fun e w' => e = .returned (.tuple #[sgv (Fs.get f k), .bool (f k).isSome]) ∧ Below w.heap.size w w' := by
  obtain ⟨w0, e0⟩ : ∃ z, z = w.alloc (.cells #[.int .i64 0, .int .i64 0, .int .i64 0, .int .i64 0, .int .i64 0, .int .i64 0, .int .i64 0, .int .i64 0, .int .i64 0, .int .i64 0, .int .i64 0] 57) := ⟨_, rfl⟩
  have be0 : Hid (Below w.heap.size w w0) := by rw [e0]; exact (Below.refl _ w).alloc (Nat.le_refl _) _
  have Z0 : Hid (w0.heap[w.heap.size]? = some (.cells #[.int .i64 0, .int .i64 0, .int .i64 0, .int .i64 0, .int .i64 0, .int .i64 0, .int .i64 0, .int .i64 0, .int .i64 0, .int .i64 0, .int .i64 0] 57 (0, 0))) := by rw [e0]; exact heap_alloc_new _ _
  obtain ⟨ff, hf, h, e, M, O, -⟩ := (H.below be0.out).core
  have LO := M.look_ok hk
  generalize Fs.get f k = x at *
  generalize (f k).isSome = b at *
  have c1 := one_at (i := 1) e
  have lk := lt_some e
  replace e0 := Lib.hid e0
  clear H e M O hf hk
  unfold sgv Sg.sgc at *
  go_enter Tryz.func15, Tryz.ntmps15
  go_upto_region 1 with fail
  rw [← e0.out]
  clear e0
  go_upto_region 4 with fail
  obtain ⟨w2, e2⟩ : ∃ z, z = w0.alloc (.cells #[.int .i64 x.w.book, .int .i64 x.w.cust, .int .i64 x.w.dead, .int .i64 x.w.u0, .int .i64 x.w.u1, .int .i64 x.w.u2, .int .i64 x.w.price, .int .i64 x.ph, .int .i64 x.st, .int .i64 x.rs, .int .i64 x.si] 57) := ⟨_, rfl⟩
  rw [← e2]
  have h2 : Below w0.heap.size w0 w2 := by rw [e2]; exact (Below.refl _ _).alloc (Nat.le_refl _) _
  have S2 : Hid (Sg.BoxS w2 w0.heap.size x) := by rw [e2]; exact heap_alloc_new _ _
  have Z2 := Lib.hid ((h2.block _ (lt_some Z0.out)).trans Z0.out)
  have be2 := Lib.hid (be0.out.trans (h2.mono be0.out.size))
  clear e2 h2 Z0 be0 c1 lk LO
  go_wp2_with (first | (refine Fs.wpList_sload_g (.tmp 6) rfl rfl ⟨w0.heap.size, 0, none⟩ rfl x (Fs.boxs_at S2.out) ?_) | (refine Pl.wpList_store_row rfl 57 (.tmp 4) (.tmp 20) rfl w.heap.size (Sg.sgc x) rfl rfl 57 _ Z2.out Sg.sag_size rfl (Sg.one11 x) ?_))
  refine bodyPost_ret (Sg.res_row saga_results _ _ w.heap.size 57 (Sg.sgc x) (0, 0) _ rfl (setRow_heap _ _ _ _ _ _ Z2.out) Tryz.underlying57 rfl Sg.sag_size) rfl ?_
  exact ⟨rfl, be2.out.trans (setRow_below _ (Nat.le_refl _))⟩
set_option maxHeartbeats 1600000 in
theorem books_any (w : World) (q : Nat) (f : Fs.F) (fp : Nat → Prop) (H : R w q (.desk f) fp) : Calls Tryz.prog 17 #[ptr q] w (Fs.BkTo w (Fs.keys f)) := by
  obtain ⟨ff, hf, h, e, M, O, -⟩ := H.core
  have BK := Lib.hid (Fs.books_any w h f M O)
  generalize Fs.keys f = l at *
  have c1 := one_at (i := 1) e
  have lk := lt_some e
  clear H e M O hf
  go_enter Tryz.func17, Tryz.ntmps17
  go_wp2_with fail
  refine BK.out.mono ?_
  rintro en w2 ⟨v, rfl, h1, h2⟩
  replace h1 := Lib.hid h1
  replace h2 := Lib.hid h2
  clear BK c1 lk
  go_wp2
  go_ret
  exact ⟨v, rfl, h1.out, h2.out⟩
end Fo
end Go.Proofs.YtpkdigegkemogaaGreatDoor
