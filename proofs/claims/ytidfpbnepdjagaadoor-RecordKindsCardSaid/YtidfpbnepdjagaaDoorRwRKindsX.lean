/- Each kind of record has just its own parts (RecordKinds): any operation, any saga, any two numbers. -/
import Derived.Test.YtidfpbnepdjagaaDoorReX
import Derived.Deep.CutRange
import Derived.Test.YtidfpbnepdjagaaDoorWtRX
import Derived.Test.YtidfpbnepdjagaaDoorReQX
import Derived.Test.YtidfpbnepdjagaaDoorCards
import Derived.Test.YtidfpbnepdjagaaDoorTie
import Derived.JoinedRecord
import Derived.HandedShaped
namespace Go.Proofs.YtidfpbnepdjagaaDoor.recordKinds
set_option maxRecDepth 100000
open Go.RowKit
open Go.Proofs.YtidfpbnepdjagaaDoor.Pk (one_at one_free one_set lt_some)
open Go.Proofs.YtidfpbnepdjagaaDoor.Sg (Sag sz smay sgc sgv eq_sag)
open Go.Proofs.YtidfpbnepdjagaaDoor.Re
open Go.Proofs.YtidfpbnepdjagaaDoor.Wt (Opn mayOp)

theorem mx_1 (o : Opn) : rmay ⟨1, 0, 1, o, sz⟩ = mayOp o := by rw [rmay_1 (by simp) (by simp) rfl]; simp
theorem my_1 (s : Sag) : rmay ⟨3, 0, 0, o0, s⟩ = smay s := by rw [rmay_3 (by simp) (by simp) rfl]; simp
theorem may_o0 : mayOp o0 = false := by decide
theorem may_sz : smay sz = false := by decide
theorem mz {k a : Int} : rmay ⟨k, 0, a, o0, sz⟩ = (decide (k = 2) && decide (a = 0)) := by
  by_cases h1 : k = 1
  · subst h1; rw [rmay_1 (by simp) (by simp) rfl]; simp [may_o0]
  by_cases h2 : k = 2
  · subst h2; rw [rmay_2 (by simp) (by simp) rfl]; simp; rfl
  by_cases h3 : k = 3
  · subst h3; rw [rmay_3 (by simp) (by simp) rfl]; simp [may_sz]
  · rw [rmay_4 (by simp) (by simp) h1 h2 h3]; simp [h2]
theorem mx {k a : Int} {o : Opn} (ho : o ≠ o0) : rmay ⟨k, 0, a, o, sz⟩ = (decide (k = 1) && mayOp o && (decide (a = 1) || decide (a = 2))) := by
  by_cases h1 : k = 1
  · subst h1; rw [rmay_1 (by simp) (by simp) rfl]; simp; rfl
  by_cases h2 : k = 2
  · subst h2; rw [rmay_2 (by simp) (by simp) rfl]; simp [ho]
  by_cases h3 : k = 3
  · subst h3; rw [rmay_3 (by simp) (by simp) rfl]; simp [ho]
  · rw [rmay_4 (by simp) (by simp) h1 h2 h3]; simp [h1]
theorem my {k a : Int} {s : Sag} (hs : s ≠ sz) : rmay ⟨k, 0, a, o0, s⟩ = (decide (k = 3) && smay s && decide (a = 0)) := by
  by_cases h1 : k = 1
  · subst h1; rw [rmay_1 (by simp) (by simp) rfl]; simp [may_o0]
  by_cases h2 : k = 2
  · subst h2; rw [rmay_2 (by simp) (by simp) rfl]; simp [hs]
  by_cases h3 : k = 3
  · subst h3; rw [rmay_3 (by simp) (by simp) rfl]; simp [Bool.and_comm]; rfl
  · rw [rmay_4 (by simp) (by simp) h1 h2 h3]; simp [h3]
/-- A number brought small. -/
def usm (z : Int) (n : Nat) : Nat := ((z % 18446744073709551616) % (n : Int)).toNat
theorem usm_lt (z : Int) {n : Nat} (hn : 0 < n) : usm z n < n := by
  have h1 := Int.emod_nonneg (z % 18446744073709551616) (b := (n : Int)) (by omega)
  have h2 := Int.emod_lt_of_pos (z % 18446744073709551616) (b := (n : Int)) (by omega)
  unfold usm
  omega
theorem usm_is (z : Int) {n : Nat} (hn : 0 < n) : ((z % 18446744073709551616) % (n : Int)) = (usm z n : Int) := by
  have h1 := Int.emod_nonneg (z % 18446744073709551616) (b := (n : Int)) (by omega)
  unfold usm
  omega
theorem usm_slot (z : Int) {n : Nat} (hn : 0 < n) (hs : n ≤ 1000000) : wrap64 ((IntKind.u64.wrap z).tmod (n : Int)) = (usm z n : Int) := by
  have h0 : 0 ≤ IntKind.u64.wrap z := by rw [IntKind.wrap_u64]; omega
  have h1 := usm_lt z hn
  rw [Int.tmod_eq_emod_of_nonneg h0, IntKind.wrap_u64, usm_is z hn, IntWalk.wrap64_in _ (by omega)]

set_option maxHeartbeats 12800000 in
theorem walk (P : Prg) (w : World) (ht : Sg.Tab w) (o : Opn) (s : Sag) (kind answer : Int) :
    Calls Tryd.prog 5 #[opv o, sgv s, .int .i64 kind, .int .i64 answer] w fun e w' => e = .returned (.bool true) ∧ Below w.heap.size w w' := by
  obtain ⟨k, hk⟩ : ∃ k : Int, k = usm kind 5 := ⟨_, rfl⟩
  obtain ⟨a, ha⟩ : ∃ a : Int, a = usm answer 4 := ⟨_, rfl⟩
  have k5 : 0 ≤ k ∧ k < 5 := by have := usm_lt kind (n := 5) (by omega); omega
  have a4 : 0 ≤ a ∧ a < 4 := by have := usm_lt answer (n := 4) (by omega); omega
  have kx : wrap64 ((IntKind.u64.wrap kind).tmod 5) = k := by rw [hk]; exact usm_slot kind (n := 5) (by omega) (by omega)
  have ax : wrap64 ((IntKind.u64.wrap answer).tmod 4) = a := by rw [ha]; exact usm_slot answer (n := 4) (by omega) (by omega)
  replace hk := Lib.hid hk
  replace ha := Lib.hid ha
  obtain ⟨w0, e0⟩ : ∃ z, z = (w.alloc (.cells #[.int .i64 o.kind, .int .i64 o.book, .int .i64 o.units, .int .i64 o.cust, .int .i64 o.amount] 23)).alloc (.cells #[.int .i64 s.w.book, .int .i64 s.w.cust, .int .i64 s.w.dead, .int .i64 s.w.u0, .int .i64 s.w.u1, .int .i64 s.w.u2, .int .i64 s.w.price, .int .i64 s.ph, .int .i64 s.st, .int .i64 s.rs, .int .i64 s.si] 28) := ⟨_, rfl⟩
  have L0 : Hid (Lw w w0 []) := by rw [e0]; exact ((Lw.start ht).alloc _).alloc _
  have OB0 : Hid (w0.heap[w.heap.size]? = some (.cells #[.int .i64 o.kind, .int .i64 o.book, .int .i64 o.units, .int .i64 o.cust, .int .i64 o.amount] 23 (0, 0))) := by rw [e0]; exact heap_alloc2_old _ _ _
  have SB0 : Hid (w0.heap[w.heap.size + 1]? = some (.cells #[.int .i64 s.w.book, .int .i64 s.w.cust, .int .i64 s.w.dead, .int .i64 s.w.u0, .int .i64 s.w.u1, .int .i64 s.w.u2, .int .i64 s.w.price, .int .i64 s.ph, .int .i64 s.st, .int .i64 s.rs, .int .i64 s.si] 28 (0, 0))) := by rw [e0]; exact heap_alloc2_new _ _ _
  obtain ⟨dop, hdop⟩ : ∃ b, decide (o = o0) = b := ⟨_, rfl⟩
  obtain ⟨dsz, hdsz⟩ : ∃ b, decide (s = sz) = b := ⟨_, rfl⟩
  have EO : ∀ w, (Op.equalIn 10000 23 (.agg #[.int .i64 o.kind, .int .i64 o.book, .int .i64 o.units, .int .i64 o.cust, .int .i64 o.amount]) (.agg #[.int .i64 0, .int .i64 0, .int .i64 0, .int .i64 0, .int .i64 0])).run Tryd.prog w = .ok dop w := fun w => by rw [← hdop]; exact eq_op10 w o o0
  have ES : ∀ w, (Op.equalIn 10000 28 (.agg #[.int .i64 s.w.book, .int .i64 s.w.cust, .int .i64 s.w.dead, .int .i64 s.w.u0, .int .i64 s.w.u1, .int .i64 s.w.u2, .int .i64 s.w.price, .int .i64 s.ph, .int .i64 s.st, .int .i64 s.rs, .int .i64 s.si]) (.agg #[.int .i64 0, .int .i64 0, .int .i64 0, .int .i64 0, .int .i64 0, .int .i64 0, .int .i64 0, .int .i64 0, .int .i64 0, .int .i64 0, .int .i64 0])).run Tryd.prog w = .ok dsz w := fun w => by rw [← hdsz]; exact eq_sag w s sz
  have TD := Lib.hid (told_any P)
  obtain ⟨bo, hbo⟩ : ∃ b, b = mayOp o := ⟨_, rfl⟩
  obtain ⟨bs, hbs⟩ : ∃ b, b = smay s := ⟨_, rfl⟩
  obtain ⟨b1, hb1⟩ : ∃ b, decide (k = 1) = b := ⟨_, rfl⟩
  have gb1 : (k == 1) = b1 := by rw [← hb1]; rfl
  obtain ⟨b2, hb2⟩ : ∃ b, decide (k = 2) = b := ⟨_, rfl⟩
  have gb2 : (k == 2) = b2 := by rw [← hb2]; rfl
  obtain ⟨b3, hb3⟩ : ∃ b, decide (k = 3) = b := ⟨_, rfl⟩
  have gb3 : (k == 3) = b3 := by rw [← hb3]; rfl
  obtain ⟨c0, hc0⟩ : ∃ b, decide (a = 0) = b := ⟨_, rfl⟩
  have gc0 : (a == 0) = c0 := by rw [← hc0]; rfl
  obtain ⟨c1, hc1⟩ : ∃ b, decide (a = 1) = b := ⟨_, rfl⟩
  have gc1 : (a == 1) = c1 := by rw [← hc1]; rfl
  obtain ⟨c2, hc2⟩ : ∃ b, decide (a = 2) = b := ⟨_, rfl⟩
  have gc2 : (a == 2) = c2 := by rw [← hc2]; rfl
  have M1 : Hid (rmay ⟨1, 0, 1, o, sz⟩ = bo) := by rw [hbo]; exact mx_1 o
  have M2 : Hid (rmay ⟨3, 0, 0, o0, s⟩ = bs) := by rw [hbs]; exact my_1 s
  have MX : Hid (rmay ⟨k, 0, a, o, sz⟩ = if dop = true then (b2 && c0) else (b1 && bo && (c1 || c2))) := by
    unfold Hid
    by_cases h : o = o0
    · rw [← hdop, decide_eq_true h, if_pos rfl, h, mz, hb2, hc0]
    · rw [← hdop, decide_eq_false h, if_neg (by simp), hbo, mx h, hb1, hc1, hc2]
  have MY : Hid (rmay ⟨k, 0, a, o0, s⟩ = if dsz = true then (b2 && c0) else (b3 && bs && c0)) := by
    unfold Hid
    by_cases h : s = sz
    · rw [← hdsz, decide_eq_true h, if_pos rfl, h, mz, hb2, hc0]
    · rw [← hdsz, decide_eq_false h, if_neg (by simp), hbs, my h, hb3, hc0]
  have MZ : Hid (rmay ⟨k, 0, a, o0, sz⟩ = (b2 && c0)) := by rw [← hb2, ← hc0]; exact mz
  have ML : Hid (rmay ⟨2, -1, 0, o0, sz⟩ = false) := rmay_out (.inl (by decide))
  have MH : Hid (rmay ⟨2, 1099511627777, 0, o0, sz⟩ = false) := rmay_out (.inr (by decide))
  clear ht hbo hbs hdop hdsz
  unfold opv sgv sgc
  go_enter Tryd.func5, Tryd.ntmps5
  go_upto_region 2 with fail
  rw [kx, ax]
  rw [← e0]
  clear kx ax e0
  have o0_ : w0.cell? ⟨w.heap.size, 0, none⟩ = some (.int .i64 o.kind) := one_at OB0.out
  have o1 : w0.cell? ⟨w.heap.size, 1, none⟩ = some (.int .i64 o.book) := one_at OB0.out
  have o2 : w0.cell? ⟨w.heap.size, 2, none⟩ = some (.int .i64 o.units) := one_at OB0.out
  have o3 : w0.cell? ⟨w.heap.size, 3, none⟩ = some (.int .i64 o.cust) := one_at OB0.out
  have o4 : w0.cell? ⟨w.heap.size, 4, none⟩ = some (.int .i64 o.amount) := one_at OB0.out
  have lo := lt_some OB0.out
  go_wp2_with fail
  have M := P.may _ L0.out.tb ⟨1, 0, 1, o, sz⟩
  rw [M1.out] at M
  refine M.mono ?_
  rintro e w1 ⟨rfl, b⟩
  have L1 := Lib.hid (L0.out.below b)
  have OB1 : Hid (w1.heap[w.heap.size]? = some (.cells #[.int .i64 o.kind, .int .i64 o.book, .int .i64 o.units, .int .i64 o.cust, .int .i64 o.amount] 23 (0, 0))) := (b.block _ (lt_some OB0.out)).trans OB0.out
  have SB1 : Hid (w1.heap[w.heap.size + 1]? = some (.cells #[.int .i64 s.w.book, .int .i64 s.w.cust, .int .i64 s.w.dead, .int .i64 s.w.u0, .int .i64 s.w.u1, .int .i64 s.w.u2, .int .i64 s.w.price, .int .i64 s.ph, .int .i64 s.st, .int .i64 s.rs, .int .i64 s.si] 28 (0, 0))) := (b.block _ (lt_some SB0.out)).trans SB0.out
  clear o0_ o1 o2 o3 o4 lo
  clear b M M1 L0 OB0 SB0
  have s0 : w1.cell? ⟨w.heap.size + 1, 0, none⟩ = some (.int .i64 s.w.book) := one_at SB1.out
  have s1 : w1.cell? ⟨w.heap.size + 1, 1, none⟩ = some (.int .i64 s.w.cust) := one_at SB1.out
  have s2 : w1.cell? ⟨w.heap.size + 1, 2, none⟩ = some (.int .i64 s.w.dead) := one_at SB1.out
  have s3 : w1.cell? ⟨w.heap.size + 1, 3, none⟩ = some (.int .i64 s.w.u0) := one_at SB1.out
  have s4 : w1.cell? ⟨w.heap.size + 1, 4, none⟩ = some (.int .i64 s.w.u1) := one_at SB1.out
  have s5 : w1.cell? ⟨w.heap.size + 1, 5, none⟩ = some (.int .i64 s.w.u2) := one_at SB1.out
  have s6 : w1.cell? ⟨w.heap.size + 1, 6, none⟩ = some (.int .i64 s.w.price) := one_at SB1.out
  have s7 : w1.cell? ⟨w.heap.size + 1, 7, none⟩ = some (.int .i64 s.ph) := one_at SB1.out
  have s8 : w1.cell? ⟨w.heap.size + 1, 8, none⟩ = some (.int .i64 s.st) := one_at SB1.out
  have s9 : w1.cell? ⟨w.heap.size + 1, 9, none⟩ = some (.int .i64 s.rs) := one_at SB1.out
  have s10 : w1.cell? ⟨w.heap.size + 1, 10, none⟩ = some (.int .i64 s.si) := one_at SB1.out
  have ls := lt_some SB1.out
  go_wp2_with fail
  have M := P.may _ L1.out.tb ⟨3, 0, 0, o0, s⟩
  rw [M2.out] at M
  refine M.mono ?_
  rintro e w2 ⟨rfl, b⟩
  have L2 := Lib.hid (L1.out.below b)
  have OB2 : Hid (w2.heap[w.heap.size]? = some (.cells #[.int .i64 o.kind, .int .i64 o.book, .int .i64 o.units, .int .i64 o.cust, .int .i64 o.amount] 23 (0, 0))) := (b.block _ (lt_some OB1.out)).trans OB1.out
  have SB2 : Hid (w2.heap[w.heap.size + 1]? = some (.cells #[.int .i64 s.w.book, .int .i64 s.w.cust, .int .i64 s.w.dead, .int .i64 s.w.u0, .int .i64 s.w.u1, .int .i64 s.w.u2, .int .i64 s.w.price, .int .i64 s.ph, .int .i64 s.st, .int .i64 s.rs, .int .i64 s.si] 28 (0, 0))) := (b.block _ (lt_some SB1.out)).trans SB1.out
  clear s0 s1 s2 s3 s4 s5 s6 s7 s8 s9 s10 ls
  clear b M M2 L1 OB1 SB1
  have o0_ : w2.cell? ⟨w.heap.size, 0, none⟩ = some (.int .i64 o.kind) := one_at OB2.out
  have o1 : w2.cell? ⟨w.heap.size, 1, none⟩ = some (.int .i64 o.book) := one_at OB2.out
  have o2 : w2.cell? ⟨w.heap.size, 2, none⟩ = some (.int .i64 o.units) := one_at OB2.out
  have o3 : w2.cell? ⟨w.heap.size, 3, none⟩ = some (.int .i64 o.cust) := one_at OB2.out
  have o4 : w2.cell? ⟨w.heap.size, 4, none⟩ = some (.int .i64 o.amount) := one_at OB2.out
  have lo := lt_some OB2.out
  go_upto_region 5 with (refine wpList_rstore rfl (.tmp 13) (.tmp 35) rfl w2.heap.size rfl ⟨k, 0, a, o, sz⟩ rfl r0 (heap_alloc_new _ _) ?_)
  obtain ⟨w3, e3⟩ : ∃ z, z = (w2.alloc (.cells #[.int .i64 0, .int .i64 0, .int .i64 0, .int .i64 0, .int .i64 0, .int .i64 0, .int .i64 0, .int .i64 0, .int .i64 0, .int .i64 0, .int .i64 0, .int .i64 0, .int .i64 0, .int .i64 0, .int .i64 0, .int .i64 0, .int .i64 0, .int .i64 0, .int .i64 0] 30)).setRow w2.heap.size (rcc ⟨k, 0, a, o, sz⟩) := ⟨_, rfl⟩
  rw [← e3]
  have b : Below w2.heap.size w2 w3 := by rw [e3]; exact ((Below.refl _ _).alloc (Nat.le_refl _) _).trans (Pl.setRow_below _ (Nat.le_refl _))
  have L3 : Hid (Lw w w3 [(w2.heap.size, ⟨k, 0, a, o, sz⟩)]) := by rw [e3]; exact L2.out.make ⟨k, 0, a, o, sz⟩
  have OB3 : Hid (w3.heap[w.heap.size]? = some (.cells #[.int .i64 o.kind, .int .i64 o.book, .int .i64 o.units, .int .i64 o.cust, .int .i64 o.amount] 23 (0, 0))) := (b.block _ (lt_some OB2.out)).trans OB2.out
  have SB3 : Hid (w3.heap[w.heap.size + 1]? = some (.cells #[.int .i64 s.w.book, .int .i64 s.w.cust, .int .i64 s.w.dead, .int .i64 s.w.u0, .int .i64 s.w.u1, .int .i64 s.w.u2, .int .i64 s.w.price, .int .i64 s.ph, .int .i64 s.st, .int .i64 s.rs, .int .i64 s.si] 28 (0, 0))) := (b.block _ (lt_some SB2.out)).trans SB2.out
  clear o0_ o1 o2 o3 o4 lo
  clear b e3 L2 OB2 SB2
  have s0 : w3.cell? ⟨w.heap.size + 1, 0, none⟩ = some (.int .i64 s.w.book) := one_at SB3.out
  have s1 : w3.cell? ⟨w.heap.size + 1, 1, none⟩ = some (.int .i64 s.w.cust) := one_at SB3.out
  have s2 : w3.cell? ⟨w.heap.size + 1, 2, none⟩ = some (.int .i64 s.w.dead) := one_at SB3.out
  have s3 : w3.cell? ⟨w.heap.size + 1, 3, none⟩ = some (.int .i64 s.w.u0) := one_at SB3.out
  have s4 : w3.cell? ⟨w.heap.size + 1, 4, none⟩ = some (.int .i64 s.w.u1) := one_at SB3.out
  have s5 : w3.cell? ⟨w.heap.size + 1, 5, none⟩ = some (.int .i64 s.w.u2) := one_at SB3.out
  have s6 : w3.cell? ⟨w.heap.size + 1, 6, none⟩ = some (.int .i64 s.w.price) := one_at SB3.out
  have s7 : w3.cell? ⟨w.heap.size + 1, 7, none⟩ = some (.int .i64 s.ph) := one_at SB3.out
  have s8 : w3.cell? ⟨w.heap.size + 1, 8, none⟩ = some (.int .i64 s.st) := one_at SB3.out
  have s9 : w3.cell? ⟨w.heap.size + 1, 9, none⟩ = some (.int .i64 s.rs) := one_at SB3.out
  have s10 : w3.cell? ⟨w.heap.size + 1, 10, none⟩ = some (.int .i64 s.si) := one_at SB3.out
  have ls := lt_some SB3.out
  go_upto_region 6 with (refine wpList_rstore rfl (.tmp 14) (.tmp 39) rfl w3.heap.size rfl ⟨k, 0, a, o0, s⟩ rfl r0 (heap_alloc_new _ _) ?_)
  obtain ⟨w4, e4⟩ : ∃ z, z = (w3.alloc (.cells #[.int .i64 0, .int .i64 0, .int .i64 0, .int .i64 0, .int .i64 0, .int .i64 0, .int .i64 0, .int .i64 0, .int .i64 0, .int .i64 0, .int .i64 0, .int .i64 0, .int .i64 0, .int .i64 0, .int .i64 0, .int .i64 0, .int .i64 0, .int .i64 0, .int .i64 0] 30)).setRow w3.heap.size (rcc ⟨k, 0, a, o0, s⟩) := ⟨_, rfl⟩
  rw [← e4]
  have b : Below w3.heap.size w3 w4 := by rw [e4]; exact ((Below.refl _ _).alloc (Nat.le_refl _) _).trans (Pl.setRow_below _ (Nat.le_refl _))
  have L4 : Hid (Lw w w4 [(w3.heap.size, ⟨k, 0, a, o0, s⟩), (w2.heap.size, ⟨k, 0, a, o, sz⟩)]) := by rw [e4]; exact L3.out.make ⟨k, 0, a, o0, s⟩
  have OB4 : Hid (w4.heap[w.heap.size]? = some (.cells #[.int .i64 o.kind, .int .i64 o.book, .int .i64 o.units, .int .i64 o.cust, .int .i64 o.amount] 23 (0, 0))) := (b.block _ (lt_some OB3.out)).trans OB3.out
  have SB4 : Hid (w4.heap[w.heap.size + 1]? = some (.cells #[.int .i64 s.w.book, .int .i64 s.w.cust, .int .i64 s.w.dead, .int .i64 s.w.u0, .int .i64 s.w.u1, .int .i64 s.w.u2, .int .i64 s.w.price, .int .i64 s.ph, .int .i64 s.st, .int .i64 s.rs, .int .i64 s.si] 28 (0, 0))) := (b.block _ (lt_some SB3.out)).trans SB3.out
  clear s0 s1 s2 s3 s4 s5 s6 s7 s8 s9 s10 ls
  clear b e4 L3 OB3 SB3
  go_upto_region 7 with (refine wpList_rstore rfl (.tmp 15) (.tmp 42) rfl w4.heap.size rfl ⟨k, 0, a, o0, sz⟩ rfl r0 (heap_alloc_new _ _) ?_)
  obtain ⟨w5, e5⟩ : ∃ z, z = (w4.alloc (.cells #[.int .i64 0, .int .i64 0, .int .i64 0, .int .i64 0, .int .i64 0, .int .i64 0, .int .i64 0, .int .i64 0, .int .i64 0, .int .i64 0, .int .i64 0, .int .i64 0, .int .i64 0, .int .i64 0, .int .i64 0, .int .i64 0, .int .i64 0, .int .i64 0, .int .i64 0] 30)).setRow w4.heap.size (rcc ⟨k, 0, a, o0, sz⟩) := ⟨_, rfl⟩
  rw [← e5]
  have b : Below w4.heap.size w4 w5 := by rw [e5]; exact ((Below.refl _ _).alloc (Nat.le_refl _) _).trans (Pl.setRow_below _ (Nat.le_refl _))
  have L5 : Hid (Lw w w5 [(w4.heap.size, ⟨k, 0, a, o0, sz⟩), (w3.heap.size, ⟨k, 0, a, o0, s⟩), (w2.heap.size, ⟨k, 0, a, o, sz⟩)]) := by rw [e5]; exact L4.out.make ⟨k, 0, a, o0, sz⟩
  have OB5 : Hid (w5.heap[w.heap.size]? = some (.cells #[.int .i64 o.kind, .int .i64 o.book, .int .i64 o.units, .int .i64 o.cust, .int .i64 o.amount] 23 (0, 0))) := (b.block _ (lt_some OB4.out)).trans OB4.out
  have SB5 : Hid (w5.heap[w.heap.size + 1]? = some (.cells #[.int .i64 s.w.book, .int .i64 s.w.cust, .int .i64 s.w.dead, .int .i64 s.w.u0, .int .i64 s.w.u1, .int .i64 s.w.u2, .int .i64 s.w.price, .int .i64 s.ph, .int .i64 s.st, .int .i64 s.rs, .int .i64 s.si] 28 (0, 0))) := (b.block _ (lt_some SB4.out)).trans SB4.out
  clear b e5 L4 OB4 SB4
  simp only [Act.put]
  have o0_ : w5.cell? ⟨w.heap.size, 0, none⟩ = some (.int .i64 o.kind) := one_at OB5.out
  have o1 : w5.cell? ⟨w.heap.size, 1, none⟩ = some (.int .i64 o.book) := one_at OB5.out
  have o2 : w5.cell? ⟨w.heap.size, 2, none⟩ = some (.int .i64 o.units) := one_at OB5.out
  have o3 : w5.cell? ⟨w.heap.size, 3, none⟩ = some (.int .i64 o.cust) := one_at OB5.out
  have o4 : w5.cell? ⟨w.heap.size, 4, none⟩ = some (.int .i64 o.amount) := one_at OB5.out
  have lo := lt_some OB5.out
  have s0 : w5.cell? ⟨w.heap.size + 1, 0, none⟩ = some (.int .i64 s.w.book) := one_at SB5.out
  have s1 : w5.cell? ⟨w.heap.size + 1, 1, none⟩ = some (.int .i64 s.w.cust) := one_at SB5.out
  have s2 : w5.cell? ⟨w.heap.size + 1, 2, none⟩ = some (.int .i64 s.w.dead) := one_at SB5.out
  have s3 : w5.cell? ⟨w.heap.size + 1, 3, none⟩ = some (.int .i64 s.w.u0) := one_at SB5.out
  have s4 : w5.cell? ⟨w.heap.size + 1, 4, none⟩ = some (.int .i64 s.w.u1) := one_at SB5.out
  have s5 : w5.cell? ⟨w.heap.size + 1, 5, none⟩ = some (.int .i64 s.w.u2) := one_at SB5.out
  have s6 : w5.cell? ⟨w.heap.size + 1, 6, none⟩ = some (.int .i64 s.w.price) := one_at SB5.out
  have s7 : w5.cell? ⟨w.heap.size + 1, 7, none⟩ = some (.int .i64 s.ph) := one_at SB5.out
  have s8 : w5.cell? ⟨w.heap.size + 1, 8, none⟩ = some (.int .i64 s.st) := one_at SB5.out
  have s9 : w5.cell? ⟨w.heap.size + 1, 9, none⟩ = some (.int .i64 s.rs) := one_at SB5.out
  have s10 : w5.cell? ⟨w.heap.size + 1, 10, none⟩ = some (.int .i64 s.si) := one_at SB5.out
  have ls := lt_some SB5.out
  go_upto_region 7 with fail
  go_cut [11, 16, 28] from 43 to 56 (fun _ v _ wx => v = .bool (b1 && bo && (c1 || c2)) ∧ w5 = wx)
  case first =>
    clear EO ES
    go_wp2
    all_goals
      go_meet
      exact ⟨by first | rfl | (congr 1; simp_all), rfl⟩
  case rest =>
    obtain ⟨rfl, rfl⟩ := hcut
    go_upto_if 58 with (fail)
    go_cut [16, 58] from 59 to 65 (fun v _ wx => v = .bool (rmay ⟨k, 0, a, o, sz⟩) ∧ w5 = wx)
    case first =>
      clear EO ES
      cases dop with
      | true =>
        have FF : Hid (rmay ⟨k, 0, a, o, sz⟩ = (b2 && c0)) := by unfold Hid; rw [MX.out]; rfl
        clear MX
        go_wp2
        all_goals
          go_meet
          refine ⟨?_, rfl⟩
          rw [FF.out]
          try rfl
        all_goals first | done | (congr 1; simp_all)
      | false =>
        have FF : Hid (rmay ⟨k, 0, a, o, sz⟩ = (b1 && bo && (c1 || c2))) := by unfold Hid; rw [MX.out]; rfl
        clear MX
        go_wp2
        all_goals
          go_meet
          refine ⟨?_, rfl⟩
          rw [FF.out]
          try rfl
        all_goals first | done | (congr 1; simp_all)
    case rest =>
      obtain ⟨rfl, rfl⟩ := hcut
      go_upto_region 10 with fail
      go_cut [12, 17, 31] from 65 to 74 (fun _ v _ wx => v = .bool (b3 && bs && c0) ∧ w5 = wx)
      case first =>
        clear EO ES
        go_wp2
        all_goals
          go_meet
          exact ⟨by first | rfl | (congr 1; simp_all), rfl⟩
      case rest =>
        obtain ⟨rfl, rfl⟩ := hcut
        go_upto_if 76 with (fail)
        go_cut [17, 76] from 77 to 83 (fun v _ wx => v = .bool (rmay ⟨k, 0, a, o0, s⟩) ∧ w5 = wx)
        case first =>
          clear EO ES
          cases dsz with
          | true =>
            have FF : Hid (rmay ⟨k, 0, a, o0, s⟩ = (b2 && c0)) := by unfold Hid; rw [MY.out]; rfl
            clear MY
            go_wp2
            all_goals
              go_meet
              refine ⟨?_, rfl⟩
              rw [FF.out]
              try rfl
            all_goals first | done | (congr 1; simp_all)
          | false =>
            have FF : Hid (rmay ⟨k, 0, a, o0, s⟩ = (b3 && bs && c0)) := by unfold Hid; rw [MY.out]; rfl
            clear MY
            go_wp2
            all_goals
              go_meet
              refine ⟨?_, rfl⟩
              rw [FF.out]
              try rfl
            all_goals first | done | (congr 1; simp_all)
        case rest =>
          obtain ⟨rfl, rfl⟩ := hcut
          obtain ⟨bx, hbx⟩ : ∃ b, rmay ⟨k, 0, a, o, sz⟩ = b := ⟨_, rfl⟩
          obtain ⟨by', hby⟩ : ∃ b, rmay ⟨k, 0, a, o0, s⟩ = b := ⟨_, rfl⟩
          rw [hbx, hby]
          replace hbx := Lib.hid hbx
          replace hby := Lib.hid hby
          clear EO ES MX MY OB5 SB5 o0_ o1 o2 o3 o4 lo s0 s1 s2 s3 s4 s5 s6 s7 s8 s9 s10 ls
          go_wp2_with fail
          refine (TD.out _ L5.out.tb).mono ?_
          rintro e w6 ⟨rfl, b⟩
          have L6 := Lib.hid (L5.out.below b)
          clear b L5 TD
          go_wp2_with (first | (refine wpList_rload_g (.tmp 13) rfl rfl w2.heap.size rfl ⟨k, 0, a, o, sz⟩ L6.out.at2 ?_) | (refine wpList_rload_g (.tmp 14) rfl rfl w3.heap.size rfl ⟨k, 0, a, o0, s⟩ L6.out.at1 ?_) | (refine wpList_rload_g (.tmp 15) rfl rfl w4.heap.size rfl ⟨k, 0, a, o0, sz⟩ L6.out.at0 ?_))
          have M := P.may _ L6.out.tb ⟨k, 0, a, o, sz⟩
          rw [hbx.out] at M
          refine M.mono ?_
          rintro e w7 ⟨rfl, b⟩
          have L7 := Lib.hid (L6.out.below b)
          clear b L6 M
          go_wp2_with (first | (refine wpList_rload_g (.tmp 13) rfl rfl w2.heap.size rfl ⟨k, 0, a, o, sz⟩ L7.out.at2 ?_) | (refine wpList_rload_g (.tmp 14) rfl rfl w3.heap.size rfl ⟨k, 0, a, o0, s⟩ L7.out.at1 ?_) | (refine wpList_rload_g (.tmp 15) rfl rfl w4.heap.size rfl ⟨k, 0, a, o0, sz⟩ L7.out.at0 ?_))
          have M := P.may _ L7.out.tb ⟨k, 0, a, o0, s⟩
          rw [hby.out] at M
          refine M.mono ?_
          rintro e w8 ⟨rfl, b⟩
          have L8 := Lib.hid (L7.out.below b)
          clear b L7 M
          go_wp2_with (first | (refine wpList_rload_g (.tmp 13) rfl rfl w2.heap.size rfl ⟨k, 0, a, o, sz⟩ L8.out.at2 ?_) | (refine wpList_rload_g (.tmp 14) rfl rfl w3.heap.size rfl ⟨k, 0, a, o0, s⟩ L8.out.at1 ?_) | (refine wpList_rload_g (.tmp 15) rfl rfl w4.heap.size rfl ⟨k, 0, a, o0, sz⟩ L8.out.at0 ?_))
          have M := P.may _ L8.out.tb ⟨k, 0, a, o0, sz⟩
          rw [MZ.out] at M
          refine M.mono ?_
          rintro e w9 ⟨rfl, b⟩
          have L9 := Lib.hid (L8.out.below b)
          clear b L8 M
          go_wp2_with fail
          all_goals
            have M := P.may _ L9.out.tb ⟨2, -1, 0, o0, sz⟩
            rw [ML.out] at M
            refine M.mono ?_
            rintro e wA ⟨rfl, b⟩
            have LA := Lib.hid (L9.out.below b)
            clear b L9 M
            go_wp2_with fail
            have M := P.may _ LA.out.tb ⟨2, 1099511627777, 0, o0, sz⟩
            rw [MH.out] at M
            refine M.mono ?_
            rintro e wB ⟨rfl, b⟩
            have LB := Lib.hid (LA.out.below b)
            clear b LA M
            go_wp2_with fail
            go_ret
            exact ⟨rfl, LB.out.be⟩
end Go.Proofs.YtidfpbnepdjagaaDoor.recordKinds

namespace Go.Proofs.YtidfpbnepdjagaaDoor.recordKinds
set_option maxRecDepth 100000
open Go.ChangeShapes Go.WideShapes Go.ChangeAt Go.WideMaps Go.WideElems Go.RowKit
open Go.Proofs.YtidfpbnepdjagaaDoor.Sg (Sag sgv own laidOut post_below laids door_met of_laid view_saga)
open Go.Proofs.YtidfpbnepdjagaaDoor.Re
open Go.Proofs.YtidfpbnepdjagaaDoor.Wt (Opn Src view_bytes)
theorem walkd (W : World) (ht : Sg.Tab W) (x0 : Opn) (x1 : Sag) (a2 : Int) (_w2 : (Lit.int .i64 a2).wf = true) (a3 : Int) (_w3 : (Lit.int .i64 a3).wf = true) :
    Calls Tryd.prog 5 #[opv x0, sgv x1, .int .i64 a2, .int .i64 a3] W fun e w' => e = .returned (.bool true) ∧ Below W.heap.size W w' := walk prg W ht x0 x1 a2 a3

/-! The row: every input, the listed variable as the condition has it. -/
set_option linter.unusedVariables false
set_option maxRecDepth 100000 in
theorem lifted (os : Os) (started : os.Started) (H : Type) (enc : TypeId × Value → H) :
    ReturnsInHanded {} Tryd.checked os 5 .any (fun w args => (Rows.recordKindsSpec.pre enc Tryd.prog Tryd.f5 [] false w args ∧ laidMetH Tryd.prog laids w) ∧ sizedMet enc Tryd.prog Tryd.f5 (OpenSpec.ofChange Rows.recordKindsSpec) false w args)
      (Rows.recordKindsSpec.post enc Tryd.prog Tryd.f5 false true false false) := by
  refine returnsInHanded_of_change_and (C := Tryd.checked) (X := fun w _ => laidMetH Tryd.prog laids w) (fun _ _ _ hh h => h.of_heap hh) own started (by kernel_rfl) Tryd.func5
    (ChangeSpec.witness_shaped (enc := enc) (C := Tryd.checked) (os := os) (X := fun w _ => laidMetH Tryd.prog laids w) false (World.doorLaid Tryd.prog 400 os) #[.agg #[.int .i64 0, .int .i64 0, .int .i64 0, .int .i64 0, .int .i64 0], .agg #[.int .i64 0, .int .i64 0, .int .i64 0, .int .i64 0, .int .i64 0, .int .i64 0, .int .i64 0, .int .i64 0, .int .i64 0, .int .i64 0, .int .i64 0], .int .i64 0, .int .i64 0] 8 rfl (World.shaped_of_RefB (by kernel_rfl) (by kernel_rfl)) (by kernel_rfl) (by kernel_rfl) (by kernel_rfl) (door_met os _)) ?_
  intro W base args ds gs before hval0 hW _ _ hL _
  have hval : ∀ (j : Nat) t v, Tryd.f5.params[j]? = some t → args[j]? = some v → Value.okWide Tryd.prog W .any base t v := hval0
  have hW' := hW
  obtain ⟨p, q, hA0, hV, rfl, hfz, hnd⟩ := hW
  have hA : DataW.TrodAll enc Tryd.prog W 0 (fun _ => true) true Tryd.f5.params.toList args.toList ds p := hA0
  rw [Tryd.params5] at hA hval
  obtain ⟨v0, vs0, d0, ds0, p0, q0, hargs, rfl, rfl, h0, r0⟩ := trodAll_cons hA
  obtain ⟨v1, vs1, d1, ds1, p1, q1, rfl, rfl, rfl, h1, r1⟩ := trodAll_cons r0
  obtain ⟨v2, vs2, d2, ds2, p2, q2, rfl, rfl, rfl, h2, r2⟩ := trodAll_cons r1
  obtain ⟨v3, vs3, d3, ds3, p3, q3, rfl, rfl, rfl, h3, r3⟩ := trodAll_cons r2
  obtain ⟨rfl, rfl, rfl⟩ := trodAll_nil r3
  obtain rfl : args = #[v0, v1, v2, v3] := by cases args; simp_all
  obtain ⟨rfl, rfl⟩ := trodVars_none hV
  obtain ⟨x0, rfl⟩ := view_op (hval 0 23 v0 rfl rfl) h0
  obtain ⟨x1, rfl⟩ := view_saga (hval 1 28 v1 rfl rfl) h1
  obtain ⟨a2, rfl, rfl, rfl, w2⟩ := open_int Tryd.underlying3 (hval 2 3 v2 rfl rfl) h2
  obtain ⟨a3, rfl, rfl, rfl, w3⟩ := open_int Tryd.underlying3 (hval 3 3 v3 rfl rfl) h3
  clear hA0 hval0
  simp only [List.append_nil] at hW'
  refine (walkd W (of_laid hL) x0 x1 a2 w2 a3 w3).mono fun e W' ⟨he, hb⟩ => ?_
  subst he
  exact ⟨_, rfl, post_below (pa := p0 ++ (p1 ++ ([] ++ ([] ++ [])))) (pv := []) hW' (fun _ _ _ => (trodAll_cons_mk (shut_bool Tryd.underlying4 _) trodAll_mk0)) (fun sp hsp => (trodAll_cons_mk (Trod_stays laidOut (by kernel_rfl) (of_decide_eq_true (by kernel_rfl)) h0 (fun x hx => hb.same (hW'.lt x (by simp [hx]))) (fun x hx => hsp x (by simp [hx]))) (trodAll_cons_mk (Trod_stays laidOut (by kernel_rfl) (of_decide_eq_true (by kernel_rfl)) h1 (fun x hx => hb.same (hW'.lt x (by simp [hx]))) (fun x hx => hsp x (by simp [hx]))) (trodAll_cons_mk (shut_int Tryd.underlying3 w2) (trodAll_cons_mk (shut_int Tryd.underlying3 w3) trodAll_mk0))))) (fun _ _ => rfl) (by simp)
    hb (ok_one (by kernel_rfl) rfl (okWide_bool_mk Tryd.underlying4 _))⟩

theorem over : Rows.recordKindsRow.holds Tryd.pinned (OpenSpec.ofChange Rows.recordKindsSpec) :=
  OpenClaim.holds_of_wide 5 Tryd.f5 rfl rfl rfl rfl rfl rfl rfl ⟨rfl, rfl, rfl, rfl, rfl⟩ rfl rfl rfl rfl rfl (by kernel_rfl) Tryd.func5 (by kernel_rfl)
    (of_decide_eq_true (by kernel_rfl)) (by unfold Func.isWrapper; first | (rw [if_pos (by decide +kernel)]; kernel_rfl) | (rw [if_neg (by decide +kernel)]; exact ⟨rfl, rfl⟩))
    (fun os started H enc _ => lifted os started H enc)

/-- The tied card. -/
theorem proved : Rows.RecordKindsCardSaid :=
  Claim7.holds_tied_plain_at .later [] [.data] true _ false
    over (fun _ h => by cases h) (by kernel_rfl) (fun _ h => by cases h) recordKinds_row_tie rfl ⟨rfl, rfl⟩ (by kernel_rfl) rfl
    (fun f fn hf hfn => by
      obtain rfl : f = 5 := Option.some.inj ((show Tryd.prog.funcNamed "sojourn/sojournlaw17.RecordKinds" = some 5 by kernel_rfl).symm.trans hf) |>.symm
      obtain rfl : fn = Tryd.f5 := (Option.some.inj (Tryd.func5.symm.trans hfn)).symm
      exact ⟨by kernel_rfl, fun j t ht => by
        rw [Tryd.params5] at ht
        have hm : t ∈ [23, 28, 3, 3] := by simpa using Array.mem_of_getElem? ht
        have hall : ([23, 28, 3, 3].all fun u => !Tryd.prog.wantsStandIn u) = true := by kernel_rfl
        exact (show Tryd.prog.wantsStandIn t = false by simpa using List.all_eq_true.1 hall t hm)⟩)
    (by kernel_rfl)
#print axioms proved

end Go.Proofs.YtidfpbnepdjagaaDoor.recordKinds
