/- Proved: a booking that may be, with one of its numbers brought within its bounds anew, may be if some units are left, and comes back (WantParts), for any booking, any part, any number. -/
import Derived.Test.YtmmediadgoejpaaWtO
import Derived.Deep.CutRange
namespace Go.Proofs.Ytmmediadgoejpaa.wantParts
open Go.ChangeShapes Go.WideShapes Go.ChangeAt Go.WideElems Go.RowKit
open Go.Proofs.Ytmmediadgoejpaa.Pk Go.Proofs.Ytmmediadgoejpaa.Wt

theorem md (k m : Int) (h0 : 0 < m) (h1 : m ≤ 4611686018427387904) : 0 ≤ wrap64 ((IntKind.u64.wrap k).tmod m) ∧ wrap64 ((IntKind.u64.wrap k).tmod m) < m := by
  have hw : 0 ≤ IntKind.u64.wrap k := wrap_u64_nonneg k
  rw [Int.tmod_eq_emod_of_nonneg hw]
  have a1 := Int.emod_nonneg (IntKind.u64.wrap k) (b := m) (by omega)
  have a2 := Int.emod_lt_of_pos (IntKind.u64.wrap k) h0
  unfold wrap64
  omega
theorem md1 (k m : Int) (h0 : 0 < m) (h1 : m ≤ 4611686018427387904) : 1 ≤ wrap64 (1 + wrap64 ((IntKind.u64.wrap k).tmod m)) ∧ wrap64 (1 + wrap64 ((IntKind.u64.wrap k).tmod m)) ≤ m := by
  have := md k m h0 h1
  generalize wrap64 ((IntKind.u64.wrap k).tmod m) = z at this ⊢
  unfold wrap64
  omega
theorem mdp {v m k : Int} (h : 0 ≤ v ∧ v < m) (e : m = k + 1) : 0 ≤ v ∧ v ≤ k := by omega
/-- Some units are left. -/
def smU (y : Wan) : Bool := !(y.u0 == 0 && (y.u1 == 0 && y.u2 == 0))
theorem smU_of {y : Wan} (h : 1 ≤ y.book ∧ y.book ≤ 200 ∧ 0 ≤ y.cust ∧ y.cust ≤ 3 ∧ 0 ≤ y.dead ∧ y.dead ≤ 1099511627776 ∧ 0 ≤ y.u0 ∧ y.u0 ≤ 1000 ∧ 0 ≤ y.u1 ∧ y.u1 ≤ 1000 ∧ 0 ≤ y.u2 ∧ y.u2 ≤ 1000 ∧ 0 ≤ y.price ∧ y.price ≤ 1099511627776) : may y = smU y := by
  unfold may inR mayU smU
  rw [Bool.eq_iff_iff]
  simp
  omega
theorem may_bd {y : Wan} (h : may y = true) : 1 ≤ y.book ∧ y.book ≤ 200 ∧ 0 ≤ y.cust ∧ y.cust ≤ 3 ∧ 0 ≤ y.dead ∧ y.dead ≤ 1099511627776 ∧ 0 ≤ y.u0 ∧ y.u0 ≤ 1000 ∧ 0 ≤ y.u1 ∧ y.u1 ≤ 1000 ∧ 0 ≤ y.u2 ∧ y.u2 ≤ 1000 ∧ 0 ≤ y.price ∧ y.price ≤ 1099511627776 := by
  unfold may inR mayU at h
  simp at h
  omega

theorem pn_book {x : Wan} {v : Int} (h : may x = true) (hv : 1 ≤ v ∧ v ≤ 200) : may ⟨v, x.cust, x.dead, x.u0, x.u1, x.u2, x.price⟩ = smU ⟨v, x.cust, x.dead, x.u0, x.u1, x.u2, x.price⟩ := by
  have := may_bd h
  exact smU_of (by simp only []; omega)
theorem pn_cust {x : Wan} {v : Int} (h : may x = true) (hv : 0 ≤ v ∧ v ≤ 3) : may ⟨x.book, v, x.dead, x.u0, x.u1, x.u2, x.price⟩ = smU ⟨x.book, v, x.dead, x.u0, x.u1, x.u2, x.price⟩ := by
  have := may_bd h
  exact smU_of (by simp only []; omega)
theorem pn_dead {x : Wan} {v : Int} (h : may x = true) (hv : 0 ≤ v ∧ v ≤ 1099511627776) : may ⟨x.book, x.cust, v, x.u0, x.u1, x.u2, x.price⟩ = smU ⟨x.book, x.cust, v, x.u0, x.u1, x.u2, x.price⟩ := by
  have := may_bd h
  exact smU_of (by simp only []; omega)
theorem pn_u0 {x : Wan} {v : Int} (h : may x = true) (hv : 0 ≤ v ∧ v ≤ 1000) : may ⟨x.book, x.cust, x.dead, v, x.u1, x.u2, x.price⟩ = smU ⟨x.book, x.cust, x.dead, v, x.u1, x.u2, x.price⟩ := by
  have := may_bd h
  exact smU_of (by simp only []; omega)
theorem pn_u1 {x : Wan} {v : Int} (h : may x = true) (hv : 0 ≤ v ∧ v ≤ 1000) : may ⟨x.book, x.cust, x.dead, x.u0, v, x.u2, x.price⟩ = smU ⟨x.book, x.cust, x.dead, x.u0, v, x.u2, x.price⟩ := by
  have := may_bd h
  exact smU_of (by simp only []; omega)
theorem pn_u2 {x : Wan} {v : Int} (h : may x = true) (hv : 0 ≤ v ∧ v ≤ 1000) : may ⟨x.book, x.cust, x.dead, x.u0, x.u1, v, x.price⟩ = smU ⟨x.book, x.cust, x.dead, x.u0, x.u1, v, x.price⟩ := by
  have := may_bd h
  exact smU_of (by simp only []; omega)
theorem pn_price {x : Wan} {v : Int} (h : may x = true) (hv : 0 ≤ v ∧ v ≤ 1099511627776) : may ⟨x.book, x.cust, x.dead, x.u0, x.u1, x.u2, v⟩ = smU ⟨x.book, x.cust, x.dead, x.u0, x.u1, x.u2, v⟩ := by
  have := may_bd h
  exact smU_of (by simp only []; omega)

structure One (w : World) (p : Nat) (y : Wan) (wx : World) : Prop where
  be : Below w.heap.size w wx
  hp : wx.heap[p]? = some (.cells #[.int .i64 y.book, .int .i64 y.cust, .int .i64 y.dead, .int .i64 y.u0, .int .i64 y.u1, .int .i64 y.u2, .int .i64 y.price] 24 (0, 0))
theorem eq_arr0 (w : World) (a b c x y z : Int) : (Op.equalIn 10000 22 (.agg #[.int .i64 a, .int .i64 b, .int .i64 c]) (.agg #[.int .i64 x, .int .i64 y, .int .i64 z])).run Try.prog w = .ok (a == x && (b == y && c == z)) w := by
  have u3 := Try.underlying3
  have a3 := Try.isAgg3
  have z3 := Try.sizeOf3
  rw [show (10000 : Nat) = 9999 + 1 from rfl, Op.equalIn]
  simp only [Sem.run_bind, run_underlying Try.underlying22, Result.andThen_ok]
  simp only [Std.Legacy.Range.forIn_eq_forIn_range', Std.Legacy.Range.size, Nat.sub_zero, Nat.add_sub_cancel, Nat.div_one, List.range'_succ, List.range'_zero, List.forIn_cons, List.forIn_nil]
  go_simp
  by_cases h1 : a = x <;> by_cases h2 : b = y <;> by_cases h3 : c = z <;> simp [h1, h2, h3]

set_option maxHeartbeats 6400000 in
set_option maxRecDepth 100000 in
theorem walk (x : Wan) (part n : Int) (w : World) :
    Calls Try.prog 3 #[.agg #[.int .i64 x.book, .int .i64 x.cust, .int .i64 x.dead, .int .i64 x.u0, .int .i64 x.u1, .int .i64 x.u2, .int .i64 x.price], .int .i64 part, .int .i64 n] w fun e w' => e = .returned (.bool true) ∧ Below w.heap.size w w' := by
  obtain ⟨w0, e0⟩ : ∃ z, z = w.alloc (.cells #[.int .i64 x.book, .int .i64 x.cust, .int .i64 x.dead, .int .i64 x.u0, .int .i64 x.u1, .int .i64 x.u2, .int .i64 x.price] 24) := ⟨_, rfl⟩
  have be0 : Hid (Below w.heap.size w w0) := by rw [e0]; exact (Below.refl _ w).alloc (Nat.le_refl _) _
  have hx0 : Hid (w0.heap[w.heap.size]? = some (.cells #[.int .i64 x.book, .int .i64 x.cust, .int .i64 x.dead, .int .i64 x.u0, .int .i64 x.u1, .int .i64 x.u2, .int .i64 x.price] 24 (0, 0))) := by rw [e0]; exact heap_alloc_new _ _
  have M := Lib.hid (may_any w0 x)
  rw [e0] at M
  rcases Bool.eq_false_or_eq_true (may x) with hm | hm
  case inr =>
    rw [hm] at M
    go_enter Try.func3, Try.ntmps3
    go_wp2_with fail
    refine M.out.mono ?_
    rintro e w1 ⟨rfl, b1⟩
    rw [← e0] at b1
    have be1 : Hid (Below w.heap.size w w1) := be0.out.trans (b1.mono be0.out.size)
    have hx1 := stay hx0 b1
    clear b1 be0 hx0 M e0
    go_wp2_with fail
    refine (told_any w1).mono ?_
    rintro e w2 ⟨rfl, b2⟩
    have be2 : Hid (Below w.heap.size w w2) := be1.out.trans (b2.mono be1.out.size)
    have hx2 := stay hx1 b2
    have c2_0 : w2.cell? ⟨w.heap.size, 0, none⟩ = some (.int .i64 x.book) := one_at hx2.out
    have c2_1 : w2.cell? ⟨w.heap.size, 1, none⟩ = some (.int .i64 x.cust) := one_at hx2.out
    have c2_2 : w2.cell? ⟨w.heap.size, 2, none⟩ = some (.int .i64 x.dead) := one_at hx2.out
    have c2_3 : w2.cell? ⟨w.heap.size, 3, none⟩ = some (.int .i64 x.u0) := one_at hx2.out
    have c2_4 : w2.cell? ⟨w.heap.size, 4, none⟩ = some (.int .i64 x.u1) := one_at hx2.out
    have c2_5 : w2.cell? ⟨w.heap.size, 5, none⟩ = some (.int .i64 x.u2) := one_at hx2.out
    have c2_6 : w2.cell? ⟨w.heap.size, 6, none⟩ = some (.int .i64 x.price) := one_at hx2.out
    clear b2 be1 hx1
    go_wp2_with fail
    refine (show Calls _ _ _ _ _ from by have M := refmay_any w2 x; rw [hm] at M; exact M).mono ?_
    rintro e w3 ⟨rfl, b3⟩
    have be3 : Hid (Below w.heap.size w w3) := be2.out.trans (b3.mono be2.out.size)
    clear b3 be2
    go_wp2_with fail
    go_ret
    exact ⟨rfl, be3.out⟩
  case inl =>
    rw [hm] at M
    replace hm := Lib.hid hm
    go_enter Try.func3, Try.ntmps3
    go_wp2_with fail
    refine M.out.mono ?_
    rintro e w1 ⟨rfl, b1⟩
    rw [← e0] at b1
    have be1 : Hid (Below w.heap.size w w1) := be0.out.trans (b1.mono be0.out.size)
    have hx1 := stay hx0 b1
    have c1_0 : w1.cell? ⟨w.heap.size, 0, none⟩ = some (.int .i64 x.book) := one_at hx1.out
    have c1_1 : w1.cell? ⟨w.heap.size, 1, none⟩ = some (.int .i64 x.cust) := one_at hx1.out
    have c1_2 : w1.cell? ⟨w.heap.size, 2, none⟩ = some (.int .i64 x.dead) := one_at hx1.out
    have c1_3 : w1.cell? ⟨w.heap.size, 3, none⟩ = some (.int .i64 x.u0) := one_at hx1.out
    have c1_4 : w1.cell? ⟨w.heap.size, 4, none⟩ = some (.int .i64 x.u1) := one_at hx1.out
    have c1_5 : w1.cell? ⟨w.heap.size, 5, none⟩ = some (.int .i64 x.u2) := one_at hx1.out
    have c1_6 : w1.cell? ⟨w.heap.size, 6, none⟩ = some (.int .i64 x.price) := one_at hx1.out
    clear b1 be0 hx0 M e0
    have hp : w.heap.size ≤ w1.heap.size := be1.out.size
    go_upto_block 0 with fail
    generalize wrap64 ((IntKind.u64.wrap part).tmod 6) = z6
    go_cut [6] from 27 to 65 (fun s6 wx => s6 = .bool false ∧ ∃ y, may y = smU y ∧ One w w1.heap.size y wx)
    case first =>
      have b3 := md part 3 (by omega) (by omega)
      obtain ⟨z3, hz3⟩ : ∃ z, z = wrap64 ((IntKind.u64.wrap part).tmod 3) := ⟨_, rfl⟩
      rw [← hz3] at b3
      have h3 : z3 = 0 ∨ z3 = 1 ∨ z3 = 2 := by omega
      clear b3
      rcases h3 with rfl | rfl | rfl
      all_goals
        replace hz3 := hz3.symm
        go_wp2_with fail
        all_goals
          first
            | (go_meet
               refine ⟨rfl, ?_⟩
               first
                 | exact ⟨_, pn_book hm.out (md1 n 200 (by omega) (by omega)), ⟨be1.out.alloc hp _, heap_alloc_new _ _⟩⟩
                 | exact ⟨_, pn_cust hm.out (mdp (md n 4 (by omega) (by omega)) rfl), ⟨be1.out.alloc hp _, heap_alloc_new _ _⟩⟩
                 | exact ⟨_, pn_dead hm.out (mdp (md n 1099511627777 (by omega) (by omega)) rfl), ⟨be1.out.alloc hp _, heap_alloc_new _ _⟩⟩
                 | exact ⟨_, pn_price hm.out (mdp (md n 1099511627777 (by omega) (by omega)) rfl), ⟨be1.out.alloc hp _, heap_alloc_new _ _⟩⟩
                 | exact ⟨_, pn_u0 hm.out (mdp (md n 1001 (by omega) (by omega)) rfl), ⟨be1.out.alloc hp _, heap_alloc_new _ _⟩⟩
                 | exact ⟨_, pn_u1 hm.out (mdp (md n 1001 (by omega) (by omega)) rfl), ⟨be1.out.alloc hp _, heap_alloc_new _ _⟩⟩
                 | exact ⟨_, pn_u2 hm.out (mdp (md n 1001 (by omega) (by omega)) rfl), ⟨be1.out.alloc hp _, heap_alloc_new _ _⟩⟩
                 | trace_state)
            | trace_state
    obtain ⟨rfl, y, hy, O⟩ := hcut
    obtain ⟨w2, hv⟩ : ∃ z, z = wc := ⟨_, rfl⟩
    subst hv
    have be2 := Lib.hid O.be
    have hp2 := Lib.hid O.hp
    have c2_0 : w2.cell? ⟨w1.heap.size, 0, none⟩ = some (.int .i64 y.book) := one_at hp2.out
    have c2_1 : w2.cell? ⟨w1.heap.size, 1, none⟩ = some (.int .i64 y.cust) := one_at hp2.out
    have c2_2 : w2.cell? ⟨w1.heap.size, 2, none⟩ = some (.int .i64 y.dead) := one_at hp2.out
    have c2_3 : w2.cell? ⟨w1.heap.size, 3, none⟩ = some (.int .i64 y.u0) := one_at hp2.out
    have c2_4 : w2.cell? ⟨w1.heap.size, 4, none⟩ = some (.int .i64 y.u1) := one_at hp2.out
    have c2_5 : w2.cell? ⟨w1.heap.size, 5, none⟩ = some (.int .i64 y.u2) := one_at hp2.out
    have c2_6 : w2.cell? ⟨w1.heap.size, 6, none⟩ = some (.int .i64 y.price) := one_at hp2.out
    clear O c1_0 c1_1 c1_2 c1_3 c1_4 c1_5 c1_6 hx1
    generalize w1.heap.size = p at *
    have q22 := eq_arr0
    have P := Lib.hid (put_any w2 y)
    have M := Lib.hid (fun w => may_any w y)
    have E : Hid (∀ w, (Op.equalIn 10000 22 (.agg #[.int .i64 y.u0, .int .i64 y.u1, .int .i64 y.u2]) (.agg #[.int .i64 0, .int .i64 0, .int .i64 0])).run Try.prog w = .ok (!smU y) w) := fun w => by rw [eq_arr0]; unfold smU; rw [Bool.not_not]
    have G : Hid (may y = true → getW (some (raw y)) = some y ∧ (raw y).length ≤ 70) := fun h => ⟨getW_raw h, (raw_len h).2⟩
    rw [hy] at P M G
    clear hy q22
    generalize smU y = m at *
    cases m
    case false =>
      have E' := E.out
      go_wp2_with fail
      refine P.out.mono ?_
      rintro e w3 h3
      obtain rfl := h3.no rfl
      have be3 : Hid (Below w.heap.size w w3) := be2.out.trans (h3.be.mono be2.out.size)
      have hp3 := stay hp2 h3.be
      have c3_0 : w3.cell? ⟨p, 0, none⟩ = some (.int .i64 y.book) := one_at hp3.out
      have c3_1 : w3.cell? ⟨p, 1, none⟩ = some (.int .i64 y.cust) := one_at hp3.out
      have c3_2 : w3.cell? ⟨p, 2, none⟩ = some (.int .i64 y.dead) := one_at hp3.out
      have c3_3 : w3.cell? ⟨p, 3, none⟩ = some (.int .i64 y.u0) := one_at hp3.out
      have c3_4 : w3.cell? ⟨p, 4, none⟩ = some (.int .i64 y.u1) := one_at hp3.out
      have c3_5 : w3.cell? ⟨p, 5, none⟩ = some (.int .i64 y.u2) := one_at hp3.out
      have c3_6 : w3.cell? ⟨p, 6, none⟩ = some (.int .i64 y.price) := one_at hp3.out
      clear h3 P be2 hp2 c2_0 c2_1 c2_2 c2_3 c2_4 c2_5 c2_6 G E
      go_wp2_with fail
      refine (M.out w3).mono ?_
      rintro e w4 ⟨rfl, b4⟩
      have be4 : Hid (Below w.heap.size w w4) := be3.out.trans (b4.mono be3.out.size)
      clear b4 be3 hp3 c3_0 c3_1 c3_2 c3_3 c3_4 c3_5 c3_6 M
      go_wp2_with fail
      refine (told_any w4).mono ?_
      rintro e w5 ⟨rfl, b5⟩
      have be5 : Hid (Below w.heap.size w w5) := be4.out.trans (b5.mono be4.out.size)
      clear b5 be4
      go_wp2_with fail
      go_ret
      exact ⟨rfl, be5.out⟩
    case true =>
      have E' := E.out
      obtain ⟨hg, hl⟩ := G.out rfl
      replace hg := Lib.hid hg
      replace hl := Lib.hid hl
      go_wp2_with fail
      refine P.out.mono ?_
      rintro e w3 h3
      obtain ⟨v, rfl, ho⟩ := h3.yes rfl
      obtain ⟨A, c, rfl, hR, hA⟩ := PutTo.rb ho
      have be3 : Hid (Below w.heap.size w w3) := be2.out.trans (h3.be.mono be2.out.size)
      have hp3 := stay hp2 h3.be
      have c3_0 : w3.cell? ⟨p, 0, none⟩ = some (.int .i64 y.book) := one_at hp3.out
      have c3_1 : w3.cell? ⟨p, 1, none⟩ = some (.int .i64 y.cust) := one_at hp3.out
      have c3_2 : w3.cell? ⟨p, 2, none⟩ = some (.int .i64 y.dead) := one_at hp3.out
      have c3_3 : w3.cell? ⟨p, 3, none⟩ = some (.int .i64 y.u0) := one_at hp3.out
      have c3_4 : w3.cell? ⟨p, 4, none⟩ = some (.int .i64 y.u1) := one_at hp3.out
      have c3_5 : w3.cell? ⟨p, 5, none⟩ = some (.int .i64 y.u2) := one_at hp3.out
      have c3_6 : w3.cell? ⟨p, 6, none⟩ = some (.int .i64 y.price) := one_at hp3.out
      replace hR := Lib.hid hR
      replace hA := Lib.hid hA
      clear h3 ho P be2 hp2 c2_0 c2_1 c2_2 c2_3 c2_4 c2_5 c2_6 G E
      go_wp2_with fail
      refine (M.out w3).mono ?_
      rintro e w4 ⟨rfl, b4⟩
      have be4 : Hid (Below w.heap.size w w4) := be3.out.trans (b4.mono be3.out.size)
      have hp4 := stay hp3 b4
      have K := Lib.hid (get_any w4 A _ c (raw y) (hR.out.keep (T' := fun g => g < w4.heap.size) (fun g hg => b4.block g hg) (fun g hg => Nat.lt_of_lt_of_le hg b4.size)) (fun g hg => hg) (by have := hl.out; omega) hA.out)
      clear b4 be3 hp3 c3_0 c3_1 c3_2 c3_3 c3_4 c3_5 c3_6 M hR hA E'
      go_wp2_with fail
      refine K.out.mono ?_
      rintro e w5 h5
      obtain rfl := h5.yes y hg.out
      have be5 : Hid (Below w.heap.size w w5) := be4.out.trans (h5.be.mono be4.out.size)
      have hp5 := stay hp4 h5.be
      clear h5 K be4 hp4
      have T := Lib.hid (fun o => told_any (w5.alloc o))
      go_wp2_with fail
      refine (T.out _).mono ?_
      rintro e w6 ⟨rfl, b6⟩
      have be6 : Hid (Below w.heap.size w w6) := (be5.out.alloc be5.out.size _).trans (b6.mono (by have := be5.out.size; simp; omega))
      have hp6 := stay (stay1 hp5 _) b6
      have hq6 := stay (lay1 w5 _) b6
      have c6_0 : w6.cell? ⟨p, 0, none⟩ = some (.int .i64 y.book) := one_at hp6.out
      have c6_1 : w6.cell? ⟨p, 1, none⟩ = some (.int .i64 y.cust) := one_at hp6.out
      have c6_2 : w6.cell? ⟨p, 2, none⟩ = some (.int .i64 y.dead) := one_at hp6.out
      have c6_3 : w6.cell? ⟨p, 3, none⟩ = some (.int .i64 y.u0) := one_at hp6.out
      have c6_4 : w6.cell? ⟨p, 4, none⟩ = some (.int .i64 y.u1) := one_at hp6.out
      have c6_5 : w6.cell? ⟨p, 5, none⟩ = some (.int .i64 y.u2) := one_at hp6.out
      have c6_6 : w6.cell? ⟨p, 6, none⟩ = some (.int .i64 y.price) := one_at hp6.out
      have q6_0 : w6.cell? ⟨w5.heap.size, 0, none⟩ = some (.int .i64 y.book) := one_at hq6.out
      have q6_1 : w6.cell? ⟨w5.heap.size, 1, none⟩ = some (.int .i64 y.cust) := one_at hq6.out
      have q6_2 : w6.cell? ⟨w5.heap.size, 2, none⟩ = some (.int .i64 y.dead) := one_at hq6.out
      have q6_3 : w6.cell? ⟨w5.heap.size, 3, none⟩ = some (.int .i64 y.u0) := one_at hq6.out
      have q6_4 : w6.cell? ⟨w5.heap.size, 4, none⟩ = some (.int .i64 y.u1) := one_at hq6.out
      have q6_5 : w6.cell? ⟨w5.heap.size, 5, none⟩ = some (.int .i64 y.u2) := one_at hq6.out
      have q6_6 : w6.cell? ⟨w5.heap.size, 6, none⟩ = some (.int .i64 y.price) := one_at hq6.out
      clear b6 be5 hp5 T
      have q22 := eq_arr
      go_wp2_with fail
      go_ret
      exact ⟨rfl, be6.out⟩


/-! The row: every input. -/
set_option linter.unusedVariables false
set_option maxRecDepth 100000 in
theorem lifted (os : Os) (started : os.Started) (H : Type) (enc : TypeId × Value → H) :
    ReturnsInHanded {} Try.checked os 3 .any (Rows.wantPartsSpec.pre6 enc Try.prog Try.f3 Rows.wantPartsRow.domain false) (Rows.wantPartsSpec.post enc Try.prog Try.f3 false true false false) := by
  refine returnsInHanded_of_change (C := Try.checked) own started (by kernel_rfl) Try.func3
    (ChangeSpec.witness6 (enc := enc) (C := Try.checked) false ⟨#[], #[.agg #[.int .i64 0, .int .i64 0, .int .i64 0, .int .i64 0, .int .i64 0, .int .i64 0, .int .i64 0], .int .i64 0, .int .i64 0], []⟩ 8 (by kernel_rfl) (by kernel_rfl) (by kernel_rfl) (by kernel_rfl)) ?_
  intro W base args ds gs before hval0 hW _ _
  have hval : ∀ (j : Nat) t v, Try.f3.params[j]? = some t → args[j]? = some v → Value.okWide Try.prog W .any base t v := hval0
  have hW' := hW
  obtain ⟨p, q, hA0, hV, rfl, hfz, hnd⟩ := hW
  have hA : DataW.TrodAll enc Try.prog W 0 (fun _ => true) true Try.f3.params.toList args.toList ds p := hA0
  rw [Try.params3] at hA hval
  obtain ⟨v0, vs0, d0, ds0, p0, q0, hargs, rfl, rfl, h0, r0⟩ := trodAll_cons hA
  obtain ⟨v1, vs1, d1, ds1, p1, q1, rfl, rfl, rfl, h1, r1⟩ := trodAll_cons r0
  obtain ⟨v2, vs2, d2, ds2, p2, q2, rfl, rfl, rfl, h2, r2⟩ := trodAll_cons r1
  obtain ⟨rfl, rfl, rfl⟩ := trodAll_nil r2
  obtain rfl : args = #[v0, v1, v2] := by cases args; simp_all
  obtain ⟨rfl, rfl⟩ := trodVars_none hV
  obtain ⟨x0, rfl, w0⟩ := view_want (hval 0 24 v0 rfl rfl) h0
  obtain ⟨a1, rfl, rfl, rfl, w1⟩ := open_int Try.underlying3 (hval 1 3 v1 rfl rfl) h1
  obtain ⟨a2, rfl, rfl, rfl, w2⟩ := open_int Try.underlying3 (hval 2 3 v2 rfl rfl) h2
  clear hA0 hval0
  simp only [List.append_nil] at hW'
  refine (walk x0 a1 a2 W).mono fun e W' ⟨he, hb⟩ => ?_
  subst he
  exact ⟨_, rfl, post_below (pa := p0 ++ ([] ++ ([] ++ []))) (pv := []) hW' (fun _ _ _ => (trodAll_cons_mk (shut_bool Try.underlying4 _) trodAll_mk0)) (fun sp hsp => (trodAll_cons_mk (Trod_stays laidOut (by kernel_rfl) (of_decide_eq_true (by kernel_rfl)) h0 (fun x hx => hb.same (hW'.lt x (by simp [hx]))) (fun x hx => hsp x (by simp [hx]))) (trodAll_cons_mk (shut_int Try.underlying3 w1) (trodAll_cons_mk (shut_int Try.underlying3 w2) trodAll_mk0)))) (fun _ _ => rfl) (by simp)
    hb (ok_one (by kernel_rfl) rfl (okWide_bool_mk Try.underlying4 _))⟩

theorem proved : Rows.WantPartsSaid :=
  OpenClaim.holds_of_wide 3 Try.f3 rfl rfl rfl rfl rfl rfl rfl ⟨rfl, rfl, rfl, rfl, rfl⟩ rfl rfl rfl rfl rfl (by kernel_rfl) Try.func3 (by kernel_rfl)
    (of_decide_eq_true (by kernel_rfl)) (by unfold Func.isWrapper; first | (rw [if_pos (by decide +kernel)]; kernel_rfl) | (rw [if_neg (by decide +kernel)]; exact ⟨rfl, rfl⟩))
    (fun os started H enc _ => lifted os started H enc)
#print axioms proved

end Go.Proofs.Ytmmediadgoejpaa.wantParts
