/- Proved: a byte of a booking's bytes that is turned makes another booking, or none, as the document's own reader says (WantTurned), for any booking, any place, any turn. -/
import Derived.Test.YtmmediadgoejpaaWtQ
import Derived.Test.YtmmediadgoejpaaWtU
import Derived.Deep.CutRange
namespace Go.Proofs.Ytmmediadgoejpaa.wantTurned
open Go.ChangeShapes Go.WideShapes Go.ChangeAt Go.WideElems Go.RowKit
open Go.Proofs.Ytmmediadgoejpaa.Pk Go.Proofs.Ytmmediadgoejpaa.Wt

theorem place (at_ : Int) (L : Nat) (hL : 0 < L) (hm : L ≤ 500) : ∃ k : Nat, wrap64 ((IntKind.u64.wrap at_).tmod (L : Int)) = (k : Int) ∧ k < L := by
  have hw : 0 ≤ IntKind.u64.wrap at_ := wrap_u64_nonneg at_
  have a1 := Int.emod_nonneg (IntKind.u64.wrap at_) (b := (L : Int)) (by omega)
  have a2 := Int.emod_lt_of_pos (IntKind.u64.wrap at_) (b := (L : Int)) (by omega)
  refine ⟨((IntKind.u64.wrap at_) % (L : Int)).toNat, ?_, by omega⟩
  rw [Int.tmod_eq_emod_of_nonneg hw]
  unfold wrap64
  omega
theorem rb_move {w w' : World} {A : Option Addr} {n : Nat} {bs : List UInt8} (h : Hid (Rb w (fun g => g < w.heap.size) A n bs)) (b : Below w.heap.size w w') : Hid (Rb w' (fun g => g < w'.heap.size) A n bs) :=
  h.out.keep (fun g hg => b.block g hg) (fun _ hg => Nat.lt_of_lt_of_le hg b.size)
theorem own_some {w : World} {base n : Nat} {e : TypeId} {v : Value} {xs : List Value} (h : w.ownsRow base e 1 v n xs) (hn : 0 < n) : ∃ g c, v = .slice (some ⟨g, 0, none⟩) n c ∧ base ≤ g ∧ g < w.heap.size ∧ n ≤ c ∧ c ≤ maxLen := by
  rcases h.2 with ⟨_, h0⟩ | ⟨g, cap, cur, e, hb, hh, h1, h2, _⟩
  · omega
  · exact ⟨g, cap, e, hb, lt_some hh, h1, h2⟩
theorem u8s_set (bs : List UInt8) (k : Nat) (y : UInt8) : (u8s bs).set k (.int .u8 (y.toNat : Int)) = u8s (bs.set k y) := by simp [u8s, List.map_set]
theorem xor_z (y : UInt8) (x : Int) (h1 : 0 ≤ x) (h2 : x ≤ 255) : ∃ z : UInt8, bits .xor .u8 (y.toNat : Int) x = (z.toNat : Int) ∧ (y = z ↔ x = 0) := by
  obtain ⟨n, rfl⟩ := Int.eq_ofNat_of_zero_le h1
  have hy := y.toNat_lt
  have hlt : y.toNat ^^^ n < 256 := Nat.xor_lt_two_pow (n := 8) (by omega) (by omega)
  refine ⟨UInt8.ofNat (y.toNat ^^^ n), by rw [ofNat_toNat hlt]; exact u8_xor_nat _ _ (by omega) (by omega), ?_⟩
  constructor
  · intro h
    have := congrArg UInt8.toNat h
    rw [ofNat_toNat hlt] at this
    have := congrArg (y.toNat ^^^ ·) this
    simp only [← Nat.xor_assoc, Nat.xor_self, Nat.zero_xor] at this
    omega
  · intro h
    have : n = 0 := by omega
    subst this
    apply UInt8.toNat_inj.1
    rw [ofNat_toNat hlt, Nat.xor_zero]
theorem turned {w : World} {base L k : Nat} {v : Value} {bs : List UInt8} {x : Int} (h : w.ownsRow base 5 1 v L (u8s bs)) (hk : k < L) (h1 : 0 ≤ x) (h2 : x ≤ 255) :
    ∃ (g c : Nat) (y z : UInt8), v = .slice (some ⟨g, 0, none⟩) L c ∧ base ≤ g ∧ g < w.heap.size ∧ L ≤ c ∧ c ≤ 9223372036854775807 ∧ bs[k]? = some y ∧ w.cell? ⟨g, k, none⟩ = some (.int .u8 (y.toNat : Int)) ∧ w.frozen? ⟨g, k, none⟩ = false ∧
      bits .xor .u8 (y.toNat : Int) x = (z.toNat : Int) ∧ (y = z ↔ x = 0) ∧ y.toNat < 256 ∧ (w.setCell ⟨g, k, none⟩ (.int .u8 (z.toNat : Int))).ownsRow base 5 1 (.slice (some ⟨g, 0, none⟩) L c) L (u8s (bs.set k z)) := by
  obtain ⟨g, c, rfl, hg, hgl, hc1, hc2⟩ := own_some h (by omega)
  have hl := h.1
  rw [u8s_len] at hl
  obtain ⟨y, hy⟩ : ∃ y, bs[k]? = some y := ⟨_, List.getElem?_eq_getElem (by omega)⟩
  obtain ⟨z, hz, hyz⟩ := xor_z y x h1 h2
  unfold maxLen at hc2
  refine ⟨g, c, y, z, rfl, hg, hgl, hc1, by omega, hy, ?_, h.frozenAt k, hz, hyz, y.toNat_lt, ?_⟩
  · rw [h.cellAt k (by omega), u8s, List.getElem?_map, hy]
    rfl
  · rw [← u8s_set]
    exact (h.stored k _).1
theorem u8_lo {x : Int} (h : (Lit.int .u8 x).wf = true) : 0 ≤ x := (bounds_u8 h).1
theorem u8_hi {x : Int} (h : (Lit.int .u8 x).wf = true) : x ≤ 255 := by have := (bounds_u8 h).2; omega
theorem set_ne {bs : List UInt8} {k : Nat} {y z : UInt8} (h : bs[k]? = some y) (hyz : y ≠ z) : bs.set k z ≠ bs := by
  intro e
  have hk := (List.getElem?_eq_some_iff.1 h).1
  have : (bs.set k z)[k]? = some z := by simp [hk]
  rw [e, h] at this
  injection this with this
  exact hyz this

set_option maxHeartbeats 6400000 in
set_option maxRecDepth 100000 in
theorem walk (x0 : Wan) (at_ x : Int) (h1 : 0 ≤ x) (h2 : x ≤ 255) (w : World) :
    Calls Try.prog 8 #[.agg #[.int .i64 x0.book, .int .i64 x0.cust, .int .i64 x0.dead, .int .i64 x0.u0, .int .i64 x0.u1, .int .i64 x0.u2, .int .i64 x0.price], .int .i64 at_, .int .u8 x] w fun e w' => e = .returned (.bool true) ∧ Below w.heap.size w w' := by
  obtain ⟨w0, e0⟩ : ∃ z, z = w.alloc (.cells #[.int .i64 x0.book, .int .i64 x0.cust, .int .i64 x0.dead, .int .i64 x0.u0, .int .i64 x0.u1, .int .i64 x0.u2, .int .i64 x0.price] 24) := ⟨_, rfl⟩
  have be0 : Hid (Below w.heap.size w w0) := by rw [e0]; exact (Below.refl _ w).alloc (Nat.le_refl _) _
  have hx0 : Hid (w0.heap[w.heap.size]? = some (.cells #[.int .i64 x0.book, .int .i64 x0.cust, .int .i64 x0.dead, .int .i64 x0.u0, .int .i64 x0.u1, .int .i64 x0.u2, .int .i64 x0.price] 24 (0, 0))) := by rw [e0]; exact heap_alloc_new _ _
  have P := Lib.hid (put_any w0 x0)
  rcases Bool.eq_false_or_eq_true (may x0) with hm | hm
  case inr =>
    rw [hm, e0] at P
    go_enter Try.func8, Try.ntmps8
    go_wp2_with fail
    refine P.out.mono ?_
    rw [← e0]
    rintro e w1 h1
    obtain rfl := h1.no rfl
    have be1 : Hid (Below w.heap.size w w1) := be0.out.trans (h1.be.mono be0.out.size)
    clear h1 P be0 hx0 e0
    go_wp2_with fail
    refine (told_any w1).mono ?_
    rintro e w2 ⟨rfl, b2⟩
    have be2 : Hid (Below w.heap.size w w2) := be1.out.trans (b2.mono be1.out.size)
    clear b2 be1
    go_wp2_with fail
    go_ret
    exact ⟨rfl, be2.out⟩
  by_cases hz0 : x = 0
  · subst hz0
    rw [hm, e0] at P
    go_enter Try.func8, Try.ntmps8
    go_wp2_with fail
    refine P.out.mono ?_
    rw [← e0]
    rintro e w1 h1
    obtain ⟨v, rfl, ho⟩ := h1.yes rfl
    have be1 : Hid (Below w.heap.size w w1) := be0.out.trans (h1.be.mono be0.out.size)
    clear h1 P be0 hx0 e0 ho
    go_wp2_with fail
    refine (told_any w1).mono ?_
    rintro e w2 ⟨rfl, b2⟩
    have be2 : Hid (Below w.heap.size w w2) := be1.out.trans (b2.mono be1.out.size)
    clear b2 be1
    go_wp2_with fail
    go_ret
    exact ⟨rfl, be2.out⟩
  have hl := raw_len hm
  have hzb : (x == 0) = false := by simpa using hz0
  obtain ⟨k, hK, hkm⟩ := place at_ (raw x0).length hl.1 (by omega)
  have INV := Lib.hid (fun (l : List UInt8) (v : Wan) (h : getW (some l) = some v) => getW_inv h)
  rw [hm, e0] at P
  go_enter Try.func8, Try.ntmps8
  go_wp2_with fail
  refine P.out.mono ?_
  rw [← e0]
  rintro e w1 h1'
  obtain ⟨v, rfl, ho⟩ := h1'.yes rfl
  have be1 : Hid (Below w.heap.size w w1) := be0.out.trans (h1'.be.mono be0.out.size)
  have hx1 := stay hx0 h1'.be
  have lw0 : w.heap.size < w0.heap.size := by rw [e0]; simp
  obtain ⟨g, c, y, z, rfl, hg, hgl, hc1, hc2, hy, hcell, hfr, hxor, hyz, hyb, ho2⟩ := turned ho hkm h1 h2
  have hne : (raw x0).set k z ≠ raw x0 := set_ne hy (fun e => hz0 (hyz.1 e))
  have DIFF : Hid (∀ v, getW (some ((raw x0).set k z)) = some v → v ≠ x0) := fun v hv e => hne (by rw [← (getW_inv hv).2, e])
  have be2 : Hid (Below w.heap.size w (w1.setCell ⟨g, k, none⟩ (.int .u8 (z.toNat : Int)))) := be1.out.setCell (by show w.heap.size ≤ g; omega) _
  have hx2 : Hid ((w1.setCell ⟨g, k, none⟩ (.int .u8 (z.toNat : Int))).heap[w.heap.size]? = some (.cells #[.int .i64 x0.book, .int .i64 x0.cust, .int .i64 x0.dead, .int .i64 x0.u0, .int .i64 x0.u1, .int .i64 x0.u2, .int .i64 x0.price] 24 (0, 0))) := (Below.heap_setCell _ ⟨g, k, none⟩ _ _ (by show w.heap.size ≠ g; omega)).trans hx1.out
  have hll : ((raw x0).set k z).length = (raw x0).length := by simp
  have R2 : Hid (Rb (w1.setCell ⟨g, k, none⟩ (.int .u8 (z.toNat : Int))) (fun b => b < (w1.setCell ⟨g, k, none⟩ (.int .u8 (z.toNat : Int))).heap.size) (some ⟨g, 0, none⟩) (raw x0).length ((raw x0).set k z)) := (Rb.of_own ho2).keep (fun _ _ => rfl) (fun b hb => hb.2.lt)
  have z1 : (((raw x0).length : Int) == 0) = false := by have := hl.1; simpa using (show ¬ (((raw x0).length : Int) = 0) by omega)
  clear h1' P be0 hx0 e0 ho hx1 hg hgl hy hyz ho2 hne hm
  generalize raw x0 = bs at *
  obtain ⟨bs', hbs⟩ : ∃ l, l = bs.set k z := ⟨_, rfl⟩
  rw [← hbs] at R2 DIFF hll
  replace hbs := Lib.hid hbs
  go_upto_region 8 with fail
  obtain ⟨w2, e2⟩ : ∃ q, q = w1.setCell ⟨g, k, none⟩ (.int .u8 (z.toNat : Int)) := ⟨_, rfl⟩
  rw [← e2] at be2 hx2 R2 ⊢
  clear e2 hcell hfr hxor be1 hyb hK z1
  have G := Lib.hid (get_any w2 _ _ c bs' R2.out (fun b hb => hb) (by omega) (fun e => by cases e))
  have RG : Hid (∀ w, Calls Try.prog 19 #[.string (str bs')] w (GetTo w (getW (some bs')))) := fun w => rget_any w bs' (by omega)
  rcases hq : getW (some bs') with _ | v
  · rw [hq] at G RG
    go_wp2_with fail
    refine G.out.mono ?_
    rintro e w3 h3
    obtain rfl := h3.no rfl
    have be3 : Hid (Below w.heap.size w w3) := be2.out.trans (h3.be.mono be2.out.size)
    have R3 := rb_move R2 h3.be
    clear h3 G R2 be2 hx2 DIFF
    have s3 := fun o => str_run (c := c) (w := w3.alloc o) (T := fun _ => True) (R3.out.keep (fun b hb => heap_alloc_old _ _ hb) (fun _ _ => trivial))
    go_wp2_with fail
    refine (RG.out _).mono ?_
    rintro e w4 h4
    obtain rfl := h4.no rfl
    have be4 : Hid (Below w.heap.size w w4) := (be3.out.alloc be3.out.size _).trans (h4.be.mono (by have := be3.out.size; simp; omega))
    have hu4 := stay (lay1 w3 _) h4.be
    clear h4 RG s3 R3 be3
    have T := Lib.hid (fun o => told_any (w4.alloc o))
    go_wp2_with fail
    refine (T.out _).mono ?_
    rintro e w5 ⟨rfl, b5⟩
    have be5 : Hid (Below w.heap.size w w5) := (be4.out.alloc be4.out.size _).trans (b5.mono (by have := be4.out.size; simp; omega))
    have hu5 := stay (stay1 hu4 _) b5
    have hv5 := stay (lay1 w4 _) b5
    have ca0 : w5.cell? ⟨w3.heap.size, 0, none⟩ = some (.int .i64 0) := one_at hu5.out
    have ca1 : w5.cell? ⟨w3.heap.size, 1, none⟩ = some (.int .i64 0) := one_at hu5.out
    have ca2 : w5.cell? ⟨w3.heap.size, 2, none⟩ = some (.int .i64 0) := one_at hu5.out
    have ca3 : w5.cell? ⟨w3.heap.size, 3, none⟩ = some (.int .i64 0) := one_at hu5.out
    have ca4 : w5.cell? ⟨w3.heap.size, 4, none⟩ = some (.int .i64 0) := one_at hu5.out
    have ca5 : w5.cell? ⟨w3.heap.size, 5, none⟩ = some (.int .i64 0) := one_at hu5.out
    have ca6 : w5.cell? ⟨w3.heap.size, 6, none⟩ = some (.int .i64 0) := one_at hu5.out
    have cb0 : w5.cell? ⟨w4.heap.size, 0, none⟩ = some (.int .i64 0) := one_at hv5.out
    have cb1 : w5.cell? ⟨w4.heap.size, 1, none⟩ = some (.int .i64 0) := one_at hv5.out
    have cb2 : w5.cell? ⟨w4.heap.size, 2, none⟩ = some (.int .i64 0) := one_at hv5.out
    have cb3 : w5.cell? ⟨w4.heap.size, 3, none⟩ = some (.int .i64 0) := one_at hv5.out
    have cb4 : w5.cell? ⟨w4.heap.size, 4, none⟩ = some (.int .i64 0) := one_at hv5.out
    have cb5 : w5.cell? ⟨w4.heap.size, 5, none⟩ = some (.int .i64 0) := one_at hv5.out
    have cb6 : w5.cell? ⟨w4.heap.size, 6, none⟩ = some (.int .i64 0) := one_at hv5.out
    clear b5 be4 T hu4
    have E : ∀ w, (Op.equalIn 10000 24 (.agg #[.int .i64 0, .int .i64 0, .int .i64 0, .int .i64 0, .int .i64 0, .int .i64 0, .int .i64 0]) (.agg #[.int .i64 0, .int .i64 0, .int .i64 0, .int .i64 0, .int .i64 0, .int .i64 0, .int .i64 0])).run Try.prog w = .ok true w := fun w => by rw [eq_wan w ⟨0, 0, 0, 0, 0, 0, 0⟩ ⟨0, 0, 0, 0, 0, 0, 0⟩]; simp
    go_wp2_with fail
    go_ret
    exact ⟨rfl, be5.out⟩
  · rw [hq] at G RG
    have hvx := DIFF.out v hq
    go_wp2_with fail
    refine G.out.mono ?_
    rintro e w3 h3
    obtain rfl := h3.yes v rfl
    have be3 : Hid (Below w.heap.size w w3) := be2.out.trans (h3.be.mono be2.out.size)
    have R3 := rb_move R2 h3.be
    have hx3 := stay hx2 h3.be
    clear h3 G R2 be2 hx2 DIFF
    have s3 := fun o => str_run (c := c) (w := w3.alloc o) (T := fun _ => True) (R3.out.keep (fun b hb => heap_alloc_old _ _ hb) (fun _ _ => trivial))
    go_wp2_with fail
    refine (RG.out _).mono ?_
    rintro e w4 h4
    obtain rfl := h4.yes v rfl
    have be4 : Hid (Below w.heap.size w w4) := (be3.out.alloc be3.out.size _).trans (h4.be.mono (by have := be3.out.size; simp; omega))
    have hu4 := stay (lay1 w3 _) h4.be
    have hx4 := stay (stay1 hx3 _) h4.be
    clear h4 RG s3 R3 be3 hx3
    have T := Lib.hid (fun o => told_any (w4.alloc o))
    go_wp2_with fail
    refine (T.out _).mono ?_
    rintro e w5 ⟨rfl, b5⟩
    have be5 : Hid (Below w.heap.size w w5) := (be4.out.alloc be4.out.size _).trans (b5.mono (by have := be4.out.size; simp; omega))
    have hu5 := stay (stay1 hu4 _) b5
    have hv5 := stay (lay1 w4 _) b5
    have hx5 := stay (stay1 hx4 _) b5
    have ca0 : w5.cell? ⟨w3.heap.size, 0, none⟩ = some (.int .i64 v.book) := one_at hu5.out
    have ca1 : w5.cell? ⟨w3.heap.size, 1, none⟩ = some (.int .i64 v.cust) := one_at hu5.out
    have ca2 : w5.cell? ⟨w3.heap.size, 2, none⟩ = some (.int .i64 v.dead) := one_at hu5.out
    have ca3 : w5.cell? ⟨w3.heap.size, 3, none⟩ = some (.int .i64 v.u0) := one_at hu5.out
    have ca4 : w5.cell? ⟨w3.heap.size, 4, none⟩ = some (.int .i64 v.u1) := one_at hu5.out
    have ca5 : w5.cell? ⟨w3.heap.size, 5, none⟩ = some (.int .i64 v.u2) := one_at hu5.out
    have ca6 : w5.cell? ⟨w3.heap.size, 6, none⟩ = some (.int .i64 v.price) := one_at hu5.out
    have cb0 : w5.cell? ⟨w4.heap.size, 0, none⟩ = some (.int .i64 v.book) := one_at hv5.out
    have cb1 : w5.cell? ⟨w4.heap.size, 1, none⟩ = some (.int .i64 v.cust) := one_at hv5.out
    have cb2 : w5.cell? ⟨w4.heap.size, 2, none⟩ = some (.int .i64 v.dead) := one_at hv5.out
    have cb3 : w5.cell? ⟨w4.heap.size, 3, none⟩ = some (.int .i64 v.u0) := one_at hv5.out
    have cb4 : w5.cell? ⟨w4.heap.size, 4, none⟩ = some (.int .i64 v.u1) := one_at hv5.out
    have cb5 : w5.cell? ⟨w4.heap.size, 5, none⟩ = some (.int .i64 v.u2) := one_at hv5.out
    have cb6 : w5.cell? ⟨w4.heap.size, 6, none⟩ = some (.int .i64 v.price) := one_at hv5.out
    have cd0 : w5.cell? ⟨w.heap.size, 0, none⟩ = some (.int .i64 x0.book) := one_at hx5.out
    have cd1 : w5.cell? ⟨w.heap.size, 1, none⟩ = some (.int .i64 x0.cust) := one_at hx5.out
    have cd2 : w5.cell? ⟨w.heap.size, 2, none⟩ = some (.int .i64 x0.dead) := one_at hx5.out
    have cd3 : w5.cell? ⟨w.heap.size, 3, none⟩ = some (.int .i64 x0.u0) := one_at hx5.out
    have cd4 : w5.cell? ⟨w.heap.size, 4, none⟩ = some (.int .i64 x0.u1) := one_at hx5.out
    have cd5 : w5.cell? ⟨w.heap.size, 5, none⟩ = some (.int .i64 x0.u2) := one_at hx5.out
    have cd6 : w5.cell? ⟨w.heap.size, 6, none⟩ = some (.int .i64 x0.price) := one_at hx5.out
    clear b5 be4 T hu4 hx4
    have E : ∀ w, (Op.equalIn 10000 24 (.agg #[.int .i64 v.book, .int .i64 v.cust, .int .i64 v.dead, .int .i64 v.u0, .int .i64 v.u1, .int .i64 v.u2, .int .i64 v.price]) (.agg #[.int .i64 v.book, .int .i64 v.cust, .int .i64 v.dead, .int .i64 v.u0, .int .i64 v.u1, .int .i64 v.u2, .int .i64 v.price])).run Try.prog w = .ok true w := fun w => by rw [eq_wan]; simp
    have E2 : ∀ w, (Op.equalIn 10000 24 (.agg #[.int .i64 v.book, .int .i64 v.cust, .int .i64 v.dead, .int .i64 v.u0, .int .i64 v.u1, .int .i64 v.u2, .int .i64 v.price]) (.agg #[.int .i64 x0.book, .int .i64 x0.cust, .int .i64 x0.dead, .int .i64 x0.u0, .int .i64 x0.u1, .int .i64 x0.u2, .int .i64 x0.price])).run Try.prog w = .ok false w := fun w => by rw [eq_wan]; simp [hvx]
    go_wp2_with fail
    go_ret
    exact ⟨rfl, be5.out⟩

/-! The row: every input. -/
set_option linter.unusedVariables false
set_option maxRecDepth 100000 in
theorem lifted (os : Os) (started : os.Started) (H : Type) (enc : TypeId × Value → H) :
    ReturnsInHanded {} Try.checked os 8 .any (Rows.wantTurnedSpec.pre6 enc Try.prog Try.f8 Rows.wantTurnedRow.domain false) (Rows.wantTurnedSpec.post enc Try.prog Try.f8 false true false false) := by
  refine returnsInHanded_of_change (C := Try.checked) own started (by kernel_rfl) Try.func8
    (ChangeSpec.witness6 (enc := enc) (C := Try.checked) false ⟨#[], #[.agg #[.int .i64 0, .int .i64 0, .int .i64 0, .int .i64 0, .int .i64 0, .int .i64 0, .int .i64 0], .int .i64 0, .int .u8 0], []⟩ 8 (by kernel_rfl) (by kernel_rfl) (by kernel_rfl) (by kernel_rfl)) ?_
  intro W base args ds gs before hval0 hW _ _
  have hval : ∀ (j : Nat) t v, Try.f8.params[j]? = some t → args[j]? = some v → Value.okWide Try.prog W .any base t v := hval0
  have hW' := hW
  obtain ⟨p, q, hA0, hV, rfl, hfz, hnd⟩ := hW
  have hA : DataW.TrodAll enc Try.prog W 0 (fun _ => true) true Try.f8.params.toList args.toList ds p := hA0
  rw [Try.params8] at hA hval
  obtain ⟨v0, vs0, d0, ds0, p0, q0, hargs, rfl, rfl, h0, r0⟩ := trodAll_cons hA
  obtain ⟨v1, vs1, d1, ds1, p1, q1, rfl, rfl, rfl, h1, r1⟩ := trodAll_cons r0
  obtain ⟨v2, vs2, d2, ds2, p2, q2, rfl, rfl, rfl, h2, r2⟩ := trodAll_cons r1
  obtain ⟨rfl, rfl, rfl⟩ := trodAll_nil r2
  obtain rfl : args = #[v0, v1, v2] := by cases args; simp_all
  obtain ⟨rfl, rfl⟩ := trodVars_none hV
  obtain ⟨x0, rfl, w0⟩ := view_want (hval 0 24 v0 rfl rfl) h0
  obtain ⟨a1, rfl, rfl, rfl, w1⟩ := open_int Try.underlying3 (hval 1 3 v1 rfl rfl) h1
  obtain ⟨a2, rfl, rfl, rfl, w2⟩ := open_int Try.underlying5 (hval 2 5 v2 rfl rfl) h2
  clear hA0 hval0
  simp only [List.append_nil] at hW'
  refine (walk x0 a1 a2 (u8_lo w2) (u8_hi w2) W).mono fun e W' ⟨he, hb⟩ => ?_
  subst he
  exact ⟨_, rfl, post_below (pa := p0 ++ ([] ++ ([] ++ []))) (pv := []) hW' (fun _ _ _ => (trodAll_cons_mk (shut_bool Try.underlying4 _) trodAll_mk0)) (fun sp hsp => (trodAll_cons_mk (Trod_stays laidOut (by kernel_rfl) (of_decide_eq_true (by kernel_rfl)) h0 (fun x hx => hb.same (hW'.lt x (by simp [hx]))) (fun x hx => hsp x (by simp [hx]))) (trodAll_cons_mk (shut_int Try.underlying3 w1) (trodAll_cons_mk (shut_int Try.underlying5 w2) trodAll_mk0)))) (fun _ _ => rfl) (by simp)
    hb (ok_one (by kernel_rfl) rfl (okWide_bool_mk Try.underlying4 _))⟩

theorem proved : Rows.WantTurnedSaid :=
  OpenClaim.holds_of_wide 8 Try.f8 rfl rfl rfl rfl rfl rfl rfl ⟨rfl, rfl, rfl, rfl, rfl⟩ rfl rfl rfl rfl rfl (by kernel_rfl) Try.func8 (by kernel_rfl)
    (of_decide_eq_true (by kernel_rfl)) (by unfold Func.isWrapper; first | (rw [if_pos (by decide +kernel)]; kernel_rfl) | (rw [if_neg (by decide +kernel)]; exact ⟨rfl, rfl⟩))
    (fun os started H enc _ => lifted os started H enc)
#print axioms proved
end Go.Proofs.Ytmmediadgoejpaa.wantTurned
