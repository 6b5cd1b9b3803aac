/- Proved: which bookings and operations may be, and their bytes, is what the document's own functions answer (WantAsks), for any booking, any operation, any bytes. -/
import Derived.Test.YtmmediadgoejpaaWtQ
import Derived.Test.YtmmediadgoejpaaWtU
import Derived.Test.YtmmediadgoejpaaWtX
import Derived.Deep.CutRange
namespace Go.Proofs.Ytmmediadgoejpaa.wantAsks
open Go.ChangeShapes Go.WideShapes Go.ChangeAt Go.WideElems Go.RowKit Go.Sort
open Go.Proofs.Ytmmediadgoejpaa.Pk Go.Proofs.Ytmmediadgoejpaa.Wt

/-- What Put leaves, with its two results named. -/
structure PForm (w : World) (ok : Bool) (bs : List UInt8) (v : Value) (k : Int) (w' : World) : Prop where
  be : Below w.heap.size w w'
  yes : ok = true → k = 0 ∧ w'.ownsRow w.heap.size 5 1 v bs.length (u8s bs)
  no : ok = false → k = 1 ∧ v = .slice none 0 0
theorem pform {w w' : World} {ok : Bool} {bs : List UInt8} {e : Ending} (h : PutTo w ok bs e w') : ∃ v k, e = .returned (.tuple #[v, .int .i64 k]) ∧ PForm w ok bs v k w' := by
  cases ok with
  | true =>
    obtain ⟨v, e, ho⟩ := h.yes rfl
    exact ⟨v, 0, e, h.be, fun _ => ⟨rfl, ho⟩, fun h => by cases h⟩
  | false => exact ⟨_, 1, h.no rfl, h.be, (fun h => by cases h), fun _ => ⟨rfl, rfl⟩⟩
theorem own_len {w : World} {base n c : Nat} {e : TypeId} {A : Option Addr} {xs : List Value} (h : w.ownsRow base e 1 (.slice A n c) n xs) : n ≤ c ∧ c ≤ 9223372036854775807 := by
  have := own_cap h
  unfold maxLen at this
  omega
theorem drewB (w : World) (n : Nat) : Below w.heap.size w (w.drewN n) := ⟨rfl, rfl, rfl, Nat.le_refl _, fun _ _ => rfl⟩
theorem rb_move {w w' : World} {A : Option Addr} {n : Nat} {bs : List UInt8} (h : Hid (Rb w (fun g => g < w.heap.size) A n bs)) (b : Below w.heap.size w w') : Hid (Rb w' (fun g => g < w'.heap.size) A n bs) :=
  h.out.keep (fun g hg => b.block g hg) (fun _ hg => Nat.lt_of_lt_of_le hg b.size)
theorem rb_below {w w' : World} {A : Option Addr} {n : Nat} {bs : List UInt8} (h : Rb w (fun g => g < w.heap.size) A n bs) (b : Below w.heap.size w w') : Rb w' (fun g => g < w'.heap.size) A n bs :=
  h.keep (fun g hg => b.block g hg) (fun _ hg => Nat.lt_of_lt_of_le hg b.size)
theorem str_regrown {w : World} {A : Option Addr} {n c : Nat} {bs : List UInt8} (h : Rb w (fun g => g < w.heap.size) A n bs) (d : Nat) (os : Array Obj) : (convert 28 9 (.slice A n c)).run Try.prog (grow (redrawn w d) os) = .ok (.string (str bs)) (grow (redrawn w d) os) :=
  str_run (rb_below h (below_regrown w d os))

set_option maxHeartbeats 12800000 in
set_option maxRecDepth 100000 in
theorem walk (x : Wan) (hxi : WanI x) (o : Opn) (hoi : OpnI o) (A : Option Addr) (n c : Nat) (bs : List UInt8) (w : World) (hA : A = none → c = 0) (R : Rb w (fun g => g < w.heap.size) A n bs) :
    Calls Try.prog 4 #[.agg #[.int .i64 x.book, .int .i64 x.cust, .int .i64 x.dead, .int .i64 x.u0, .int .i64 x.u1, .int .i64 x.u2, .int .i64 x.price], .agg #[.int .i64 o.kind, .int .i64 o.book, .int .i64 o.units, .int .i64 o.cust, .int .i64 o.amount], .slice A n c] w fun e w' => e = .returned (.bool true) ∧ Below w.heap.size w w' := by
  obtain ⟨w0, e0⟩ : ∃ z, z = (w.alloc (.cells #[.int .i64 x.book, .int .i64 x.cust, .int .i64 x.dead, .int .i64 x.u0, .int .i64 x.u1, .int .i64 x.u2, .int .i64 x.price] 24)).alloc (.cells #[.int .i64 o.kind, .int .i64 o.book, .int .i64 o.units, .int .i64 o.cust, .int .i64 o.amount] 35) := ⟨_, rfl⟩
  have be0 : Hid (Below w.heap.size w w0) := by rw [e0]; exact ((Below.refl _ w).alloc (Nat.le_refl _) _).alloc (by simp) _
  have hx0 : Hid (w0.heap[w.heap.size]? = some (.cells #[.int .i64 x.book, .int .i64 x.cust, .int .i64 x.dead, .int .i64 x.u0, .int .i64 x.u1, .int .i64 x.u2, .int .i64 x.price] 24)) := by rw [e0]; exact heap_alloc2_old _ _ _
  have ho0 : Hid (w0.heap[w.heap.size + 1]? = some (.cells #[.int .i64 o.kind, .int .i64 o.book, .int .i64 o.units, .int .i64 o.cust, .int .i64 o.amount] 35)) := by rw [e0]; exact heap_alloc2_new _ _ _
  have hln := Lib.hid R.len
  have R0 : Hid (Rb w0 (fun g => g < w0.heap.size) A n bs) := rb_below R be0.out
  clear R
  by_cases h100 : 100 < n
  · have T : Hid (Calls Try.prog 10 #[] w0 _) := told_any w0
    rw [e0] at T
    go_enter Try.func4, Try.ntmps4
    go_wp2_with fail
    refine T.out.mono ?_
    rw [← e0]
    rintro e w1 ⟨rfl, b1⟩
    have be1 : Hid (Below w.heap.size w w1) := be0.out.trans (b1.mono be0.out.size)
    clear b1 T be0 e0
    go_wp2_with fail
    go_ret
    exact ⟨rfl, be1.out⟩
  have hlen : Hid (bs.length ≤ 100) := by have := hln.out; show _ ≤ _; omega
  have CX0 : ∀ d os, Calls Try.prog 11 #[.agg #[.int .i64 x.book, .int .i64 x.cust, .int .i64 x.dead, .int .i64 x.u0, .int .i64 x.u1, .int .i64 x.u2, .int .i64 x.price]] (grow (redrawn w0 d) os) fun e w'' => e = .returned (.bool (may x)) ∧ ∃ q : Regrown, w'' = grow (redrawn w0 q.d) q.os := fun d os => Calls.regrown_of (refmay_any _ x)
  have CO0 : ∀ d os, Calls Try.prog 14 #[.agg #[.int .i64 o.kind, .int .i64 o.book, .int .i64 o.units, .int .i64 o.cust, .int .i64 o.amount]] (grow (redrawn w0 d) os) fun e w'' => e = .returned (.bool (mayOp o)) ∧ ∃ q : Regrown, w'' = grow (redrawn w0 q.d) q.os := fun d os => Calls.regrown_of (refmayop_any _ o)
  have kx0 := cell_regrown (show w0.cell? ⟨w.heap.size, 0, none⟩ = some (.int .i64 x.book) from one_at hx0.out)
  have kx1 := cell_regrown (show w0.cell? ⟨w.heap.size, 1, none⟩ = some (.int .i64 x.cust) from one_at hx0.out)
  have kx2 := cell_regrown (show w0.cell? ⟨w.heap.size, 2, none⟩ = some (.int .i64 x.dead) from one_at hx0.out)
  have kx3 := cell_regrown (show w0.cell? ⟨w.heap.size, 3, none⟩ = some (.int .i64 x.u0) from one_at hx0.out)
  have kx4 := cell_regrown (show w0.cell? ⟨w.heap.size, 4, none⟩ = some (.int .i64 x.u1) from one_at hx0.out)
  have kx5 := cell_regrown (show w0.cell? ⟨w.heap.size, 5, none⟩ = some (.int .i64 x.u2) from one_at hx0.out)
  have kx6 := cell_regrown (show w0.cell? ⟨w.heap.size, 6, none⟩ = some (.int .i64 x.price) from one_at hx0.out)
  have ko0 := cell_regrown (show w0.cell? ⟨w.heap.size + 1, 0, none⟩ = some (.int .i64 o.kind) from one_at ho0.out)
  have ko1 := cell_regrown (show w0.cell? ⟨w.heap.size + 1, 1, none⟩ = some (.int .i64 o.book) from one_at ho0.out)
  have ko2 := cell_regrown (show w0.cell? ⟨w.heap.size + 1, 2, none⟩ = some (.int .i64 o.units) from one_at ho0.out)
  have ko3 := cell_regrown (show w0.cell? ⟨w.heap.size + 1, 3, none⟩ = some (.int .i64 o.cust) from one_at ho0.out)
  have ko4 := cell_regrown (show w0.cell? ⟨w.heap.size + 1, 4, none⟩ = some (.int .i64 o.amount) from one_at ho0.out)
  go_enter Try.func4, Try.ntmps4
  go_upto_region 3 with fail
  rw [← e0]
  clear e0
  refine wp_region_quiet_below (by kernel_rfl) (by kernel_rfl) ?_
  repeat (go_big_quiet_step (first | with_reducible exact CX0 _ _ | with_reducible exact CO0 _ _))
  refine wpQuiet_nil ?_
  intro w1 hw'
  obtain ⟨⟨dq, osq⟩, hw''⟩ := hw'
  have b10 : RowKit.Below w0.heap.size w0 w1 := by rw [hw'']; exact below_regrown w0 dq osq
  have be1 : Hid (RowKit.Below w.heap.size w w1) := be0.out.trans (b10.mono be0.out.size)
  have hx1 := stay hx0 b10
  have ho1 := stay ho0 b10
  have R1 : Hid (Rb w1 (fun g => g < w1.heap.size) A n bs) := rb_below R0.out b10
  clear hw'' b10 be0 hx0 ho0 R0 CX0 CO0 kx0 kx1 kx2 kx3 kx4 kx5 kx6 ko0 ko1 ko2 ko3 ko4
  have cx0 : w1.cell? ⟨w.heap.size, 0, none⟩ = some (.int .i64 x.book) := one_at hx1.out
  have cx1 : w1.cell? ⟨w.heap.size, 1, none⟩ = some (.int .i64 x.cust) := one_at hx1.out
  have cx2 : w1.cell? ⟨w.heap.size, 2, none⟩ = some (.int .i64 x.dead) := one_at hx1.out
  have cx3 : w1.cell? ⟨w.heap.size, 3, none⟩ = some (.int .i64 x.u0) := one_at hx1.out
  have cx4 : w1.cell? ⟨w.heap.size, 4, none⟩ = some (.int .i64 x.u1) := one_at hx1.out
  have cx5 : w1.cell? ⟨w.heap.size, 5, none⟩ = some (.int .i64 x.u2) := one_at hx1.out
  have cx6 : w1.cell? ⟨w.heap.size, 6, none⟩ = some (.int .i64 x.price) := one_at hx1.out
  go_wp2_with fail
  refine (put_any w1 x).mono ?_
  rintro e wa h1
  obtain ⟨va, ka, rfl, g1⟩ := pform h1
  replace g1 := Lib.hid g1
  have bea : Hid (RowKit.Below w.heap.size w wa) := be1.out.trans (h1.be.mono be1.out.size)
  have hxa := stay hx1 h1.be
  have hoa := stay ho1 h1.be
  have Ra : Hid (Rb wa (fun g => g < wa.heap.size) A n bs) := rb_below R1.out h1.be
  clear h1 be1 hx1 ho1 R1 cx0 cx1 cx2 cx3 cx4 cx5 cx6
  have co0 : wa.cell? ⟨w.heap.size + 1, 0, none⟩ = some (.int .i64 o.kind) := one_at hoa.out
  have co1 : wa.cell? ⟨w.heap.size + 1, 1, none⟩ = some (.int .i64 o.book) := one_at hoa.out
  have co2 : wa.cell? ⟨w.heap.size + 1, 2, none⟩ = some (.int .i64 o.units) := one_at hoa.out
  have co3 : wa.cell? ⟨w.heap.size + 1, 3, none⟩ = some (.int .i64 o.cust) := one_at hoa.out
  have co4 : wa.cell? ⟨w.heap.size + 1, 4, none⟩ = some (.int .i64 o.amount) := one_at hoa.out
  go_wp2_with fail
  refine (putop_any wa o).mono ?_
  rintro e wb h2
  obtain ⟨vb, kb, rfl, g2⟩ := pform h2
  replace g2 := Lib.hid g2
  have beb : Hid (RowKit.Below w.heap.size w wb) := bea.out.trans (h2.be.mono bea.out.size)
  have hxb := stay hxa h2.be
  have hob := stay hoa h2.be
  have Rb_ : Hid (Rb wb (fun g => g < wb.heap.size) A n bs) := rb_below Ra.out h2.be
  clear h2 bea hxa hoa Ra co0 co1 co2 co3 co4
  go_upto_region 6 with fail
  have M1 := Lib.hid (may_any wb x)
  have M2 := Lib.hid (fun w => mayop_any w o)
  generalize may x = mx at *
  generalize mayOp o = mo at *
  go_cut [86] from 39 to 85 (fun s86 wx => s86 = .bool false ∧ RowKit.Below wb.heap.size wb wx)
  case first =>
    have cy0 : wb.cell? ⟨w.heap.size, 0, none⟩ = some (.int .i64 x.book) := one_at hxb.out
    have cy1 : wb.cell? ⟨w.heap.size, 1, none⟩ = some (.int .i64 x.cust) := one_at hxb.out
    have cy2 : wb.cell? ⟨w.heap.size, 2, none⟩ = some (.int .i64 x.dead) := one_at hxb.out
    have cy3 : wb.cell? ⟨w.heap.size, 3, none⟩ = some (.int .i64 x.u0) := one_at hxb.out
    have cy4 : wb.cell? ⟨w.heap.size, 4, none⟩ = some (.int .i64 x.u1) := one_at hxb.out
    have cy5 : wb.cell? ⟨w.heap.size, 5, none⟩ = some (.int .i64 x.u2) := one_at hxb.out
    have cy6 : wb.cell? ⟨w.heap.size, 6, none⟩ = some (.int .i64 x.price) := one_at hxb.out
    cases mx with
    | true =>
      cases mo with
      | true =>
        obtain ⟨rfl, u1⟩ := g1.out.yes rfl
        obtain ⟨rfl, u2⟩ := g2.out.yes rfl
        clear u1 u2
        go_wp2_with fail
        refine M1.out.mono ?_
        rintro e w5 ⟨rfl, b5⟩
        have ho5 := stay hob b5
        have cp0 : w5.cell? ⟨w.heap.size + 1, 0, none⟩ = some (.int .i64 o.kind) := one_at ho5.out
        have cp1 : w5.cell? ⟨w.heap.size + 1, 1, none⟩ = some (.int .i64 o.book) := one_at ho5.out
        have cp2 : w5.cell? ⟨w.heap.size + 1, 2, none⟩ = some (.int .i64 o.units) := one_at ho5.out
        have cp3 : w5.cell? ⟨w.heap.size + 1, 3, none⟩ = some (.int .i64 o.cust) := one_at ho5.out
        have cp4 : w5.cell? ⟨w.heap.size + 1, 4, none⟩ = some (.int .i64 o.amount) := one_at ho5.out
        have b5' := Lib.hid b5
        clear b5 M1
        go_wp2_with fail
        refine (M2.out w5).mono ?_
        rintro e w7 ⟨rfl, b7⟩
        have b7' : Hid (RowKit.Below wb.heap.size wb w7) := b5'.out.trans (b7.mono b5'.out.size)
        clear b7 M2 b5'
        go_wp2_with fail
        go_meet
        exact ⟨rfl, b7'.out⟩
      | false =>
        obtain ⟨rfl, u1⟩ := g1.out.yes rfl
        obtain ⟨rfl, rfl⟩ := g2.out.no rfl
        clear u1
        go_wp2_with fail
        refine M1.out.mono ?_
        rintro e w5 ⟨rfl, b5⟩
        have ho5 := stay hob b5
        have cp0 : w5.cell? ⟨w.heap.size + 1, 0, none⟩ = some (.int .i64 o.kind) := one_at ho5.out
        have cp1 : w5.cell? ⟨w.heap.size + 1, 1, none⟩ = some (.int .i64 o.book) := one_at ho5.out
        have cp2 : w5.cell? ⟨w.heap.size + 1, 2, none⟩ = some (.int .i64 o.units) := one_at ho5.out
        have cp3 : w5.cell? ⟨w.heap.size + 1, 3, none⟩ = some (.int .i64 o.cust) := one_at ho5.out
        have cp4 : w5.cell? ⟨w.heap.size + 1, 4, none⟩ = some (.int .i64 o.amount) := one_at ho5.out
        have b5' := Lib.hid b5
        clear b5 M1
        go_wp2_with fail
        refine (M2.out w5).mono ?_
        rintro e w7 ⟨rfl, b7⟩
        have b7' : Hid (RowKit.Below wb.heap.size wb w7) := b5'.out.trans (b7.mono b5'.out.size)
        clear b7 M2 b5'
        go_wp2_with fail
        go_meet
        exact ⟨rfl, b7'.out⟩
    | false =>
      cases mo with
      | true =>
        obtain ⟨rfl, rfl⟩ := g1.out.no rfl
        obtain ⟨rfl, u2⟩ := g2.out.yes rfl
        clear u2
        go_wp2_with fail
        refine M1.out.mono ?_
        rintro e w5 ⟨rfl, b5⟩
        have ho5 := stay hob b5
        have cp0 : w5.cell? ⟨w.heap.size + 1, 0, none⟩ = some (.int .i64 o.kind) := one_at ho5.out
        have cp1 : w5.cell? ⟨w.heap.size + 1, 1, none⟩ = some (.int .i64 o.book) := one_at ho5.out
        have cp2 : w5.cell? ⟨w.heap.size + 1, 2, none⟩ = some (.int .i64 o.units) := one_at ho5.out
        have cp3 : w5.cell? ⟨w.heap.size + 1, 3, none⟩ = some (.int .i64 o.cust) := one_at ho5.out
        have cp4 : w5.cell? ⟨w.heap.size + 1, 4, none⟩ = some (.int .i64 o.amount) := one_at ho5.out
        have b5' := Lib.hid b5
        clear b5 M1
        go_wp2_with fail
        refine (M2.out w5).mono ?_
        rintro e w7 ⟨rfl, b7⟩
        have b7' : Hid (RowKit.Below wb.heap.size wb w7) := b5'.out.trans (b7.mono b5'.out.size)
        clear b7 M2 b5'
        go_wp2_with fail
        go_meet
        exact ⟨rfl, b7'.out⟩
      | false =>
        obtain ⟨rfl, rfl⟩ := g1.out.no rfl
        obtain ⟨rfl, rfl⟩ := g2.out.no rfl
        go_wp2_with fail
        refine M1.out.mono ?_
        rintro e w5 ⟨rfl, b5⟩
        have ho5 := stay hob b5
        have cp0 : w5.cell? ⟨w.heap.size + 1, 0, none⟩ = some (.int .i64 o.kind) := one_at ho5.out
        have cp1 : w5.cell? ⟨w.heap.size + 1, 1, none⟩ = some (.int .i64 o.book) := one_at ho5.out
        have cp2 : w5.cell? ⟨w.heap.size + 1, 2, none⟩ = some (.int .i64 o.units) := one_at ho5.out
        have cp3 : w5.cell? ⟨w.heap.size + 1, 3, none⟩ = some (.int .i64 o.cust) := one_at ho5.out
        have cp4 : w5.cell? ⟨w.heap.size + 1, 4, none⟩ = some (.int .i64 o.amount) := one_at ho5.out
        have b5' := Lib.hid b5
        clear b5 M1
        go_wp2_with fail
        refine (M2.out w5).mono ?_
        rintro e w7 ⟨rfl, b7⟩
        have b7' : Hid (RowKit.Below wb.heap.size wb w7) := b5'.out.trans (b7.mono b5'.out.size)
        clear b7 M2 b5'
        go_wp2_with fail
        go_meet
        exact ⟨rfl, b7'.out⟩
  obtain ⟨rfl, b6⟩ := hcut
  obtain ⟨w6, hv⟩ : ∃ z, z = wc := ⟨_, rfl⟩
  subst hv
  have be6 : Hid (RowKit.Below w.heap.size w w6) := beb.out.trans (b6.mono beb.out.size)
  have hx6 := stay hxb b6
  have ho6 := stay hob b6
  have R6 : Hid (Rb w6 (fun g => g < w6.heap.size) A n bs) := rb_below Rb_.out b6
  replace b6 := Lib.hid b6
  go_upto_region 8 with fail
  go_cut [104] from 87 to 103 (fun s104 wx => s104 = .bool false ∧ RowKit.Below w6.heap.size w6 wx)
  case first =>
    have CR : ∀ b, b = raw x → ∀ d os, Calls Try.prog 17 #[.agg #[.int .i64 x.book, .int .i64 x.cust, .int .i64 x.dead, .int .i64 x.u0, .int .i64 x.u1, .int .i64 x.u2, .int .i64 x.price]] (grow (redrawn w6 d) os) fun e w'' => e = .returned (.string (str b)) ∧ ∃ q : Regrown, w'' = grow (redrawn w6 q.d) q.os := fun b hb d os => Calls.regrown_of (by rw [hb]; exact rraw_any _ x hxi)
    have CP : ∀ b, b = rawOp o → ∀ d os, Calls Try.prog 18 #[.agg #[.int .i64 o.kind, .int .i64 o.book, .int .i64 o.units, .int .i64 o.cust, .int .i64 o.amount]] (grow (redrawn w6 d) os) fun e w'' => e = .returned (.string (str b)) ∧ ∃ q : Regrown, w'' = grow (redrawn w6 q.d) q.os := fun b hb d os => Calls.regrown_of (by rw [hb]; exact rputop_any _ o hoi)
    have kx0 := cell_regrown (show w6.cell? ⟨w.heap.size, 0, none⟩ = some (.int .i64 x.book) from one_at hx6.out)
    have kx1 := cell_regrown (show w6.cell? ⟨w.heap.size, 1, none⟩ = some (.int .i64 x.cust) from one_at hx6.out)
    have kx2 := cell_regrown (show w6.cell? ⟨w.heap.size, 2, none⟩ = some (.int .i64 x.dead) from one_at hx6.out)
    have kx3 := cell_regrown (show w6.cell? ⟨w.heap.size, 3, none⟩ = some (.int .i64 x.u0) from one_at hx6.out)
    have kx4 := cell_regrown (show w6.cell? ⟨w.heap.size, 4, none⟩ = some (.int .i64 x.u1) from one_at hx6.out)
    have kx5 := cell_regrown (show w6.cell? ⟨w.heap.size, 5, none⟩ = some (.int .i64 x.u2) from one_at hx6.out)
    have kx6 := cell_regrown (show w6.cell? ⟨w.heap.size, 6, none⟩ = some (.int .i64 x.price) from one_at hx6.out)
    have ko0 := cell_regrown (show w6.cell? ⟨w.heap.size + 1, 0, none⟩ = some (.int .i64 o.kind) from one_at ho6.out)
    have ko1 := cell_regrown (show w6.cell? ⟨w.heap.size + 1, 1, none⟩ = some (.int .i64 o.book) from one_at ho6.out)
    have ko2 := cell_regrown (show w6.cell? ⟨w.heap.size + 1, 2, none⟩ = some (.int .i64 o.units) from one_at ho6.out)
    have ko3 := cell_regrown (show w6.cell? ⟨w.heap.size + 1, 3, none⟩ = some (.int .i64 o.cust) from one_at ho6.out)
    have ko4 := cell_regrown (show w6.cell? ⟨w.heap.size + 1, 4, none⟩ = some (.int .i64 o.amount) from one_at ho6.out)
    cases mx with
    | true =>
      obtain ⟨rfl, u1⟩ := g1.out.yes rfl
      obtain ⟨A1, c1, rfl, hR1, hA1⟩ := PutTo.rb u1
      have s1 := fun d os => str_regrown (c := c1) (rb_below (rb_below hR1 g2.out.be) b6.out) d os
      have CR' := CR _ rfl
      cases mo with
      | true =>
        obtain ⟨rfl, u2⟩ := g2.out.yes rfl
        obtain ⟨A2, c2, rfl, hR2, hA2⟩ := PutTo.rb u2
        have s2 := fun d os => str_regrown (c := c2) (rb_below hR2 b6.out) d os
        have CP' := CP _ rfl
        clear u1 u2 hR1 hA1 hR2 hA2 CR CP g1 g2
        generalize raw x = r1 at *
        generalize rawOp o = r2 at *
        refine wp_region_quiet_below (by kernel_rfl) (by kernel_rfl) ?_
        repeat (go_big_quiet_step (first | with_reducible exact CR' _ _ | with_reducible exact CP' _ _))
        refine wpQuiet_nil ?_
        intro w7 hw'
        obtain ⟨⟨dq', osq'⟩, hw7⟩ := hw'
        have b7 : Hid (RowKit.Below w6.heap.size w6 w7) := by rw [hw7]; exact below_regrown w6 dq' osq'
        clear hw7
        go_wp2_with fail
        go_meet
        exact ⟨rfl, b7.out⟩
      | false =>
        obtain ⟨rfl, rfl⟩ := g2.out.no rfl
        have CP' := CP _ rfl
        clear u1 hR1 hA1 CR CP g1 g2
        generalize raw x = r1 at *
        refine wp_region_quiet_below (by kernel_rfl) (by kernel_rfl) ?_
        repeat (go_big_quiet_step (first | with_reducible exact CR' _ _ | with_reducible exact CP' _ _))
        refine wpQuiet_nil ?_
        intro w7 hw'
        obtain ⟨⟨dq', osq'⟩, hw7⟩ := hw'
        have b7 : Hid (RowKit.Below w6.heap.size w6 w7) := by rw [hw7]; exact below_regrown w6 dq' osq'
        clear hw7
        go_wp2_with fail
        go_meet
        exact ⟨rfl, b7.out⟩
    | false =>
      obtain ⟨rfl, rfl⟩ := g1.out.no rfl
      have CR' := CR _ rfl
      cases mo with
      | true =>
        obtain ⟨rfl, u2⟩ := g2.out.yes rfl
        obtain ⟨A2, c2, rfl, hR2, hA2⟩ := PutTo.rb u2
        have s2 := fun d os => str_regrown (c := c2) (rb_below hR2 b6.out) d os
        have CP' := CP _ rfl
        clear u2 hR2 hA2 CR CP g1 g2
        generalize rawOp o = r2 at *
        refine wp_region_quiet_below (by kernel_rfl) (by kernel_rfl) ?_
        repeat (go_big_quiet_step (first | with_reducible exact CR' _ _ | with_reducible exact CP' _ _))
        refine wpQuiet_nil ?_
        intro w7 hw'
        obtain ⟨⟨dq', osq'⟩, hw7⟩ := hw'
        have b7 : Hid (RowKit.Below w6.heap.size w6 w7) := by rw [hw7]; exact below_regrown w6 dq' osq'
        clear hw7
        go_wp2_with fail
        go_meet
        exact ⟨rfl, b7.out⟩
      | false =>
        obtain ⟨rfl, rfl⟩ := g2.out.no rfl
        have CP' := CP _ rfl
        clear CR CP g1 g2
        refine wp_region_quiet_below (by kernel_rfl) (by kernel_rfl) ?_
        repeat (go_big_quiet_step (first | with_reducible exact CR' _ _ | with_reducible exact CP' _ _))
        refine wpQuiet_nil ?_
        intro w7 hw'
        obtain ⟨⟨dq', osq'⟩, hw7⟩ := hw'
        have b7 : Hid (RowKit.Below w6.heap.size w6 w7) := by rw [hw7]; exact below_regrown w6 dq' osq'
        clear hw7
        go_wp2_with fail
        go_meet
        exact ⟨rfl, b7.out⟩
  obtain ⟨rfl, b8⟩ := hcut
  obtain ⟨w8, hv⟩ : ∃ z, z = wc := ⟨_, rfl⟩
  subst hv
  have be8 : Hid (RowKit.Below w.heap.size w w8) := be6.out.trans (b8.mono be6.out.size)
  have R8 : Hid (Rb w8 (fun g => g < w8.heap.size) A n bs) := rb_below R6.out b8
  clear b8 b6 R6 be6 hx6 ho6 g1 g2 beb hxb hob Rb_
  replace hA := Lib.hid hA
  rcases hq1 : getW (some bs) with _ | u
  · rcases hq2 : getO (some bs) with _ | v
    · have R9 := R8
      have G := Lib.hid (get_any w8 A n c bs R8.out (fun g hg => hg) (by omega) hA.out)
      rw [hq1] at G
      go_wp2_with fail
      refine G.out.mono ?_
      rintro e w9 h9
      obtain rfl := h9.no rfl
      obtain ⟨x9, ex9⟩ : ∃ z, z = w9.alloc (.cells #[.int .i64 0, .int .i64 0, .int .i64 0, .int .i64 0, .int .i64 0, .int .i64 0, .int .i64 0] 24) := ⟨_, rfl⟩
      have b9 : RowKit.Below w8.heap.size w8 x9 := by rw [ex9]; exact h9.be.alloc h9.be.size _
      have be9 : Hid (RowKit.Below w.heap.size w x9) := be8.out.trans (b9.mono be8.out.size)
      have hu9 : Hid (x9.heap[w9.heap.size]? = some (.cells #[.int .i64 0, .int .i64 0, .int .i64 0, .int .i64 0, .int .i64 0, .int .i64 0, .int .i64 0] 24)) := by rw [ex9]; exact heap_alloc_new _ _
      have RX : Hid (Rb x9 (fun g => g < x9.heap.size) A n bs) := rb_below R8.out b9
      have s9 := str_run (c := c) RX.out
      have RG := Lib.hid (rget_any x9 bs (by have := hlen.out; omega))
      rw [hq1] at RG
      clear G h9 b9 R9
      go_upto_region 11 with fail
      rw [← ex9]
      clear ex9
      go_wp2_with fail
      refine RG.out.mono ?_
      rintro e wA hwA
      obtain rfl := hwA.no rfl
      obtain ⟨xA, exA⟩ : ∃ z, z = wA.alloc (.cells #[.int .i64 0, .int .i64 0, .int .i64 0, .int .i64 0, .int .i64 0, .int .i64 0, .int .i64 0] 24) := ⟨_, rfl⟩
      have bA : RowKit.Below x9.heap.size x9 xA := by rw [exA]; exact hwA.be.alloc hwA.be.size _
      have beA : Hid (RowKit.Below w.heap.size w xA) := be9.out.trans (bA.mono be9.out.size)
      have huA := stay hu9 bA
      have hvA : Hid (xA.heap[wA.heap.size]? = some (.cells #[.int .i64 0, .int .i64 0, .int .i64 0, .int .i64 0, .int .i64 0, .int .i64 0, .int .i64 0] 24)) := by rw [exA]; exact heap_alloc_new _ _
      have RA : Hid (Rb xA (fun g => g < xA.heap.size) A n bs) := rb_below RX.out bA
      have GO := Lib.hid (getop_any xA A n c bs RA.out (fun g hg => hg) (by omega) hA.out)
      rw [hq2] at GO
      clear RG hwA bA RX s9 hu9 be9
      go_upto_region 12 with fail
      rw [← exA]
      clear exA
      go_wp2_with fail
      refine GO.out.mono ?_
      rintro e wB hwB
      obtain rfl := hwB.no rfl
      obtain ⟨xB, exB⟩ : ∃ z, z = wB.alloc (.cells #[.int .i64 0, .int .i64 0, .int .i64 0, .int .i64 0, .int .i64 0] 35) := ⟨_, rfl⟩
      have bB : RowKit.Below xA.heap.size xA xB := by rw [exB]; exact hwB.be.alloc hwB.be.size _
      have beB : Hid (RowKit.Below w.heap.size w xB) := beA.out.trans (bB.mono beA.out.size)
      have huB := stay huA bB
      have hvB := stay hvA bB
      have hmB : Hid (xB.heap[wB.heap.size]? = some (.cells #[.int .i64 0, .int .i64 0, .int .i64 0, .int .i64 0, .int .i64 0] 35)) := by rw [exB]; exact heap_alloc_new _ _
      have RBB : Hid (Rb xB (fun g => g < xB.heap.size) A n bs) := rb_below RA.out bB
      have sB := str_run (c := c) RBB.out
      have RGO := Lib.hid (rgetop_any xB bs (by have := hlen.out; omega))
      rw [hq2] at RGO
      clear GO hwB bB RA huA hvA beA
      go_upto_region 13 with fail
      rw [← exB]
      clear exB
      go_wp2_with fail
      refine RGO.out.mono ?_
      rintro e wC hwC
      obtain rfl := hwC.no rfl
      obtain ⟨xC, exC⟩ : ∃ z, z = wC.alloc (.cells #[.int .i64 0, .int .i64 0, .int .i64 0, .int .i64 0, .int .i64 0] 35) := ⟨_, rfl⟩
      have bC : RowKit.Below xB.heap.size xB xC := by rw [exC]; exact hwC.be.alloc hwC.be.size _
      have beC : Hid (RowKit.Below w.heap.size w xC) := beB.out.trans (bC.mono beB.out.size)
      have huC := stay huB bC
      have hvC := stay hvB bC
      have hmC := stay hmB bC
      have hnC : Hid (xC.heap[wC.heap.size]? = some (.cells #[.int .i64 0, .int .i64 0, .int .i64 0, .int .i64 0, .int .i64 0] 35)) := by rw [exC]; exact heap_alloc_new _ _
      clear RGO hwC bC RBB sB huB hvB hmB beB
      go_upto_region 14 with fail
      rw [← exC]
      clear exC
      go_wp2_with fail
      refine (told_any xC).mono ?_
      rintro e wD ⟨rfl, bD⟩
      have beD : Hid (RowKit.Below w.heap.size w wD) := beC.out.trans (bD.mono beC.out.size)
      have huD := stay huC bD
      have hvD := stay hvC bD
      have hmD := stay hmC bD
      have hnD := stay hnC bD
      have ca0 : wD.cell? ⟨w9.heap.size, 0, none⟩ = some (.int .i64 0) := one_at huD.out
      have ca1 : wD.cell? ⟨w9.heap.size, 1, none⟩ = some (.int .i64 0) := one_at huD.out
      have ca2 : wD.cell? ⟨w9.heap.size, 2, none⟩ = some (.int .i64 0) := one_at huD.out
      have ca3 : wD.cell? ⟨w9.heap.size, 3, none⟩ = some (.int .i64 0) := one_at huD.out
      have ca4 : wD.cell? ⟨w9.heap.size, 4, none⟩ = some (.int .i64 0) := one_at huD.out
      have ca5 : wD.cell? ⟨w9.heap.size, 5, none⟩ = some (.int .i64 0) := one_at huD.out
      have ca6 : wD.cell? ⟨w9.heap.size, 6, none⟩ = some (.int .i64 0) := one_at huD.out
      have cb0 : wD.cell? ⟨wA.heap.size, 0, none⟩ = some (.int .i64 0) := one_at hvD.out
      have cb1 : wD.cell? ⟨wA.heap.size, 1, none⟩ = some (.int .i64 0) := one_at hvD.out
      have cb2 : wD.cell? ⟨wA.heap.size, 2, none⟩ = some (.int .i64 0) := one_at hvD.out
      have cb3 : wD.cell? ⟨wA.heap.size, 3, none⟩ = some (.int .i64 0) := one_at hvD.out
      have cb4 : wD.cell? ⟨wA.heap.size, 4, none⟩ = some (.int .i64 0) := one_at hvD.out
      have cb5 : wD.cell? ⟨wA.heap.size, 5, none⟩ = some (.int .i64 0) := one_at hvD.out
      have cb6 : wD.cell? ⟨wA.heap.size, 6, none⟩ = some (.int .i64 0) := one_at hvD.out
      have cm0 : wD.cell? ⟨wB.heap.size, 0, none⟩ = some (.int .i64 0) := one_at hmD.out
      have cm1 : wD.cell? ⟨wB.heap.size, 1, none⟩ = some (.int .i64 0) := one_at hmD.out
      have cm2 : wD.cell? ⟨wB.heap.size, 2, none⟩ = some (.int .i64 0) := one_at hmD.out
      have cm3 : wD.cell? ⟨wB.heap.size, 3, none⟩ = some (.int .i64 0) := one_at hmD.out
      have cm4 : wD.cell? ⟨wB.heap.size, 4, none⟩ = some (.int .i64 0) := one_at hmD.out
      have cn0 : wD.cell? ⟨wC.heap.size, 0, none⟩ = some (.int .i64 0) := one_at hnD.out
      have cn1 : wD.cell? ⟨wC.heap.size, 1, none⟩ = some (.int .i64 0) := one_at hnD.out
      have cn2 : wD.cell? ⟨wC.heap.size, 2, none⟩ = some (.int .i64 0) := one_at hnD.out
      have cn3 : wD.cell? ⟨wC.heap.size, 3, none⟩ = some (.int .i64 0) := one_at hnD.out
      have cn4 : wD.cell? ⟨wC.heap.size, 4, none⟩ = some (.int .i64 0) := one_at hnD.out
      have E1 : ∀ w, (Op.equalIn 10000 24 (.agg #[.int .i64 0, .int .i64 0, .int .i64 0, .int .i64 0, .int .i64 0, .int .i64 0, .int .i64 0]) (.agg #[.int .i64 0, .int .i64 0, .int .i64 0, .int .i64 0, .int .i64 0, .int .i64 0, .int .i64 0])).run Try.prog w = .ok true w := fun w => by rw [eq_wan w ⟨0, 0, 0, 0, 0, 0, 0⟩ ⟨0, 0, 0, 0, 0, 0, 0⟩]; simp
      have E2 : ∀ w, (Op.equalIn 10000 35 (.agg #[.int .i64 0, .int .i64 0, .int .i64 0, .int .i64 0, .int .i64 0]) (.agg #[.int .i64 0, .int .i64 0, .int .i64 0, .int .i64 0, .int .i64 0])).run Try.prog w = .ok true w := fun w => by rw [eq_opn w ⟨0, 0, 0, 0, 0⟩ ⟨0, 0, 0, 0, 0⟩]; simp
      clear bD beC huC hvC hmC hnC
      go_wp2_with fail
      go_ret
      exact ⟨rfl, beD.out⟩
    · have R9 := R8
      have G := Lib.hid (get_any w8 A n c bs R8.out (fun g hg => hg) (by omega) hA.out)
      rw [hq1] at G
      go_wp2_with fail
      refine G.out.mono ?_
      rintro e w9 h9
      obtain rfl := h9.no rfl
      obtain ⟨x9, ex9⟩ : ∃ z, z = w9.alloc (.cells #[.int .i64 0, .int .i64 0, .int .i64 0, .int .i64 0, .int .i64 0, .int .i64 0, .int .i64 0] 24) := ⟨_, rfl⟩
      have b9 : RowKit.Below w8.heap.size w8 x9 := by rw [ex9]; exact h9.be.alloc h9.be.size _
      have be9 : Hid (RowKit.Below w.heap.size w x9) := be8.out.trans (b9.mono be8.out.size)
      have hu9 : Hid (x9.heap[w9.heap.size]? = some (.cells #[.int .i64 0, .int .i64 0, .int .i64 0, .int .i64 0, .int .i64 0, .int .i64 0, .int .i64 0] 24)) := by rw [ex9]; exact heap_alloc_new _ _
      have RX : Hid (Rb x9 (fun g => g < x9.heap.size) A n bs) := rb_below R8.out b9
      have s9 := str_run (c := c) RX.out
      have RG := Lib.hid (rget_any x9 bs (by have := hlen.out; omega))
      rw [hq1] at RG
      clear G h9 b9 R9
      go_upto_region 11 with fail
      rw [← ex9]
      clear ex9
      go_wp2_with fail
      refine RG.out.mono ?_
      rintro e wA hwA
      obtain rfl := hwA.no rfl
      obtain ⟨xA, exA⟩ : ∃ z, z = wA.alloc (.cells #[.int .i64 0, .int .i64 0, .int .i64 0, .int .i64 0, .int .i64 0, .int .i64 0, .int .i64 0] 24) := ⟨_, rfl⟩
      have bA : RowKit.Below x9.heap.size x9 xA := by rw [exA]; exact hwA.be.alloc hwA.be.size _
      have beA : Hid (RowKit.Below w.heap.size w xA) := be9.out.trans (bA.mono be9.out.size)
      have huA := stay hu9 bA
      have hvA : Hid (xA.heap[wA.heap.size]? = some (.cells #[.int .i64 0, .int .i64 0, .int .i64 0, .int .i64 0, .int .i64 0, .int .i64 0, .int .i64 0] 24)) := by rw [exA]; exact heap_alloc_new _ _
      have RA : Hid (Rb xA (fun g => g < xA.heap.size) A n bs) := rb_below RX.out bA
      have GO := Lib.hid (getop_any xA A n c bs RA.out (fun g hg => hg) (by omega) hA.out)
      rw [hq2] at GO
      clear RG hwA bA RX s9 hu9 be9
      go_upto_region 12 with fail
      rw [← exA]
      clear exA
      go_wp2_with fail
      refine GO.out.mono ?_
      rintro e wB hwB
      obtain rfl := hwB.yes v rfl
      obtain ⟨xB, exB⟩ : ∃ z, z = wB.alloc (.cells #[.int .i64 v.kind, .int .i64 v.book, .int .i64 v.units, .int .i64 v.cust, .int .i64 v.amount] 35) := ⟨_, rfl⟩
      have bB : RowKit.Below xA.heap.size xA xB := by rw [exB]; exact hwB.be.alloc hwB.be.size _
      have beB : Hid (RowKit.Below w.heap.size w xB) := beA.out.trans (bB.mono beA.out.size)
      have huB := stay huA bB
      have hvB := stay hvA bB
      have hmB : Hid (xB.heap[wB.heap.size]? = some (.cells #[.int .i64 v.kind, .int .i64 v.book, .int .i64 v.units, .int .i64 v.cust, .int .i64 v.amount] 35)) := by rw [exB]; exact heap_alloc_new _ _
      have RBB : Hid (Rb xB (fun g => g < xB.heap.size) A n bs) := rb_below RA.out bB
      have sB := str_run (c := c) RBB.out
      have RGO := Lib.hid (rgetop_any xB bs (by have := hlen.out; omega))
      rw [hq2] at RGO
      clear GO hwB bB RA huA hvA beA
      go_upto_region 13 with fail
      rw [← exB]
      clear exB
      go_wp2_with fail
      refine RGO.out.mono ?_
      rintro e wC hwC
      obtain rfl := hwC.yes v rfl
      obtain ⟨xC, exC⟩ : ∃ z, z = wC.alloc (.cells #[.int .i64 v.kind, .int .i64 v.book, .int .i64 v.units, .int .i64 v.cust, .int .i64 v.amount] 35) := ⟨_, rfl⟩
      have bC : RowKit.Below xB.heap.size xB xC := by rw [exC]; exact hwC.be.alloc hwC.be.size _
      have beC : Hid (RowKit.Below w.heap.size w xC) := beB.out.trans (bC.mono beB.out.size)
      have huC := stay huB bC
      have hvC := stay hvB bC
      have hmC := stay hmB bC
      have hnC : Hid (xC.heap[wC.heap.size]? = some (.cells #[.int .i64 v.kind, .int .i64 v.book, .int .i64 v.units, .int .i64 v.cust, .int .i64 v.amount] 35)) := by rw [exC]; exact heap_alloc_new _ _
      clear RGO hwC bC RBB sB huB hvB hmB beB
      go_upto_region 14 with fail
      rw [← exC]
      clear exC
      go_wp2_with fail
      refine (told_any xC).mono ?_
      rintro e wD ⟨rfl, bD⟩
      have beD : Hid (RowKit.Below w.heap.size w wD) := beC.out.trans (bD.mono beC.out.size)
      have huD := stay huC bD
      have hvD := stay hvC bD
      have hmD := stay hmC bD
      have hnD := stay hnC bD
      have ca0 : wD.cell? ⟨w9.heap.size, 0, none⟩ = some (.int .i64 0) := one_at huD.out
      have ca1 : wD.cell? ⟨w9.heap.size, 1, none⟩ = some (.int .i64 0) := one_at huD.out
      have ca2 : wD.cell? ⟨w9.heap.size, 2, none⟩ = some (.int .i64 0) := one_at huD.out
      have ca3 : wD.cell? ⟨w9.heap.size, 3, none⟩ = some (.int .i64 0) := one_at huD.out
      have ca4 : wD.cell? ⟨w9.heap.size, 4, none⟩ = some (.int .i64 0) := one_at huD.out
      have ca5 : wD.cell? ⟨w9.heap.size, 5, none⟩ = some (.int .i64 0) := one_at huD.out
      have ca6 : wD.cell? ⟨w9.heap.size, 6, none⟩ = some (.int .i64 0) := one_at huD.out
      have cb0 : wD.cell? ⟨wA.heap.size, 0, none⟩ = some (.int .i64 0) := one_at hvD.out
      have cb1 : wD.cell? ⟨wA.heap.size, 1, none⟩ = some (.int .i64 0) := one_at hvD.out
      have cb2 : wD.cell? ⟨wA.heap.size, 2, none⟩ = some (.int .i64 0) := one_at hvD.out
      have cb3 : wD.cell? ⟨wA.heap.size, 3, none⟩ = some (.int .i64 0) := one_at hvD.out
      have cb4 : wD.cell? ⟨wA.heap.size, 4, none⟩ = some (.int .i64 0) := one_at hvD.out
      have cb5 : wD.cell? ⟨wA.heap.size, 5, none⟩ = some (.int .i64 0) := one_at hvD.out
      have cb6 : wD.cell? ⟨wA.heap.size, 6, none⟩ = some (.int .i64 0) := one_at hvD.out
      have cm0 : wD.cell? ⟨wB.heap.size, 0, none⟩ = some (.int .i64 v.kind) := one_at hmD.out
      have cm1 : wD.cell? ⟨wB.heap.size, 1, none⟩ = some (.int .i64 v.book) := one_at hmD.out
      have cm2 : wD.cell? ⟨wB.heap.size, 2, none⟩ = some (.int .i64 v.units) := one_at hmD.out
      have cm3 : wD.cell? ⟨wB.heap.size, 3, none⟩ = some (.int .i64 v.cust) := one_at hmD.out
      have cm4 : wD.cell? ⟨wB.heap.size, 4, none⟩ = some (.int .i64 v.amount) := one_at hmD.out
      have cn0 : wD.cell? ⟨wC.heap.size, 0, none⟩ = some (.int .i64 v.kind) := one_at hnD.out
      have cn1 : wD.cell? ⟨wC.heap.size, 1, none⟩ = some (.int .i64 v.book) := one_at hnD.out
      have cn2 : wD.cell? ⟨wC.heap.size, 2, none⟩ = some (.int .i64 v.units) := one_at hnD.out
      have cn3 : wD.cell? ⟨wC.heap.size, 3, none⟩ = some (.int .i64 v.cust) := one_at hnD.out
      have cn4 : wD.cell? ⟨wC.heap.size, 4, none⟩ = some (.int .i64 v.amount) := one_at hnD.out
      have E1 : ∀ w, (Op.equalIn 10000 24 (.agg #[.int .i64 0, .int .i64 0, .int .i64 0, .int .i64 0, .int .i64 0, .int .i64 0, .int .i64 0]) (.agg #[.int .i64 0, .int .i64 0, .int .i64 0, .int .i64 0, .int .i64 0, .int .i64 0, .int .i64 0])).run Try.prog w = .ok true w := fun w => by rw [eq_wan w ⟨0, 0, 0, 0, 0, 0, 0⟩ ⟨0, 0, 0, 0, 0, 0, 0⟩]; simp
      have E2 : ∀ w, (Op.equalIn 10000 35 (.agg #[.int .i64 v.kind, .int .i64 v.book, .int .i64 v.units, .int .i64 v.cust, .int .i64 v.amount]) (.agg #[.int .i64 v.kind, .int .i64 v.book, .int .i64 v.units, .int .i64 v.cust, .int .i64 v.amount])).run Try.prog w = .ok true w := fun w => by rw [eq_opn]; simp
      clear bD beC huC hvC hmC hnC
      go_wp2_with fail
      go_ret
      exact ⟨rfl, beD.out⟩
  · rcases hq2 : getO (some bs) with _ | v
    · have R9 := R8
      have G := Lib.hid (get_any w8 A n c bs R8.out (fun g hg => hg) (by omega) hA.out)
      rw [hq1] at G
      go_wp2_with fail
      refine G.out.mono ?_
      rintro e w9 h9
      obtain rfl := h9.yes u rfl
      obtain ⟨x9, ex9⟩ : ∃ z, z = w9.alloc (.cells #[.int .i64 u.book, .int .i64 u.cust, .int .i64 u.dead, .int .i64 u.u0, .int .i64 u.u1, .int .i64 u.u2, .int .i64 u.price] 24) := ⟨_, rfl⟩
      have b9 : RowKit.Below w8.heap.size w8 x9 := by rw [ex9]; exact h9.be.alloc h9.be.size _
      have be9 : Hid (RowKit.Below w.heap.size w x9) := be8.out.trans (b9.mono be8.out.size)
      have hu9 : Hid (x9.heap[w9.heap.size]? = some (.cells #[.int .i64 u.book, .int .i64 u.cust, .int .i64 u.dead, .int .i64 u.u0, .int .i64 u.u1, .int .i64 u.u2, .int .i64 u.price] 24)) := by rw [ex9]; exact heap_alloc_new _ _
      have RX : Hid (Rb x9 (fun g => g < x9.heap.size) A n bs) := rb_below R8.out b9
      have s9 := str_run (c := c) RX.out
      have RG := Lib.hid (rget_any x9 bs (by have := hlen.out; omega))
      rw [hq1] at RG
      clear G h9 b9 R9
      go_upto_region 11 with fail
      rw [← ex9]
      clear ex9
      go_wp2_with fail
      refine RG.out.mono ?_
      rintro e wA hwA
      obtain rfl := hwA.yes u rfl
      obtain ⟨xA, exA⟩ : ∃ z, z = wA.alloc (.cells #[.int .i64 u.book, .int .i64 u.cust, .int .i64 u.dead, .int .i64 u.u0, .int .i64 u.u1, .int .i64 u.u2, .int .i64 u.price] 24) := ⟨_, rfl⟩
      have bA : RowKit.Below x9.heap.size x9 xA := by rw [exA]; exact hwA.be.alloc hwA.be.size _
      have beA : Hid (RowKit.Below w.heap.size w xA) := be9.out.trans (bA.mono be9.out.size)
      have huA := stay hu9 bA
      have hvA : Hid (xA.heap[wA.heap.size]? = some (.cells #[.int .i64 u.book, .int .i64 u.cust, .int .i64 u.dead, .int .i64 u.u0, .int .i64 u.u1, .int .i64 u.u2, .int .i64 u.price] 24)) := by rw [exA]; exact heap_alloc_new _ _
      have RA : Hid (Rb xA (fun g => g < xA.heap.size) A n bs) := rb_below RX.out bA
      have GO := Lib.hid (getop_any xA A n c bs RA.out (fun g hg => hg) (by omega) hA.out)
      rw [hq2] at GO
      clear RG hwA bA RX s9 hu9 be9
      go_upto_region 12 with fail
      rw [← exA]
      clear exA
      go_wp2_with fail
      refine GO.out.mono ?_
      rintro e wB hwB
      obtain rfl := hwB.no rfl
      obtain ⟨xB, exB⟩ : ∃ z, z = wB.alloc (.cells #[.int .i64 0, .int .i64 0, .int .i64 0, .int .i64 0, .int .i64 0] 35) := ⟨_, rfl⟩
      have bB : RowKit.Below xA.heap.size xA xB := by rw [exB]; exact hwB.be.alloc hwB.be.size _
      have beB : Hid (RowKit.Below w.heap.size w xB) := beA.out.trans (bB.mono beA.out.size)
      have huB := stay huA bB
      have hvB := stay hvA bB
      have hmB : Hid (xB.heap[wB.heap.size]? = some (.cells #[.int .i64 0, .int .i64 0, .int .i64 0, .int .i64 0, .int .i64 0] 35)) := by rw [exB]; exact heap_alloc_new _ _
      have RBB : Hid (Rb xB (fun g => g < xB.heap.size) A n bs) := rb_below RA.out bB
      have sB := str_run (c := c) RBB.out
      have RGO := Lib.hid (rgetop_any xB bs (by have := hlen.out; omega))
      rw [hq2] at RGO
      clear GO hwB bB RA huA hvA beA
      go_upto_region 13 with fail
      rw [← exB]
      clear exB
      go_wp2_with fail
      refine RGO.out.mono ?_
      rintro e wC hwC
      obtain rfl := hwC.no rfl
      obtain ⟨xC, exC⟩ : ∃ z, z = wC.alloc (.cells #[.int .i64 0, .int .i64 0, .int .i64 0, .int .i64 0, .int .i64 0] 35) := ⟨_, rfl⟩
      have bC : RowKit.Below xB.heap.size xB xC := by rw [exC]; exact hwC.be.alloc hwC.be.size _
      have beC : Hid (RowKit.Below w.heap.size w xC) := beB.out.trans (bC.mono beB.out.size)
      have huC := stay huB bC
      have hvC := stay hvB bC
      have hmC := stay hmB bC
      have hnC : Hid (xC.heap[wC.heap.size]? = some (.cells #[.int .i64 0, .int .i64 0, .int .i64 0, .int .i64 0, .int .i64 0] 35)) := by rw [exC]; exact heap_alloc_new _ _
      clear RGO hwC bC RBB sB huB hvB hmB beB
      go_upto_region 14 with fail
      rw [← exC]
      clear exC
      go_wp2_with fail
      refine (told_any xC).mono ?_
      rintro e wD ⟨rfl, bD⟩
      have beD : Hid (RowKit.Below w.heap.size w wD) := beC.out.trans (bD.mono beC.out.size)
      have huD := stay huC bD
      have hvD := stay hvC bD
      have hmD := stay hmC bD
      have hnD := stay hnC bD
      have ca0 : wD.cell? ⟨w9.heap.size, 0, none⟩ = some (.int .i64 u.book) := one_at huD.out
      have ca1 : wD.cell? ⟨w9.heap.size, 1, none⟩ = some (.int .i64 u.cust) := one_at huD.out
      have ca2 : wD.cell? ⟨w9.heap.size, 2, none⟩ = some (.int .i64 u.dead) := one_at huD.out
      have ca3 : wD.cell? ⟨w9.heap.size, 3, none⟩ = some (.int .i64 u.u0) := one_at huD.out
      have ca4 : wD.cell? ⟨w9.heap.size, 4, none⟩ = some (.int .i64 u.u1) := one_at huD.out
      have ca5 : wD.cell? ⟨w9.heap.size, 5, none⟩ = some (.int .i64 u.u2) := one_at huD.out
      have ca6 : wD.cell? ⟨w9.heap.size, 6, none⟩ = some (.int .i64 u.price) := one_at huD.out
      have cb0 : wD.cell? ⟨wA.heap.size, 0, none⟩ = some (.int .i64 u.book) := one_at hvD.out
      have cb1 : wD.cell? ⟨wA.heap.size, 1, none⟩ = some (.int .i64 u.cust) := one_at hvD.out
      have cb2 : wD.cell? ⟨wA.heap.size, 2, none⟩ = some (.int .i64 u.dead) := one_at hvD.out
      have cb3 : wD.cell? ⟨wA.heap.size, 3, none⟩ = some (.int .i64 u.u0) := one_at hvD.out
      have cb4 : wD.cell? ⟨wA.heap.size, 4, none⟩ = some (.int .i64 u.u1) := one_at hvD.out
      have cb5 : wD.cell? ⟨wA.heap.size, 5, none⟩ = some (.int .i64 u.u2) := one_at hvD.out
      have cb6 : wD.cell? ⟨wA.heap.size, 6, none⟩ = some (.int .i64 u.price) := one_at hvD.out
      have cm0 : wD.cell? ⟨wB.heap.size, 0, none⟩ = some (.int .i64 0) := one_at hmD.out
      have cm1 : wD.cell? ⟨wB.heap.size, 1, none⟩ = some (.int .i64 0) := one_at hmD.out
      have cm2 : wD.cell? ⟨wB.heap.size, 2, none⟩ = some (.int .i64 0) := one_at hmD.out
      have cm3 : wD.cell? ⟨wB.heap.size, 3, none⟩ = some (.int .i64 0) := one_at hmD.out
      have cm4 : wD.cell? ⟨wB.heap.size, 4, none⟩ = some (.int .i64 0) := one_at hmD.out
      have cn0 : wD.cell? ⟨wC.heap.size, 0, none⟩ = some (.int .i64 0) := one_at hnD.out
      have cn1 : wD.cell? ⟨wC.heap.size, 1, none⟩ = some (.int .i64 0) := one_at hnD.out
      have cn2 : wD.cell? ⟨wC.heap.size, 2, none⟩ = some (.int .i64 0) := one_at hnD.out
      have cn3 : wD.cell? ⟨wC.heap.size, 3, none⟩ = some (.int .i64 0) := one_at hnD.out
      have cn4 : wD.cell? ⟨wC.heap.size, 4, none⟩ = some (.int .i64 0) := one_at hnD.out
      have E1 : ∀ w, (Op.equalIn 10000 24 (.agg #[.int .i64 u.book, .int .i64 u.cust, .int .i64 u.dead, .int .i64 u.u0, .int .i64 u.u1, .int .i64 u.u2, .int .i64 u.price]) (.agg #[.int .i64 u.book, .int .i64 u.cust, .int .i64 u.dead, .int .i64 u.u0, .int .i64 u.u1, .int .i64 u.u2, .int .i64 u.price])).run Try.prog w = .ok true w := fun w => by rw [eq_wan]; simp
      have E2 : ∀ w, (Op.equalIn 10000 35 (.agg #[.int .i64 0, .int .i64 0, .int .i64 0, .int .i64 0, .int .i64 0]) (.agg #[.int .i64 0, .int .i64 0, .int .i64 0, .int .i64 0, .int .i64 0])).run Try.prog w = .ok true w := fun w => by rw [eq_opn w ⟨0, 0, 0, 0, 0⟩ ⟨0, 0, 0, 0, 0⟩]; simp
      clear bD beC huC hvC hmC hnC
      go_wp2_with fail
      go_ret
      exact ⟨rfl, beD.out⟩
    · have R9 := R8
      have G := Lib.hid (get_any w8 A n c bs R8.out (fun g hg => hg) (by omega) hA.out)
      rw [hq1] at G
      go_wp2_with fail
      refine G.out.mono ?_
      rintro e w9 h9
      obtain rfl := h9.yes u rfl
      obtain ⟨x9, ex9⟩ : ∃ z, z = w9.alloc (.cells #[.int .i64 u.book, .int .i64 u.cust, .int .i64 u.dead, .int .i64 u.u0, .int .i64 u.u1, .int .i64 u.u2, .int .i64 u.price] 24) := ⟨_, rfl⟩
      have b9 : RowKit.Below w8.heap.size w8 x9 := by rw [ex9]; exact h9.be.alloc h9.be.size _
      have be9 : Hid (RowKit.Below w.heap.size w x9) := be8.out.trans (b9.mono be8.out.size)
      have hu9 : Hid (x9.heap[w9.heap.size]? = some (.cells #[.int .i64 u.book, .int .i64 u.cust, .int .i64 u.dead, .int .i64 u.u0, .int .i64 u.u1, .int .i64 u.u2, .int .i64 u.price] 24)) := by rw [ex9]; exact heap_alloc_new _ _
      have RX : Hid (Rb x9 (fun g => g < x9.heap.size) A n bs) := rb_below R8.out b9
      have s9 := str_run (c := c) RX.out
      have RG := Lib.hid (rget_any x9 bs (by have := hlen.out; omega))
      rw [hq1] at RG
      clear G h9 b9 R9
      go_upto_region 11 with fail
      rw [← ex9]
      clear ex9
      go_wp2_with fail
      refine RG.out.mono ?_
      rintro e wA hwA
      obtain rfl := hwA.yes u rfl
      obtain ⟨xA, exA⟩ : ∃ z, z = wA.alloc (.cells #[.int .i64 u.book, .int .i64 u.cust, .int .i64 u.dead, .int .i64 u.u0, .int .i64 u.u1, .int .i64 u.u2, .int .i64 u.price] 24) := ⟨_, rfl⟩
      have bA : RowKit.Below x9.heap.size x9 xA := by rw [exA]; exact hwA.be.alloc hwA.be.size _
      have beA : Hid (RowKit.Below w.heap.size w xA) := be9.out.trans (bA.mono be9.out.size)
      have huA := stay hu9 bA
      have hvA : Hid (xA.heap[wA.heap.size]? = some (.cells #[.int .i64 u.book, .int .i64 u.cust, .int .i64 u.dead, .int .i64 u.u0, .int .i64 u.u1, .int .i64 u.u2, .int .i64 u.price] 24)) := by rw [exA]; exact heap_alloc_new _ _
      have RA : Hid (Rb xA (fun g => g < xA.heap.size) A n bs) := rb_below RX.out bA
      have GO := Lib.hid (getop_any xA A n c bs RA.out (fun g hg => hg) (by omega) hA.out)
      rw [hq2] at GO
      clear RG hwA bA RX s9 hu9 be9
      go_upto_region 12 with fail
      rw [← exA]
      clear exA
      go_wp2_with fail
      refine GO.out.mono ?_
      rintro e wB hwB
      obtain rfl := hwB.yes v rfl
      obtain ⟨xB, exB⟩ : ∃ z, z = wB.alloc (.cells #[.int .i64 v.kind, .int .i64 v.book, .int .i64 v.units, .int .i64 v.cust, .int .i64 v.amount] 35) := ⟨_, rfl⟩
      have bB : RowKit.Below xA.heap.size xA xB := by rw [exB]; exact hwB.be.alloc hwB.be.size _
      have beB : Hid (RowKit.Below w.heap.size w xB) := beA.out.trans (bB.mono beA.out.size)
      have huB := stay huA bB
      have hvB := stay hvA bB
      have hmB : Hid (xB.heap[wB.heap.size]? = some (.cells #[.int .i64 v.kind, .int .i64 v.book, .int .i64 v.units, .int .i64 v.cust, .int .i64 v.amount] 35)) := by rw [exB]; exact heap_alloc_new _ _
      have RBB : Hid (Rb xB (fun g => g < xB.heap.size) A n bs) := rb_below RA.out bB
      have sB := str_run (c := c) RBB.out
      have RGO := Lib.hid (rgetop_any xB bs (by have := hlen.out; omega))
      rw [hq2] at RGO
      clear GO hwB bB RA huA hvA beA
      go_upto_region 13 with fail
      rw [← exB]
      clear exB
      go_wp2_with fail
      refine RGO.out.mono ?_
      rintro e wC hwC
      obtain rfl := hwC.yes v rfl
      obtain ⟨xC, exC⟩ : ∃ z, z = wC.alloc (.cells #[.int .i64 v.kind, .int .i64 v.book, .int .i64 v.units, .int .i64 v.cust, .int .i64 v.amount] 35) := ⟨_, rfl⟩
      have bC : RowKit.Below xB.heap.size xB xC := by rw [exC]; exact hwC.be.alloc hwC.be.size _
      have beC : Hid (RowKit.Below w.heap.size w xC) := beB.out.trans (bC.mono beB.out.size)
      have huC := stay huB bC
      have hvC := stay hvB bC
      have hmC := stay hmB bC
      have hnC : Hid (xC.heap[wC.heap.size]? = some (.cells #[.int .i64 v.kind, .int .i64 v.book, .int .i64 v.units, .int .i64 v.cust, .int .i64 v.amount] 35)) := by rw [exC]; exact heap_alloc_new _ _
      clear RGO hwC bC RBB sB huB hvB hmB beB
      go_upto_region 14 with fail
      rw [← exC]
      clear exC
      go_wp2_with fail
      refine (told_any xC).mono ?_
      rintro e wD ⟨rfl, bD⟩
      have beD : Hid (RowKit.Below w.heap.size w wD) := beC.out.trans (bD.mono beC.out.size)
      have huD := stay huC bD
      have hvD := stay hvC bD
      have hmD := stay hmC bD
      have hnD := stay hnC bD
      have ca0 : wD.cell? ⟨w9.heap.size, 0, none⟩ = some (.int .i64 u.book) := one_at huD.out
      have ca1 : wD.cell? ⟨w9.heap.size, 1, none⟩ = some (.int .i64 u.cust) := one_at huD.out
      have ca2 : wD.cell? ⟨w9.heap.size, 2, none⟩ = some (.int .i64 u.dead) := one_at huD.out
      have ca3 : wD.cell? ⟨w9.heap.size, 3, none⟩ = some (.int .i64 u.u0) := one_at huD.out
      have ca4 : wD.cell? ⟨w9.heap.size, 4, none⟩ = some (.int .i64 u.u1) := one_at huD.out
      have ca5 : wD.cell? ⟨w9.heap.size, 5, none⟩ = some (.int .i64 u.u2) := one_at huD.out
      have ca6 : wD.cell? ⟨w9.heap.size, 6, none⟩ = some (.int .i64 u.price) := one_at huD.out
      have cb0 : wD.cell? ⟨wA.heap.size, 0, none⟩ = some (.int .i64 u.book) := one_at hvD.out
      have cb1 : wD.cell? ⟨wA.heap.size, 1, none⟩ = some (.int .i64 u.cust) := one_at hvD.out
      have cb2 : wD.cell? ⟨wA.heap.size, 2, none⟩ = some (.int .i64 u.dead) := one_at hvD.out
      have cb3 : wD.cell? ⟨wA.heap.size, 3, none⟩ = some (.int .i64 u.u0) := one_at hvD.out
      have cb4 : wD.cell? ⟨wA.heap.size, 4, none⟩ = some (.int .i64 u.u1) := one_at hvD.out
      have cb5 : wD.cell? ⟨wA.heap.size, 5, none⟩ = some (.int .i64 u.u2) := one_at hvD.out
      have cb6 : wD.cell? ⟨wA.heap.size, 6, none⟩ = some (.int .i64 u.price) := one_at hvD.out
      have cm0 : wD.cell? ⟨wB.heap.size, 0, none⟩ = some (.int .i64 v.kind) := one_at hmD.out
      have cm1 : wD.cell? ⟨wB.heap.size, 1, none⟩ = some (.int .i64 v.book) := one_at hmD.out
      have cm2 : wD.cell? ⟨wB.heap.size, 2, none⟩ = some (.int .i64 v.units) := one_at hmD.out
      have cm3 : wD.cell? ⟨wB.heap.size, 3, none⟩ = some (.int .i64 v.cust) := one_at hmD.out
      have cm4 : wD.cell? ⟨wB.heap.size, 4, none⟩ = some (.int .i64 v.amount) := one_at hmD.out
      have cn0 : wD.cell? ⟨wC.heap.size, 0, none⟩ = some (.int .i64 v.kind) := one_at hnD.out
      have cn1 : wD.cell? ⟨wC.heap.size, 1, none⟩ = some (.int .i64 v.book) := one_at hnD.out
      have cn2 : wD.cell? ⟨wC.heap.size, 2, none⟩ = some (.int .i64 v.units) := one_at hnD.out
      have cn3 : wD.cell? ⟨wC.heap.size, 3, none⟩ = some (.int .i64 v.cust) := one_at hnD.out
      have cn4 : wD.cell? ⟨wC.heap.size, 4, none⟩ = some (.int .i64 v.amount) := one_at hnD.out
      have E1 : ∀ w, (Op.equalIn 10000 24 (.agg #[.int .i64 u.book, .int .i64 u.cust, .int .i64 u.dead, .int .i64 u.u0, .int .i64 u.u1, .int .i64 u.u2, .int .i64 u.price]) (.agg #[.int .i64 u.book, .int .i64 u.cust, .int .i64 u.dead, .int .i64 u.u0, .int .i64 u.u1, .int .i64 u.u2, .int .i64 u.price])).run Try.prog w = .ok true w := fun w => by rw [eq_wan]; simp
      have E2 : ∀ w, (Op.equalIn 10000 35 (.agg #[.int .i64 v.kind, .int .i64 v.book, .int .i64 v.units, .int .i64 v.cust, .int .i64 v.amount]) (.agg #[.int .i64 v.kind, .int .i64 v.book, .int .i64 v.units, .int .i64 v.cust, .int .i64 v.amount])).run Try.prog w = .ok true w := fun w => by rw [eq_opn]; simp
      clear bD beC huC hvC hmC hnC
      go_wp2_with fail
      go_ret
      exact ⟨rfl, beD.out⟩

/-! The row: every input. -/
set_option linter.unusedVariables false
set_option maxRecDepth 100000 in
theorem lifted (os : Os) (started : os.Started) (H : Type) (enc : TypeId × Value → H) :
    ReturnsInHanded {} Try.checked os 4 .any (Rows.wantAsksSpec.pre6 enc Try.prog Try.f4 Rows.wantAsksRow.domain false) (Rows.wantAsksSpec.post enc Try.prog Try.f4 false true false false) := by
  refine returnsInHanded_of_change (C := Try.checked) own started (by kernel_rfl) Try.func4
    (ChangeSpec.witness6 (enc := enc) (C := Try.checked) false ⟨#[], #[.agg #[.int .i64 0, .int .i64 0, .int .i64 0, .int .i64 0, .int .i64 0, .int .i64 0, .int .i64 0], .agg #[.int .i64 0, .int .i64 0, .int .i64 0, .int .i64 0, .int .i64 0], .slice none 0 0], []⟩ 8 (by kernel_rfl) (by kernel_rfl) (by kernel_rfl) (by kernel_rfl)) ?_
  intro W base args ds gs before hval0 hW _ _
  have hval : ∀ (j : Nat) t v, Try.f4.params[j]? = some t → args[j]? = some v → Value.okWide Try.prog W .any base t v := hval0
  have hW' := hW
  obtain ⟨p, q, hA0, hV, rfl, hfz, hnd⟩ := hW
  have hA : DataW.TrodAll enc Try.prog W 0 (fun _ => true) true Try.f4.params.toList args.toList ds p := hA0
  rw [Try.params4] at hA hval
  obtain ⟨v0, vs0, d0, ds0, p0, q0, hargs, rfl, rfl, h0, r0⟩ := trodAll_cons hA
  obtain ⟨v1, vs1, d1, ds1, p1, q1, rfl, rfl, rfl, h1, r1⟩ := trodAll_cons r0
  obtain ⟨v2, vs2, d2, ds2, p2, q2, rfl, rfl, rfl, h2, r2⟩ := trodAll_cons r1
  obtain ⟨rfl, rfl, rfl⟩ := trodAll_nil r2
  obtain rfl : args = #[v0, v1, v2] := by cases args; simp_all
  obtain ⟨rfl, rfl⟩ := trodVars_none hV
  obtain ⟨x0, rfl, w0⟩ := view_want (hval 0 24 v0 rfl rfl) h0
  obtain ⟨x1, rfl, w1⟩ := view_op (hval 1 35 v1 rfl rfl) h1
  obtain ⟨a2, w2⟩ := view_bytes (hval 2 28 v2 rfl rfl) h2
  clear hA0 hval0
  simp only [List.append_nil] at hW'
  obtain ⟨A2, n2, c2, rfl, hA2, _, _, hR2⟩ := w2
  refine (walk x0 w0 x1 w1 A2 n2 c2 a2 W hA2 hR2).mono fun e W' ⟨he, hb⟩ => ?_
  subst he
  exact ⟨_, rfl, post_below (pa := p0 ++ (p1 ++ (p2 ++ []))) (pv := []) hW' (fun _ _ _ => (trodAll_cons_mk (shut_bool Try.underlying4 _) trodAll_mk0)) (fun sp hsp => (trodAll_cons_mk (Trod_stays laidOut (by kernel_rfl) (of_decide_eq_true (by kernel_rfl)) h0 (fun x hx => hb.same (hW'.lt x (by simp [hx]))) (fun x hx => hsp x (by simp [hx]))) (trodAll_cons_mk (Trod_stays laidOut (by kernel_rfl) (of_decide_eq_true (by kernel_rfl)) h1 (fun x hx => hb.same (hW'.lt x (by simp [hx]))) (fun x hx => hsp x (by simp [hx]))) (trodAll_cons_mk (Trod_stays laidOut (by kernel_rfl) (of_decide_eq_true (by kernel_rfl)) h2 (fun x hx => hb.same (hW'.lt x (by simp [hx]))) (fun x hx => hsp x (by simp [hx]))) trodAll_mk0)))) (fun _ _ => rfl) (by simp)
    hb (ok_one (by kernel_rfl) rfl (okWide_bool_mk Try.underlying4 _))⟩

theorem proved : Rows.WantAsksSaid :=
  OpenClaim.holds_of_wide 4 Try.f4 rfl rfl rfl rfl rfl rfl rfl ⟨rfl, rfl, rfl, rfl, rfl⟩ rfl rfl rfl rfl rfl (by kernel_rfl) Try.func4 (by kernel_rfl)
    (of_decide_eq_true (by kernel_rfl)) (by unfold Func.isWrapper; first | (rw [if_pos (by decide +kernel)]; kernel_rfl) | (rw [if_neg (by decide +kernel)]; exact ⟨rfl, rfl⟩))
    (fun os started H enc _ => lifted os started H enc)
#print axioms proved
end Go.Proofs.Ytmmediadgoejpaa.wantAsks
