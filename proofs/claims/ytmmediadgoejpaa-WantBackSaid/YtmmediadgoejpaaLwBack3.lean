/- Proved: a booking and an operation come back from their bytes; cut off they do not; two that are unlike have unlike bytes (WantBack), for any two bookings, any two operations, any place. -/
import Derived.Test.YtmmediadgoejpaaWtQ
import Derived.Deep.CutRange
import Derived.BigQuiet
namespace Go.Proofs.Ytmmediadgoejpaa.wantBack
open Go.ChangeShapes Go.WideShapes Go.ChangeAt Go.WideElems Go.RowKit
open Go.Proofs.Ytmmediadgoejpaa.Pk Go.Proofs.Ytmmediadgoejpaa.Wt

theorem place (at_ : Int) (L : Nat) (hL : 0 < L) (hm : L ≤ 500) : ∃ k : Nat, wrap64 ((IntKind.u64.wrap at_).tmod (L : Int)) = (k : Int) ∧ k < L := by
  have hw : 0 ≤ IntKind.u64.wrap at_ := wrap_u64_nonneg at_
  have a1 := Int.emod_nonneg (IntKind.u64.wrap at_) (b := (L : Int)) (by omega)
  have a2 := Int.emod_lt_of_pos (IntKind.u64.wrap at_) (b := (L : Int)) (by omega)
  refine ⟨((IntKind.u64.wrap at_) % (L : Int)).toNat, ?_, by omega⟩
  rw [Int.tmod_eq_emod_of_nonneg hw]
  unfold wrap64
  omega
/-- What Put leaves, with its two results named. -/
structure PForm (w : World) (ok : Bool) (bs : List UInt8) (v : Value) (k : Int) (w' : World) : Prop where
  be : Below w.heap.size w w'
  yes : ok = true → k = 0 ∧ w'.ownsRow w.heap.size 5 1 v bs.length (u8s bs)
  no : ok = false → k = 1 ∧ v = .slice none 0 0
theorem pform {w w' : World} {ok : Bool} {bs : List UInt8} {e : Ending} (h : PutTo w ok bs e w') : ∃ v k, e = .returned (.tuple #[v, .int .i64 k]) ∧ PForm w ok bs v k w' := by
  cases ok with
  | true =>
    obtain ⟨v, e, ho⟩ := h.yes rfl
    exact ⟨v, 0, e, h.be, fun _ => ⟨rfl, ho⟩, fun h => by cases h⟩
  | false => exact ⟨_, 1, h.no rfl, h.be, (fun h => by cases h), fun _ => ⟨rfl, rfl⟩⟩
theorem own_len {w : World} {base n c : Nat} {e : TypeId} {A : Option Addr} {xs : List Value} (h : w.ownsRow base e 1 (.slice A n c) n xs) : n ≤ c ∧ c ≤ 9223372036854775807 := by
  have := own_cap h
  unfold maxLen at this
  omega
theorem str_ne {a b : List UInt8} (h : a ≠ b) : ((str a).toList == (str b).toList) = false := by
  have e : ∀ l : List UInt8, (str l).toList = l := fun l => ByteArray.toList_mk l
  rw [e, e]
  simpa using h
theorem str_eq {a b : List UInt8} (h : a = b) : ((str a).toList == (str b).toList) = true := by
  have e : ∀ l : List UInt8, (str l).toList = l := fun l => ByteArray.toList_mk l
  rw [e, e]
  simpa using h
theorem drewB (w : World) (n : Nat) : Below w.heap.size w (w.drewN n) := ⟨rfl, rfl, rfl, Nat.le_refl _, fun _ _ => rfl⟩
theorem rb_move {w w' : World} {A : Option Addr} {n : Nat} {bs : List UInt8} (h : Hid (Rb w (fun g => g < w.heap.size) A n bs)) (b : Below w.heap.size w w') : Hid (Rb w' (fun g => g < w'.heap.size) A n bs) :=
  h.out.keep (fun g hg => b.block g hg) (fun _ hg => Nat.lt_of_lt_of_le hg b.size)


set_option maxHeartbeats 12800000 in
set_option maxRecDepth 100000 in
theorem walk (x y : Wan) (o p : Opn) (at_ : Int) (w : World) :
    Calls Try.prog 5 #[.agg #[.int .i64 x.book, .int .i64 x.cust, .int .i64 x.dead, .int .i64 x.u0, .int .i64 x.u1, .int .i64 x.u2, .int .i64 x.price], .agg #[.int .i64 y.book, .int .i64 y.cust, .int .i64 y.dead, .int .i64 y.u0, .int .i64 y.u1, .int .i64 y.u2, .int .i64 y.price], .agg #[.int .i64 o.kind, .int .i64 o.book, .int .i64 o.units, .int .i64 o.cust, .int .i64 o.amount], .agg #[.int .i64 p.kind, .int .i64 p.book, .int .i64 p.units, .int .i64 p.cust, .int .i64 p.amount], .int .i64 at_] w fun e w' => e = .returned (.bool true) ∧ Below w.heap.size w w' := by
  obtain ⟨w0, e0⟩ : ∃ z, z = (((w.alloc (.cells #[.int .i64 x.book, .int .i64 x.cust, .int .i64 x.dead, .int .i64 x.u0, .int .i64 x.u1, .int .i64 x.u2, .int .i64 x.price] 24)).alloc (.cells #[.int .i64 y.book, .int .i64 y.cust, .int .i64 y.dead, .int .i64 y.u0, .int .i64 y.u1, .int .i64 y.u2, .int .i64 y.price] 24)).alloc (.cells #[.int .i64 o.kind, .int .i64 o.book, .int .i64 o.units, .int .i64 o.cust, .int .i64 o.amount] 35)).alloc (.cells #[.int .i64 p.kind, .int .i64 p.book, .int .i64 p.units, .int .i64 p.cust, .int .i64 p.amount] 35) := ⟨_, rfl⟩
  have be0 : Hid (Below w.heap.size w w0) := by rw [e0]; exact ((((Below.refl _ w).alloc (Nat.le_refl _) _).alloc (by simp) _).alloc (by simp; omega) _).alloc (by simp; omega) _
  have hx0 : Hid (w0.heap[w.heap.size]? = some (.cells #[.int .i64 x.book, .int .i64 x.cust, .int .i64 x.dead, .int .i64 x.u0, .int .i64 x.u1, .int .i64 x.u2, .int .i64 x.price] 24)) := by rw [e0]; exact stay1 (stay1 (stay1 (lay1 w _) _) _) _
  have hy0 : Hid (w0.heap[w.heap.size + 1]? = some (.cells #[.int .i64 y.book, .int .i64 y.cust, .int .i64 y.dead, .int .i64 y.u0, .int .i64 y.u1, .int .i64 y.u2, .int .i64 y.price] 24)) := by
    rw [e0]
    have := stay1 (stay1 (lay1 (w.alloc (.cells #[.int .i64 x.book, .int .i64 x.cust, .int .i64 x.dead, .int .i64 x.u0, .int .i64 x.u1, .int .i64 x.u2, .int .i64 x.price] 24)) (.cells #[.int .i64 y.book, .int .i64 y.cust, .int .i64 y.dead, .int .i64 y.u0, .int .i64 y.u1, .int .i64 y.u2, .int .i64 y.price] 24)) (.cells #[.int .i64 o.kind, .int .i64 o.book, .int .i64 o.units, .int .i64 o.cust, .int .i64 o.amount] 35)) (.cells #[.int .i64 p.kind, .int .i64 p.book, .int .i64 p.units, .int .i64 p.cust, .int .i64 p.amount] 35)
    simpa using this
  have ho0 : Hid (w0.heap[w.heap.size + 2]? = some (.cells #[.int .i64 o.kind, .int .i64 o.book, .int .i64 o.units, .int .i64 o.cust, .int .i64 o.amount] 35)) := by
    rw [e0]
    have := stay1 (lay1 ((w.alloc (.cells #[.int .i64 x.book, .int .i64 x.cust, .int .i64 x.dead, .int .i64 x.u0, .int .i64 x.u1, .int .i64 x.u2, .int .i64 x.price] 24)).alloc (.cells #[.int .i64 y.book, .int .i64 y.cust, .int .i64 y.dead, .int .i64 y.u0, .int .i64 y.u1, .int .i64 y.u2, .int .i64 y.price] 24)) (.cells #[.int .i64 o.kind, .int .i64 o.book, .int .i64 o.units, .int .i64 o.cust, .int .i64 o.amount] 35)) (.cells #[.int .i64 p.kind, .int .i64 p.book, .int .i64 p.units, .int .i64 p.cust, .int .i64 p.amount] 35)
    simpa using this
  have hp0 : Hid (w0.heap[w.heap.size + 3]? = some (.cells #[.int .i64 p.kind, .int .i64 p.book, .int .i64 p.units, .int .i64 p.cust, .int .i64 p.amount] 35)) := by
    rw [e0]
    have := lay1 (((w.alloc (.cells #[.int .i64 x.book, .int .i64 x.cust, .int .i64 x.dead, .int .i64 x.u0, .int .i64 x.u1, .int .i64 x.u2, .int .i64 x.price] 24)).alloc (.cells #[.int .i64 y.book, .int .i64 y.cust, .int .i64 y.dead, .int .i64 y.u0, .int .i64 y.u1, .int .i64 y.u2, .int .i64 y.price] 24)).alloc (.cells #[.int .i64 o.kind, .int .i64 o.book, .int .i64 o.units, .int .i64 o.cust, .int .i64 o.amount] 35)) (.cells #[.int .i64 p.kind, .int .i64 p.book, .int .i64 p.units, .int .i64 p.cust, .int .i64 p.amount] 35)
    simpa using this
  have P1 := Lib.hid (put_any w0 x)
  rw [e0] at P1
  go_enter Try.func5, Try.ntmps5
  go_wp2_with fail
  refine P1.out.mono ?_
  rw [← e0]
  rintro e wa h1
  obtain ⟨va, ka, rfl, g1⟩ := pform h1
  replace g1 := Lib.hid g1
  have bea : Hid (Below w.heap.size w wa) := be0.out.trans (h1.be.mono be0.out.size)
  have hxa := stay hx0 h1.be
  have hya := stay hy0 h1.be
  have hoa := stay ho0 h1.be
  have hpa := stay hp0 h1.be
  have cy0 : wa.cell? ⟨w.heap.size + 1, 0, none⟩ = some (.int .i64 y.book) := one_at hya.out
  have cy1 : wa.cell? ⟨w.heap.size + 1, 1, none⟩ = some (.int .i64 y.cust) := one_at hya.out
  have cy2 : wa.cell? ⟨w.heap.size + 1, 2, none⟩ = some (.int .i64 y.dead) := one_at hya.out
  have cy3 : wa.cell? ⟨w.heap.size + 1, 3, none⟩ = some (.int .i64 y.u0) := one_at hya.out
  have cy4 : wa.cell? ⟨w.heap.size + 1, 4, none⟩ = some (.int .i64 y.u1) := one_at hya.out
  have cy5 : wa.cell? ⟨w.heap.size + 1, 5, none⟩ = some (.int .i64 y.u2) := one_at hya.out
  have cy6 : wa.cell? ⟨w.heap.size + 1, 6, none⟩ = some (.int .i64 y.price) := one_at hya.out
  clear h1 P1 be0 hx0 hy0 ho0 hp0
  go_wp2_with fail
  refine (put_any wa y).mono ?_
  rintro e wb h2
  obtain ⟨vb, kb, rfl, g2⟩ := pform h2
  replace g2 := Lib.hid g2
  have beb : Hid (Below w.heap.size w wb) := bea.out.trans (h2.be.mono bea.out.size)
  have hxb := stay hxa h2.be
  have hyb := stay hya h2.be
  have hob := stay hoa h2.be
  have hpb := stay hpa h2.be
  clear h2 cy0 cy1 cy2 cy3 cy4 cy5 cy6 bea hxa hya hoa hpa e0
  go_upto_if 38 with fail
  go_cut [10, 15, 16, 17, 18] from 39 to 85 (fun s10 s15 s16 s17 s18 wx => s10 = .bool false ∧ Below w.heap.size w wx ∧ wx.heap[w.heap.size + 2]? = some (.cells #[.int .i64 o.kind, .int .i64 o.book, .int .i64 o.units, .int .i64 o.cust, .int .i64 o.amount] 35) ∧ wx.heap[w.heap.size + 3]? = some (.cells #[.int .i64 p.kind, .int .i64 p.book, .int .i64 p.units, .int .i64 p.cust, .int .i64 p.amount] 35))
  case first =>
    rcases Bool.eq_false_or_eq_true (may x) with m1 | m1
    · obtain ⟨rfl, ho1⟩ := g1.out.yes m1
      obtain ⟨A1, c1, rfl, hR1, hA1⟩ := PutTo.rb ho1
      have hc1 := own_len ho1
      have l1 := raw_len m1
      have hR1' := rb_move hR1 g2.out.be
      replace hA1 := Lib.hid hA1
      have q1 := Lib.hid (getW_raw m1)
      have q2 := Lib.hid (fun k h => getW_cut (k := k) m1 h)
      have G := Lib.hid (get_any wb A1 _ c1 (raw x) hR1'.out (fun g hg => hg) (by omega) hA1.out)
      have I := Lib.hid (fun h h' => raw_inj (x := x) (y := y) m1 h h')
      clear ho1
      generalize hraw1 : raw x = b1 at *
      replace hraw1 := Lib.hid hraw1
      go_wp2_with fail
      refine G.out.mono ?_
      rintro e wc h3
      obtain rfl := h3.yes x q1.out
      have bec : Hid (Below w.heap.size w wc) := beb.out.trans (h3.be.mono beb.out.size)
      have hxc := stay hxb h3.be
      have hyc := stay hyb h3.be
      have hoc := stay hob h3.be
      have hpc := stay hpb h3.be
      have hR1c := rb_move hR1' h3.be
      have b3 := Lib.hid h3.be
      clear h3 G hR1 hR1'
      go_upto_region 5 with fail
      obtain ⟨wd, ed⟩ : ∃ z, z = wc.alloc (.cells #[.int .i64 x.book, .int .i64 x.cust, .int .i64 x.dead, .int .i64 x.u0, .int .i64 x.u1, .int .i64 x.u2, .int .i64 x.price] 24) := ⟨_, rfl⟩
      rw [← ed]
      have bd : Below wc.heap.size wc wd := by rw [ed]; exact (Below.refl _ wc).alloc (Nat.le_refl _) _
      have bed : Hid (Below w.heap.size w wd) := bec.out.trans (bd.mono bec.out.size)
      have hnd : Hid (wd.heap[wc.heap.size]? = some (.cells #[.int .i64 x.book, .int .i64 x.cust, .int .i64 x.dead, .int .i64 x.u0, .int .i64 x.u1, .int .i64 x.u2, .int .i64 x.price] 24)) := by rw [ed]; exact heap_alloc_new _ _
      have hxd := stay hxc bd
      have hyd := stay hyc bd
      have hod := stay hoc bd
      have hpd := stay hpc bd
      have hR1d := rb_move hR1c bd
      have ca0 : wd.cell? ⟨w.heap.size, 0, none⟩ = some (.int .i64 x.book) := one_at hxd.out
      have ca1 : wd.cell? ⟨w.heap.size, 1, none⟩ = some (.int .i64 x.cust) := one_at hxd.out
      have ca2 : wd.cell? ⟨w.heap.size, 2, none⟩ = some (.int .i64 x.dead) := one_at hxd.out
      have ca3 : wd.cell? ⟨w.heap.size, 3, none⟩ = some (.int .i64 x.u0) := one_at hxd.out
      have ca4 : wd.cell? ⟨w.heap.size, 4, none⟩ = some (.int .i64 x.u1) := one_at hxd.out
      have ca5 : wd.cell? ⟨w.heap.size, 5, none⟩ = some (.int .i64 x.u2) := one_at hxd.out
      have ca6 : wd.cell? ⟨w.heap.size, 6, none⟩ = some (.int .i64 x.price) := one_at hxd.out
      have cb0 : wd.cell? ⟨w.heap.size + 1, 0, none⟩ = some (.int .i64 y.book) := one_at hyd.out
      have cb1 : wd.cell? ⟨w.heap.size + 1, 1, none⟩ = some (.int .i64 y.cust) := one_at hyd.out
      have cb2 : wd.cell? ⟨w.heap.size + 1, 2, none⟩ = some (.int .i64 y.dead) := one_at hyd.out
      have cb3 : wd.cell? ⟨w.heap.size + 1, 3, none⟩ = some (.int .i64 y.u0) := one_at hyd.out
      have cb4 : wd.cell? ⟨w.heap.size + 1, 4, none⟩ = some (.int .i64 y.u1) := one_at hyd.out
      have cb5 : wd.cell? ⟨w.heap.size + 1, 5, none⟩ = some (.int .i64 y.u2) := one_at hyd.out
      have cb6 : wd.cell? ⟨w.heap.size + 1, 6, none⟩ = some (.int .i64 y.price) := one_at hyd.out
      have cn0 : wd.cell? ⟨wc.heap.size, 0, none⟩ = some (.int .i64 x.book) := one_at hnd.out
      have cn1 : wd.cell? ⟨wc.heap.size, 1, none⟩ = some (.int .i64 x.cust) := one_at hnd.out
      have cn2 : wd.cell? ⟨wc.heap.size, 2, none⟩ = some (.int .i64 x.dead) := one_at hnd.out
      have cn3 : wd.cell? ⟨wc.heap.size, 3, none⟩ = some (.int .i64 x.u0) := one_at hnd.out
      have cn4 : wd.cell? ⟨wc.heap.size, 4, none⟩ = some (.int .i64 x.u1) := one_at hnd.out
      have cn5 : wd.cell? ⟨wc.heap.size, 5, none⟩ = some (.int .i64 x.u2) := one_at hnd.out
      have cn6 : wd.cell? ⟨wc.heap.size, 6, none⟩ = some (.int .i64 x.price) := one_at hnd.out
      have s1 := fun n => str_run (c := c1) (w := wd.drewN n) (T := fun _ => True) (hR1d.out.keep (fun _ _ => rfl) (fun _ _ => trivial))
      have z1 : ((b1.length : Int) == 0) = false := by have := l1.1; simpa using (show ¬ ((b1.length : Int) = 0) by omega)
      have E11 : ∀ w, (Op.equalIn 10000 24 (.agg #[.int .i64 x.book, .int .i64 x.cust, .int .i64 x.dead, .int .i64 x.u0, .int .i64 x.u1, .int .i64 x.u2, .int .i64 x.price]) (.agg #[.int .i64 x.book, .int .i64 x.cust, .int .i64 x.dead, .int .i64 x.u0, .int .i64 x.u1, .int .i64 x.u2, .int .i64 x.price])).run Try.prog w = .ok true w := fun w => by rw [eq_wan]; simp
      obtain ⟨kk, hK, hkm⟩ := place at_ b1.length l1.1 (by omega)
      have K := Lib.hid (fun n => get_any (wd.drewN n) A1 kk c1 (b1.take kk) (T := fun g => g < (wd.drewN n).heap.size) ((hR1d.out.take (Nat.le_of_lt hkm)).keep (fun _ _ => rfl) (fun _ h => h)) (fun g hg => hg) (by omega) hA1.out)
      have N := Lib.hid (q2.out kk hkm)
      have b2b := Lib.hid (g2.out.be)
      rcases Bool.eq_false_or_eq_true (may y) with m2 | m2
      · obtain ⟨rfl, ho2⟩ := g2.out.yes m2
        obtain ⟨A2, c2, rfl, hR2, hA2⟩ := PutTo.rb ho2
        have hc2 := own_len ho2
        have hR2d := rb_move (rb_move hR2 b3.out) bd
        have l2 := raw_len m2
        have s2 := fun n => str_run (c := c2) (w := wd.drewN n) (T := fun _ => True) (hR2d.out.keep (fun _ _ => rfl) (fun _ _ => trivial))
        have I2 := Lib.hid (I.out m2)
        clear ho2 hR2 hA2 I ed g1 g2
        by_cases hxy : x = y
        · have hb : raw y = b1 := by rw [← hxy]; exact hraw1.out
          have hs := str_eq (a := b1) (b := raw y) hb.symm
          have E12 : ∀ w, (Op.equalIn 10000 24 (.agg #[.int .i64 x.book, .int .i64 x.cust, .int .i64 x.dead, .int .i64 x.u0, .int .i64 x.u1, .int .i64 x.u2, .int .i64 x.price]) (.agg #[.int .i64 y.book, .int .i64 y.cust, .int .i64 y.dead, .int .i64 y.u0, .int .i64 y.u1, .int .i64 y.u2, .int .i64 y.price])).run Try.prog w = .ok true w := fun w => by rw [eq_wan, hxy]; simp
          clear hb
          generalize raw y = b2 at *
          replace hxy := Lib.hid hxy
          replace m1 := Lib.hid m1
          replace m2 := Lib.hid m2
          go_quiet (fail)
          go_wp2_with fail
          refine (K.out _).mono ?_
          rintro e wz h5
          obtain rfl := h5.no N.out
          have bz : Below wd.heap.size wd wz := (drewB wd nq).trans h5.be
          have bez : Hid (Below w.heap.size w wz) := bed.out.trans (bz.mono bed.out.size)
          have hxz := stay hxd bz
          have hyz := stay hyd bz
          have hoz := stay hod bz
          have hpz := stay hpd bz
          clear h5 K bz ca0 ca1 ca2 ca3 ca4 ca5 ca6 cb0 cb1 cb2 cb3 cb4 cb5 cb6 cn0 cn1 cn2 cn3 cn4 cn5 cn6 s1 E11 hK hkm z1
          go_wp2_with fail
          go_meet
          exact ⟨rfl, bez.out.alloc bez.out.size _, stay1 hoz _, stay1 hpz _⟩
        · have hs := str_ne (a := b1) (b := raw y) (fun e => hxy (I2.out e))
          have E12 : ∀ w, (Op.equalIn 10000 24 (.agg #[.int .i64 x.book, .int .i64 x.cust, .int .i64 x.dead, .int .i64 x.u0, .int .i64 x.u1, .int .i64 x.u2, .int .i64 x.price]) (.agg #[.int .i64 y.book, .int .i64 y.cust, .int .i64 y.dead, .int .i64 y.u0, .int .i64 y.u1, .int .i64 y.u2, .int .i64 y.price])).run Try.prog w = .ok false w := fun w => by rw [eq_wan]; simp [hxy]
          generalize raw y = b2 at *
          replace hxy := Lib.hid hxy
          replace m1 := Lib.hid m1
          replace m2 := Lib.hid m2
          go_quiet (fail)
          go_wp2_with fail
          refine (K.out _).mono ?_
          rintro e wz h5
          obtain rfl := h5.no N.out
          have bz : Below wd.heap.size wd wz := (drewB wd nq).trans h5.be
          have bez : Hid (Below w.heap.size w wz) := bed.out.trans (bz.mono bed.out.size)
          have hxz := stay hxd bz
          have hyz := stay hyd bz
          have hoz := stay hod bz
          have hpz := stay hpd bz
          clear h5 K bz ca0 ca1 ca2 ca3 ca4 ca5 ca6 cb0 cb1 cb2 cb3 cb4 cb5 cb6 cn0 cn1 cn2 cn3 cn4 cn5 cn6 s1 E11 hK hkm z1
          go_wp2_with fail
          go_meet
          exact ⟨rfl, bez.out.alloc bez.out.size _, stay1 hoz _, stay1 hpz _⟩
      · obtain ⟨rfl, rfl⟩ := g2.out.no m2
        clear I ed g1 g2
        replace m1 := Lib.hid m1
        replace m2 := Lib.hid m2
        go_quiet (fail)
        go_wp2_with fail
        refine (K.out _).mono ?_
        rintro e wz h5
        obtain rfl := h5.no N.out
        have bz : Below wd.heap.size wd wz := (drewB wd nq).trans h5.be
        have bez : Hid (Below w.heap.size w wz) := bed.out.trans (bz.mono bed.out.size)
        have hxz := stay hxd bz
        have hyz := stay hyd bz
        have hoz := stay hod bz
        have hpz := stay hpd bz
        clear h5 K bz ca0 ca1 ca2 ca3 ca4 ca5 ca6 cb0 cb1 cb2 cb3 cb4 cb5 cb6 cn0 cn1 cn2 cn3 cn4 cn5 cn6 s1 E11 hK hkm z1
        go_wp2_with fail
        go_meet
        exact ⟨rfl, bez.out.alloc bez.out.size _, stay1 hoz _, stay1 hpz _⟩
    · obtain ⟨rfl, rfl⟩ := g1.out.no m1
      clear g1 g2
      go_wp2_with fail
      go_meet
      exact ⟨rfl, beb.out, hob.out, hpb.out⟩
  obtain ⟨rfl, bew', how', hpw'⟩ := hcut
  obtain ⟨w5, hv⟩ : ∃ z, z = wc := ⟨_, rfl⟩
  subst hv
  have bew := Lib.hid bew'
  have how := Lib.hid how'
  have hpw := Lib.hid hpw'
  have co0 : w5.cell? ⟨w.heap.size + 2, 0, none⟩ = some (.int .i64 o.kind) := one_at how.out
  have co1 : w5.cell? ⟨w.heap.size + 2, 1, none⟩ = some (.int .i64 o.book) := one_at how.out
  have co2 : w5.cell? ⟨w.heap.size + 2, 2, none⟩ = some (.int .i64 o.units) := one_at how.out
  have co3 : w5.cell? ⟨w.heap.size + 2, 3, none⟩ = some (.int .i64 o.cust) := one_at how.out
  have co4 : w5.cell? ⟨w.heap.size + 2, 4, none⟩ = some (.int .i64 o.amount) := one_at how.out
  clear bew' how' hpw' g1 g2 beb hxb hyb hob hpb
  go_wp2_with fail
  refine (putop_any w5 o).mono ?_
  rintro e wa h1
  obtain ⟨va', ka', rfl, g1⟩ := pform h1
  replace g1 := Lib.hid g1
  have bea : Hid (Below w.heap.size w wa) := bew.out.trans (h1.be.mono bew.out.size)
  have hoa := stay how h1.be
  have hpa := stay hpw h1.be
  have cp0 : wa.cell? ⟨w.heap.size + 3, 0, none⟩ = some (.int .i64 p.kind) := one_at hpa.out
  have cp1 : wa.cell? ⟨w.heap.size + 3, 1, none⟩ = some (.int .i64 p.book) := one_at hpa.out
  have cp2 : wa.cell? ⟨w.heap.size + 3, 2, none⟩ = some (.int .i64 p.units) := one_at hpa.out
  have cp3 : wa.cell? ⟨w.heap.size + 3, 3, none⟩ = some (.int .i64 p.cust) := one_at hpa.out
  have cp4 : wa.cell? ⟨w.heap.size + 3, 4, none⟩ = some (.int .i64 p.amount) := one_at hpa.out
  clear h1 bew how hpw co0 co1 co2 co3 co4
  go_wp2_with fail
  refine (putop_any wa p).mono ?_
  rintro e wb h2
  obtain ⟨vb', kb', rfl, g2⟩ := pform h2
  replace g2 := Lib.hid g2
  have beb : Hid (Below w.heap.size w wb) := bea.out.trans (h2.be.mono bea.out.size)
  have hob := stay hoa h2.be
  have hpb := stay hpa h2.be
  clear h2 cp0 cp1 cp2 cp3 cp4 bea hoa hpa
  rcases Bool.eq_false_or_eq_true (mayOp o) with m1 | m1
  · obtain ⟨rfl, ho1⟩ := g1.out.yes m1
    obtain ⟨A1, c1, rfl, hR1, hA1⟩ := PutTo.rb ho1
    have hc1 := own_len ho1
    have l1 := rawOp_len m1
    have hR1' := rb_move hR1 g2.out.be
    replace hA1 := Lib.hid hA1
    have q1 := Lib.hid (getO_raw m1)
    have q2 := Lib.hid (fun k h => getO_cut (k := k) m1 h)
    have G := Lib.hid (getop_any wb A1 _ c1 (rawOp o) hR1'.out (fun g hg => hg) (by omega) hA1.out)
    have I := Lib.hid (fun h h' => rawOp_inj (x := o) (y := p) m1 h h')
    clear ho1
    generalize hraw1 : rawOp o = b1 at *
    replace hraw1 := Lib.hid hraw1
    go_wp2_with fail
    refine G.out.mono ?_
    rintro e wc h3
    obtain rfl := h3.yes o q1.out
    have bec : Hid (Below w.heap.size w wc) := beb.out.trans (h3.be.mono beb.out.size)
    have hoc := stay hob h3.be
    have hpc := stay hpb h3.be
    have hR1c := rb_move hR1' h3.be
    have b3 := Lib.hid h3.be
    clear h3 G hR1 hR1'
    go_upto_region 15 with fail
    obtain ⟨wd, ed⟩ : ∃ z, z = wc.alloc (.cells #[.int .i64 o.kind, .int .i64 o.book, .int .i64 o.units, .int .i64 o.cust, .int .i64 o.amount] 35) := ⟨_, rfl⟩
    rw [← ed]
    have bd : Below wc.heap.size wc wd := by rw [ed]; exact (Below.refl _ wc).alloc (Nat.le_refl _) _
    have bed : Hid (Below w.heap.size w wd) := bec.out.trans (bd.mono bec.out.size)
    have hnd : Hid (wd.heap[wc.heap.size]? = some (.cells #[.int .i64 o.kind, .int .i64 o.book, .int .i64 o.units, .int .i64 o.cust, .int .i64 o.amount] 35)) := by rw [ed]; exact heap_alloc_new _ _
    have hod := stay hoc bd
    have hpd := stay hpc bd
    have hR1d := rb_move hR1c bd
    have ca0 : wd.cell? ⟨w.heap.size + 2, 0, none⟩ = some (.int .i64 o.kind) := one_at hod.out
    have ca1 : wd.cell? ⟨w.heap.size + 2, 1, none⟩ = some (.int .i64 o.book) := one_at hod.out
    have ca2 : wd.cell? ⟨w.heap.size + 2, 2, none⟩ = some (.int .i64 o.units) := one_at hod.out
    have ca3 : wd.cell? ⟨w.heap.size + 2, 3, none⟩ = some (.int .i64 o.cust) := one_at hod.out
    have ca4 : wd.cell? ⟨w.heap.size + 2, 4, none⟩ = some (.int .i64 o.amount) := one_at hod.out
    have cb0 : wd.cell? ⟨w.heap.size + 3, 0, none⟩ = some (.int .i64 p.kind) := one_at hpd.out
    have cb1 : wd.cell? ⟨w.heap.size + 3, 1, none⟩ = some (.int .i64 p.book) := one_at hpd.out
    have cb2 : wd.cell? ⟨w.heap.size + 3, 2, none⟩ = some (.int .i64 p.units) := one_at hpd.out
    have cb3 : wd.cell? ⟨w.heap.size + 3, 3, none⟩ = some (.int .i64 p.cust) := one_at hpd.out
    have cb4 : wd.cell? ⟨w.heap.size + 3, 4, none⟩ = some (.int .i64 p.amount) := one_at hpd.out
    have cn0 : wd.cell? ⟨wc.heap.size, 0, none⟩ = some (.int .i64 o.kind) := one_at hnd.out
    have cn1 : wd.cell? ⟨wc.heap.size, 1, none⟩ = some (.int .i64 o.book) := one_at hnd.out
    have cn2 : wd.cell? ⟨wc.heap.size, 2, none⟩ = some (.int .i64 o.units) := one_at hnd.out
    have cn3 : wd.cell? ⟨wc.heap.size, 3, none⟩ = some (.int .i64 o.cust) := one_at hnd.out
    have cn4 : wd.cell? ⟨wc.heap.size, 4, none⟩ = some (.int .i64 o.amount) := one_at hnd.out
    have s1 := fun n => str_run (c := c1) (w := wd.drewN n) (T := fun _ => True) (hR1d.out.keep (fun _ _ => rfl) (fun _ _ => trivial))
    have z1 : ((b1.length : Int) == 0) = false := by have := l1.1; simpa using (show ¬ ((b1.length : Int) = 0) by omega)
    have E11 : ∀ w, (Op.equalIn 10000 35 (.agg #[.int .i64 o.kind, .int .i64 o.book, .int .i64 o.units, .int .i64 o.cust, .int .i64 o.amount]) (.agg #[.int .i64 o.kind, .int .i64 o.book, .int .i64 o.units, .int .i64 o.cust, .int .i64 o.amount])).run Try.prog w = .ok true w := fun w => by rw [eq_opn]; simp
    obtain ⟨kk, hK, hkm⟩ := place at_ b1.length l1.1 (by omega)
    have K := Lib.hid (fun n => getop_any (wd.drewN n) A1 kk c1 (b1.take kk) (T := fun g => g < (wd.drewN n).heap.size) ((hR1d.out.take (Nat.le_of_lt hkm)).keep (fun _ _ => rfl) (fun _ h => h)) (fun g hg => hg) (by omega) hA1.out)
    have N := Lib.hid (q2.out kk hkm)
    have b2b := Lib.hid (g2.out.be)
    rcases Bool.eq_false_or_eq_true (mayOp p) with m2 | m2
    · obtain ⟨rfl, ho2⟩ := g2.out.yes m2
      obtain ⟨A2, c2, rfl, hR2, hA2⟩ := PutTo.rb ho2
      have hc2 := own_len ho2
      have hR2d := rb_move (rb_move hR2 b3.out) bd
      have l2 := rawOp_len m2
      have s2 := fun n => str_run (c := c2) (w := wd.drewN n) (T := fun _ => True) (hR2d.out.keep (fun _ _ => rfl) (fun _ _ => trivial))
      have I2 := Lib.hid (I.out m2)
      clear ho2 hR2 hA2 I ed g1 g2
      by_cases hxy : o = p
      · have hb : rawOp p = b1 := by rw [← hxy]; exact hraw1.out
        have hs := str_eq (a := b1) (b := rawOp p) hb.symm
        have E12 : ∀ w, (Op.equalIn 10000 35 (.agg #[.int .i64 o.kind, .int .i64 o.book, .int .i64 o.units, .int .i64 o.cust, .int .i64 o.amount]) (.agg #[.int .i64 p.kind, .int .i64 p.book, .int .i64 p.units, .int .i64 p.cust, .int .i64 p.amount])).run Try.prog w = .ok true w := fun w => by rw [eq_opn, hxy]; simp
        clear hb
        generalize rawOp p = b2 at *
        replace hxy := Lib.hid hxy
        replace m1 := Lib.hid m1
        replace m2 := Lib.hid m2
        go_quiet (fail)
        go_wp2_with fail
        refine (K.out _).mono ?_
        rintro e wz h5
        obtain rfl := h5.no N.out
        have bz : Below wd.heap.size wd wz := (drewB wd nq).trans h5.be
        have bez : Hid (Below w.heap.size w wz) := bed.out.trans (bz.mono bed.out.size)
        have hoz := stay hod bz
        have hpz := stay hpd bz
        clear h5 K bz ca0 ca1 ca2 ca3 ca4 cb0 cb1 cb2 cb3 cb4 cn0 cn1 cn2 cn3 cn4 s1 E11 hK hkm z1
        have T := Lib.hid (fun o => told_any (wz.alloc o))
        go_wp2_with fail
        refine (T.out _).mono ?_
        rintro e w9 ⟨rfl, b9⟩
        have be9 : Hid (Below w.heap.size w w9) := (bez.out.alloc bez.out.size _).trans (b9.mono (by have := bez.out.size; simp; omega))
        clear b9 T
        go_wp2_with fail
        go_ret
        exact ⟨rfl, be9.out⟩
      · have hs := str_ne (a := b1) (b := rawOp p) (fun e => hxy (I2.out e))
        have E12 : ∀ w, (Op.equalIn 10000 35 (.agg #[.int .i64 o.kind, .int .i64 o.book, .int .i64 o.units, .int .i64 o.cust, .int .i64 o.amount]) (.agg #[.int .i64 p.kind, .int .i64 p.book, .int .i64 p.units, .int .i64 p.cust, .int .i64 p.amount])).run Try.prog w = .ok false w := fun w => by rw [eq_opn]; simp [hxy]
        generalize rawOp p = b2 at *
        replace hxy := Lib.hid hxy
        replace m1 := Lib.hid m1
        replace m2 := Lib.hid m2
        go_quiet (fail)
        go_wp2_with fail
        refine (K.out _).mono ?_
        rintro e wz h5
        obtain rfl := h5.no N.out
        have bz : Below wd.heap.size wd wz := (drewB wd nq).trans h5.be
        have bez : Hid (Below w.heap.size w wz) := bed.out.trans (bz.mono bed.out.size)
        have hoz := stay hod bz
        have hpz := stay hpd bz
        clear h5 K bz ca0 ca1 ca2 ca3 ca4 cb0 cb1 cb2 cb3 cb4 cn0 cn1 cn2 cn3 cn4 s1 E11 hK hkm z1
        have T := Lib.hid (fun o => told_any (wz.alloc o))
        go_wp2_with fail
        refine (T.out _).mono ?_
        rintro e w9 ⟨rfl, b9⟩
        have be9 : Hid (Below w.heap.size w w9) := (bez.out.alloc bez.out.size _).trans (b9.mono (by have := bez.out.size; simp; omega))
        clear b9 T
        go_wp2_with fail
        go_ret
        exact ⟨rfl, be9.out⟩
    · obtain ⟨rfl, rfl⟩ := g2.out.no m2
      clear I ed g1 g2
      replace m1 := Lib.hid m1
      replace m2 := Lib.hid m2
      go_quiet (fail)
      go_wp2_with fail
      refine (K.out _).mono ?_
      rintro e wz h5
      obtain rfl := h5.no N.out
      have bz : Below wd.heap.size wd wz := (drewB wd nq).trans h5.be
      have bez : Hid (Below w.heap.size w wz) := bed.out.trans (bz.mono bed.out.size)
      have hoz := stay hod bz
      have hpz := stay hpd bz
      clear h5 K bz ca0 ca1 ca2 ca3 ca4 cb0 cb1 cb2 cb3 cb4 cn0 cn1 cn2 cn3 cn4 s1 E11 hK hkm z1
      have T := Lib.hid (fun o => told_any (wz.alloc o))
      go_wp2_with fail
      refine (T.out _).mono ?_
      rintro e w9 ⟨rfl, b9⟩
      have be9 : Hid (Below w.heap.size w w9) := (bez.out.alloc bez.out.size _).trans (b9.mono (by have := bez.out.size; simp; omega))
      clear b9 T
      go_wp2_with fail
      go_ret
      exact ⟨rfl, be9.out⟩
  · obtain ⟨rfl, rfl⟩ := g1.out.no m1
    clear g1 g2
    go_wp2_with fail
    refine (told_any wb).mono ?_
    rintro e w9 ⟨rfl, b9⟩
    have be9 : Hid (Below w.heap.size w w9) := beb.out.trans (b9.mono beb.out.size)
    clear b9
    go_wp2_with fail
    go_ret
    exact ⟨rfl, be9.out⟩


/-! The row: every input. -/
set_option linter.unusedVariables false
set_option maxRecDepth 100000 in
theorem lifted (os : Os) (started : os.Started) (H : Type) (enc : TypeId × Value → H) :
    ReturnsInHanded {} Try.checked os 5 .any (Rows.wantBackSpec.pre6 enc Try.prog Try.f5 Rows.wantBackRow.domain false) (Rows.wantBackSpec.post enc Try.prog Try.f5 false true false false) := by
  refine returnsInHanded_of_change (C := Try.checked) own started (by kernel_rfl) Try.func5
    (ChangeSpec.witness6 (enc := enc) (C := Try.checked) false ⟨#[], #[.agg #[.int .i64 0, .int .i64 0, .int .i64 0, .int .i64 0, .int .i64 0, .int .i64 0, .int .i64 0], .agg #[.int .i64 0, .int .i64 0, .int .i64 0, .int .i64 0, .int .i64 0, .int .i64 0, .int .i64 0], .agg #[.int .i64 0, .int .i64 0, .int .i64 0, .int .i64 0, .int .i64 0], .agg #[.int .i64 0, .int .i64 0, .int .i64 0, .int .i64 0, .int .i64 0], .int .i64 0], []⟩ 8 (by kernel_rfl) (by kernel_rfl) (by kernel_rfl) (by kernel_rfl)) ?_
  intro W base args ds gs before hval0 hW _ _
  have hval : ∀ (j : Nat) t v, Try.f5.params[j]? = some t → args[j]? = some v → Value.okWide Try.prog W .any base t v := hval0
  have hW' := hW
  obtain ⟨p, q, hA0, hV, rfl, hfz, hnd⟩ := hW
  have hA : DataW.TrodAll enc Try.prog W 0 (fun _ => true) true Try.f5.params.toList args.toList ds p := hA0
  rw [Try.params5] at hA hval
  obtain ⟨v0, vs0, d0, ds0, p0, q0, hargs, rfl, rfl, h0, r0⟩ := trodAll_cons hA
  obtain ⟨v1, vs1, d1, ds1, p1, q1, rfl, rfl, rfl, h1, r1⟩ := trodAll_cons r0
  obtain ⟨v2, vs2, d2, ds2, p2, q2, rfl, rfl, rfl, h2, r2⟩ := trodAll_cons r1
  obtain ⟨v3, vs3, d3, ds3, p3, q3, rfl, rfl, rfl, h3, r3⟩ := trodAll_cons r2
  obtain ⟨v4, vs4, d4, ds4, p4, q4, rfl, rfl, rfl, h4, r4⟩ := trodAll_cons r3
  obtain ⟨rfl, rfl, rfl⟩ := trodAll_nil r4
  obtain rfl : args = #[v0, v1, v2, v3, v4] := by cases args; simp_all
  obtain ⟨rfl, rfl⟩ := trodVars_none hV
  obtain ⟨x0, rfl, w0⟩ := view_want (hval 0 24 v0 rfl rfl) h0
  obtain ⟨x1, rfl, w1⟩ := view_want (hval 1 24 v1 rfl rfl) h1
  obtain ⟨x2, rfl, w2⟩ := view_op (hval 2 35 v2 rfl rfl) h2
  obtain ⟨x3, rfl, w3⟩ := view_op (hval 3 35 v3 rfl rfl) h3
  obtain ⟨a4, rfl, rfl, rfl, w4⟩ := open_int Try.underlying3 (hval 4 3 v4 rfl rfl) h4
  clear hA0 hval0
  simp only [List.append_nil] at hW'
  refine (walk x0 x1 x2 x3 a4 W).mono fun e W' ⟨he, hb⟩ => ?_
  subst he
  exact ⟨_, rfl, post_below (pa := p0 ++ (p1 ++ (p2 ++ (p3 ++ ([] ++ []))))) (pv := []) hW' (fun _ _ _ => (trodAll_cons_mk (shut_bool Try.underlying4 _) trodAll_mk0)) (fun sp hsp => (trodAll_cons_mk (Trod_stays laidOut (by kernel_rfl) (of_decide_eq_true (by kernel_rfl)) h0 (fun x hx => hb.same (hW'.lt x (by simp [hx]))) (fun x hx => hsp x (by simp [hx]))) (trodAll_cons_mk (Trod_stays laidOut (by kernel_rfl) (of_decide_eq_true (by kernel_rfl)) h1 (fun x hx => hb.same (hW'.lt x (by simp [hx]))) (fun x hx => hsp x (by simp [hx]))) (trodAll_cons_mk (Trod_stays laidOut (by kernel_rfl) (of_decide_eq_true (by kernel_rfl)) h2 (fun x hx => hb.same (hW'.lt x (by simp [hx]))) (fun x hx => hsp x (by simp [hx]))) (trodAll_cons_mk (Trod_stays laidOut (by kernel_rfl) (of_decide_eq_true (by kernel_rfl)) h3 (fun x hx => hb.same (hW'.lt x (by simp [hx]))) (fun x hx => hsp x (by simp [hx]))) (trodAll_cons_mk (shut_int Try.underlying3 w4) trodAll_mk0)))))) (fun _ _ => rfl) (by simp)
    hb (ok_one (by kernel_rfl) rfl (okWide_bool_mk Try.underlying4 _))⟩

theorem proved : Rows.WantBackSaid :=
  OpenClaim.holds_of_wide 5 Try.f5 rfl rfl rfl rfl rfl rfl rfl ⟨rfl, rfl, rfl, rfl, rfl⟩ rfl rfl rfl rfl rfl (by kernel_rfl) Try.func5 (by kernel_rfl)
    (of_decide_eq_true (by kernel_rfl)) (by unfold Func.isWrapper; first | (rw [if_pos (by decide +kernel)]; kernel_rfl) | (rw [if_neg (by decide +kernel)]; exact ⟨rfl, rfl⟩))
    (fun os started H enc _ => lifted os started H enc)
#print axioms proved

end Go.Proofs.Ytmmediadgoejpaa.wantBack
