/- The document's purse: Bytes. -/
import Derived.Test.YtchlbkfkecpodaaPrA
import Derived.Test.YtchlbkfkecpodaaPkR
import Derived.Lib.QuietBelow
namespace Go.Proofs.Ytchlbkfkecpodaa
set_option maxRecDepth 100000
open Go.RowKit
open Go.Sort (grow)
open Go.Proofs.Ytchlbkfkecpodaa.Pk (one_at one_free one_set lt_some refint str str_add str_cat str_size)
namespace Pu

theorem size_add2 {a b : List UInt8} (h : a.length + b.length ≤ 100000) : ¬ (str a).size + (str b).size > 9223372036854775807 := by rw [str_size, str_size]; omega
theorem int_of (v : Int) (bs : Bs) (hv : Cs.I v) (hb : bs = Pk.encI v) (w0 : World) : ∀ d os, Calls Try.prog 93 #[.int .i64 v] (grow (redrawn w0 d) os) fun e w'' => e = .returned (.string (str bs)) ∧ ∃ q : Regrown, w'' = grow (redrawn w0 q.d) q.os := fun d os => Calls.regrown_of (by rw [hb]; exact refint _ v hv.1 hv.2)
theorem int_at (v : Int) (bs : Bs) (hv : Cs.I v) (hb : bs = Pk.encI v) (w : World) : Calls Try.prog 93 #[.int .i64 v] w fun e w'' => e = .returned (.string (str bs)) ∧ Below w.heap.size w w'' := by rw [hb]; exact refint _ v hv.1 hv.2
theorem i_of {v : Int} (h0 : 0 ≤ v) (h1 : v ≤ 4398046511104) : Cs.I v := ⟨by omega, by omega⟩
def AcBy (w : World) (p : S) (s i : Value) (wr : World) : Prop := ∃ k : Nat, s = .string (str (cat ((acs p.a).take k))) ∧ i = .int .i64 (k : Int) ∧ k ≤ 6 ∧ Below w.heap.size w wr
def DyAt (w : World) (p : S) (s i : Value) (wr : World) : Prop := ∃ k : Nat, s = .string (str (bts p k)) ∧ i = .int .i64 ((k : Int) + 1) ∧ k ≤ 200 ∧ Below w.heap.size w wr
theorem acs_at (a : Ac) {k : Nat} (hk : k < 6) : (acs a)[k]? = some (a (k : Int)) := by
  rcases (by omega : k = 0 ∨ k = 1 ∨ k = 2 ∨ k = 3 ∨ k = 4 ∨ k = 5) with rfl | rfl | rfl | rfl | rfl | rfl <;> rfl
theorem cat4 (a b c d : Int) : cat [a, b, c, d] = Pk.encI a ++ Pk.encI b ++ Pk.encI c ++ Pk.encI d := by simp [cat]
set_option maxHeartbeats 6400000 in
theorem refbytes_any (w : World) (d : Nat) (p : S) (fp : Nat → Prop) (L : Led DLineT w d p fp) : Calls Try.prog 55 #[.pointer (some ⟨d, 0, none⟩)] w fun e w' => e = .returned (.string (str (bts p 200))) ∧ Below w.heap.size w w' := by
  obtain ⟨v, D, -, -, -⟩ := L.at_
  replace D := Lib.hid D
  have O := Lib.hid L.ok
  clear L
  have st : Hid (AcBy w p (.string (str [])) (.int .i64 0) w) := ⟨0, rfl, rfl, by omega, Below.refl _ _⟩
  go_enter Try.func55, Try.ntmps55
  go_wp2_with fail
  go_loopw [3, 4] (fun s i wr => AcBy w p s i wr) (fun _ i _ => 6 - (intOf i).toNat)
  case atStart => exact st.out
  case round =>
    clear st
    obtain ⟨k, rfl, rfl, hk, be⟩ := hrel
    by_cases h6 : k < 6
    · have D2 := D.out.below be
      have c0 := D2.acc k (by omega)
      have bd := O.out.bds (k := (k : Int)) (by omega) (by omega)
      obtain ⟨y, hy⟩ : ∃ y, y = p.a (k : Int) := ⟨_, rfl⟩
      rw [← hy] at c0 bd
      obtain ⟨b1, e1⟩ : ∃ b, b = Pk.encI y := ⟨_, rfl⟩
      have iy := i_of bd.1 bd.2
      have l1 : b1.length ≤ 10 := by rw [e1]; exact Pk.encI_len _ iy.1 iy.2
      have C1 := Lib.hid (int_at y b1 iy e1 wr)
      obtain ⟨s, hs⟩ : ∃ s, s = cat ((acs p.a).take k) := ⟨_, rfl⟩
      have ls : s.length ≤ 60 := by
        rw [hs]
        have := cat_len ((acs p.a).take k) fun z hz => by have := acs_bds O.out z (List.mem_of_mem_take hz); omega
        have hl : ((acs p.a).take k).length ≤ 6 := by rw [List.length_take]; show min k 6 ≤ 6; omega
        omega
      obtain ⟨s1, f1⟩ : ∃ x, x = s ++ b1 := ⟨_, rfl⟩
      have F : Hid (cat ((acs p.a).take (k + 1)) = s1) := by unfold Hid; rw [cat_snoc (acs_at p.a h6), f1, hs, e1, hy]
      have a1 := str_add s b1 (by omega)
      have q1 := size_add2 (a := s) (b := b1) (by omega)
      have t1 := str_cat s b1
      rw [← f1] at a1 t1
      rw [← hs]
      have i1 : (k : Int) < 6 := by omega
      have i0 : (0 : Int) ≤ (k : Int) := by omega
      replace be := Lib.hid be
      clear D2 bd hy e1 iy l1 hs ls f1
      go_wp2_with fail
      refine C1.out.mono ?_
      rintro e w2 ⟨rfl, h2⟩
      have nx : Hid (AcBy w p (.string (str s1)) (.int .i64 ((k + 1 : Nat) : Int)) w2) := ⟨k + 1, by rw [F.out], rfl, by omega, be.out.trans (h2.mono be.out.size)⟩
      clear C1 h2 c0 be
      go_wp2
      exact ⟨nx.out, by simp [intOf]; omega⟩
    · obtain rfl : k = 6 := by omega
      obtain ⟨s1, f1⟩ : ∃ x, x = bts p 0 := ⟨_, rfl⟩
      have e6 : cat ((acs p.a).take 6) = s1 := by rw [f1]; rfl
      rw [e6]
      have st : Hid (DyAt w p (.string (str s1)) (.int .i64 1) wr) := ⟨0, by rw [f1], rfl, by omega, be⟩
      clear be f1 e6
      go_wp2_with fail
      go_loopw [3, 5] (fun s i wr => DyAt w p s i wr) (fun _ i _ => 201 - (intOf i).toNat)
      case atStart => exact st.out
      case round =>
        clear st
        obtain ⟨k, rfl, rfl, hk, be⟩ := hrel
        have D2 := D.out.below be
        obtain ⟨s, hs⟩ : ∃ s, s = bts p k := ⟨_, rfl⟩
        have ls : s.length ≤ 8060 := by rw [hs]; have := bts_len O.out hk; omega
        rw [← hs]
        by_cases hk2 : k < 200
        · have i1 : (k : Int) + 1 ≤ 200 := by omega
          have c0 := D2.st (k := k + 1) (by omega)
          have c1 := D2.z1 (k := k + 1) (by omega)
          have c2 := D2.z2 (k := k + 1) (by omega)
          have c3 := D2.cu (k := k + 1) (by omega)
          have c4 := D2.am (k := k + 1) (by omega)
          have e1 : ((k + 1 : Nat) : Int) = (k : Int) + 1 := by omega
          have bd := (O.out.shp ((k : Int) + 1)).bds
          rw [e1] at c0 c3 c4
          have hb : bts p (k + 1) = if pre (p.f ((k : Int) + 1)) = true then bts p k ++ one p.f ((k : Int) + 1) else bts p k := rfl
          unfold one at hb
          rw [← hs] at hb
          obtain ⟨⟨st, cu, am⟩, hE⟩ : ∃ E, E = p.f ((k : Int) + 1) := ⟨_, rfl⟩
          rw [← hE] at c0 c3 c4 hb bd
          have hp : pre ⟨st, cu, am⟩ = !decide (st = 0) := rfl
          simp only at c0 c3 c4 hb bd
          obtain ⟨W, hW⟩ : ∃ W, W = wr.alloc (.cells #[.int .i64 st, .int .i64 0, .int .i64 0, .int .i64 cu, .int .i64 am] 41) := ⟨_, rfl⟩
          have bW : Hid (Below w.heap.size w W) := by rw [hW]; exact be.alloc be.size _
          have hB : Hid (W.heap[wr.heap.size]? = some (.cells #[.int .i64 st, .int .i64 0, .int .i64 0, .int .i64 cu, .int .i64 am] 41 (0, 0))) := by rw [hW]; exact heap_alloc_new _ _
          replace hW := Lib.hid hW
          clear D2 be hE e1
          go_upto_region 10 with fail
          rw [← hW.out]
          by_cases g : st = 0
          · have gb : (st == 0) = true := by simpa using g
            have x0 : W.cell? ⟨wr.heap.size, 0, none⟩ = some (.int .i64 st) := one_at hB.out
            rw [hp, decide_eq_true g] at hb
            simp only [Bool.not_true, Bool.false_eq_true, if_false] at hb
            have nx : Hid (DyAt w p (.string (str s)) (.int .i64 ((k : Int) + 1 + 1)) W) := ⟨k + 1, by rw [hb], by simp, by omega, bW.out⟩
            clear hb hs hp g
            go_wp2
            exact ⟨nx.out, by simp [intOf]; omega⟩
          · have gb : (st == 0) = false := by simpa using g
            rw [hp, decide_eq_false g] at hb
            simp only [Bool.not_false, if_true] at hb
            obtain ⟨d0, d1, d2, d3, d4, d5⟩ := bd
            have B1 : Cs.I ((k : Int) + 1) := i_of (by omega) (by omega)
            have B2 : Cs.I st := i_of (by omega) (by omega)
            have B3 : Cs.I cu := i_of (by omega) (by omega)
            have B4 : Cs.I am := i_of (by omega) (by omega)
            rw [cat4] at hb
            obtain ⟨b1, e1⟩ : ∃ b, b = Pk.encI ((k : Int) + 1) := ⟨_, rfl⟩
            obtain ⟨b2, e2⟩ : ∃ b, b = Pk.encI st := ⟨_, rfl⟩
            obtain ⟨b3, e3⟩ : ∃ b, b = Pk.encI cu := ⟨_, rfl⟩
            obtain ⟨b4, e4⟩ : ∃ b, b = Pk.encI am := ⟨_, rfl⟩
            have l1 : b1.length ≤ 10 := by rw [e1]; exact Pk.encI_len _ B1.1 B1.2
            have l2 : b2.length ≤ 10 := by rw [e2]; exact Pk.encI_len _ B2.1 B2.2
            have l3 : b3.length ≤ 10 := by rw [e3]; exact Pk.encI_len _ B3.1 B3.2
            have l4 : b4.length ≤ 10 := by rw [e4]; exact Pk.encI_len _ B4.1 B4.2
            have C1 := int_of _ b1 B1 e1 W
            have C2 := int_of _ b2 B2 e2 W
            have C3 := int_of _ b3 B3 e3 W
            have C4 := int_of _ b4 B4 e4 W
            rw [← e1, ← e2, ← e3, ← e4] at hb
            clear e1 e2 e3 e4 B1 B2 B3 B4 d0 d1 d2 d3 d4 d5
            obtain ⟨s1, f1⟩ : ∃ x, x = s ++ b1 := ⟨_, rfl⟩
            obtain ⟨s2, f2⟩ : ∃ x, x = s1 ++ b2 := ⟨_, rfl⟩
            obtain ⟨s3, f3⟩ : ∃ x, x = s2 ++ b3 := ⟨_, rfl⟩
            obtain ⟨s4, f4⟩ : ∃ x, x = s3 ++ b4 := ⟨_, rfl⟩
            have F : Hid (bts p (k + 1) = s4) := by unfold Hid; rw [hb, f4, f3, f2, f1]; simp
            have m1 : s1.length ≤ 8070 := by rw [f1, List.length_append]; omega
            have m2 : s2.length ≤ 8080 := by rw [f2, List.length_append]; omega
            have m3 : s3.length ≤ 8090 := by rw [f3, List.length_append]; omega
            have a1 := str_add s b1 (by omega)
            have a2 := str_add s1 b2 (by omega)
            have a3 := str_add s2 b3 (by omega)
            have a4 := str_add s3 b4 (by omega)
            have q1 := size_add2 (a := s) (b := b1) (by omega)
            have q2 := size_add2 (a := s1) (b := b2) (by omega)
            have q3 := size_add2 (a := s2) (b := b3) (by omega)
            have q4 := size_add2 (a := s3) (b := b4) (by omega)
            have t1 := str_cat s b1
            have t2 := str_cat s1 b2
            have t3 := str_cat s2 b3
            have t4 := str_cat s3 b4
            rw [← f1] at a1 t1
            rw [← f2] at a2 t2
            rw [← f3] at a3 t3
            rw [← f4] at a4 t4
            have x0 : W.cell? ⟨wr.heap.size, 0, none⟩ = some (.int .i64 st) := one_at hB.out
            have z0 := cell_regrown x0
            have z1 := cell_regrown (show W.cell? ⟨wr.heap.size, 3, none⟩ = some (.int .i64 cu) from one_at hB.out)
            have z2 := cell_regrown (show W.cell? ⟨wr.heap.size, 4, none⟩ = some (.int .i64 am) from one_at hB.out)
            have hk3 : Hid (k + 1 ≤ 200) := by unfold Hid; omega
            clear f1 f2 f3 f4 m1 m2 m3 l1 l2 l3 l4 ls hb hs hp g c0 c1 c2 c3 c4 hk hk2
            go_upto_region 11 with fail
            refine wp_region_quiet_below (by kernel_rfl) (by kernel_rfl) ?_
            repeat (go_big_quiet_step (first | with_reducible exact C1 _ _ | with_reducible exact C2 _ _ | with_reducible exact C3 _ _ | with_reducible exact C4 _ _))
            refine wpQuiet_nil ?_
            intro w2 hw'
            obtain ⟨⟨dq, osq⟩, hw''⟩ := hw'
            have be2 : Hid (RowKit.Below w.heap.size w w2) := by rw [hw'']; exact bW.out.trans ((below_regrown W dq osq).mono bW.out.size)
            have nx : Hid (DyAt w p (.string (str s4)) (.int .i64 ((k : Int) + 1 + 1)) w2) := ⟨k + 1, by rw [F.out], by simp, hk3.out, be2.out⟩
            clear hw'' z0 z1 z2 C1 C2 C3 C4 x0
            go_wp2_with fail
            exact ⟨nx.out, by
              have h3 : k + 1 ≤ 200 := hk3.out
              simp [intOf]
              omega⟩
        · have i1 : ¬ (k : Int) + 1 ≤ 200 := by omega
          have EX : Hid (bts p 200 = s ∧ Below w.heap.size w wr) := by
            obtain rfl : k = 200 := by omega
            exact ⟨hs.symm, be⟩
          clear hs ls D2 be
          go_wp2
          go_ret
          rw [EX.out.1]
          exact ⟨rfl, EX.out.2⟩
end Pu
end Go.Proofs.Ytchlbkfkecpodaa
