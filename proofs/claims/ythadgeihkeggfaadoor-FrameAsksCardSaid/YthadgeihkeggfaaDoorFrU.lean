/- The document's own One. -/
import Derived.Test.YthadgeihkeggfaaDoorFrR
namespace Go.Proofs.YthadgeihkeggfaaDoor
open Go.RowKit
open Go.Sort
open Go.Proofs.YthadgeihkeggfaaDoor.Pk
namespace Fr

theorem i64_or_nat (a b : Nat) (ha : a < 9223372036854775808) (hb : b < 9223372036854775808) (hab : a ||| b < 9223372036854775808) : bits .or .i64 (a : Int) (b : Int) = ((a ||| b : Nat) : Int) := by
  have h1 : (BitVec.ofInt 64 (a : Int)).toNat = a := by rw [BitVec.ofInt_natCast, BitVec.toNat_ofNat]; exact Nat.mod_eq_of_lt (by omega)
  have h2 : (BitVec.ofInt 64 (b : Int)).toNat = b := by rw [BitVec.ofInt_natCast, BitVec.toNat_ofNat]; exact Nat.mod_eq_of_lt (by omega)
  show IntKind.i64.wrap ((BitVec.ofInt 64 (a : Int) ||| BitVec.ofInt 64 (b : Int)).toNat : Int) = _
  rw [BitVec.toNat_or, h1, h2, IntKind.wrap_i64]
  omega
theorem or_two (c d : UInt8) : bits .or .i64 (c.toNat : Int) ((d.toNat : Int) * 256) = ((num [c, d] : Nat) : Int) := by
  have hc := c.toNat_lt
  have hd := d.toNat_lt
  have e : (d.toNat : Int) * 256 = ((d.toNat * 256 : Nat) : Int) := by omega
  have hj : c.toNat ||| d.toNat * 256 = c.toNat + d.toNat * 256 := by
    have := Nat.two_pow_add_eq_or_of_lt (i := 8) (b := c.toNat) hc d.toNat
    rw [Nat.or_comm, Nat.mul_comm d.toNat 256, ← this, Nat.add_comm]
  rw [e, i64_or_nat _ _ (by omega) (by omega) (by rw [hj]; omega), hj]
  show _ = ((c.toNat + 256 * (d.toNat + 256 * 0) : Nat) : Int)
  omega
theorem str_mid (bs : List UInt8) (a b : Nat) : (str bs).extract a b = str ((bs.drop a).take (b - a)) := by
  apply ByteArray.ext
  apply Array.toList_inj.1
  simp [str]

theorem rone_low (w : World) (bs : List UInt8) (at_ : Int) (h : at_ < 0) : Calls Tryd.prog 14 #[.string (str bs), .int .i64 at_] w fun e w' => e = .returned (.tuple #[.string (str []), .int .i64 (-1)]) ∧ w = w' := by
  have es : str [] = ⟨#[]⟩ := rfl
  go_enter Tryd.func14, Tryd.ntmps14
  go_wp2
  go_ret2
  exact ⟨rfl, rfl⟩
theorem rone_high (w : World) (bs : List UInt8) (at_ : Int) (h0 : 0 ≤ at_) (_hx : at_ ≤ 9223372036854775807) (_hn : bs.length ≤ 9223372036854775807) (h : (bs.length : Int) - at_ < 6) : Calls Tryd.prog 14 #[.string (str bs), .int .i64 at_] w fun e w' => e = .returned (.tuple #[.string (str []), .int .i64 (-1)]) ∧ w = w' := by
  obtain ⟨S, hS⟩ : ∃ S, S = str bs := ⟨_, rfl⟩
  have hsz : S.size = bs.length := by rw [hS, str_size]
  rw [← hsz] at h _hn
  rw [← hS]
  clear hS hsz
  by_cases hq : (S.size : Int) < at_
  · go_enter Tryd.func14, Tryd.ntmps14
    go_wp2
    go_ret2
    exact ⟨rfl, rfl⟩
  · have d : decide ((S.size : Int) - at_ < 6) = true := by simpa using h
    go_enter Tryd.func14, Tryd.ntmps14
    go_wp2
    go_ret2
    exact ⟨rfl, rfl⟩

set_option maxHeartbeats 1600000 in
set_option maxRecDepth 100000 in
theorem rone_mid (w : World) (bs : List UInt8) (p : Nat) (h6 : p + 6 ≤ bs.length) (hn : bs.length ≤ 1000000) :
    Calls Tryd.prog 14 #[.string (str bs), .int .i64 p] w fun e w' => RowKit.Below w.heap.size w w' ∧ ((one (bs.drop p) = none ∧ e = .returned (.tuple #[.string (str []), .int .i64 (-1)])) ∨ (∃ r, one (bs.drop p) = some r ∧ e = .returned (.tuple #[.string (str r), .int .i64 ((p : Int) + 6 + (r.length : Int))]))) := by
  obtain ⟨S, hS⟩ : ∃ S, S = str bs := ⟨_, rfl⟩
  have hsz : S.size = bs.length := by rw [hS, str_size]
  rw [← hsz] at h6 hn
  rw [← hS]
  have i4 : p + 4 < S.size := by omega
  have i5 : p + 5 < S.size := by omega
  obtain ⟨c4, hc4⟩ : ∃ c, c = S[p + 4] := ⟨_, rfl⟩
  obtain ⟨c5, hc5⟩ : ∃ c, c = S[p + 5] := ⟨_, rfl⟩
  have b4 := c4.toNat_lt
  have b5 := c5.toNat_lt
  have g4 : ((S[p + 4]).toNat : Int) = (c4.toNat : Int) := by rw [← hc4]
  have g5 : ((S[p + 5]).toNat : Int) = (c5.toNat : Int) := by rw [← hc5]
  have ho := or_two c4 c5
  replace hS := Lib.hid hS
  replace hsz := Lib.hid hsz
  replace hc4 := Lib.hid hc4
  replace hc5 := Lib.hid hc5
  have j4 : (p : Int) + 4 < (S.size : Int) := by omega
  have j5 : (p : Int) + 5 < (S.size : Int) := by omega
  have k4 : 0 ≤ (p : Int) + 4 := by omega
  have k5 : 0 ≤ (p : Int) + 5 := by omega
  go_enter Tryd.func14, Tryd.ntmps14
  go_wp2_with fail
  go_quiet (fail)
  have b1 : Hid (RowKit.Below w.heap.size w (w.drewN nq)) := ⟨rfl, rfl, rfl, Nat.le_refl _, fun _ _ => rfl⟩
  generalize w.drewN nq = w1 at *
  obtain ⟨L, hL⟩ : ∃ L, L = num [c4, c5] := ⟨_, rfl⟩
  rw [← hL]
  have hL2 : L < 65536 := by rw [hL]; exact num_lt [c4, c5]
  have hL3 : Hid (L = num ((bs.drop (p + 4)).take 2)) := by
    have e : (bs.drop (p + 4)).take 2 = [c4, c5] := by
      have hl : bs.length = S.size := hsz.out.symm
      have e4 : bs[p + 4]? = some c4 := by rw [hc4.out]; have := hS.out; subst this; rw [List.getElem?_eq_getElem (by omega)]; rfl
      have e5 : bs[p + 5]? = some c5 := by rw [hc5.out]; have := hS.out; subst this; rw [List.getElem?_eq_getElem (by omega)]; rfl
      obtain ⟨l4, q4⟩ := List.getElem?_eq_some_iff.1 e4
      obtain ⟨l5, q5⟩ := List.getElem?_eq_some_iff.1 e5
      rw [List.drop_eq_getElem_cons l4, List.drop_eq_getElem_cons l5, q4, q5]
      rfl
    show L = _
    rw [e]; exact hL
  clear hL g4 g5 ho hc4 hc5 b4 b5
  have e0 : Hid (str [] = ⟨#[]⟩) := rfl
  have B : Hid (L < 1 ∨ 1000 < L ∨ S.size - (p + 6) < L → one (bs.drop p) = none) := fun hq => one_bad hsz.out.symm hL3.out hq
  by_cases q1 : L < 1
  · have b := Lib.hid (B.out (.inl q1))
    go_wp2
    go_ret2
    exact ⟨b1.out, .inl ⟨b.out, rfl⟩⟩
  by_cases q2 : 1000 < L
  · have b := Lib.hid (B.out (.inr (.inl q2)))
    go_wp2
    go_ret2
    exact ⟨b1.out, .inl ⟨b.out, rfl⟩⟩
  by_cases q3 : S.size - (p + 6) < L
  · have b := Lib.hid (B.out (.inr (.inr q3)))
    have d : decide ((S.size : Int) - p - 6 < L) = true := by simpa using (show (S.size : Int) - p - 6 < L by omega)
    go_wp2
    go_ret2
    exact ⟨b1.out, .inl ⟨b.out, rfl⟩⟩
  obtain ⟨r, hr⟩ : ∃ r, r = (bs.drop (p + 6)).take L := ⟨_, rfl⟩
  obtain ⟨f, hf⟩ : ∃ f, f = (bs.drop p).take (6 + L) := ⟨_, rfl⟩
  have d : decide ((S.size : Int) - p - 6 < L) = false := by simpa using (show ¬ (S.size : Int) - p - 6 < L by omega)
  have x1 : S.extract (p + 6) (p + 6 + L) = str r := by rw [hS.out, str_mid bs _ _, hr]; congr 2; omega
  have x2 : S.extract p (p + 6 + L) = str f := by rw [hS.out, str_mid bs _ _, hf]; congr 2; omega
  obtain ⟨s1, s2, s3⟩ := one_sum (s := num ((bs.drop p).take 4)) hsz.out.symm h6 rfl hL3.out hr (by omega) (by omega) (by omega)
  have hfr : Hid (frame r = f ↔ sumOf r = num ((bs.drop p).take 4)) := by
    constructor
    · intro e
      have e4 : (bs.drop p).take 4 = le 4 (sumOf r) := by
        have : f.take 4 = (bs.drop p).take 4 := by rw [hf, List.take_take, Nat.min_eq_left (by omega)]
        rw [← this, ← e]
        unfold frame
        rw [List.take_left' (le_len 4 _)]
      rw [e4, num_le 4 _ (by have := sum_lt r; omega)]
    · intro e
      have h1 := one_is (s2 e)
      rw [hf, h1, List.take_left' (by rw [frame_len, s3]; omega)]
  have s3' : Hid (r.length = L) := s3
  have hr1 : 1 ≤ r.length := by rw [s3]; omega
  have hr2 : r.length ≤ 1000 := by rw [s3]; omega
  have Q : Hid (∀ w2, Calls Tryd.prog 10 #[.string (str r)] w2 fun e w' => e = .returned (.string (str (frame r))) ∧ RowKit.Below w2.heap.size w2 w') := fun w2 => rframe w2 r hr1 hr2
  clear hr hf s3 hr1 hr2 B hL3
  by_cases q4 : frame r = f
  · have s2' := Lib.hid (s2 (hfr.out.1 q4))
    rw [q4] at Q
    have cF : ∀ d os, Calls Tryd.prog 10 #[.string (str r)] (grow (redrawn w1 d) os) fun e w'' => e = .returned (.string (str f)) ∧ ∃ q : Regrown, w'' = grow (redrawn w1 q.d) q.os := fun d os => Calls.regrown_of (Q.out _)
    clear s1 s2 q4 Q
    go_wp2_with fail
    refine wp_region_quiet_below (by kernel_rfl) (by kernel_rfl) ?_
    repeat (go_big_quiet_step (with_reducible exact cF _ _))
    refine wpQuiet_nil ?_
    intro w2 hw'
    obtain ⟨⟨dq, osq⟩, hw2⟩ := hw'
    have b2 : Hid (RowKit.Below w.heap.size w w2) := by rw [hw2]; exact b1.out.trans ((below_regrown w1 dq osq).mono b1.out.size)
    clear hw2 cF
    go_wp2
    go_ret2
    exact ⟨b2.out, .inr ⟨r, s2'.out, by rw [s3'.out, ← x1]; rfl⟩⟩
  · have s1' := Lib.hid (s1 (fun e => q4 (hfr.out.2 e)))
    have hne : ((str (frame r)).toList == (str f).toList) = false := by rw [str_toList, str_toList]; simpa using q4
    have cF : ∀ d os, Calls Tryd.prog 10 #[.string (str r)] (grow (redrawn w1 d) os) fun e w'' => e = .returned (.string (str (frame r))) ∧ ∃ q : Regrown, w'' = grow (redrawn w1 q.d) q.os := fun d os => Calls.regrown_of (Q.out _)
    clear s1 s2 q4 Q
    go_wp2_with fail
    refine wp_region_quiet_below (by kernel_rfl) (by kernel_rfl) ?_
    repeat (go_big_quiet_step (with_reducible exact cF _ _))
    refine wpQuiet_nil ?_
    intro w2 hw'
    obtain ⟨⟨dq, osq⟩, hw2⟩ := hw'
    have b2 : Hid (RowKit.Below w.heap.size w w2) := by rw [hw2]; exact b1.out.trans ((below_regrown w1 dq osq).mono b1.out.size)
    clear hw2 cF
    go_wp2
    go_ret2
    exact ⟨b2.out, .inl ⟨s1'.out, rfl⟩⟩

/-- What the document's One does. -/
theorem rone_any (w : World) (bs : List UInt8) (at_ : Int) (hx : at_ ≤ 9223372036854775807) (hn : bs.length ≤ 1000000) :
    Calls Tryd.prog 14 #[.string (str bs), .int .i64 at_] w fun e w' => RowKit.Below w.heap.size w w' ∧ ((oneAt bs at_ = none ∧ e = .returned (.tuple #[.string (str []), .int .i64 (-1)])) ∨ (∃ r, oneAt bs at_ = some r ∧ e = .returned (.tuple #[.string (str r), .int .i64 (at_ + 6 + (r.length : Int))]))) := by
  by_cases h0 : at_ < 0
  · exact (rone_low w bs at_ h0).mono fun e w' ⟨h1, h2⟩ => ⟨by rw [← h2]; exact RowKit.Below.refl _ _, .inl ⟨oneAt_out (.inl h0), h1⟩⟩
  · by_cases h6 : (bs.length : Int) - at_ < 6
    · exact (rone_high w bs at_ (by omega) hx (by omega) h6).mono fun e w' ⟨h1, h2⟩ => ⟨by rw [← h2]; exact RowKit.Below.refl _ _, .inl ⟨oneAt_out (.inr h6), h1⟩⟩
    · obtain ⟨p, rfl⟩ := Int.eq_ofNat_of_zero_le (show 0 ≤ at_ by omega)
      have e := oneAt_nat (bs := bs) (p := p) (by omega)
      rw [e]
      exact rone_mid w bs p (by omega) hn
end Fr
end Go.Proofs.YthadgeihkeggfaaDoor
