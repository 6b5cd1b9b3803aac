/- The Reader's numbers: groups of seven bits, one form, within their bounds. -/
import Derived.Test.YtidfpbnepdjagaaDoorPk1
import Derived.Laws.DeepNot64
namespace Go.Proofs.YtidfpbnepdjagaaDoor
open Go.RowKit
namespace Pk

theorem wrap64_small (x : Int) (h1 : -9223372036854775808 ≤ x) (h2 : x ≤ 9223372036854775807) : wrap64 x = x := IntWalk.wrap64_in x ⟨h1, h2⟩
theorem xor_i64_zero (x : Nat) (h : x < 9223372036854775808) : bits .xor .i64 (x : Int) 0 = x := by
  have h1 : (BitVec.ofInt 64 (x : Int)).toNat = x := by rw [BitVec.ofInt_natCast, BitVec.toNat_ofNat]; exact Nat.mod_eq_of_lt (by omega)
  show IntKind.i64.wrap ((BitVec.ofInt 64 (x : Int) ^^^ BitVec.ofInt 64 0).toNat : Int) = _
  rw [BitVec.toNat_xor, h1, show (BitVec.ofInt 64 0).toNat = 0 from rfl, Nat.xor_zero, IntKind.wrap_i64]
  omega
theorem unfold_eq (u : Nat) (h : u < 18446744073709551616) : bits .xor .i64 ((u : Int) / 2) (wrap64 (-wrap64 (bits .and .u64 (u : Int) 1))) = uz u := by
  have e1 : bits .and .u64 (u : Int) 1 = ((u % 2 : Nat) : Int) := by
    have := u64_and_nat u 1 h (by omega)
    rw [Nat.and_one_is_mod] at this
    exact this
  rw [e1, wrap64_small ((u % 2 : Nat) : Int) (by omega) (by omega), wrap64_small (-((u % 2 : Nat) : Int)) (by omega) (by omega)]
  unfold uz
  rcases Nat.mod_two_eq_zero_or_one u with e | e
  · rw [e, if_pos rfl]
    have := xor_i64_zero (u / 2) (by omega)
    simpa using this
  · rw [e, if_neg (by omega)]
    have := i64_not (u / 2) (by omega)
    have hc : bits .xor .i64 ((u : Int) / 2) (-1) = bits .xor .i64 (-1) ((u : Int) / 2) := by simp only [bits, BitVec.xor_comm]
    show bits .xor .i64 ((u : Int) / 2) (-1) = _
    rw [hc]
    have d : ((u : Int) / 2) = ((u / 2 : Nat) : Int) := by omega
    rw [d, this]; omega

theorem ret_i64 {a b : Int} (h : a = b) : Ending.returned (.int .i64 a) = .returned (.int .i64 b) := by rw [h]
set_option maxHeartbeats 400000 in
theorem unfold_any (u : Nat) (w : World) (h2 : u < 18446744073709551616) :
    Calls Tryd.prog 75 #[.int .u64 u] w fun e w' => e = .returned (.int .i64 (uz u)) ∧ w = w' := by
  go_enter Tryd.func75, Tryd.ntmps75
  go_wp2
  go_ret
  exact ⟨ret_i64 (unfold_eq u h2), rfl⟩

theorem and127 (c : UInt8) : bits .and .u8 (c.toNat : Int) 127 = ((c.toNat % 128 : Nat) : Int) := by
  have h := u8_and_nat c.toNat 127 (c.toNat_lt) (by omega)
  have e : c.toNat &&& 127 = c.toNat % 128 := Nat.and_two_pow_sub_one_eq_mod c.toNat 7
  rw [e] at h
  exact h
theorem pow_le9 {k : Nat} (hk : k ≤ 9) : 128 ^ k ≤ 9223372036854775808 := by
  have h : (128 : Nat) ^ k ≤ 128 ^ 9 := Nat.pow_le_pow_right (by omega) hk
  have p9 : (128 : Nat) ^ 9 = 9223372036854775808 := by decide
  omega
theorem or_join (k x y : Nat) (hk : k ≤ 9) (hx : x < 128 ^ k) (hb : y * 128 ^ k < 18446744073709551616) : bits .or .u64 (x : Int) ((y * 128 ^ k : Nat) : Int) = ((x + y * 128 ^ k : Nat) : Int) := by
  have p7 : (128 : Nat) ^ k = 2 ^ (7 * k) := by rw [Nat.pow_mul]
  have h9 := pow_le9 hk
  rw [u64_or_nat x _ (by omega) hb]
  have := Nat.two_pow_add_eq_or_of_lt (i := 7 * k) (b := x) (by rw [← p7]; exact hx) y
  rw [p7, Nat.mul_comm y, Nat.or_comm, ← this, Nat.add_comm]
theorem step_bd {k x y : Nat} (hk : k ≤ 9) (hx : x < 128 ^ k) (hy : y < 128) (h9 : ¬ (k = 9 ∧ 1 < y)) : x + y * 128 ^ k < 18446744073709551616 := by
  by_cases e : k = 9
  · subst e
    have p9 : (128 : Nat) ^ 9 = 9223372036854775808 := by decide
    rw [p9] at hx ⊢; omega
  · have h8 : (128 : Nat) ^ k ≤ 128 ^ 8 := Nat.pow_le_pow_right (by omega) (by omega)
    have p8 : (128 : Nat) ^ 8 = 72057594037927936 := by decide
    have : y * 128 ^ k ≤ 127 * 128 ^ k := Nat.mul_le_mul_right _ (by omega)
    omega
theorem wrap_u64_nat {n : Nat} (h : n < 18446744073709551616) : IntKind.u64.wrap (n : Int) = (n : Int) := by rw [IntKind.wrap_u64]; omega
theorem wrap_and (c : UInt8) : IntKind.u64.wrap (bits .and .u8 (c.toNat : Int) 127) = ((c.toNat % 128 : Nat) : Int) := by rw [and127, wrap_u64_nat (by omega)]
theorem grp_at (k x : Nat) (c : UInt8) (hk : k ≤ 9) (hx : x < 128 ^ k) (h9 : ¬ (k = 9 ∧ 1 < c.toNat % 128)) :
    bits .or .u64 (x : Int) (IntKind.u64.wrap (IntKind.u64.wrap (bits .and .u8 (c.toNat : Int) 127) * 2 ^ (7 * k))) = ((x + c.toNat % 128 * 128 ^ k : Nat) : Int) := by
  have hb := step_bd (y := c.toNat % 128) hk hx (by omega) h9
  have p7 : (2 : Int) ^ (7 * k) = ((128 ^ k : Nat) : Int) := by
    have : (128 : Nat) ^ k = 2 ^ (7 * k) := by rw [Nat.pow_mul]
    rw [this]; norm_cast
  rw [wrap_and, p7, show ((c.toNat % 128 : Nat) : Int) * ((128 ^ k : Nat) : Int) = ((c.toNat % 128 * 128 ^ k : Nat) : Int) by norm_cast, wrap_u64_nat (by omega), or_join k x _ hk hx (by omega)]
theorem grp_at0 (x : Nat) (c : UInt8) (hx : x < 128 ^ 0) :
    bits .or .u64 (x : Int) (IntKind.u64.wrap (IntKind.u64.wrap (bits .and .u8 (c.toNat : Int) 127))) = ((x + c.toNat % 128 * 128 ^ 0 : Nat) : Int) := by
  have := grp_at 0 x c (by omega) hx (by omega)
  simpa using this
theorem grp_at9 (x : Nat) (c : UInt8) (hx : x < 128 ^ 9) (h9 : ¬ 1 < c.toNat % 128) :
    bits .or .u64 (x : Int) (IntKind.u64.wrap (IntKind.u64.wrap (bits .and .u8 (c.toNat : Int) 127) * 9223372036854775808)) = ((x + c.toNat % 128 * 128 ^ 9 : Nat) : Int) := by
  have := grp_at 9 x c (by omega) hx (by omega)
  exact this
/-- What groups answers. -/
def Grp (w : World) (p : Nat) (s : St) (e : Ending) (w' : World) : Prop :=
  ∃ (u : Nat) (ok : Bool) (s' : St), e = .returned (.tuple #[.int .u64 u, .bool ok]) ∧ u < 18446744073709551616 ∧ RdTo w p s' w' ∧
    ((ok = true ∧ ∃ l r, s = some l ∧ s' = some r ∧ dec 0 0 l = some (u, r)) ∨ (ok = false ∧ (s = none ∨ ∃ l, s = some l ∧ dec 0 0 l = none)))

def GrpAt (w : World) (p : Nat) (l : List UInt8) (i u : Value) (wr : World) : Prop :=
  ∃ (k x : Nat) (l' : List UInt8), i = .int .i64 k ∧ u = .int .u64 x ∧ k ≤ 10 ∧ x < 128 ^ k ∧ RdTo w p (some l') wr ∧ dec 0 0 l = dec k x l' ∧ (k = 10 → dec 0 0 l = none)

theorem u8_ne0 (c : UInt8) : ((c.toNat : Int) != 0) = !decide (c.toNat = 0) := by rw [Bool.eq_iff_iff]; simp
theorem grp_end {w wr w' : World} {p k x : Nat} {l t : List UInt8} {c : UInt8} {v : Int} {b : Bool} (hdec : dec 0 0 l = dec k x (c :: t)) (hk : k ≤ 9) (h9 : ¬ (k = 9 ∧ 1 < c.toNat)) (hc : c.toNat < 128) (hx : x < 128 ^ k)
    (hrd : RdTo w p (some (c :: t)) wr) (hr : RdTo wr p (some t) w') (hb : b = decide (k = 0 ∨ c.toNat ≠ 0)) (hv : v = ((x + c.toNat % 128 * 128 ^ k : Nat) : Int)) :
    Grp w p (some l) (.returned (.tuple #[.int .u64 v, .bool b])) w' := by
  have e : c.toNat % 128 = c.toNat := Nat.mod_eq_of_lt hc
  rw [e] at hv
  subst hv
  refine ⟨x + c.toNat * 128 ^ k, b, some t, rfl, step_bd hk hx hc h9, hrd.trans hr, ?_⟩
  rw [dec, if_neg h9, if_pos hc] at hdec
  subst hb
  by_cases h : k = 0 ∨ c.toNat ≠ 0
  · rw [if_pos h] at hdec
    exact .inl ⟨by simpa using h, l, t, rfl, rfl, hdec⟩
  · rw [if_neg h] at hdec
    exact .inr ⟨by simpa using h, .inr ⟨l, rfl, hdec⟩⟩
theorem grp_next {w wr w' : World} {p k x : Nat} {l t : List UInt8} {c : UInt8} {v : Int} (hdec : dec 0 0 l = dec k x (c :: t)) (hk : k ≤ 9) (h9 : ¬ k = 9) (hc : ¬ c.toNat < 128) (hx : x < 128 ^ k)
    (hrd : RdTo w p (some (c :: t)) wr) (hr : RdTo wr p (some t) w') (hv : v = ((x + c.toNat % 128 * 128 ^ k : Nat) : Int)) :
    GrpAt w p l (.int .i64 ((k : Int) + 1)) (.int .u64 v) w' := by
  subst hv
  refine ⟨k + 1, _, t, by simp, rfl, by omega, ?_, hrd.trans hr, ?_, by omega⟩
  · have : c.toNat % 128 * 128 ^ k ≤ 127 * 128 ^ k := Nat.mul_le_mul_right _ (by omega)
    rw [Nat.pow_succ]; omega
  · rw [hdec, dec, if_neg (by omega), if_neg hc]

set_option maxHeartbeats 800000 in
theorem groups_none (p : Nat) (w : World) (h : Rd w p none) :
    Calls Tryd.prog 74 #[.pointer (some ⟨p, 0, none⟩)] w (Grp w p none) := by
  have H : Grp w p none (.returned (.tuple #[.int .u64 0, .bool false])) w := ⟨0, false, none, rfl, by omega, ⟨h, grown_refl _ _⟩, .inr ⟨rfl, .inl rfl⟩⟩
  have HH := Lib.hid H
  have h' := Lib.hid h
  clear H h
  go_enter Tryd.func74, Tryd.ntmps74
  go_wp2
  refine wp_loop_rounds 1 ?_
  rw [rounds_succ]
  go_wp2_with (go_at_call 78; ((with_reducible refine (take_wrong p _ 1 h'.out).mono ?_); rintro e w' ⟨rfl, rfl⟩))
  go_ret2
  exact HH.out

set_option maxHeartbeats 800000 in
set_option maxRecDepth 100000 in
theorem groups_some (p : Nat) (w : World) (l : List UInt8) (h : Rd w p (some l)) :
    Calls Tryd.prog 74 #[.pointer (some ⟨p, 0, none⟩)] w (Grp w p (some l)) := by
  go_enter Tryd.func74, Tryd.ntmps74
  go_wp2
  go_loopw [8, 4] (fun i u wr => GrpAt w p l i u wr) (fun i _ _ => 10 - (intOf i).toNat)
  case atStart => exact ⟨0, 0, l, rfl, rfl, by omega, by omega, ⟨h, grown_refl _ _⟩, rfl, by omega⟩
  case round =>
    obtain ⟨k, x, l', rfl, rfl, hk, hx, hrd, hdec, hten⟩ := hrel
    have hx' := Lib.hid hx
    have hdec' := Lib.hid hdec
    have hten' := Lib.hid hten
    have hrd' := Lib.hid hrd
    clear hx hdec hten hrd
    by_cases hlt : k < 10
    · rcases l' with _ | ⟨c, t⟩
      · go_wp2_with (go_at_call 78; go_loud ((with_reducible refine (take1_past p wr hrd'.out.rd).mono ?_); rintro e w' ⟨rfl, hr⟩))
        go_ret2
        exact ⟨0, false, _, rfl, by omega, hrd'.out.trans hr, .inr ⟨rfl, .inr ⟨l, rfl, by rw [hdec'.out]; rfl⟩⟩⟩
      · have hb := c.toNat_lt
        by_cases h9 : k = 9 ∧ 1 < c.toNat
        · obtain ⟨rfl, hc1⟩ := h9
          go_wp2_with (go_at_call 78; ((with_reducible refine (take1_ok p wr c t hrd'.out.rd).mono ?_); rintro e w' ⟨ad, cc, rfl, hq1, hq2, hq3, hr⟩))
          go_ret2
          exact ⟨0, false, _, rfl, by omega, hrd'.out.trans hr, .inr ⟨rfl, .inr ⟨l, rfl, by rw [hdec'.out, dec, if_pos ⟨rfl, hc1⟩]⟩⟩⟩
        · by_cases hc : c.toNat < 128
          · by_cases hk0 : k = 0
            · subst hk0
              go_wp2_with (go_at_call 78; ((with_reducible refine (take1_ok p wr c t hrd'.out.rd).mono ?_); rintro e w' ⟨ad, cc, rfl, hq1, hq2, hq3, hr⟩))
              go_quiet (fail)
              go_wp2
              go_ret2
              exact grp_end hdec'.out (by omega) h9 hc hx'.out hrd'.out (hr.drewN nq) (by simp) (grp_at0 x c hx'.out)
            · by_cases hk9 : k = 9
              · subst hk9
                have hc1 : c.toNat ≤ 1 := by omega
                go_wp2_with (go_at_call 78; ((with_reducible refine (take1_ok p wr c t hrd'.out.rd).mono ?_); rintro e w' ⟨ad, cc, rfl, hq1, hq2, hq3, hr⟩))
                go_quiet (fail)
                go_wp2
                go_ret2
                exact grp_end hdec'.out (by omega) (by omega) hc hx'.out hrd'.out (hr.drewN nq) (by simp [u8_ne0]) (grp_at9 x c hx'.out (by omega))
              · have hd : ((k : Int) == 0) = false := by simpa using hk0
                have hd' : decide ((k : Int) = 0) = false := by simpa using hk0
                go_wp2_with (go_at_call 78; ((with_reducible refine (take1_ok p wr c t hrd'.out.rd).mono ?_); rintro e w' ⟨ad, cc, rfl, hq1, hq2, hq3, hr⟩))
                go_quiet (fail)
                go_wp2
                go_ret2
                exact grp_end hdec'.out (by omega) h9 hc hx'.out hrd'.out (hr.drewN nq) (by simp [hk0, u8_ne0]) (grp_at k x c (by omega) hx'.out (by omega))
          · have hk9 : ¬ k = 9 := by omega
            go_wp2_with (go_at_call 78; ((with_reducible refine (take1_ok p wr c t hrd'.out.rd).mono ?_); rintro e w' ⟨ad, cc, rfl, hq1, hq2, hq3, hr⟩))
            go_roundw
            case rel => exact grp_next hdec'.out (by omega) hk9 hc hx'.out hrd'.out hr (grp_at k x c (by omega) hx'.out (by omega))
            case measure => simp [intOf]; omega
    · go_wp2
      go_ret2
      exact ⟨0, false, _, rfl, by omega, hrd'.out, .inr ⟨rfl, .inr ⟨l, rfl, hten'.out (by omega)⟩⟩⟩
end Pk
end Go.Proofs.YtidfpbnepdjagaaDoor
