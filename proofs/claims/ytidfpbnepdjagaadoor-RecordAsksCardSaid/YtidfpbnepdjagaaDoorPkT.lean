/- The document's own reader: its Int. -/
import Derived.Test.YtidfpbnepdjagaaDoorPkS
import Derived.Test.YtidfpbnepdjagaaDoorPk9
import Derived.Lib.QuietBelow
namespace Go.Proofs.YtidfpbnepdjagaaDoor
open Go.RowKit Go.Sort
namespace Pk

theorem grown_of_below {w w' : World} {r : Option Nat} (hb : Below w.heap.size w w') : w.grownBy w' r := ⟨hb.os, hb.tape, hb.output, hb.size, fun k hk _ => hb.block k hk⟩
theorem rx_put {w w2 : World} {p : Nat} {bs bs' : List UInt8} (h1 : w.heap[p]? = some (.cells #[.string (str bs), .bool false] 72 (0, 0))) (hb : Below w.heap.size w w2) (hl : bs'.length ≤ 400) :
    RxTo w p (some bs') (w2.setCell ⟨p, 0, none⟩ (.string (str bs'))) :=
  ⟨⟨bs', false, one_set ((hb.block p (lt_some h1)).trans h1) _, hl, rfl⟩, grown_trans (grown_of_below hb) (grown_set _ _ _ _)⟩
theorem rx_from {w w2 w' : World} {p : Nat} {s : St} (hb : Below w.heap.size w w2) (h : RxTo w2 p s w') : RxTo w p s w' := ⟨h.rx, grown_trans (grown_of_below hb) h.gr⟩

set_option maxHeartbeats 32000000 in
set_option maxRecDepth 100000 in
theorem xint (p : Nat) (w : World) (s : St) (lo hi : Int) (h : Rx w p s) : Calls Tryd.prog 36 #[.pointer (some ⟨p, 0, none⟩), .int .i64 lo, .int .i64 hi] w fun e w' => e = .returned (.int .i64 (rInt lo hi s).1) ∧ RxTo w p (rInt lo hi s).2 w' := by
  have hh := Lib.hid h
  obtain ⟨bs, f, h1, h2, h3⟩ := h
  have c0 : w.cell? ⟨p, 0, none⟩ = some (.string (str bs)) := one_at h1
  have c1 : w.cell? ⟨p, 1, none⟩ = some (.bool f) := one_at h1
  have f0 : w.frozen? ⟨p, 0, none⟩ = false := one_free h1
  cases f with
  | true =>
    obtain rfl : s = none := h3
    have X := Lib.hid (xwrong p w none hh.out)
    clear h1
    go_enter Tryd.func36, Tryd.ntmps36
    go_wp2
    refine wp_loop_rounds 1 ?_
    rw [rounds_succ]
    by_cases hz : 0 < (str bs).size
    all_goals
      go_wp2_with (go_at_call 67; ((with_reducible refine X.out.mono ?_); rintro e w' ⟨rfl, hr⟩))
      go_ret
      exact ⟨rfl, hr⟩
  | false =>
    obtain rfl : s = some bs := h3
    obtain ⟨S, hS⟩ : ∃ S, S = str bs := ⟨_, rfl⟩
    have hsz : S.size = bs.length := by rw [hS, str_size]
    have hget : Hid (∀ k (h : k < S.size), bs[k]? = some S[k]) := by
      intro k h
      subst hS
      have : k < bs.length := by omega
      rw [List.getElem?_eq_getElem this]
      rfl
    rw [← hS] at c0
    have hsb : S.size ≤ 400 := by omega
    replace hS := Lib.hid hS
    replace hsz := Lib.hid hsz
    have X := Lib.hid (xwrong p w (some bs) hh.out)
    have XN := Lib.hid (fun n => xwrong p (w.drewN n) (some bs) (hh.out.drewN n))
    have hpl := Lib.hid (lt_some h1)
    replace h1 := Lib.hid h1
    clear h2
    go_enter Tryd.func36, Tryd.ntmps36
    go_wp2
    go_loop [7, 8] (fun u i => XAt bs u i) (fun _ i => 10 - (intOf i).toNat)
    case atStart => exact ⟨0, 0, rfl, rfl, by omega, by omega, by omega, rfl, by omega⟩
    case round =>
      obtain ⟨k, x, rfl, rfl, hk, hkl, hx, hdec, hten⟩ := hrel
      replace hx := Lib.hid hx
      replace hdec := Lib.hid hdec
      replace hten := Lib.hid hten
      have hks : k ≤ S.size := by have := hsz.out; omega
      clear hkl
      by_cases hlt : k < 10
      · by_cases hin : k < S.size
        · obtain ⟨c, hc⟩ : ∃ c, c = S[k] := ⟨_, rfl⟩
          have hck : Hid (bs[k]? = some c) := by rw [hc]; exact hget.out k hin
          have hcb := c.toNat_lt
          have r0 : (S[k].toNat : Int) = (c.toNat : Int) := by rw [hc]
          clear hc
          by_cases h9 : k = 9 ∧ 1 < c.toNat
          · obtain ⟨rfl, hc1⟩ := h9
            have E : Hid (rInt lo hi (some bs) = (0, none)) := rInt_none (.inr ⟨bs, rfl, by rw [hdec.out, drop_at hck.out, dec, if_pos ⟨rfl, hc1⟩]⟩)
            go_wp2_with (go_at_call 67; ((with_reducible refine X.out.mono ?_); rintro e w' ⟨rfl, hr⟩))
            go_ret
            rw [E.out]
            exact ⟨rfl, hr⟩
          · by_cases h128 : 128 ≤ c.toNat
            · have hk9 : ((k : Int) == 9) = false := by simpa using (fun e => h9 ⟨by omega, by omega⟩)
              have r1 := grpx k x c (by omega) hx.out (by omega)
              go_wp2
              exact ⟨x_next hck.out hdec.out hlt (by omega) h128 hx.out rfl, by simp [intOf]; omega⟩
            · obtain ⟨y, hy⟩ : ∃ y, y = x + c.toNat % 128 * 128 ^ k := ⟨_, rfl⟩
              have hyb : y < 18446744073709551616 := by rw [hy]; exact step_bd (by omega) hx.out (by omega) (by omega)
              by_cases hk9 : k = 9
              · have hk9' : ((k : Int) == 9) = true := by rw [hk9]; rfl
                have hc1 : ¬ 1 < c.toNat := fun h => h9 ⟨hk9, h⟩
                have hc2 : ¬ (1 : Int) < (c.toNat : Int) := by omega
                have r1 := grpx k x c (by omega) hx.out (by omega)
                rw [← hy] at r1
                replace hk9 := Lib.hid hk9
                have h128b : c.toNat < 128 := by omega
                obtain ⟨vv, hvv⟩ : ∃ vv : Int, vv = uz y := ⟨_, rfl⟩
                have hvb := uz_bd y hyb
                rw [← hvv] at hvb
                obtain ⟨hv1, hv2⟩ := hvb
                have OUT : Hid (vv < lo ∨ hi < vv → rInt lo hi (some bs) = (0, none)) := fun h => x_out hck.out hdec.out h9 h128b hy (by rw [← hvv]; exact h)
                have YES : Hid (k = 0 ∨ c.toNat ≠ 0 → ¬ vv < lo → ¬ hi < vv → rInt lo hi (some bs) = (vv, some (bs.drop (k + 1))) ∧ encI vv = bs.take (k + 1)) := fun hz a b => by
                  rw [hvv] at a b ⊢
                  exact x_yes hck.out hdec.out h9 h128b hy hz a b
                have NO : Hid (¬ (k = 0 ∨ c.toNat ≠ 0) → rInt lo hi (some bs) = (0, none) ∧ encI vv ≠ bs.take (k + 1)) := fun hz => by
                  rw [hvv]
                  exact x_no hck.out hdec.out h9 h128b hy hyb hz
                replace hy := Lib.hid hy
                replace h9 := Lib.hid h9
                rcases Nat.mod_two_eq_zero_or_one y with hp | hp
                all_goals
                  first
                    | (have r2 : bits .and .u64 (y : Int) 1 = 0 := by (rw [and1_64 y hyb, hp]; rfl)
                       have r3 : ((y : Int) / 2) = vv := by (rw [hvv]; exact uz_even hp))
                    | (have r2 : bits .and .u64 (y : Int) 1 = 1 := by (rw [and1_64 y hyb, hp]; rfl)
                       have r3 : bits .xor .i64 (-1) ((y : Int) / 2) = vv := by (rw [hvv]; exact uz_odd hp hyb))
                  replace hp := Lib.hid hp
                  replace hvv := Lib.hid hvv
                  by_cases a : vv < lo
                  · have E := Lib.hid (OUT.out (.inl a))
                    go_wp2_with fail
                    go_quiet (fail)
                    go_wp2_with (go_at_call 67; ((with_reducible refine (XN.out _).mono ?_); rintro e w' ⟨rfl, hr⟩))
                    go_ret
                    rw [E.out]
                    exact ⟨rfl, rx_drewN hr⟩
                  by_cases b : hi < vv
                  · have E := Lib.hid (OUT.out (.inr b))
                    have b2 : decide (hi < vv) = true := by simpa using b
                    replace b := Lib.hid b
                    replace a := Lib.hid a
                    have a2 : decide (vv < lo) = false := by simpa using a.out
                    go_wp2_with fail
                    go_quiet (fail)
                    go_wp2_with (go_at_call 67; ((with_reducible refine (XN.out _).mono ?_); rintro e w' ⟨rfl, hr⟩))
                    go_ret
                    rw [E.out]
                    exact ⟨rfl, rx_drewN hr⟩
                  obtain ⟨m, hm⟩ : ∃ m, m = k + 1 := ⟨_, rfl⟩
                  have hw1 : IntKind.i64.wrap ((k : Int) + 1) = (m : Int) := by rw [IntKind.wrap_i64]; omega
                  have hm1 : m ≤ S.size := by omega
                  have t1 : S.extract 0 m = str (bs.take (k + 1)) := by rw [hS.out, hm]; exact str_take bs (k + 1)
                  have t2 : S.extract m S.size = str (bs.drop (k + 1)) := by rw [hS.out, hm]; exact str_drop bs (k + 1)
                  have t3 : S.extract (k + 1) S.size = str (bs.drop (k + 1)) := by rw [hS.out]; exact str_drop bs (k + 1)
                  replace hm := Lib.hid hm
                  by_cases hz : k = 0 ∨ c.toNat ≠ 0
                  · obtain ⟨E, F⟩ := YES.out hz a b
                    replace E := Lib.hid E
                    replace hz := Lib.hid hz
                    have Q : Hid (∀ w1, Calls Tryd.prog 25 #[.int .i64 vv] w1 (RefTo w1 (bs.take (k + 1)))) := fun w1 => by rw [← F]; exact refint w1 vv hv1 hv2
                    clear F
                    have k0 := cell_regrown c0
                    have cI : ∀ d os, Calls Tryd.prog 25 #[.int .i64 vv] (grow (redrawn w d) os) fun e w'' => e = .returned (.string (str (bs.take (k + 1)))) ∧ ∃ q : Regrown, w'' = grow (redrawn w q.d) q.os := fun d os => Calls.regrown_of (Q.out _)
                    go_wp2_with fail
                    refine wp_region_quiet_below (by kernel_rfl) (by kernel_rfl) ?_
                    clear c0
                    repeat (quiet_step (exact cI _ _))
                    refine wpQuiet_nil ?_
                    intro w2 hw'
                    obtain ⟨⟨dq, osq⟩, hw''⟩ := hw'
                    have gb : Hid (Below w.heap.size w w2) := by rw [hw'']; exact below_regrown w dq osq
                    have c0 : w2.cell? ⟨p, 0, none⟩ = some (.string S) := by rw [hw'']; exact k0 dq osq
                    have f0b : w2.frozen? ⟨p, 0, none⟩ = false := (gb.out.frozen (p := ⟨p, 0, none⟩) hpl.out).trans f0
                    clear k0 cI hw'' dq osq
                    have fin : Hid (RxTo w p (some (bs.drop (k + 1))) (w2.setCell ⟨p, 0, none⟩ (.string (str (bs.drop (k + 1)))))) := rx_put h1.out gb.out (by have := hsz.out; rw [List.length_drop]; omega)
                    go_wp2
                    go_ret
                    rw [E.out]
                    exact ⟨rfl, fin.out⟩
                  · obtain ⟨E, F⟩ := NO.out hz
                    replace E := Lib.hid E
                    replace hz := Lib.hid hz
                    have Q : Hid (∀ w1, Calls Tryd.prog 25 #[.int .i64 vv] w1 (RefTo w1 (encI vv))) := fun w1 => refint w1 vv hv1 hv2
                    have hne : ((str (encI vv)).toList == (str (bs.take (k + 1))).toList) = false := by rw [str_toList, str_toList]; simpa using F
                    clear F
                    have k0 := cell_regrown c0
                    have cI : ∀ d os, Calls Tryd.prog 25 #[.int .i64 vv] (grow (redrawn w d) os) fun e w'' => e = .returned (.string (str (encI vv))) ∧ ∃ q : Regrown, w'' = grow (redrawn w q.d) q.os := fun d os => Calls.regrown_of (Q.out _)
                    go_wp2_with fail
                    refine wp_region_quiet_below (by kernel_rfl) (by kernel_rfl) ?_
                    clear c0
                    repeat (quiet_step (exact cI _ _))
                    refine wpQuiet_nil ?_
                    intro w2 hw'
                    obtain ⟨⟨dq, osq⟩, hw''⟩ := hw'
                    have gb : Hid (Below w.heap.size w w2) := by rw [hw'']; exact below_regrown w dq osq
                    have c0 : w2.cell? ⟨p, 0, none⟩ = some (.string S) := by rw [hw'']; exact k0 dq osq
                    have f0b : w2.frozen? ⟨p, 0, none⟩ = false := (gb.out.frozen (p := ⟨p, 0, none⟩) hpl.out).trans f0
                    clear k0 cI hw'' dq osq
                    have XW : Hid (Calls Tryd.prog 67 #[.pointer (some ⟨p, 0, none⟩)] w2 fun e w' => e = .returned (.tuple #[]) ∧ RxTo w p none w') := (xwrong p w2 (some bs) (hh.out.same (gb.out.block p hpl.out))).mono fun e w' h => ⟨h.1, rx_from gb.out h.2⟩
                    go_wp2_with (go_at_call 67; ((with_reducible refine XW.out.mono ?_); rintro e w' ⟨rfl, hr⟩))
                    go_ret
                    rw [E.out]
                    exact ⟨rfl, hr⟩
              · have hk9' : ((k : Int) == 9) = false := by simpa using (show ¬ ((k : Int) = 9) by omega)
                have r1 := grpx k x c (by omega) hx.out (by omega)
                rw [← hy] at r1
                have h128b : c.toNat < 128 := by omega
                obtain ⟨vv, hvv⟩ : ∃ vv : Int, vv = uz y := ⟨_, rfl⟩
                have hvb := uz_bd y hyb
                rw [← hvv] at hvb
                obtain ⟨hv1, hv2⟩ := hvb
                have OUT : Hid (vv < lo ∨ hi < vv → rInt lo hi (some bs) = (0, none)) := fun h => x_out hck.out hdec.out h9 h128b hy (by rw [← hvv]; exact h)
                have YES : Hid (k = 0 ∨ c.toNat ≠ 0 → ¬ vv < lo → ¬ hi < vv → rInt lo hi (some bs) = (vv, some (bs.drop (k + 1))) ∧ encI vv = bs.take (k + 1)) := fun hz a b => by
                  rw [hvv] at a b ⊢
                  exact x_yes hck.out hdec.out h9 h128b hy hz a b
                have NO : Hid (¬ (k = 0 ∨ c.toNat ≠ 0) → rInt lo hi (some bs) = (0, none) ∧ encI vv ≠ bs.take (k + 1)) := fun hz => by
                  rw [hvv]
                  exact x_no hck.out hdec.out h9 h128b hy hyb hz
                replace hy := Lib.hid hy
                replace h9 := Lib.hid h9
                rcases Nat.mod_two_eq_zero_or_one y with hp | hp
                all_goals
                  first
                    | (have r2 : bits .and .u64 (y : Int) 1 = 0 := by (rw [and1_64 y hyb, hp]; rfl)
                       have r3 : ((y : Int) / 2) = vv := by (rw [hvv]; exact uz_even hp))
                    | (have r2 : bits .and .u64 (y : Int) 1 = 1 := by (rw [and1_64 y hyb, hp]; rfl)
                       have r3 : bits .xor .i64 (-1) ((y : Int) / 2) = vv := by (rw [hvv]; exact uz_odd hp hyb))
                  replace hp := Lib.hid hp
                  replace hvv := Lib.hid hvv
                  by_cases a : vv < lo
                  · have E := Lib.hid (OUT.out (.inl a))
                    go_wp2_with fail
                    go_quiet (fail)
                    go_wp2_with (go_at_call 67; ((with_reducible refine (XN.out _).mono ?_); rintro e w' ⟨rfl, hr⟩))
                    go_ret
                    rw [E.out]
                    exact ⟨rfl, rx_drewN hr⟩
                  by_cases b : hi < vv
                  · have E := Lib.hid (OUT.out (.inr b))
                    have b2 : decide (hi < vv) = true := by simpa using b
                    replace b := Lib.hid b
                    replace a := Lib.hid a
                    have a2 : decide (vv < lo) = false := by simpa using a.out
                    go_wp2_with fail
                    go_quiet (fail)
                    go_wp2_with (go_at_call 67; ((with_reducible refine (XN.out _).mono ?_); rintro e w' ⟨rfl, hr⟩))
                    go_ret
                    rw [E.out]
                    exact ⟨rfl, rx_drewN hr⟩
                  obtain ⟨m, hm⟩ : ∃ m, m = k + 1 := ⟨_, rfl⟩
                  have hw1 : IntKind.i64.wrap ((k : Int) + 1) = (m : Int) := by rw [IntKind.wrap_i64]; omega
                  have hm1 : m ≤ S.size := by omega
                  have t1 : S.extract 0 m = str (bs.take (k + 1)) := by rw [hS.out, hm]; exact str_take bs (k + 1)
                  have t2 : S.extract m S.size = str (bs.drop (k + 1)) := by rw [hS.out, hm]; exact str_drop bs (k + 1)
                  have t3 : S.extract (k + 1) S.size = str (bs.drop (k + 1)) := by rw [hS.out]; exact str_drop bs (k + 1)
                  replace hm := Lib.hid hm
                  by_cases hz : k = 0 ∨ c.toNat ≠ 0
                  · obtain ⟨E, F⟩ := YES.out hz a b
                    replace E := Lib.hid E
                    replace hz := Lib.hid hz
                    have Q : Hid (∀ w1, Calls Tryd.prog 25 #[.int .i64 vv] w1 (RefTo w1 (bs.take (k + 1)))) := fun w1 => by rw [← F]; exact refint w1 vv hv1 hv2
                    clear F
                    have k0 := cell_regrown c0
                    have cI : ∀ d os, Calls Tryd.prog 25 #[.int .i64 vv] (grow (redrawn w d) os) fun e w'' => e = .returned (.string (str (bs.take (k + 1)))) ∧ ∃ q : Regrown, w'' = grow (redrawn w q.d) q.os := fun d os => Calls.regrown_of (Q.out _)
                    go_wp2_with fail
                    refine wp_region_quiet_below (by kernel_rfl) (by kernel_rfl) ?_
                    clear c0
                    repeat (quiet_step (exact cI _ _))
                    refine wpQuiet_nil ?_
                    intro w2 hw'
                    obtain ⟨⟨dq, osq⟩, hw''⟩ := hw'
                    have gb : Hid (Below w.heap.size w w2) := by rw [hw'']; exact below_regrown w dq osq
                    have c0 : w2.cell? ⟨p, 0, none⟩ = some (.string S) := by rw [hw'']; exact k0 dq osq
                    have f0b : w2.frozen? ⟨p, 0, none⟩ = false := (gb.out.frozen (p := ⟨p, 0, none⟩) hpl.out).trans f0
                    clear k0 cI hw'' dq osq
                    have fin : Hid (RxTo w p (some (bs.drop (k + 1))) (w2.setCell ⟨p, 0, none⟩ (.string (str (bs.drop (k + 1)))))) := rx_put h1.out gb.out (by have := hsz.out; rw [List.length_drop]; omega)
                    go_wp2
                    go_ret
                    rw [E.out]
                    exact ⟨rfl, fin.out⟩
                  · obtain ⟨E, F⟩ := NO.out hz
                    replace E := Lib.hid E
                    replace hz := Lib.hid hz
                    have Q : Hid (∀ w1, Calls Tryd.prog 25 #[.int .i64 vv] w1 (RefTo w1 (encI vv))) := fun w1 => refint w1 vv hv1 hv2
                    have hne : ((str (encI vv)).toList == (str (bs.take (k + 1))).toList) = false := by rw [str_toList, str_toList]; simpa using F
                    clear F
                    have k0 := cell_regrown c0
                    have cI : ∀ d os, Calls Tryd.prog 25 #[.int .i64 vv] (grow (redrawn w d) os) fun e w'' => e = .returned (.string (str (encI vv))) ∧ ∃ q : Regrown, w'' = grow (redrawn w q.d) q.os := fun d os => Calls.regrown_of (Q.out _)
                    go_wp2_with fail
                    refine wp_region_quiet_below (by kernel_rfl) (by kernel_rfl) ?_
                    clear c0
                    repeat (quiet_step (exact cI _ _))
                    refine wpQuiet_nil ?_
                    intro w2 hw'
                    obtain ⟨⟨dq, osq⟩, hw''⟩ := hw'
                    have gb : Hid (Below w.heap.size w w2) := by rw [hw'']; exact below_regrown w dq osq
                    have c0 : w2.cell? ⟨p, 0, none⟩ = some (.string S) := by rw [hw'']; exact k0 dq osq
                    have f0b : w2.frozen? ⟨p, 0, none⟩ = false := (gb.out.frozen (p := ⟨p, 0, none⟩) hpl.out).trans f0
                    clear k0 cI hw'' dq osq
                    have XW : Hid (Calls Tryd.prog 67 #[.pointer (some ⟨p, 0, none⟩)] w2 fun e w' => e = .returned (.tuple #[]) ∧ RxTo w p none w') := (xwrong p w2 (some bs) (hh.out.same (gb.out.block p hpl.out))).mono fun e w' h => ⟨h.1, rx_from gb.out h.2⟩
                    go_wp2_with (go_at_call 67; ((with_reducible refine XW.out.mono ?_); rintro e w' ⟨rfl, hr⟩))
                    go_ret
                    rw [E.out]
                    exact ⟨rfl, hr⟩
        · have hkl : k = S.size := by omega
          have E : Hid (rInt lo hi (some bs) = (0, none)) := rInt_none (.inr ⟨bs, rfl, by rw [hdec.out, List.drop_of_length_le (by have := hsz.out; omega)]; rfl⟩)
          go_wp2_with (go_at_call 67; ((with_reducible refine X.out.mono ?_); rintro e w' ⟨rfl, hr⟩))
          go_ret
          rw [E.out]
          exact ⟨rfl, hr⟩
      · have E : Hid (rInt lo hi (some bs) = (0, none)) := rInt_none (.inr ⟨bs, rfl, hten.out (by omega)⟩)
        go_wp2_with (go_at_call 67; ((with_reducible refine X.out.mono ?_); rintro e w' ⟨rfl, hr⟩))
        go_ret
        rw [E.out]
        exact ⟨rfl, hr⟩
end Pk
end Go.Proofs.YtidfpbnepdjagaaDoor
