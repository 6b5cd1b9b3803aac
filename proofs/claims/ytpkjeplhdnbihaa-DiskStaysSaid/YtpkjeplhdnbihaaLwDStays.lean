/- Proved: behind a crash what was synced is there, of each file, and a beginning of the rest, as long as was said (DiskStays), for any bytes, any number. -/
import Derived.Test.YtpkjeplhdnbihaaDkP
namespace Go.Proofs.Ytpkjeplhdnbihaa.diskStays
open Go.ChangeShapes Go.WideShapes Go.ChangeAt Go.WideElems Go.RowKit
open Go.ChangeMaps (open_string shut_string)
open Go.Proofs.Ytpkjeplhdnbihaa.Pk Go.Proofs.Ytpkjeplhdnbihaa.Dk

open Go.Sort (grow)
theorem s1 {a : Bs} (h : a.length ≤ 100) : sApp 1000 [] [120] a = (0, [([120], a, 0)]) := by
  rw [app_ok (by decide) (by simp [used, sum]; omega)]
  simp [Dk.look, Dk.put]
theorem s2 {a b : Bs} (h : a.length ≤ 100) (h2 : b.length ≤ 100) : sApp 1000 [([120], a, 0)] [121] b = (0, [([120], a, 0), ([121], b, 0)]) := by
  rw [app_ok (by decide) (by simp [used, sum]; omega)]
  simp [Dk.look, Dk.put, bytesBefore]
theorem s3 (a b : Bs) : sSync [([120], a, 0), ([121], b, 0)] [120] = (0, [([120], a, a.length), ([121], b, 0)]) := by simp [sSync, Dk.look, Dk.put]
theorem s4 (a b : Bs) : sSync [([120], a, a.length), ([121], b, 0)] [121] = (0, [([120], a, a.length), ([121], b, b.length)]) := by simp [sSync, Dk.look, Dk.put, bytesBefore]
theorem s5 {a b c : Bs} (h : a.length ≤ 100) (h2 : b.length ≤ 100) (h3 : c.length ≤ 100) : sApp 1000 [([120], a, a.length), ([121], b, b.length)] [120] c = (0, [([120], a ++ c, a.length), ([121], b, b.length)]) := by
  rw [app_ok (by decide) (by simp [used, sum]; omega)]
  simp [Dk.look, Dk.put]
theorem s6 {a b c e : Bs} (h : a.length ≤ 100) (h2 : b.length ≤ 100) (h3 : c.length ≤ 100) (h4 : e.length ≤ 100) : sApp 1000 [([120], a ++ c, a.length), ([121], b, b.length)] [121] e = (0, [([120], a ++ c, a.length), ([121], b ++ e, b.length)]) := by
  rw [app_ok (by decide) (by simp [used, sum]; omega)]
  simp [Dk.look, Dk.put, bytesBefore]
theorem s7 (keep : Int) (a b c e : Bs) : sCrash keep [([120], a ++ c, a.length), ([121], b ++ e, b.length)] = [([120], a ++ c.take (max 0 (min keep c.length)).toNat, a.length + (max 0 (min keep c.length)).toNat), ([121], b ++ e.take (max 0 (min keep e.length)).toNat, b.length + (max 0 (min keep e.length)).toNat)] := by
  unfold sCrash vals
  simp only [List.map_cons, List.map_nil, cr_app]

set_option maxHeartbeats 6400000 in
set_option maxRecDepth 100000 in
theorem walk (A0 A1 A2 A3 : Option Addr) (n0 n1 n2 n3 c0 c1 c2 c3 : Nat) (a b c e : Bs) (keep : Int) (w : World) (R0 : Rb w (fun g => g < w.heap.size) A0 n0 a) (R1 : Rb w (fun g => g < w.heap.size) A1 n1 b) (R2 : Rb w (fun g => g < w.heap.size) A2 n2 c) (R3 : Rb w (fun g => g < w.heap.size) A3 n3 e)
    (m2 : A2 = none → c2 = 0) (m3 : A3 = none → c3 = 0) (l2 : n2 ≤ c2) (l3 : n3 ≤ c3) (hk1 : -9223372036854775808 ≤ keep) (hk2 : keep ≤ 9223372036854775807) :
    Calls Try.prog 4 #[.slice A0 n0 c0, .slice A1 n1 c1, .slice A2 n2 c2, .slice A3 n3 c3, .int .i64 keep] w fun e w' => e = .returned (.bool true) ∧ Below w.heap.size w w' := by
  have TA := Lib.hid told_any
  have N0 := Lib.hid (l_new w 1000 (by omega) (Below.refl w.heap.size w))
  by_cases hz : n0 ≤ 100 ∧ n1 ≤ 100 ∧ n2 ≤ 100 ∧ n3 ≤ 100
  · obtain ⟨z0, z1, z2, z3⟩ := hz
    have q0 : decide ((100 : Int) < (n0 : Int)) = false := decide_eq_false (by omega)
    have q1 : decide ((100 : Int) < (n1 : Int)) = false := decide_eq_false (by omega)
    have q2 : decide ((100 : Int) < (n2 : Int)) = false := decide_eq_false (by omega)
    have q3 : decide ((100 : Int) < (n3 : Int)) = false := decide_eq_false (by omega)
    have y0 := R0.len
    have y1 := R1.len
    have y2 := R2.len
    have y3 := R3.len
    have S1 := s1 (a := a) (by omega)
    have S2 := s2 (a := a) (b := b) (by omega) (by omega)
    have S5 := s5 (a := a) (b := b) (c := c) (by omega) (by omega) (by omega)
    have S6 := s6 (a := a) (b := b) (c := c) (e := e) (by omega) (by omega) (by omega) (by omega)
    have S7 := s7 keep a b c e
    obtain ⟨m, hm⟩ : ∃ z, z = (max 0 (min keep c.length)).toNat := ⟨_, rfl⟩
    obtain ⟨n, hn⟩ : ∃ z, z = (max 0 (min keep e.length)).toNat := ⟨_, rfl⟩
    have hmI : max 0 (min keep (n2 : Int)) = (m : Int) := by omega
    have hnI : max 0 (min keep (n3 : Int)) = (n : Int) := by omega
    have hm2 : m ≤ n2 := by omega
    have hn3 : n ≤ n3 := by omega
    rw [← hm, ← hn] at S7
    obtain ⟨x, hx⟩ : ∃ z, z = a ++ c.take m := ⟨_, rfl⟩
    obtain ⟨y, hy⟩ : ∃ z, z = b ++ e.take n := ⟨_, rfl⟩
    obtain ⟨lx, hlx⟩ : ∃ z, z = a.length + m := ⟨_, rfl⟩
    obtain ⟨ly, hly⟩ : ∃ z, z = b.length + n := ⟨_, rfl⟩
    have xl : x.length = lx := by rw [hx, hlx, List.length_append, List.length_take]; omega
    have yl : y.length = ly := by rw [hy, hly, List.length_append, List.length_take]; omega
    rw [← hx, ← hy, ← hlx, ← hly] at S7
    have hcx : ∀ w, (Op.stringOp .add (str a) (str (c.take m))).run Try.prog w = .ok (.string (str x)) w := fun w => by rw [str_add a _ (by rw [List.length_take]; omega), hx]
    have hcy : ∀ w, (Op.stringOp .add (str b) (str (e.take n))).run Try.prog w = .ok (.string (str y)) w := fun w => by rw [str_add b _ (by rw [List.length_take]; omega), hy]
    obtain ⟨ct, hct⟩ : ∃ z, z = c.take m := ⟨_, rfl⟩
    obtain ⟨et, het⟩ : ∃ z, z = e.take n := ⟨_, rfl⟩
    have Rc : Hid (Rb w (fun g => g < w.heap.size) A2 m ct) := by rw [hct]; exact R2.take hm2
    have Re : Hid (Rb w (fun g => g < w.heap.size) A3 n et) := by rw [het]; exact R3.take hn3
    rw [← hct] at hcx
    rw [← het] at hcy
    have us : used [([120], x, lx), ([121], y, ly)] = lx + ly := by simp [used, sum, xl, yl]
    have uI : IntKind.i64.wrap ((lx : Int) + (ly : Int)) = ((lx + ly : Nat) : Int) := by rw [IntKind.wrap_i64]; omega
    obtain ⟨u, hu⟩ : ∃ z, z = lx + ly := ⟨_, rfl⟩
    rw [← hu] at us uI
    have sl2 := slice_run A2 n2 c2 m m2 (by omega)
    have sl3 := slice_run A3 n3 c3 n m3 (by omega)
    have LX : Dk.look [120] [([120], x, lx), ([121], y, ly)] = some (x, lx) := by simp [Dk.look]
    have LY : Dk.look [121] [([120], x, lx), ([121], y, ly)] = some (y, ly) := by simp [Dk.look]
    replace S1 := Lib.hid S1
    replace S2 := Lib.hid S2
    replace S5 := Lib.hid S5
    replace S6 := Lib.hid S6
    replace S7 := Lib.hid S7
    replace R0 := Lib.hid R0
    replace R1 := Lib.hid R1
    replace R2 := Lib.hid R2
    replace R3 := Lib.hid R3
    replace xl := Lib.hid xl
    replace yl := Lib.hid yl
    replace us := Lib.hid us
    replace uI := Lib.hid uI
    replace hcx := Lib.hid hcx
    replace hcy := Lib.hid hcy
    replace sl2 := Lib.hid sl2
    replace sl3 := Lib.hid sl3
    replace LX := Lib.hid LX
    replace LY := Lib.hid LY
    replace hmI := Lib.hid hmI
    replace hnI := Lib.hid hnI
    replace z0 := Lib.hid z0
    replace z1 := Lib.hid z1
    replace z2 := Lib.hid z2
    replace z3 := Lib.hid z3
    replace y0 := Lib.hid y0
    replace hk1 := Lib.hid hk1
    replace hk2 := Lib.hid hk2
    clear hm hn hm2 hn3 hx hy hlx hly hct het hu y1 y2 y3 l2 l3 m2 m3
    go_enter Try.func4, Try.ntmps4
    go_wp2_with fail
    refine N0.out.mono ?_
    rintro e w1 ⟨p, rfl, V1⟩
    have C1 := l_append V1 ⟨#[120]⟩ A0 n0 c0 a (V1.rb R0.out) (fun _ h => h) (by have := z0.out; omega) (by simp)
    rw [show nm ⟨#[120]⟩ = [120] from rfl, S1.out] at C1
    replace C1 := Lib.hid C1
    clear N0 V1 S1
    go_wp2_with fail
    refine C1.out.mono ?_
    rintro e w2 ⟨rfl, V2⟩
    have C2 := l_append V2.1 ⟨#[121]⟩ A1 n1 c1 b (V2.1.rb R1.out) (fun _ h => h) (by have := z1.out; omega) (by simp)
    rw [show nm ⟨#[121]⟩ = [121] from rfl, S2.out] at C2
    replace C2 := Lib.hid C2
    clear C1 V2 S2
    go_wp2_with fail
    refine C2.out.mono ?_
    rintro e w3 ⟨rfl, V3⟩
    have C3 := l_sync V3.1 ⟨#[120]⟩ (by decide) (by simp)
    rw [show nm ⟨#[120]⟩ = [120] from rfl, s3] at C3
    replace C3 := Lib.hid C3
    clear C2 V3
    go_wp2_with fail
    refine C3.out.mono ?_
    rintro e w4 ⟨rfl, V4⟩
    have C4 := l_sync V4.1 ⟨#[121]⟩ (by decide) (by simp)
    rw [show nm ⟨#[121]⟩ = [121] from rfl, s4] at C4
    replace C4 := Lib.hid C4
    clear C3 V4
    go_wp2_with fail
    refine C4.out.mono ?_
    rintro e w5 ⟨rfl, V5⟩
    have C5 := l_append V5.1 ⟨#[120]⟩ A2 n2 c2 c (V5.1.rb R2.out) (fun _ h => h) (by have := z2.out; omega) (by simp)
    rw [show nm ⟨#[120]⟩ = [120] from rfl, S5.out] at C5
    replace C5 := Lib.hid C5
    clear C4 V5 S5
    go_wp2_with fail
    refine C5.out.mono ?_
    rintro e w6 ⟨rfl, V6⟩
    have C6 := l_append V6.1 ⟨#[121]⟩ A3 n3 c3 _ (V6.1.rb R3.out) (fun _ h => h) (by have := z3.out; omega) (by simp)
    rw [show nm ⟨#[121]⟩ = [121] from rfl, S6.out] at C6
    replace C6 := Lib.hid C6
    clear C5 V6 S6
    go_wp2_with fail
    refine C6.out.mono ?_
    rintro e w7 ⟨rfl, V7⟩
    have C7 := l_crash V7.1 keep (by simp) hk1.out hk2.out
    rw [S7.out] at C7
    replace C7 := Lib.hid C7
    clear C6 V7 S7
    go_wp2_with fail
    refine C7.out.mono ?_
    rintro e w8 ⟨rfl, V8⟩
    have C8 := l_read V8.1 ⟨#[120]⟩ (by decide)
    rw [show nm ⟨#[120]⟩ = [120] from rfl, LX.out] at C8
    replace C8 := Lib.hid C8
    replace V8 := Lib.hid V8.1
    clear C7 LX
    go_wp2_with fail
    refine C8.out.mono ?_
    rintro e w9 (⟨h, _⟩ | ⟨bs, k, v, h, rfl, ho, b9⟩)
    · cases h
    obtain ⟨rfl, rfl⟩ : bs = x ∧ k = lx := by
      injection h with h
      injection h with h1 h2
      exact ⟨h1.symm, h2.symm⟩
    rw [xl.out] at ho
    obtain ⟨Ap, cp, rfl⟩ := own_form ho
    have P9 : Hid (Rb w9 (fun g => g < w9.heap.size) Ap k bs) := rb_own ho
    have V9 : Hid (Live w w9 p 1000 _ _) := V8.out.below b9
    have C9 := l_read V9.out ⟨#[121]⟩ (by decide)
    rw [show nm ⟨#[121]⟩ = [121] from rfl, LY.out] at C9
    replace C9 := Lib.hid C9
    clear C8 V8 LY h ho b9
    go_wp2_with fail
    refine C9.out.mono ?_
    rintro e wa (⟨h, _⟩ | ⟨bs', k', v, h, rfl, ho, ba⟩)
    · cases h
    obtain ⟨rfl, rfl⟩ : bs' = y ∧ k' = ly := by
      injection h with h
      injection h with h1 h2
      exact ⟨h1.symm, h2.symm⟩
    rw [yl.out] at ho
    obtain ⟨Aq, cq, rfl⟩ := own_form ho
    have Pa : Hid (Rb wa (fun g => g < wa.heap.size) Ap k bs) := rb_below P9.out ba
    have Qa : Hid (Rb wa (fun g => g < wa.heap.size) Aq k' bs') := rb_own ho
    have Va : Hid (Live w wa p 1000 _ _) := V9.out.below ba
    clear C9 V9 P9 h ho ba
    go_wp2
    rw [hmI.out, hnI.out]
    clear q0 q1 q2 q3 hmI hnI
    have t1 := fun d os => str_regrown (c := cp) Pa.out d os
    have t2 := fun d os => str_regrown (c := cq) Qa.out d os
    have t3 := fun d os => str_regrown (c := c0) (Va.out.rb R0.out) d os
    have t4 := fun d os => str_regrown (c := c1) (Va.out.rb R1.out) d os
    have t5 := fun d os => str_regrown (c := c2) (Va.out.rb Rc.out) d os
    have t6 := fun d os => str_regrown (c := c3) (Va.out.rb Re.out) d os
    have sl2' := sl2.out
    have sl3' := sl3.out
    have uI' := uI.out
    have hcx' := hcx.out
    have hcy' := hcy.out
    have Q1 := fun d os => Calls.regrown_of (told_any (grow (redrawn wa d) os))
    have Q2 := fun d os => Calls.regrown_of (l_synced (Va.out.below (below_regrown wa d os)) ⟨#[120]⟩ (by decide))
    have Q3 := fun d os => Calls.regrown_of (used_below (Va.out.below (below_regrown wa d os)))
    rw [us.out] at Q3
    have ls : (Dk.look (nm ⟨#[120]⟩) [([120], bs, k), ([121], bs', k')]).elim 0 (fun a => a.2) = k := by simp [Dk.look, nm]
    rw [ls] at Q2
    clear us uI hcx hcy sl2 sl3 Rc Re R0 R1 R2 R3 Pa Qa xl yl ls TA z0 z1 z2 z3 hk1 hk2 y0
    have be : Hid (Below w.heap.size w wa) := Va.out.be
    clear Va
    refine wp_region_quiet_below (by kernel_rfl) (by kernel_rfl) ?_
    repeat (go_big_quiet_step (first | with_reducible exact Q1 _ _ | with_reducible exact Q2 _ _ | with_reducible exact Q3 _ _))
    refine wpQuiet_nil ?_
    intro w7 hw'
    obtain ⟨⟨dq, osq⟩, hw7⟩ := hw'
    have be7 : Hid (Below w.heap.size w w7) := by rw [hw7]; exact be.out.trans ((below_regrown wa dq osq).mono be.out.size)
    clear hw7
    go_wp2_with fail
    go_ret
    exact ⟨rfl, be7.out⟩
  · have h : 100 < n0 ∨ (n0 ≤ 100 ∧ 100 < n1) ∨ (n0 ≤ 100 ∧ n1 ≤ 100 ∧ 100 < n2) ∨ (n0 ≤ 100 ∧ n1 ≤ 100 ∧ n2 ≤ 100 ∧ 100 < n3) := by omega
    clear R0 R1 R2 R3 m2 m3 l2 l3 hk1 hk2
    rcases h with h | h | h | h
    · have q0 : decide ((100 : Int) < (n0 : Int)) = true := decide_eq_true (by omega)
      clear h hz
      go_enter Try.func4, Try.ntmps4
      go_wp2_with fail
      refine N0.out.mono ?_
      rintro e w1 ⟨p, rfl, V⟩
      replace V := Lib.hid V.be
      go_wp2_with fail
      refine (TA.out _).mono ?_
      rintro e w2 ⟨rfl, hb⟩
      have b2 : Hid (Below w.heap.size w w2) := V.out.trans (hb.mono V.out.size)
      clear hb V
      go_wp2
      go_ret
      exact ⟨rfl, b2.out⟩
    · have q0 : decide ((100 : Int) < (n0 : Int)) = false := decide_eq_false (by omega)
      have q1 : decide ((100 : Int) < (n1 : Int)) = true := decide_eq_true (by omega)
      clear h hz
      go_enter Try.func4, Try.ntmps4
      go_wp2_with fail
      refine N0.out.mono ?_
      rintro e w1 ⟨p, rfl, V⟩
      replace V := Lib.hid V.be
      go_wp2_with fail
      refine (TA.out _).mono ?_
      rintro e w2 ⟨rfl, hb⟩
      have b2 : Hid (Below w.heap.size w w2) := V.out.trans (hb.mono V.out.size)
      clear hb V
      go_wp2
      go_ret
      exact ⟨rfl, b2.out⟩
    · have q0 : decide ((100 : Int) < (n0 : Int)) = false := decide_eq_false (by omega)
      have q1 : decide ((100 : Int) < (n1 : Int)) = false := decide_eq_false (by omega)
      have q2 : decide ((100 : Int) < (n2 : Int)) = true := decide_eq_true (by omega)
      clear h hz
      go_enter Try.func4, Try.ntmps4
      go_wp2_with fail
      refine N0.out.mono ?_
      rintro e w1 ⟨p, rfl, V⟩
      replace V := Lib.hid V.be
      go_wp2_with fail
      refine (TA.out _).mono ?_
      rintro e w2 ⟨rfl, hb⟩
      have b2 : Hid (Below w.heap.size w w2) := V.out.trans (hb.mono V.out.size)
      clear hb V
      go_wp2
      go_ret
      exact ⟨rfl, b2.out⟩
    · have q0 : decide ((100 : Int) < (n0 : Int)) = false := decide_eq_false (by omega)
      have q1 : decide ((100 : Int) < (n1 : Int)) = false := decide_eq_false (by omega)
      have q2 : decide ((100 : Int) < (n2 : Int)) = false := decide_eq_false (by omega)
      have q3 : decide ((100 : Int) < (n3 : Int)) = true := decide_eq_true (by omega)
      clear h hz
      go_enter Try.func4, Try.ntmps4
      go_wp2_with fail
      refine N0.out.mono ?_
      rintro e w1 ⟨p, rfl, V⟩
      replace V := Lib.hid V.be
      go_wp2_with fail
      refine (TA.out _).mono ?_
      rintro e w2 ⟨rfl, hb⟩
      have b2 : Hid (Below w.heap.size w w2) := V.out.trans (hb.mono V.out.size)
      clear hb V
      go_wp2
      go_ret
      exact ⟨rfl, b2.out⟩

theorem walkd {W : World} (v0 : Value) (a0 : Bs) (w0 : Src W v0 a0) (v1 : Value) (a1 : Bs) (w1 : Src W v1 a1) (v2 : Value) (a2 : Bs) (w2 : Src W v2 a2) (v3 : Value) (a3 : Bs) (w3 : Src W v3 a3) (a4 : Int) (w4 : (Lit.int .i64 a4).wf = true) (W' : World) (hW : W' = W) :
    Calls Try.prog 4 #[v0, v1, v2, v3, .int .i64 a4] W' fun e w' => e = .returned (.bool true) ∧ Below W'.heap.size W' w' := by
  subst hW
  obtain ⟨A0, n0, c0, rfl, _, _, _, R0⟩ := w0
  obtain ⟨A1, n1, c1, rfl, _, _, _, R1⟩ := w1
  obtain ⟨A2, n2, c2, rfl, m2, l2, _, R2⟩ := w2
  obtain ⟨A3, n3, c3, rfl, m3, l3, _, R3⟩ := w3
  have hI := bounds_i64 w4
  exact walk A0 A1 A2 A3 n0 n1 n2 n3 c0 c1 c2 c3 a0 a1 a2 a3 a4 W' R0 R1 R2 R3 m2 m3 l2 l3 hI.1 hI.2


/-! The row: every input. -/
set_option linter.unusedVariables false
set_option maxRecDepth 100000 in
theorem lifted (os : Os) (started : os.Started) (H : Type) (enc : TypeId × Value → H) :
    ReturnsInHanded {} Try.checked os 4 .any (Rows.diskStaysSpec.pre6 enc Try.prog Try.f4 Rows.diskStaysRow.domain false) (Rows.diskStaysSpec.post enc Try.prog Try.f4 false true false false) := by
  refine returnsInHanded_of_change (C := Try.checked) own started (by kernel_rfl) Try.func4
    (ChangeSpec.witness6 (enc := enc) (C := Try.checked) false ⟨#[], #[.slice none 0 0, .slice none 0 0, .slice none 0 0, .slice none 0 0, .int .i64 0], []⟩ 8 (by kernel_rfl) (by kernel_rfl) (by kernel_rfl) (by kernel_rfl)) ?_
  intro W base args ds gs before hval0 hW _ _
  have hval : ∀ (j : Nat) t v, Try.f4.params[j]? = some t → args[j]? = some v → Value.okWide Try.prog W .any base t v := hval0
  have hW' := hW
  obtain ⟨p, q, hA0, hV, rfl, hfz, hnd⟩ := hW
  have hA : DataW.TrodAll enc Try.prog W 0 (fun _ => true) true Try.f4.params.toList args.toList ds p := hA0
  rw [Try.params4] at hA hval
  obtain ⟨v0, vs0, d0, ds0, p0, q0, hargs, rfl, rfl, h0, r0⟩ := trodAll_cons hA
  obtain ⟨v1, vs1, d1, ds1, p1, q1, rfl, rfl, rfl, h1, r1⟩ := trodAll_cons r0
  obtain ⟨v2, vs2, d2, ds2, p2, q2, rfl, rfl, rfl, h2, r2⟩ := trodAll_cons r1
  obtain ⟨v3, vs3, d3, ds3, p3, q3, rfl, rfl, rfl, h3, r3⟩ := trodAll_cons r2
  obtain ⟨v4, vs4, d4, ds4, p4, q4, rfl, rfl, rfl, h4, r4⟩ := trodAll_cons r3
  obtain ⟨rfl, rfl, rfl⟩ := trodAll_nil r4
  obtain rfl : args = #[v0, v1, v2, v3, v4] := by cases args; simp_all
  obtain ⟨rfl, rfl⟩ := trodVars_none hV
  obtain ⟨a0, w0⟩ := view_bytes (hval 0 31 v0 rfl rfl) h0
  obtain ⟨a1, w1⟩ := view_bytes (hval 1 31 v1 rfl rfl) h1
  obtain ⟨a2, w2⟩ := view_bytes (hval 2 31 v2 rfl rfl) h2
  obtain ⟨a3, w3⟩ := view_bytes (hval 3 31 v3 rfl rfl) h3
  obtain ⟨a4, rfl, rfl, rfl, w4⟩ := open_int Try.underlying3 (hval 4 3 v4 rfl rfl) h4
  clear hA0 hval0
  simp only [List.append_nil] at hW'
  refine (walkd v0 a0 w0 v1 a1 w1 v2 a2 w2 v3 a3 w3 a4 w4 W rfl).mono fun e W' ⟨he, hb⟩ => ?_
  subst he
  exact ⟨_, rfl, post_below (pa := p0 ++ (p1 ++ (p2 ++ (p3 ++ ([] ++ []))))) (pv := []) hW' (fun _ _ _ => (trodAll_cons_mk (shut_bool Try.underlying4 _) trodAll_mk0)) (fun sp hsp => (trodAll_cons_mk (Trod_stays laidOut (by kernel_rfl) (of_decide_eq_true (by kernel_rfl)) h0 (fun x hx => hb.same (hW'.lt x (by simp [hx]))) (fun x hx => hsp x (by simp [hx]))) (trodAll_cons_mk (Trod_stays laidOut (by kernel_rfl) (of_decide_eq_true (by kernel_rfl)) h1 (fun x hx => hb.same (hW'.lt x (by simp [hx]))) (fun x hx => hsp x (by simp [hx]))) (trodAll_cons_mk (Trod_stays laidOut (by kernel_rfl) (of_decide_eq_true (by kernel_rfl)) h2 (fun x hx => hb.same (hW'.lt x (by simp [hx]))) (fun x hx => hsp x (by simp [hx]))) (trodAll_cons_mk (Trod_stays laidOut (by kernel_rfl) (of_decide_eq_true (by kernel_rfl)) h3 (fun x hx => hb.same (hW'.lt x (by simp [hx]))) (fun x hx => hsp x (by simp [hx]))) (trodAll_cons_mk (shut_int Try.underlying3 w4) trodAll_mk0)))))) (fun _ _ => rfl) (by simp)
    hb (ok_one (by kernel_rfl) rfl (okWide_bool_mk Try.underlying4 _))⟩

theorem proved : Rows.DiskStaysSaid :=
  OpenClaim.holds_of_wide 4 Try.f4 rfl rfl rfl rfl rfl rfl rfl ⟨rfl, rfl, rfl, rfl, rfl⟩ rfl rfl rfl rfl rfl (by kernel_rfl) Try.func4 (by kernel_rfl)
    (of_decide_eq_true (by kernel_rfl)) (by unfold Func.isWrapper; first | (rw [if_pos (by decide +kernel)]; kernel_rfl) | (rw [if_neg (by decide +kernel)]; exact ⟨rfl, rfl⟩))
    (fun os started H enc _ => lifted os started H enc)
#print axioms proved

end Go.Proofs.Ytpkjeplhdnbihaa.diskStays
