/- Proved: what does not fit changes nothing; what fits just so is there (DiskFull), for any room up to 300, any two pieces. -/
import Derived.Test.YtpkjeplhdnbihaaDkP
namespace Go.Proofs.Ytpkjeplhdnbihaa.diskFull
open Go.ChangeShapes Go.WideShapes Go.ChangeAt Go.WideElems Go.RowKit
open Go.ChangeMaps (open_string shut_string)
open Go.Proofs.Ytpkjeplhdnbihaa.Pk Go.Proofs.Ytpkjeplhdnbihaa.Dk

theorem md (k : Int) : ∃ r : Nat, wrap64 ((IntKind.u64.wrap k).tmod 301) = (r : Int) ∧ r ≤ 300 := by
  have hw : 0 ≤ IntKind.u64.wrap k := wrap_u64_nonneg k
  rw [Int.tmod_eq_emod_of_nonneg hw]
  have a1 := Int.emod_nonneg (IntKind.u64.wrap k) (b := 301) (by omega)
  have a2 := Int.emod_lt_of_pos (IntKind.u64.wrap k) (b := 301) (by omega)
  refine ⟨((IntKind.u64.wrap k) % 301).toNat, ?_, by omega⟩
  unfold wrap64
  omega
set_option maxHeartbeats 6400000 in
set_option maxRecDepth 100000 in
theorem walk (room : Int) (A0 A1 : Option Addr) (n0 n1 c0 c1 : Nat) (a b : Bs) (w : World) (R0 : Rb w (fun g => g < w.heap.size) A0 n0 a) (R1 : Rb w (fun g => g < w.heap.size) A1 n1 b) :
    Calls Try.prog 5 #[.int .i64 room, .slice A0 n0 c0, .slice A1 n1 c1] w fun e w' => e = .returned (.bool true) ∧ Below w.heap.size w w' := by
  have TA := Lib.hid told_any
  obtain ⟨r, hK, hr⟩ := md room
  have N0 := Lib.hid (l_new w r (by omega) (Below.refl w.heap.size w))
  have y0 := R0.len
  have y1 := R1.len
  by_cases hz : n0 ≤ 200 ∧ n1 ≤ 200
  · obtain ⟨z0, z1⟩ := hz
    have q0 : decide ((200 : Int) < (n0 : Int)) = false := decide_eq_false (by omega)
    have q1 : decide ((200 : Int) < (n1 : Int)) = false := decide_eq_false (by omega)
    have hAB : (n0 ≤ r ∧ n1 ≤ r - n0) ∨ (n0 ≤ r ∧ ¬ n1 ≤ r - n0) ∨ (¬ n0 ≤ r ∧ n1 ≤ r) ∨ (¬ n0 ≤ r ∧ ¬ n1 ≤ r) := by omega
    rcases hAB with ⟨hA, hB⟩ | ⟨hA, hB⟩ | ⟨hA, hB⟩ | ⟨hA, hB⟩
    · have S1 : sApp r [] [97] a = (0, [([97], a, 0)]) := by
        rw [app_ok (by decide) (by simp [used, sum]; omega)]
        simp [Dk.look, Dk.put]
      have U1 : used [([97], a, 0)] = n0 := by simp [used, sum, y0]
      obtain ⟨u1, hu1⟩ : ∃ z, z = n0 := ⟨_, rfl⟩
      rw [← hu1] at U1
      have S2 : sApp r [([97], a, 0)] [98] b = (0, [([97], a, 0), ([98], b, 0)]) := by
        rw [app_ok (by decide) (by rw [U1]; omega)]
        simp [Dk.look, Dk.put, bytesBefore]
      have U2 : used [([97], a, 0), ([98], b, 0)] ≤ r := by simp [used, sum]; omega
      obtain ⟨u2, hu2⟩ : ∃ z, z = used [([97], a, 0), ([98], b, 0)] := ⟨_, rfl⟩
      rw [← hu2] at U2
      have q2 : decide (n0 ≤ r) = true := decide_eq_true (by omega)
      obtain ⟨t, ht⟩ : ∃ t, t = r - u1 := ⟨_, rfl⟩
      have q3 : wrap64 ((r : Int) - (u1 : Int)) = (t : Int) := by rw [IntWalk.wrap64_in _ (by omega)]; omega
      have q4 : decide (n1 ≤ t) = true := decide_eq_true (by omega)
      have q6 : decide (u2 ≤ r) = true := decide_eq_true (by omega)
      have LB : Dk.look [98] [([97], a, 0), ([98], b, 0)] = some (b, 0) := by simp [Dk.look]
      replace S1 := Lib.hid S1
      replace S2 := Lib.hid S2
      replace U1 := Lib.hid U1
      replace hu2 := Lib.hid hu2
      replace LB := Lib.hid LB
      replace R0 := Lib.hid R0
      replace R1 := Lib.hid R1
      replace hK := Lib.hid hK
      replace z0 := Lib.hid z0
      replace z1 := Lib.hid z1
      clear hu1 U2 ht hr y0 y1 hA hB
      go_enter Try.func5, Try.ntmps5
      go_upto_region 2 with fail
      rw [hK.out]
      clear hK
      go_wp2_with fail
      refine N0.out.mono ?_
      rintro e w1 ⟨p, rfl, V1⟩
      have C1 := l_append V1 ⟨#[97]⟩ A0 n0 c0 a (V1.rb R0.out) (fun _ h => h) (by have := z0.out; omega) (by simp)
      rw [show nm ⟨#[97]⟩ = [97] from rfl, S1.out] at C1
      replace C1 := Lib.hid C1
      clear N0 V1 S1 R0 z0
      go_wp2_with fail
      refine C1.out.mono ?_
      rintro e w2 ⟨rfl, V2⟩
      have C2 := l_used V2.1
      rw [U1.out] at C2
      replace C2 := Lib.hid C2
      replace V2 := Lib.hid V2.1
      clear C1
      go_wp2_with fail
      refine C2.out.mono ?_
      rintro e w3 ⟨rfl, rfl⟩
      have C3 := l_append V2.out ⟨#[98]⟩ A1 n1 c1 b (V2.out.rb R1.out) (fun _ h => h) (by have := z1.out; omega) (by simp)
      rw [show nm ⟨#[98]⟩ = [98] from rfl, S2.out] at C3
      replace C3 := Lib.hid C3
      clear C2 V2 S2 R1 z1
      go_wp2_with fail
      refine C3.out.mono ?_
      rintro e w4 ⟨rfl, V4⟩
      replace V4 := Lib.hid V4.1
      clear C3
      have C5 := l_read V4.out ⟨#[98]⟩ (by decide)
      rw [show nm ⟨#[98]⟩ = [98] from rfl, LB.out] at C5
      replace C5 := Lib.hid C5
      clear LB U1
      go_wp2_with fail
      refine C5.out.mono ?_
      rintro e w6 (⟨h, _⟩ | ⟨bs, k, v, h, rfl, ho, b6⟩)
      · cases h
      obtain ⟨A6, c6, rfl⟩ := own_form ho
      have V6 : Hid (Live w w6 p r _ _) := V4.out.below b6
      clear C5 h ho b6 V4
      go_wp2_with fail
      refine (TA.out _).mono ?_
      rintro e w7 ⟨rfl, b7⟩
      have V7 := V6.out.below b7
      have C7 := l_used V7
      rw [← hu2.out] at C7
      replace C7 := Lib.hid C7
      have be : Hid (Below w.heap.size w w7) := V7.be
      clear V6 V7 b7 TA
      go_wp2_with fail
      refine C7.out.mono ?_
      rintro e w8 ⟨rfl, rfl⟩
      clear C7
      go_wp2
      go_ret
      exact ⟨rfl, be.out⟩
    · have S1 : sApp r [] [97] a = (0, [([97], a, 0)]) := by
        rw [app_ok (by decide) (by simp [used, sum]; omega)]
        simp [Dk.look, Dk.put]
      have U1 : used [([97], a, 0)] = n0 := by simp [used, sum, y0]
      obtain ⟨u1, hu1⟩ : ∃ z, z = n0 := ⟨_, rfl⟩
      rw [← hu1] at U1
      have S2 : sApp r [([97], a, 0)] [98] b = (4, [([97], a, 0)]) := by
        exact app_full (by decide) (by rw [U1]; omega)
      have U2 : used [([97], a, 0)] ≤ r := by simp [used, sum]; omega
      obtain ⟨u2, hu2⟩ : ∃ z, z = used [([97], a, 0)] := ⟨_, rfl⟩
      rw [← hu2] at U2
      have q2 : decide (n0 ≤ r) = true := decide_eq_true (by omega)
      obtain ⟨t, ht⟩ : ∃ t, t = r - u1 := ⟨_, rfl⟩
      have q3 : wrap64 ((r : Int) - (u1 : Int)) = (t : Int) := by rw [IntWalk.wrap64_in _ (by omega)]; omega
      have q4 : decide (n1 ≤ t) = false := decide_eq_false (by omega)
      have q6 : decide (u2 ≤ r) = true := decide_eq_true (by omega)
      have LB : Dk.look [98] [([97], a, 0)] = none := by simp [Dk.look]
      replace S1 := Lib.hid S1
      replace S2 := Lib.hid S2
      replace U1 := Lib.hid U1
      replace hu2 := Lib.hid hu2
      replace LB := Lib.hid LB
      replace R0 := Lib.hid R0
      replace R1 := Lib.hid R1
      replace hK := Lib.hid hK
      replace z0 := Lib.hid z0
      replace z1 := Lib.hid z1
      clear hu1 U2 ht hr y0 y1 hA hB
      go_enter Try.func5, Try.ntmps5
      go_upto_region 2 with fail
      rw [hK.out]
      clear hK
      go_wp2_with fail
      refine N0.out.mono ?_
      rintro e w1 ⟨p, rfl, V1⟩
      have C1 := l_append V1 ⟨#[97]⟩ A0 n0 c0 a (V1.rb R0.out) (fun _ h => h) (by have := z0.out; omega) (by simp)
      rw [show nm ⟨#[97]⟩ = [97] from rfl, S1.out] at C1
      replace C1 := Lib.hid C1
      clear N0 V1 S1 R0 z0
      go_wp2_with fail
      refine C1.out.mono ?_
      rintro e w2 ⟨rfl, V2⟩
      have C2 := l_used V2.1
      rw [U1.out] at C2
      replace C2 := Lib.hid C2
      replace V2 := Lib.hid V2.1
      clear C1
      go_wp2_with fail
      refine C2.out.mono ?_
      rintro e w3 ⟨rfl, rfl⟩
      have C3 := l_append V2.out ⟨#[98]⟩ A1 n1 c1 b (V2.out.rb R1.out) (fun _ h => h) (by have := z1.out; omega) (by simp)
      rw [show nm ⟨#[98]⟩ = [98] from rfl, S2.out] at C3
      replace C3 := Lib.hid C3
      clear C2 V2 S2 R1 z1
      go_wp2_with fail
      refine C3.out.mono ?_
      rintro e w4 ⟨rfl, V4⟩
      replace V4 := Lib.hid V4.1
      clear C3
      have C4 := l_used V4.out
      rw [U1.out] at C4
      replace C4 := Lib.hid C4
      go_wp2_with fail
      refine C4.out.mono ?_
      rintro e w5 ⟨rfl, rfl⟩
      clear C4
      have C5 := l_read V4.out ⟨#[98]⟩ (by decide)
      rw [show nm ⟨#[98]⟩ = [98] from rfl, LB.out] at C5
      replace C5 := Lib.hid C5
      clear LB U1
      go_wp2_with fail
      refine C5.out.mono ?_
      intro e w6 h6
      obtain ⟨rfl, b6⟩ : e = .returned (.tuple #[.slice none 0 0, .int .i64 5]) ∧ Below w4.heap.size w4 w6 := by
        rcases h6 with ⟨_, h1, h2⟩ | ⟨bs, k, v, h, _⟩
        · exact ⟨h1, h2⟩
        · cases h
      have V6 : Hid (Live w w6 p r _ _) := V4.out.below b6
      clear C5 b6 V4 h6
      go_wp2_with fail
      refine (TA.out _).mono ?_
      rintro e w7 ⟨rfl, b7⟩
      have V7 := V6.out.below b7
      have C7 := l_used V7
      rw [← hu2.out] at C7
      replace C7 := Lib.hid C7
      have be : Hid (Below w.heap.size w w7) := V7.be
      clear V6 V7 b7 TA
      go_wp2_with fail
      refine C7.out.mono ?_
      rintro e w8 ⟨rfl, rfl⟩
      clear C7
      go_wp2
      go_ret
      exact ⟨rfl, be.out⟩
    · have S1 : sApp r [] [97] a = (4, ([] : Dk.St)) := by
        exact app_full (by decide) (by simp [used, sum]; omega)
      have U1 : used ([] : Dk.St) = 0 := by simp [used, sum]
      obtain ⟨u1, hu1⟩ : ∃ z, z = 0 := ⟨_, rfl⟩
      rw [← hu1] at U1
      have S2 : sApp r ([] : Dk.St) [98] b = (0, [([98], b, 0)]) := by
        rw [app_ok (by decide) (by rw [U1]; omega)]
        simp [Dk.look, Dk.put]
      have U2 : used [([98], b, 0)] ≤ r := by simp [used, sum]; omega
      obtain ⟨u2, hu2⟩ : ∃ z, z = used [([98], b, 0)] := ⟨_, rfl⟩
      rw [← hu2] at U2
      have q2 : decide (n0 ≤ r) = false := decide_eq_false (by omega)
      obtain ⟨t, ht⟩ : ∃ t, t = r - u1 := ⟨_, rfl⟩
      have q3 : wrap64 ((r : Int) - (u1 : Int)) = (t : Int) := by rw [IntWalk.wrap64_in _ (by omega)]; omega
      have q4 : decide (n1 ≤ t) = true := decide_eq_true (by omega)
      have q6 : decide (u2 ≤ r) = true := decide_eq_true (by omega)
      have LB : Dk.look [98] [([98], b, 0)] = some (b, 0) := by simp [Dk.look]
      replace S1 := Lib.hid S1
      replace S2 := Lib.hid S2
      replace U1 := Lib.hid U1
      replace hu2 := Lib.hid hu2
      replace LB := Lib.hid LB
      replace R0 := Lib.hid R0
      replace R1 := Lib.hid R1
      replace hK := Lib.hid hK
      replace z0 := Lib.hid z0
      replace z1 := Lib.hid z1
      clear hu1 U2 ht hr y0 y1 hA hB
      go_enter Try.func5, Try.ntmps5
      go_upto_region 2 with fail
      rw [hK.out]
      clear hK
      go_wp2_with fail
      refine N0.out.mono ?_
      rintro e w1 ⟨p, rfl, V1⟩
      have C1 := l_append V1 ⟨#[97]⟩ A0 n0 c0 a (V1.rb R0.out) (fun _ h => h) (by have := z0.out; omega) (by simp)
      rw [show nm ⟨#[97]⟩ = [97] from rfl, S1.out] at C1
      replace C1 := Lib.hid C1
      clear N0 V1 S1 R0 z0
      go_wp2_with fail
      refine C1.out.mono ?_
      rintro e w2 ⟨rfl, V2⟩
      have C2 := l_used V2.1
      rw [U1.out] at C2
      replace C2 := Lib.hid C2
      replace V2 := Lib.hid V2.1
      clear C1
      go_wp2_with fail
      refine C2.out.mono ?_
      rintro e w3 ⟨rfl, rfl⟩
      have C3 := l_append V2.out ⟨#[98]⟩ A1 n1 c1 b (V2.out.rb R1.out) (fun _ h => h) (by have := z1.out; omega) (by simp)
      rw [show nm ⟨#[98]⟩ = [98] from rfl, S2.out] at C3
      replace C3 := Lib.hid C3
      clear C2 V2 S2 R1 z1
      go_wp2_with fail
      refine C3.out.mono ?_
      rintro e w4 ⟨rfl, V4⟩
      replace V4 := Lib.hid V4.1
      clear C3
      have C5 := l_read V4.out ⟨#[98]⟩ (by decide)
      rw [show nm ⟨#[98]⟩ = [98] from rfl, LB.out] at C5
      replace C5 := Lib.hid C5
      clear LB U1
      go_wp2_with fail
      refine C5.out.mono ?_
      rintro e w6 (⟨h, _⟩ | ⟨bs, k, v, h, rfl, ho, b6⟩)
      · cases h
      obtain ⟨A6, c6, rfl⟩ := own_form ho
      have V6 : Hid (Live w w6 p r _ _) := V4.out.below b6
      clear C5 h ho b6 V4
      go_wp2_with fail
      refine (TA.out _).mono ?_
      rintro e w7 ⟨rfl, b7⟩
      have V7 := V6.out.below b7
      have C7 := l_used V7
      rw [← hu2.out] at C7
      replace C7 := Lib.hid C7
      have be : Hid (Below w.heap.size w w7) := V7.be
      clear V6 V7 b7 TA
      go_wp2_with fail
      refine C7.out.mono ?_
      rintro e w8 ⟨rfl, rfl⟩
      clear C7
      go_wp2
      go_ret
      exact ⟨rfl, be.out⟩
    · have S1 : sApp r [] [97] a = (4, ([] : Dk.St)) := by
        exact app_full (by decide) (by simp [used, sum]; omega)
      have U1 : used ([] : Dk.St) = 0 := by simp [used, sum]
      obtain ⟨u1, hu1⟩ : ∃ z, z = 0 := ⟨_, rfl⟩
      rw [← hu1] at U1
      have S2 : sApp r ([] : Dk.St) [98] b = (4, ([] : Dk.St)) := by
        exact app_full (by decide) (by rw [U1]; omega)
      have U2 : used ([] : Dk.St) ≤ r := by simp [used, sum]
      obtain ⟨u2, hu2⟩ : ∃ z, z = used ([] : Dk.St) := ⟨_, rfl⟩
      rw [← hu2] at U2
      have q2 : decide (n0 ≤ r) = false := decide_eq_false (by omega)
      obtain ⟨t, ht⟩ : ∃ t, t = r - u1 := ⟨_, rfl⟩
      have q3 : wrap64 ((r : Int) - (u1 : Int)) = (t : Int) := by rw [IntWalk.wrap64_in _ (by omega)]; omega
      have q4 : decide (n1 ≤ t) = false := decide_eq_false (by omega)
      have q6 : decide (u2 ≤ r) = true := decide_eq_true (by omega)
      have LB : Dk.look [98] ([] : Dk.St) = none := by simp [Dk.look]
      replace S1 := Lib.hid S1
      replace S2 := Lib.hid S2
      replace U1 := Lib.hid U1
      replace hu2 := Lib.hid hu2
      replace LB := Lib.hid LB
      replace R0 := Lib.hid R0
      replace R1 := Lib.hid R1
      replace hK := Lib.hid hK
      replace z0 := Lib.hid z0
      replace z1 := Lib.hid z1
      clear hu1 U2 ht hr y0 y1 hA hB
      go_enter Try.func5, Try.ntmps5
      go_upto_region 2 with fail
      rw [hK.out]
      clear hK
      go_wp2_with fail
      refine N0.out.mono ?_
      rintro e w1 ⟨p, rfl, V1⟩
      have C1 := l_append V1 ⟨#[97]⟩ A0 n0 c0 a (V1.rb R0.out) (fun _ h => h) (by have := z0.out; omega) (by simp)
      rw [show nm ⟨#[97]⟩ = [97] from rfl, S1.out] at C1
      replace C1 := Lib.hid C1
      clear N0 V1 S1 R0 z0
      go_wp2_with fail
      refine C1.out.mono ?_
      rintro e w2 ⟨rfl, V2⟩
      have C2 := l_used V2.1
      rw [U1.out] at C2
      replace C2 := Lib.hid C2
      replace V2 := Lib.hid V2.1
      clear C1
      go_wp2_with fail
      refine C2.out.mono ?_
      rintro e w3 ⟨rfl, rfl⟩
      have C3 := l_append V2.out ⟨#[98]⟩ A1 n1 c1 b (V2.out.rb R1.out) (fun _ h => h) (by have := z1.out; omega) (by simp)
      rw [show nm ⟨#[98]⟩ = [98] from rfl, S2.out] at C3
      replace C3 := Lib.hid C3
      clear C2 V2 S2 R1 z1
      go_wp2_with fail
      refine C3.out.mono ?_
      rintro e w4 ⟨rfl, V4⟩
      replace V4 := Lib.hid V4.1
      clear C3
      have C4 := l_used V4.out
      rw [U1.out] at C4
      replace C4 := Lib.hid C4
      go_wp2_with fail
      refine C4.out.mono ?_
      rintro e w5 ⟨rfl, rfl⟩
      clear C4
      have C5 := l_read V4.out ⟨#[98]⟩ (by decide)
      rw [show nm ⟨#[98]⟩ = [98] from rfl, LB.out] at C5
      replace C5 := Lib.hid C5
      clear LB U1
      go_wp2_with fail
      refine C5.out.mono ?_
      intro e w6 h6
      obtain ⟨rfl, b6⟩ : e = .returned (.tuple #[.slice none 0 0, .int .i64 5]) ∧ Below w4.heap.size w4 w6 := by
        rcases h6 with ⟨_, h1, h2⟩ | ⟨bs, k, v, h, _⟩
        · exact ⟨h1, h2⟩
        · cases h
      have V6 : Hid (Live w w6 p r _ _) := V4.out.below b6
      clear C5 b6 V4 h6
      go_wp2_with fail
      refine (TA.out _).mono ?_
      rintro e w7 ⟨rfl, b7⟩
      have V7 := V6.out.below b7
      have C7 := l_used V7
      rw [← hu2.out] at C7
      replace C7 := Lib.hid C7
      have be : Hid (Below w.heap.size w w7) := V7.be
      clear V6 V7 b7 TA
      go_wp2_with fail
      refine C7.out.mono ?_
      rintro e w8 ⟨rfl, rfl⟩
      clear C7
      go_wp2
      go_ret
      exact ⟨rfl, be.out⟩

  · have h : 200 < n0 ∨ (n0 ≤ 200 ∧ 200 < n1) := by omega
    clear R0 R1 y0 y1
    rcases h with h | h
    · have q0 : decide ((200 : Int) < (n0 : Int)) = true := decide_eq_true (by omega)
      replace hK := Lib.hid hK
      clear h hz hr
      go_enter Try.func5, Try.ntmps5
      go_upto_region 2 with fail
      rw [hK.out]
      clear hK
      go_wp2_with fail
      refine N0.out.mono ?_
      rintro e w1 ⟨p, rfl, V⟩
      replace V := Lib.hid V.be
      go_wp2_with fail
      refine (TA.out _).mono ?_
      rintro e w2 ⟨rfl, hb⟩
      have b2 : Hid (Below w.heap.size w w2) := V.out.trans (hb.mono V.out.size)
      clear hb V
      go_wp2
      go_ret
      exact ⟨rfl, b2.out⟩
    · have q0 : decide ((200 : Int) < (n0 : Int)) = false := decide_eq_false (by omega)
      have q1 : decide ((200 : Int) < (n1 : Int)) = true := decide_eq_true (by omega)
      replace hK := Lib.hid hK
      clear h hz hr
      go_enter Try.func5, Try.ntmps5
      go_upto_region 2 with fail
      rw [hK.out]
      clear hK
      go_wp2_with fail
      refine N0.out.mono ?_
      rintro e w1 ⟨p, rfl, V⟩
      replace V := Lib.hid V.be
      go_wp2_with fail
      refine (TA.out _).mono ?_
      rintro e w2 ⟨rfl, hb⟩
      have b2 : Hid (Below w.heap.size w w2) := V.out.trans (hb.mono V.out.size)
      clear hb V
      go_wp2
      go_ret
      exact ⟨rfl, b2.out⟩

theorem walkd {W : World} (a0 : Int) (_w0 : (Lit.int .i64 a0).wf = true) (v1 : Value) (a1 : Bs) (w1 : Src W v1 a1) (v2 : Value) (a2 : Bs) (w2 : Src W v2 a2) (W' : World) (hW : W' = W) :
    Calls Try.prog 5 #[.int .i64 a0, v1, v2] W' fun e w' => e = .returned (.bool true) ∧ Below W'.heap.size W' w' := by
  subst hW
  obtain ⟨A1, n1, c1, rfl, _, _, _, R1⟩ := w1
  obtain ⟨A2, n2, c2, rfl, _, _, _, R2⟩ := w2
  exact walk a0 A1 A2 n1 n2 c1 c2 a1 a2 W' R1 R2


/-! The row: every input. -/
set_option linter.unusedVariables false
set_option maxRecDepth 100000 in
theorem lifted (os : Os) (started : os.Started) (H : Type) (enc : TypeId × Value → H) :
    ReturnsInHanded {} Try.checked os 5 .any (Rows.diskFullSpec.pre6 enc Try.prog Try.f5 Rows.diskFullRow.domain false) (Rows.diskFullSpec.post enc Try.prog Try.f5 false true false false) := by
  refine returnsInHanded_of_change (C := Try.checked) own started (by kernel_rfl) Try.func5
    (ChangeSpec.witness6 (enc := enc) (C := Try.checked) false ⟨#[], #[.int .i64 0, .slice none 0 0, .slice none 0 0], []⟩ 8 (by kernel_rfl) (by kernel_rfl) (by kernel_rfl) (by kernel_rfl)) ?_
  intro W base args ds gs before hval0 hW _ _
  have hval : ∀ (j : Nat) t v, Try.f5.params[j]? = some t → args[j]? = some v → Value.okWide Try.prog W .any base t v := hval0
  have hW' := hW
  obtain ⟨p, q, hA0, hV, rfl, hfz, hnd⟩ := hW
  have hA : DataW.TrodAll enc Try.prog W 0 (fun _ => true) true Try.f5.params.toList args.toList ds p := hA0
  rw [Try.params5] at hA hval
  obtain ⟨v0, vs0, d0, ds0, p0, q0, hargs, rfl, rfl, h0, r0⟩ := trodAll_cons hA
  obtain ⟨v1, vs1, d1, ds1, p1, q1, rfl, rfl, rfl, h1, r1⟩ := trodAll_cons r0
  obtain ⟨v2, vs2, d2, ds2, p2, q2, rfl, rfl, rfl, h2, r2⟩ := trodAll_cons r1
  obtain ⟨rfl, rfl, rfl⟩ := trodAll_nil r2
  obtain rfl : args = #[v0, v1, v2] := by cases args; simp_all
  obtain ⟨rfl, rfl⟩ := trodVars_none hV
  obtain ⟨a0, rfl, rfl, rfl, w0⟩ := open_int Try.underlying3 (hval 0 3 v0 rfl rfl) h0
  obtain ⟨a1, w1⟩ := view_bytes (hval 1 31 v1 rfl rfl) h1
  obtain ⟨a2, w2⟩ := view_bytes (hval 2 31 v2 rfl rfl) h2
  clear hA0 hval0
  simp only [List.append_nil] at hW'
  refine (walkd a0 w0 v1 a1 w1 v2 a2 w2 W rfl).mono fun e W' ⟨he, hb⟩ => ?_
  subst he
  exact ⟨_, rfl, post_below (pa := [] ++ (p1 ++ (p2 ++ []))) (pv := []) hW' (fun _ _ _ => (trodAll_cons_mk (shut_bool Try.underlying4 _) trodAll_mk0)) (fun sp hsp => (trodAll_cons_mk (shut_int Try.underlying3 w0) (trodAll_cons_mk (Trod_stays laidOut (by kernel_rfl) (of_decide_eq_true (by kernel_rfl)) h1 (fun x hx => hb.same (hW'.lt x (by simp [hx]))) (fun x hx => hsp x (by simp [hx]))) (trodAll_cons_mk (Trod_stays laidOut (by kernel_rfl) (of_decide_eq_true (by kernel_rfl)) h2 (fun x hx => hb.same (hW'.lt x (by simp [hx]))) (fun x hx => hsp x (by simp [hx]))) trodAll_mk0)))) (fun _ _ => rfl) (by simp)
    hb (ok_one (by kernel_rfl) rfl (okWide_bool_mk Try.underlying4 _))⟩

theorem proved : Rows.DiskFullSaid :=
  OpenClaim.holds_of_wide 5 Try.f5 rfl rfl rfl rfl rfl rfl rfl ⟨rfl, rfl, rfl, rfl, rfl⟩ rfl rfl rfl rfl rfl (by kernel_rfl) Try.func5 (by kernel_rfl)
    (of_decide_eq_true (by kernel_rfl)) (by unfold Func.isWrapper; first | (rw [if_pos (by decide +kernel)]; kernel_rfl) | (rw [if_neg (by decide +kernel)]; exact ⟨rfl, rfl⟩))
    (fun os started H enc _ => lifted os started H enc)
#print axioms proved

end Go.Proofs.Ytpkjeplhdnbihaa.diskFull
