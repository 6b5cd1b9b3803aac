/- Proved: frames, and the records in bytes, are what the document's own functions answer (FrameAsks), for any bytes, any record, any place, the package's table being as the program's text lays it. -/
import Derived.Test.YthadgeihkeggfaaDoorFrV
import Derived.Deep.DeepCutAuto
import Derived.Deep.CutRange
import Derived.Test.YthadgeihkeggfaaDoorCards
import Derived.Test.YthadgeihkeggfaaDoorTie
namespace Go.Proofs.YthadgeihkeggfaaDoor.frameAsks
open Go.ChangeShapes Go.WideShapes Go.ChangeAt Go.WideElems Go.RowKit
open Go.Sort
open Go.Proofs.YthadgeihkeggfaaDoor.Pk Go.Proofs.YthadgeihkeggfaaDoor.Fr

theorem str_regrown {w : World} {A : Option Addr} {n c : Nat} {bs : List UInt8} (h : Rb w (fun g => g < w.heap.size) A n bs) (d : Nat) (os : Array Obj) : (convert 22 9 (.slice A n c)).run Tryd.prog (grow (redrawn w d) os) = .ok (.string (str bs)) (grow (redrawn w d) os) :=
  str_run (rb_below h (below_regrown w d os))

set_option maxHeartbeats 6400000 in
set_option maxRecDepth 100000 in
theorem walk (A : Option Addr) (n c : Nat) (bs : List UInt8) (A2 : Option Addr) (n2 c2 : Nat) (rs : List UInt8) (at_ : Int) (w : World) (R : Rb w (fun g => g < w.heap.size) A n bs) (R2 : Rb w (fun g => g < w.heap.size) A2 n2 rs) (ht : Tab w)
    (hnc : n ≤ c) (hcm : c ≤ 9223372036854775807) (_hnc2 : n2 ≤ c2) (_hcm2 : c2 ≤ 9223372036854775807) (hat : at_ ≤ 9223372036854775807) :
    Calls Tryd.prog 3 #[.slice A n c, .slice A2 n2 c2, .int .i64 at_] w fun e w' => e = .returned (.bool true) ∧ RowKit.Below w.heap.size w w' := by
  have T : Hid (∀ w', RowKit.Below w.heap.size w w' → Calls Tryd.prog 8 #[] w' fun e w'' => e = .returned (.bool true) ∧ RowKit.Below w'.heap.size w' w'') := fun w' hb => told_any w' (ht.below hb)
  have Tk : Hid (∀ w', RowKit.Below w.heap.size w w' → Tab w') := fun w' hb => ht.below hb
  have hlb : Hid (bs.length = n) := R.len
  have hlr : Hid (rs.length = n2) := R2.len
  replace R := Lib.hid R
  replace R2 := Lib.hid R2
  clear ht
  by_cases h8 : 800 < n ∨ 1200 < n2
  · have T0 := Lib.hid (T.out w (RowKit.Below.refl _ _))
    by_cases h : 800 < n
    · clear h8
      go_enter Tryd.func3, Tryd.ntmps3
      go_wp2_with fail
      refine T0.out.mono ?_
      rintro e w4 ⟨rfl, b4⟩
      replace b4 := Lib.hid b4
      go_wp2
      go_ret
      exact ⟨rfl, b4.out⟩
    · have h9 : 1200 < n2 := by omega
      clear h8
      go_enter Tryd.func3, Tryd.ntmps3
      go_wp2_with fail
      refine T0.out.mono ?_
      rintro e w4 ⟨rfl, b4⟩
      replace b4 := Lib.hid b4
      go_wp2
      go_ret
      exact ⟨rfl, b4.out⟩
  by_cases hbad : n2 < 1 ∨ 1000 < n2
  · have P := Lib.hid (put_no w A2 n2 c2 (by omega) hbad)
    have R3 : Hid (Rb w (fun g => g < w.heap.size) A n bs) := R
    have be3 : Hid (RowKit.Below w.heap.size w w) := RowKit.Below.refl _ _
    rcases hbad with h | h
    all_goals
      go_enter Tryd.func3, Tryd.ntmps3
      go_wp2_with fail
      refine P.out.mono ?_
      rintro e w' ⟨rfl, rfl⟩
      clear P
      have D3 := Lib.hid (read_any w A n c bs R3.out (fun _ hg => hg) (Tk.out w be3.out) hnc hcm (by omega))
      go_wp2_with fail
      refine D3.out.mono ?_
      rintro e w4 ⟨v9, l, q, rfl, hgot, hL, b4⟩
      have be4 : Hid (RowKit.Below w.heap.size w w4) := be3.out.trans (b4.mono be3.out.size)
      have R4 : Hid (Rb w4 (fun g => g < w4.heap.size) A n bs) := rb_below R3.out b4
      have L4 : Hid (Lr w4 v9 l) := hL.read
      have G4 := Lib.hid hgot
      have s4 := str_run (c := c) R4.out
      have D4 := Lib.hid (rread_any w4 bs (by have := hlb.out; omega))
      clear hgot hL b4 R3 be3 D3
      go_wp2_with fail
      refine D4.out.mono ?_
      rintro e w5 ⟨v11, l', q', rfl, hgot, ho, b5⟩
      obtain ⟨rfl, rfl⟩ := got_one G4.out hgot
      have be5 : Hid (RowKit.Below w.heap.size w w5) := be4.out.trans (b5.mono be4.out.size)
      have R5 : Hid (Rb w5 (fun g => g < w5.heap.size) A n bs) := rb_below R4.out b5
      have L5 : Hid (Lr w5 v9 l) := L4.out.below b5
      have S5 : Hid (Sr w5 v11 l) := sr_own ho
      have hl6 : Hid (l.length ≤ 1000000) := by
        have h1 := goes_le G4.out.1
        have := hlb.out
        show _ ≤ _
        omega
      have D5 := Lib.hid (one_any w5 A n c at_ bs R5.out (fun _ hg => hg) (Tk.out w5 be5.out) hnc hcm hat)
      clear hgot ho b5 R4 be4 L4 D4 G4 s4
      go_wp2_with fail
      refine D5.out.mono ?_
      rintro e w6 (⟨q1, rfl, rfl⟩ | ⟨r1, v13, q1, rfl, ho, b6⟩)
      · have R6 := R5
        have s6 := str_run (c := c) R6.out
        have D6 := Lib.hid (rone_any w5 bs at_ hat (by have := hlb.out; omega))
        replace q1 := Lib.hid q1
        go_wp2_with fail
        refine D6.out.mono ?_
        rintro e w7 ⟨b7, ⟨_, rfl⟩ | ⟨r2, q2, _⟩⟩
        rotate_left
        · rw [q1.out] at q2; cases q2
        have be7 : Hid (RowKit.Below w.heap.size w w7) := be5.out.trans (b7.mono be5.out.size)
        have L7 : Hid (Lr w7 v9 l) := L5.out.below b7
        have S7 : Hid (Sr w7 v11 l) := S5.out.below b7
        have Q := Lib.hid (T.out w7 be7.out)
        clear b7 D6 D5 s6 R5 R6 be5 L5 S5
        go_wp2_with fail
        refine Q.out.mono ?_
        rintro e w8 ⟨rfl, b8⟩
        have be8 : Hid (RowKit.Below w.heap.size w w8) := be7.out.trans (b8.mono be7.out.size)
        have X := Lib.hid (texts_any w8 v9 v11 l (L7.out.below b8) (S7.out.below b8) hl6.out)
        clear b8 Q L7 S7 be7
        go_wp2_with fail
        refine X.out.mono ?_
        rintro e w9 ⟨rfl, b9⟩
        have be9 : Hid (RowKit.Below w.heap.size w w9) := be8.out.trans (b9.mono be8.out.size)
        have s9 : (convert 22 9 (.slice none 0 0)).run Tryd.prog w9 = .ok (.string (str [])) w9 := str_run (T := fun _ => False) Rb.none_
        clear b9 X be8
        go_wp2
        go_ret
        exact ⟨rfl, be9.out⟩
      · obtain ⟨A6, c6, rfl⟩ := own_form ho
        have be6 : Hid (RowKit.Below w.heap.size w w6) := be5.out.trans (b6.mono be5.out.size)
        have R6 : Hid (Rb w6 (fun g => g < w6.heap.size) A n bs) := rb_below R5.out b6
        have L6 : Hid (Lr w6 v9 l) := L5.out.below b6
        have S6 : Hid (Sr w6 v11 l) := S5.out.below b6
        have X6 : Hid (Rb w6 (fun g => g < w6.heap.size) A6 r1.length r1) := rb_own ho
        have s6 := str_run (c := c) R6.out
        have D6 := Lib.hid (rone_any w6 bs at_ hat (by have := hlb.out; omega))
        replace q1 := Lib.hid q1
        clear ho b6 R5 be5 L5 S5 D5
        go_wp2_with fail
        refine D6.out.mono ?_
        rintro e w7 ⟨b7, ⟨q2, _⟩ | ⟨r2, q2, rfl⟩⟩
        · rw [q1.out] at q2; cases q2
        obtain rfl : r1 = r2 := by rw [q1.out] at q2; injection q2
        obtain ⟨m, hm⟩ : ∃ m, m = r1.length := ⟨_, rfl⟩
        rw [← hm] at X6
        rw [← hm]
        have e7 : at_ + 6 + (m : Int) = at_ + (6 + (m : Int)) := by omega
        rw [e7]
        obtain ⟨pq, hpq⟩ : ∃ pq, pq = at_ + (6 + (m : Int)) := ⟨_, rfl⟩
        rw [← hpq]
        have be7 : Hid (RowKit.Below w.heap.size w w7) := be6.out.trans (b7.mono be6.out.size)
        have L7 : Hid (Lr w7 v9 l) := L6.out.below b7
        have S7 : Hid (Sr w7 v11 l) := S6.out.below b7
        have X7 : Hid (Rb w7 (fun g => g < w7.heap.size) A6 m r1) := rb_below X6.out b7
        have Q := Lib.hid (T.out w7 be7.out)
        clear b7 D6 s6 R6 be6 L6 S6 q2 e7 hpq hm X6 q1
        go_wp2_with fail
        refine Q.out.mono ?_
        rintro e w8 ⟨rfl, b8⟩
        have be8 : Hid (RowKit.Below w.heap.size w w8) := be7.out.trans (b8.mono be7.out.size)
        have X8 : Hid (Rb w8 (fun g => g < w8.heap.size) A6 m r1) := rb_below X7.out b8
        have X := Lib.hid (texts_any w8 v9 v11 l (L7.out.below b8) (S7.out.below b8) hl6.out)
        clear b8 Q L7 S7 be7 X7
        go_wp2_with fail
        refine X.out.mono ?_
        rintro e w9 ⟨rfl, b9⟩
        have be9 : Hid (RowKit.Below w.heap.size w w9) := be8.out.trans (b9.mono be8.out.size)
        have s9 := str_run (c := c6) (rb_below X8.out b9)
        clear b9 X be8 X8
        go_wp2
        go_ret
        exact ⟨rfl, be9.out⟩
  · have P := Lib.hid (put_yes w A2 n2 c2 rs R2.out (fun _ hg => hg) (Tk.out w (RowKit.Below.refl _ _)) (by omega) (by omega))
    go_enter Tryd.func3, Tryd.ntmps3
    go_wp2_with fail
    refine P.out.mono ?_
    rintro e w2 ⟨v2, rfl, o2, b2⟩
    rw [hlr.out] at o2
    obtain ⟨Af, cf, rfl⟩ := own_form o2
    have be2 : Hid (RowKit.Below w.heap.size w w2) := b2
    have Rf : Hid (Rb w2 (fun g => g < w2.heap.size) Af (n2 + 6) (frame rs)) := rb_own o2
    have Rb2 : Hid (Rb w2 (fun g => g < w2.heap.size) A n bs) := rb_below R.out b2
    have Rr2 : Hid (Rb w2 (fun g => g < w2.heap.size) A2 n2 rs) := rb_below R2.out b2
    have cF : ∀ d os, Calls Tryd.prog 10 #[.string (str rs)] (grow (redrawn w2 d) os) fun e w'' => e = .returned (.string (str (frame rs))) ∧ ∃ q : Regrown, w'' = grow (redrawn w2 q.d) q.os := fun d os => Calls.regrown_of (rframe _ rs (by have := hlr.out; omega) (by have := hlr.out; omega))
    have t1 := fun d os => str_regrown (c := cf) Rf.out d os
    have t2 := fun d os => str_regrown (c := c2) Rr2.out d os
    clear o2 b2 P R R2
    go_wp2_with fail
    refine wp_region_quiet_below (by kernel_rfl) (by kernel_rfl) ?_
    repeat (go_big_quiet_step (with_reducible exact cF _ _))
    refine wpQuiet_nil ?_
    intro w3 hw'
    obtain ⟨⟨dq, osq⟩, hw3⟩ := hw'
    have b3 : RowKit.Below w2.heap.size w2 w3 := by rw [hw3]; exact below_regrown w2 dq osq
    have be3 : Hid (RowKit.Below w.heap.size w w3) := be2.out.trans (b3.mono be2.out.size)
    have R3 : Hid (Rb w3 (fun g => g < w3.heap.size) A n bs) := rb_below Rb2.out b3
    clear hw3 cF t1 t2 b3 Rf Rb2 Rr2 be2
    have D3 := Lib.hid (read_any w3 A n c bs R3.out (fun _ hg => hg) (Tk.out w3 be3.out) hnc hcm (by omega))
    go_wp2_with fail
    refine D3.out.mono ?_
    rintro e w4 ⟨v9, l, q, rfl, hgot, hL, b4⟩
    have be4 : Hid (RowKit.Below w.heap.size w w4) := be3.out.trans (b4.mono be3.out.size)
    have R4 : Hid (Rb w4 (fun g => g < w4.heap.size) A n bs) := rb_below R3.out b4
    have L4 : Hid (Lr w4 v9 l) := hL.read
    have G4 := Lib.hid hgot
    have s4 := str_run (c := c) R4.out
    have D4 := Lib.hid (rread_any w4 bs (by have := hlb.out; omega))
    clear hgot hL b4 R3 be3 D3
    go_wp2_with fail
    refine D4.out.mono ?_
    rintro e w5 ⟨v11, l', q', rfl, hgot, ho, b5⟩
    obtain ⟨rfl, rfl⟩ := got_one G4.out hgot
    have be5 : Hid (RowKit.Below w.heap.size w w5) := be4.out.trans (b5.mono be4.out.size)
    have R5 : Hid (Rb w5 (fun g => g < w5.heap.size) A n bs) := rb_below R4.out b5
    have L5 : Hid (Lr w5 v9 l) := L4.out.below b5
    have S5 : Hid (Sr w5 v11 l) := sr_own ho
    have hl6 : Hid (l.length ≤ 1000000) := by
      have h1 := goes_le G4.out.1
      have := hlb.out
      show _ ≤ _
      omega
    have D5 := Lib.hid (one_any w5 A n c at_ bs R5.out (fun _ hg => hg) (Tk.out w5 be5.out) hnc hcm hat)
    clear hgot ho b5 R4 be4 L4 D4 G4 s4
    go_wp2_with fail
    refine D5.out.mono ?_
    rintro e w6 (⟨q1, rfl, rfl⟩ | ⟨r1, v13, q1, rfl, ho, b6⟩)
    · have R6 := R5
      have s6 := str_run (c := c) R6.out
      have D6 := Lib.hid (rone_any w5 bs at_ hat (by have := hlb.out; omega))
      replace q1 := Lib.hid q1
      go_wp2_with fail
      refine D6.out.mono ?_
      rintro e w7 ⟨b7, ⟨_, rfl⟩ | ⟨r2, q2, _⟩⟩
      rotate_left
      · rw [q1.out] at q2; cases q2
      have be7 : Hid (RowKit.Below w.heap.size w w7) := be5.out.trans (b7.mono be5.out.size)
      have L7 : Hid (Lr w7 v9 l) := L5.out.below b7
      have S7 : Hid (Sr w7 v11 l) := S5.out.below b7
      have Q := Lib.hid (T.out w7 be7.out)
      clear b7 D6 D5 s6 R5 R6 be5 L5 S5
      go_wp2_with fail
      refine Q.out.mono ?_
      rintro e w8 ⟨rfl, b8⟩
      have be8 : Hid (RowKit.Below w.heap.size w w8) := be7.out.trans (b8.mono be7.out.size)
      have X := Lib.hid (texts_any w8 v9 v11 l (L7.out.below b8) (S7.out.below b8) hl6.out)
      clear b8 Q L7 S7 be7
      go_wp2_with fail
      refine X.out.mono ?_
      rintro e w9 ⟨rfl, b9⟩
      have be9 : Hid (RowKit.Below w.heap.size w w9) := be8.out.trans (b9.mono be8.out.size)
      have s9 : (convert 22 9 (.slice none 0 0)).run Tryd.prog w9 = .ok (.string (str [])) w9 := str_run (T := fun _ => False) Rb.none_
      clear b9 X be8
      go_wp2
      go_ret
      exact ⟨rfl, be9.out⟩
    · obtain ⟨A6, c6, rfl⟩ := own_form ho
      have be6 : Hid (RowKit.Below w.heap.size w w6) := be5.out.trans (b6.mono be5.out.size)
      have R6 : Hid (Rb w6 (fun g => g < w6.heap.size) A n bs) := rb_below R5.out b6
      have L6 : Hid (Lr w6 v9 l) := L5.out.below b6
      have S6 : Hid (Sr w6 v11 l) := S5.out.below b6
      have X6 : Hid (Rb w6 (fun g => g < w6.heap.size) A6 r1.length r1) := rb_own ho
      have s6 := str_run (c := c) R6.out
      have D6 := Lib.hid (rone_any w6 bs at_ hat (by have := hlb.out; omega))
      replace q1 := Lib.hid q1
      clear ho b6 R5 be5 L5 S5 D5
      go_wp2_with fail
      refine D6.out.mono ?_
      rintro e w7 ⟨b7, ⟨q2, _⟩ | ⟨r2, q2, rfl⟩⟩
      · rw [q1.out] at q2; cases q2
      obtain rfl : r1 = r2 := by rw [q1.out] at q2; injection q2
      obtain ⟨m, hm⟩ : ∃ m, m = r1.length := ⟨_, rfl⟩
      rw [← hm] at X6
      rw [← hm]
      have e7 : at_ + 6 + (m : Int) = at_ + (6 + (m : Int)) := by omega
      rw [e7]
      obtain ⟨pq, hpq⟩ : ∃ pq, pq = at_ + (6 + (m : Int)) := ⟨_, rfl⟩
      rw [← hpq]
      have be7 : Hid (RowKit.Below w.heap.size w w7) := be6.out.trans (b7.mono be6.out.size)
      have L7 : Hid (Lr w7 v9 l) := L6.out.below b7
      have S7 : Hid (Sr w7 v11 l) := S6.out.below b7
      have X7 : Hid (Rb w7 (fun g => g < w7.heap.size) A6 m r1) := rb_below X6.out b7
      have Q := Lib.hid (T.out w7 be7.out)
      clear b7 D6 s6 R6 be6 L6 S6 q2 e7 hpq hm X6 q1
      go_wp2_with fail
      refine Q.out.mono ?_
      rintro e w8 ⟨rfl, b8⟩
      have be8 : Hid (RowKit.Below w.heap.size w w8) := be7.out.trans (b8.mono be7.out.size)
      have X8 : Hid (Rb w8 (fun g => g < w8.heap.size) A6 m r1) := rb_below X7.out b8
      have X := Lib.hid (texts_any w8 v9 v11 l (L7.out.below b8) (S7.out.below b8) hl6.out)
      clear b8 Q L7 S7 be7 X7
      go_wp2_with fail
      refine X.out.mono ?_
      rintro e w9 ⟨rfl, b9⟩
      have be9 : Hid (RowKit.Below w.heap.size w w9) := be8.out.trans (b9.mono be8.out.size)
      have s9 := str_run (c := c6) (rb_below X8.out b9)
      clear b9 X be8 X8
      go_wp2
      go_ret
      exact ⟨rfl, be9.out⟩

theorem walkd (v0 : Value) (a0 : List UInt8) {W : World} (w0 : Src W v0 a0) (v1 : Value) (a1 : List UInt8) (w1 : Src W v1 a1) (a2 : Int) (w2 : (Lit.int .i64 a2).wf = true) (W' : World) (hW : W' = W) (ht : Tab W') :
    Calls Tryd.prog 3 #[v0, v1, .int .i64 a2] W' fun e w' => e = .returned (.bool true) ∧ RowKit.Below W'.heap.size W' w' := by
  subst hW
  obtain ⟨A, m, c, rfl, _, h1, h2, R⟩ := w0
  obtain ⟨A2, m2, c2, rfl, _, h3, h4, R2⟩ := w1
  have hb := bounds_i64 w2
  exact walk A m c a0 A2 m2 c2 a1 a2 _ R R2 ht h1 h2 h3 h4 hb.2

/-! The row: every input, the listed variable as the condition has it. -/
set_option linter.unusedVariables false
set_option maxRecDepth 100000 in
theorem lifted (os : Os) (started : os.Started) (H : Type) (enc : TypeId × Value → H) :
    ReturnsInHanded {} Tryd.checked os 3 .any (fun w args => (Rows.frameAsksSpec.pre enc Tryd.prog Tryd.f3 [] false w args ∧ laidMetH Tryd.prog laids w) ∧ sizedMet enc Tryd.prog Tryd.f3 (OpenSpec.ofChange Rows.frameAsksSpec) false w args)
      (Rows.frameAsksSpec.post enc Tryd.prog Tryd.f3 false true false false) := by
  refine returnsInHanded_of_change_and (C := Tryd.checked) (X := fun w _ => laidMetH Tryd.prog laids w) (fun _ _ _ hh h => h.of_heap hh) own started (by kernel_rfl) Tryd.func3
    (ChangeSpec.witness_shaped (enc := enc) (C := Tryd.checked) (os := os) (X := fun w _ => laidMetH Tryd.prog laids w) false (World.doorLaid Tryd.prog 400 os) #[.slice none 0 0, .slice none 0 0, .int .i64 0] 8 rfl (World.shaped_of_RefB (by kernel_rfl) (by kernel_rfl)) (by kernel_rfl) (by kernel_rfl) (by kernel_rfl) (door_met os _)) ?_
  intro W base args ds gs before hval0 hW _ _ hL _
  have hval : ∀ (j : Nat) t v, Tryd.f3.params[j]? = some t → args[j]? = some v → Value.okWide Tryd.prog W .any base t v := hval0
  have hW' := hW
  obtain ⟨p, q, hA0, hV, rfl, hfz, hnd⟩ := hW
  have hA : DataW.TrodAll enc Tryd.prog W 0 (fun _ => true) true Tryd.f3.params.toList args.toList ds p := hA0
  rw [Tryd.params3] at hA hval
  obtain ⟨v0, vs0, d0, ds0, p0, q0, hargs, rfl, rfl, h0, r0⟩ := trodAll_cons hA
  obtain ⟨v1, vs1, d1, ds1, p1, q1, rfl, rfl, rfl, h1, r1⟩ := trodAll_cons r0
  obtain ⟨v2, vs2, d2, ds2, p2, q2, rfl, rfl, rfl, h2, r2⟩ := trodAll_cons r1
  obtain ⟨rfl, rfl, rfl⟩ := trodAll_nil r2
  obtain rfl : args = #[v0, v1, v2] := by cases args; simp_all
  obtain ⟨rfl, rfl⟩ := trodVars_none hV
  obtain ⟨a0, w0⟩ := view_bytes (hval 0 22 v0 rfl rfl) h0
  obtain ⟨a1, w1⟩ := view_bytes (hval 1 22 v1 rfl rfl) h1
  obtain ⟨a2, rfl, rfl, rfl, w2⟩ := open_int Tryd.underlying3 (hval 2 3 v2 rfl rfl) h2
  clear hA0 hval0
  simp only [List.append_nil] at hW'
  refine (walkd v0 a0 w0 v1 a1 w1 a2 w2 W rfl (of_laid hL)).mono fun e W' ⟨he, hb⟩ => ?_
  subst he
  exact ⟨_, rfl, post_below (pa := p0 ++ (p1 ++ ([] ++ []))) (pv := []) hW' (fun _ _ _ => (trodAll_cons_mk (shut_bool Tryd.underlying4 _) trodAll_mk0)) (fun sp hsp => (trodAll_cons_mk (Trod_stays laidOut (by kernel_rfl) (of_decide_eq_true (by kernel_rfl)) h0 (fun x hx => hb.same (hW'.lt x (by simp [hx]))) (fun x hx => hsp x (by simp [hx]))) (trodAll_cons_mk (Trod_stays laidOut (by kernel_rfl) (of_decide_eq_true (by kernel_rfl)) h1 (fun x hx => hb.same (hW'.lt x (by simp [hx]))) (fun x hx => hsp x (by simp [hx]))) (trodAll_cons_mk (shut_int Tryd.underlying3 w2) trodAll_mk0)))) (fun _ _ => rfl) (by simp)
    hb (ok_one (by kernel_rfl) rfl (okWide_bool_mk Tryd.underlying4 _))⟩

theorem over : Rows.frameAsksRow.holds Tryd.pinned (OpenSpec.ofChange Rows.frameAsksSpec) :=
  OpenClaim.holds_of_wide 3 Tryd.f3 rfl rfl rfl rfl rfl rfl rfl ⟨rfl, rfl, rfl, rfl, rfl⟩ rfl rfl rfl rfl rfl (by kernel_rfl) Tryd.func3 (by kernel_rfl)
    (of_decide_eq_true (by kernel_rfl)) (by unfold Func.isWrapper; first | (rw [if_pos (by decide +kernel)]; kernel_rfl) | (rw [if_neg (by decide +kernel)]; exact ⟨rfl, rfl⟩))
    (fun os started H enc _ => lifted os started H enc)

/-- The tied card. -/
theorem proved : Rows.FrameAsksCardSaid :=
  Claim7.holds_tied_plain_at .later [] [.data] true _ false
    over (fun _ h => by cases h) (by kernel_rfl) (fun _ h => by cases h) frameAsks_row_tie rfl ⟨rfl, rfl⟩ (by kernel_rfl) rfl
    (fun f fn hf hfn => by
      obtain rfl : f = 3 := Option.some.inj ((show Tryd.prog.funcNamed "sojourn/sojournlaw4.FrameAsks" = some 3 by kernel_rfl).symm.trans hf) |>.symm
      obtain rfl : fn = Tryd.f3 := (Option.some.inj (Tryd.func3.symm.trans hfn)).symm
      exact ⟨by kernel_rfl, fun j t ht => by
        rw [Tryd.params3] at ht
        have hm : t ∈ [22, 22, 3] := by simpa using Array.mem_of_getElem? ht
        have hall : ([22, 22, 3].all fun u => !Tryd.prog.wantsStandIn u) = true := by kernel_rfl
        exact (show Tryd.prog.wantsStandIn t = false by simpa using List.all_eq_true.1 hall t hm)⟩)
    (by kernel_rfl)
#print axioms proved
end Go.Proofs.YthadgeihkeggfaaDoor.frameAsks
