/- told: the few things of the document that each statement asks besides. -/
import Derived.Test.YtfdgjdakaibifaaDoorPk8
import Derived.Lib.SlBytesConst
namespace Go.Proofs.YtfdgjdakaibifaaDoor
open Go.RowKit
namespace Pk

theorem told1 : encI (-1) = [1] := by unfold encI; rw [show zz (-1) = 1 by decide, enc_lo (by omega)]; rfl
theorem told2 : encT [97, 98] = [4, 97, 98] := by unfold encT encI; rw [show zz (([97, 98] : List UInt8).length : Int) = 4 by decide, enc_lo (by omega)]; rfl
theorem told3 : rInt (-5) 5 (some [1, 7, 4, 97, 98]) = (-1, some [7, 4, 97, 98]) := by decide
theorem told4 : rByte (some [7, 4, 97, 98]) = (7, some [4, 97, 98]) := by decide
theorem told5 : rText 2 (some [4, 97, 98]) = ([97, 98], some []) := by decide

theorem str_toList (l : List UInt8) : (str l).toList = l := ByteArray.toList_mk l
theorem rb_nine (W : World) (fr : Nat × Nat) : Rb (W.alloc (.cells #[.int .u8 49, .int .u8 50, .int .u8 51, .int .u8 52, .int .u8 53, .int .u8 54, .int .u8 55, .int .u8 56, .int .u8 57] 5 fr)) (fun _ => True) (some ⟨W.heap.size, 0, none⟩) 9 [49, 50, 51, 52, 53, 54, 55, 56, 57] :=
  ⟨rfl, fun _ => ⟨_, rfl, trivial, fun j x hj => by
    rw [Addr.add_lit, Nat.zero_add, World.cell?_alloc_mark]
    match j, hj with
    | 0, hj | 1, hj | 2, hj | 3, hj | 4, hj | 5, hj | 6, hj | 7, hj | 8, hj => simp at hj; subst hj; rfl
    | j + 9, hj => simp at hj⟩⟩
set_option maxHeartbeats 1600000 in
theorem told_any (w : World) (ht : Tab w) : Calls Tryd.prog 11 #[] w fun e w' => e = .returned (.bool true) ∧ Below w.heap.size w w' := by
  replace ht := Lib.hid ht
  have W0 := Lib.hid (Wr.new w)
  have be0 : Hid (Below w.heap.size w (w.alloc (.cells #[.pointer none, .int .i64 0] 26))) := (Below.refl _ _).alloc (Nat.le_refl _) _
  go_enter Tryd.func11, Tryd.ntmps11
  go_wp2_with fail
  refine (wint_any w.heap.size _ [] W0.out (-1) (by omega) (by omega) (by simp)).mono ?_
  rintro e w1 ⟨rfl, h1⟩
  have be1 : Hid _ := be0.out.trans h1.be
  have W1 : Hid _ := h1.wr
  rw [told1] at W1
  clear h1 be0 W0
  go_wp2_with fail
  refine (wbyte_any w.heap.size w1 _ W1.out 7 (by simp)).mono ?_
  rintro e w2 ⟨rfl, h2⟩
  have be2 : Hid _ := be1.out.trans h2.be
  have W2 : Hid (Wr w2 w.heap.size [1, 7]) := h2.wr
  clear h2 be1 W1
  go_wp2_with fail
  refine (wtext_any w.heap.size w2 _ W2.out [97, 98] (by simp)).mono ?_
  rintro e w3 ⟨rfl, h3⟩
  have be3 : Hid _ := be2.out.trans h3.be
  have W3 : Hid (Wr w3 w.heap.size [1, 7, 4, 97, 98]) := by have := h3.wr; rw [told2] at this; exact this
  clear h3 be2 W2
  go_wp2_with fail
  refine (bytes_any w.heap.size w3 _ W3.out (by simp)).mono ?_
  rintro e w4 ⟨v, rfl, h4, b4⟩
  obtain ⟨A, c, rfl⟩ := own_form h4
  have be4 : Hid (Below w.heap.size w w4) := be3.out.trans (b4.mono be3.out.size)
  have be4x : Hid (w.heap.size ≤ w4.heap.size) := be4.out.size
  have R4 : Hid _ := Rb.of_own h4
  have hA : Hid (A = none → c = 0) := fun e => by
    subst e
    rcases h4.2 with ⟨e, _⟩ | ⟨g, cap, cur, e, _⟩
    · injection e
    · injection e with e; cases e
  clear h4 b4 be3 W3
  go_wp2_with fail
  refine (new_any w4 A 5 c _ R4.out (fun g hg => hg.2.lt) (by omega) hA.out).mono ?_
  rintro e w5 ⟨r, rfl, hr5, R5, b5⟩
  have be5 : Hid (Below w.heap.size w w5) := be4.out.trans (b5.mono be4.out.size)
  have hs : (convert 34 9 (.slice A 5 c)).run Tryd.prog w5 = .ok (.string ⟨#[1, 7, 4, 97, 98]⟩) w5 := str_run (R4.out.keep (w' := w5) (T' := fun _ => True) (fun g hg => b5.block g hg.2.lt) (fun _ _ => trivial))
  replace hr5 := Lib.hid hr5
  replace R5 := Lib.hid R5
  clear b5 be4 R4 hA
  go_wp2_with fail
  have Q1 := rint_any r w5 _ (-5) 5 R5.out
  rw [told3] at Q1
  refine Q1.mono ?_
  rintro e w6 ⟨rfl, R6⟩
  clear Q1
  have be6 : Hid (Below w.heap.size w w6) := be5.out.trans (grown_below R6.gr (Nat.le_trans (Nat.le_refl _) (Nat.le_trans be4x.out hr5.out)) be5.out.size)
  replace R6 := Lib.hid R6.rd
  go_wp2_with fail
  have Q2 := rbyte_any r w6 _ R6.out
  rw [told4] at Q2
  refine Q2.mono ?_
  rintro e w7 ⟨rfl, R7⟩
  clear Q2
  have be7 : Hid (Below w.heap.size w w7) := be6.out.trans (grown_below R7.gr (Nat.le_trans be4x.out hr5.out) be6.out.size)
  replace R7 := Lib.hid R7.rd
  go_wp2_with fail
  have Q3 := rtext_any r w7 _ 2 R7.out
  rw [told5] at Q3
  refine Q3.mono ?_
  rintro e w8 ⟨rfl, R8⟩
  clear Q3
  have be8 : Hid (Below w.heap.size w w8) := be7.out.trans (grown_below R8.gr (Nat.le_trans be4x.out hr5.out) be7.out.size)
  replace R8 := Lib.hid R8.rd
  clear R7 R6 be7 be6 be5 R5 hs
  have e5 := str_toList [97, 98]
  go_wp2_with fail
  refine (rend_any r w8 _ R8.out).mono ?_
  rintro e w9 ⟨rfl, rfl⟩
  have kc := fun (w : World) (C : Array Value) (n c : Nat) => Lib.run_convert_bytes_const (P := Tryd.prog) w 34 5 C n c Tryd.underlying34 Tryd.underlying5
  have T8 : Hid (Tab w8) := ht.out.below be8.out
  go_wp2_with fail
  have S := sum_any (w8.alloc (.cells #[.int .u8 49, .int .u8 50, .int .u8 51, .int .u8 52, .int .u8 53, .int .u8 54, .int .u8 55, .int .u8 56, .int .u8 57] 5 (9, 10))) (some ⟨w8.heap.size, 0, none⟩) 9 9 _ (rb_nine w8 (9, 10)) (T8.out.below ((Below.refl _ _).alloc (Nat.le_refl _) _)) (by omega)
  rw [sum_nine] at S
  refine S.mono ?_
  rintro e w10 ⟨rfl, hw10⟩
  clear S
  have be10 : Hid (Below w.heap.size w w10) := by rw [← hw10]; exact be8.out.alloc be8.out.size _
  clear hw10 kc
  go_wp2_with fail
  refine (new_any w10 none 0 0 [] (T := fun _ => False) Rb.none_ (fun _ h => h.elim) (by omega) (fun _ => rfl)).mono ?_
  rintro e w11 ⟨r2, rfl, hr11, R11, b11⟩
  have be11 : Hid (Below w.heap.size w w11) := be10.out.trans (b11.mono be10.out.size)
  replace R11 := Lib.hid R11
  clear b11 hr11
  go_wp2_with fail
  refine (rend_any r2 w11 _ R11.out).mono ?_
  rintro e w12 ⟨rfl, rfl⟩
  go_wp2
  go_ret
  exact ⟨rfl, be11.out⟩
end Pk
end Go.Proofs.YtfdgjdakaibifaaDoor
