/- The document's own answer for numbers and texts (sojournref1): the same lists. -/
import Derived.Test.YtidfpbnepdjagaaDoorPk7
namespace Go.Proofs.YtidfpbnepdjagaaDoor
open Go.RowKit
namespace Pk

theorem u64_not (x : Nat) (h : x < 18446744073709551616) : bits .xor .u64 IntKind.u64.max (x : Int) = ((18446744073709551615 - x : Nat) : Int) := by
  have hc : bits .xor .u64 IntKind.u64.max (x : Int) = bits .xor .u64 (x : Int) 18446744073709551615 := by
    rw [show IntKind.u64.max = 18446744073709551615 from by decide]
    simp only [bits, BitVec.xor_comm]
  rw [hc, xor_u64_ones x h]
theorem zz_pos {v : Int} (h : 0 ≤ v) : v * 2 = ((zz v : Nat) : Int) := by unfold zz; rw [if_pos h]; omega
theorem zz_neg {v : Int} (h : v < 0) (h1 : -9223372036854775808 ≤ v) : bits .xor .u64 IntKind.u64.max (IntKind.u64.wrap (IntKind.u64.wrap v * 2)) = ((zz v : Nat) : Int) := by
  have e1 : IntKind.u64.wrap (IntKind.u64.wrap v * 2) = (((2 * v + 18446744073709551616).toNat : Nat) : Int) := by rw [IntKind.wrap_u64, IntKind.wrap_u64]; omega
  rw [e1, u64_not _ (by omega)]
  unfold zz
  rw [if_neg (by omega)]; omega

def RefAt (w : World) (all : List UInt8) (u v : Value) (wr : World) : Prop :=
  ∃ (x : Nat) (pre : List UInt8), u = .int .u64 x ∧ x < 18446744073709551616 ∧ wr.ownsRow w.heap.size 5 1 v pre.length (u8s pre) ∧ pre ++ enc x = all ∧ pre.length ≤ 10 ∧ Below w.heap.size w wr
theorem ref_next {w wr w6 : World} {all pre : List UInt8} {x : Nat} {A : Option Addr} {c : Nat} {v6 : Value} {b : Int} (hx : 127 < x) (hx2 : x < 18446744073709551616) (hall : pre ++ enc x = all) (hl : all.length ≤ 10) (hb : Below w.heap.size w wr)
    (ho : wr.ownsRow w.heap.size 5 1 (.slice A pre.length c) pre.length (u8s pre)) (h6 : w6.ownsRow w.heap.size 5 1 v6 (pre.length + 1) (u8s (pre ++ [UInt8.ofNat (x % 128 + 128)]))) (hg6 : (wr.alloc (.cells #[.int .u8 b] 5)).grownBy w6 (Value.slice A pre.length c).ownBlock) :
    RefAt w all (.int .u64 ((x : Int) / 128)) v6 w6 := by
  refine ⟨x / 128, pre ++ [UInt8.ofNat (x % 128 + 128)], by simp, by omega, by rw [List.length_append]; exact h6, ?_, ?_, (hb.alloc hb.size _).grown hg6 (by simp; exact Nat.le_trans hb.size (Nat.le_succ _)) (fun i hi => (ho.lt i hi).1)⟩
  · have e := enc_hi (u := x) (by omega)
    rw [← hall, e, List.append_assoc]; rfl
  · have := congrArg List.length hall
    rw [List.length_append] at this
    have := enc_ne x
    simp; omega

theorem ref_last {w wr w6 : World} {pre : List UInt8} {A : Option Addr} {c : Nat} {b : Int} (hb : Below w.heap.size w wr) (ho : wr.ownsRow w.heap.size 5 1 (.slice A pre.length c) pre.length (u8s pre))
    (hg6 : (wr.alloc (.cells #[.int .u8 b] 5)).grownBy w6 (Value.slice A pre.length c).ownBlock) : Below w.heap.size w w6 :=
  (hb.alloc hb.size _).grown hg6 (by simp; exact Nat.le_trans hb.size (Nat.le_succ _)) (fun i hi => (ho.lt i hi).1)

def RefTo (w : World) (bs : List UInt8) (e : Ending) (w' : World) : Prop := e = .returned (.string (str bs)) ∧ Below w.heap.size w w'

set_option maxHeartbeats 1600000 in
set_option maxRecDepth 100000 in
theorem refint (w : World) (v : Int) (h1 : -9223372036854775808 ≤ v) (h2 : v ≤ 9223372036854775807) :
    Calls Tryd.prog 25 #[.int .i64 v] w (RefTo w (encI v)) := by
  have Z := Lib.hid (zz_lt v h1 h2)
  have L := Lib.hid (encI_len v h1 h2)
  have st : Hid (∀ (e : Int), e = ((zz v : Nat) : Int) → RefAt w (encI v) (.int .u64 e) (.slice none 0 0) w) := fun e he => by
    rw [he]
    exact ⟨zz v, [], rfl, Z.out, World.ownsRow_nil _ _ _ _, rfl, by simp, Below.refl _ _⟩
  have P0 : Hid (0 ≤ v → v * 2 = ((zz v : Nat) : Int)) := fun h => zz_pos h
  have P1 : Hid (v < 0 → bits .xor .u64 IntKind.u64.max (IntKind.u64.wrap (IntKind.u64.wrap v * 2)) = ((zz v : Nat) : Int)) := fun h => zz_neg h h1
  by_cases hv : v < 0
  all_goals
    go_enter Tryd.func25, Tryd.ntmps25
    go_wp2
    go_loopw [3, 4] (fun u s wr => RefAt w (encI v) u s wr) (fun u _ _ => (intOf u).toNat)
    case atStart =>
      first
        | exact st.out _ (P1.out (by omega))
        | exact st.out _ (P0.out (by omega))
    case round =>
      obtain ⟨x, pre, rfl, hx, ho, hall, hl, hb⟩ := hrel
      obtain ⟨A, c, rfl⟩ := own_form ho
      replace hx := Lib.hid hx
      replace ho := Lib.hid ho
      replace hall := Lib.hid hall
      replace hb := Lib.hid hb
      have hsz : Hid (w.heap.size ≤ wr.heap.size) := hb.out.size
      have hnb : pre.length + 1 ≤ 140737488355328 := by omega
      by_cases hgt : 127 < x
      · have Rn : Hid _ := rb_one wr _ _ (byte_hi x)
        have On : Hid _ := ho.out.alloc (.cells #[.int .u8 (bits .or .u8 ((x : Int) % 256) 128)] 5)
        go_wp2_with (at_builtin; refine wpList_append_b _ rfl (.tmp 14) (.tmp 18) rfl w.heap.size (.slice A pre.length c) pre.length pre rfl On.out rfl Rn.out hnb (by have := hsz.out; simp; omega) ?_; intro v6 w6 hown6 hg6 _; have st6 : Hid (RefAt w (encI v) (.int .u64 ((x : Int) / 128)) v6 w6) := ref_next hgt hx.out hall.out L.out hb.out ho.out hown6 hg6; clear hown6 hg6)
        go_roundw
        case rel => exact st6.out
        case measure => simp [intOf]; omega
      · have Rn : Hid _ := rb_one wr _ _ (byte_lo x (by omega))
        have On : Hid _ := ho.out.alloc (.cells #[.int .u8 (x : Int)] 5)
        have hfin : Hid (pre ++ [UInt8.ofNat x] = encI v) := by have := hall.out; rw [enc_lo (by omega)] at this; exact this
        go_wp2_with (at_builtin; refine wpList_append_b _ rfl (.tmp 22) (.tmp 25) rfl w.heap.size (.slice A pre.length c) pre.length pre rfl On.out rfl Rn.out hnb (by have := hsz.out; simp; omega) ?_; intro v6 w6 hown6 hg6 _; obtain ⟨A6, c6, rfl⟩ := own_form hown6; have hs6 := str_run (c := c6) (Rb.of_own hown6); have be6 : Hid (Below w.heap.size w w6) := ref_last hb.out ho.out hg6; clear hown6 hg6)
        go_ret
        refine ⟨?_, be6.out⟩
        show Ending.returned (.string (str (pre ++ [UInt8.ofNat x]))) = _
        rw [hfin.out]

theorem str_cat (a b : List UInt8) : str a ++ str b = str (a ++ b) := by unfold str; rw [ByteArray.mk_append_mk]
theorem str_add (a b : List UInt8) (h : a.length + b.length ≤ 9223372036854775807) (w : World) : (Op.stringOp .add (str a) (str b)).run Tryd.prog w = .ok (.string (str (a ++ b))) w := by
  rw [run_string_add_sum w _ _ (by rw [str_size, str_size]; exact h), str_cat]

set_option maxHeartbeats 1600000 in
theorem reftext (w : World) (s : List UInt8) (hs : s.length ≤ 140737488355300) :
    Calls Tryd.prog 26 #[.string (str s)] w (RefTo w (encT s)) := by
  have hz := str_size s
  have I := refint w ((str s).size : Int) (by omega) (by omega)
  have hl := encI_len ((str s).size : Int) (by omega) (by omega)
  have hadd := str_add (encI ((str s).size : Int)) s (by omega)
  have hq1 : ¬ (str (encI ((str s).size : Int))).size + (str s).size > 9223372036854775807 := by rw [str_size]; omega
  have hcat := str_cat (encI ((str s).size : Int)) s
  have hfin : Hid (encI ((str s).size : Int) ++ s = encT s) := by unfold Hid encT; rw [hz]
  have hb2 : (str s).size ≤ 9223372036854775807 := by omega
  replace hz := Lib.hid hz
  replace I := Lib.hid I
  clear hl hs
  go_enter Tryd.func26, Tryd.ntmps26
  go_wp2_with fail
  refine I.out.mono ?_
  rintro e w1 ⟨rfl, hb⟩
  replace hb := Lib.hid hb
  go_wp2
  go_ret
  refine ⟨?_, hb.out⟩
  show Ending.returned (.string (str (encI ((str s).size : Int) ++ s))) = _
  rw [hfin.out]
end Pk
end Go.Proofs.YtidfpbnepdjagaaDoor
