/- The document's own reader: its Int. -/
import Derived.Test.YtbolcapgocjgcaaGreatDoorPk7
import Derived.Test.YtbolcapgocjgcaaGreatDoorPkM
import Derived.Test.YtbolcapgocjgcaaGreatDoorPk3
import Derived.Test.YtbolcapgocjgcaaGreatDoorPk4
import Derived.Deep.QuietTactic
import Derived.BigQuiet
import Derived.Deep.RegionWith
import Derived.Test.YtbolcapgocjgcaaGreatDoorPk9
import Derived.Lib.QuietBelow
namespace Go.Proofs.YtbolcapgocjgcaaGreatDoor
open Go.RowKit
namespace Pk

theorem u64_not (x : Nat) (h : x < 18446744073709551616) : bits .xor .u64 IntKind.u64.max (x : Int) = ((18446744073709551615 - x : Nat) : Int) := by
  have hc : bits .xor .u64 IntKind.u64.max (x : Int) = bits .xor .u64 (x : Int) 18446744073709551615 := by
    rw [show IntKind.u64.max = 18446744073709551615 from by decide]
    simp only [bits, BitVec.xor_comm]
  rw [hc, xor_u64_ones x h]
theorem zz_pos {v : Int} (h : 0 ≤ v) : v * 2 = ((zz v : Nat) : Int) := by unfold zz; rw [if_pos h]; omega
theorem zz_neg {v : Int} (h : v < 0) (h1 : -9223372036854775808 ≤ v) : bits .xor .u64 IntKind.u64.max (IntKind.u64.wrap (IntKind.u64.wrap v * 2)) = ((zz v : Nat) : Int) := by
  have e1 : IntKind.u64.wrap (IntKind.u64.wrap v * 2) = (((2 * v + 18446744073709551616).toNat : Nat) : Int) := by rw [IntKind.wrap_u64, IntKind.wrap_u64]; omega
  rw [e1, u64_not _ (by omega)]
  unfold zz
  rw [if_neg (by omega)]; omega

def RefAt (w : World) (all : List UInt8) (u v : Value) (wr : World) : Prop :=
  ∃ (x : Nat) (pre : List UInt8), u = .int .u64 x ∧ x < 18446744073709551616 ∧ wr.ownsRow w.heap.size 5 1 v pre.length (u8s pre) ∧ pre ++ enc x = all ∧ pre.length ≤ 10 ∧ Below w.heap.size w wr
theorem ref_next {w wr w6 : World} {all pre : List UInt8} {x : Nat} {A : Option Addr} {c : Nat} {v6 : Value} {b : Int} (hx : 127 < x) (hx2 : x < 18446744073709551616) (hall : pre ++ enc x = all) (hl : all.length ≤ 10) (hb : Below w.heap.size w wr)
    (ho : wr.ownsRow w.heap.size 5 1 (.slice A pre.length c) pre.length (u8s pre)) (h6 : w6.ownsRow w.heap.size 5 1 v6 (pre.length + 1) (u8s (pre ++ [UInt8.ofNat (x % 128 + 128)]))) (hg6 : (wr.alloc (.cells #[.int .u8 b] 5)).grownBy w6 (Value.slice A pre.length c).ownBlock) :
    RefAt w all (.int .u64 ((x : Int) / 128)) v6 w6 := by
  refine ⟨x / 128, pre ++ [UInt8.ofNat (x % 128 + 128)], by simp, by omega, by rw [List.length_append]; exact h6, ?_, ?_, (hb.alloc hb.size _).grown hg6 (by simp; exact Nat.le_trans hb.size (Nat.le_succ _)) (fun i hi => (ho.lt i hi).1)⟩
  · have e := enc_hi (u := x) (by omega)
    rw [← hall, e, List.append_assoc]; rfl
  · have := congrArg List.length hall
    rw [List.length_append] at this
    have := enc_ne x
    simp; omega

theorem ref_last {w wr w6 : World} {pre : List UInt8} {A : Option Addr} {c : Nat} {b : Int} (hb : Below w.heap.size w wr) (ho : wr.ownsRow w.heap.size 5 1 (.slice A pre.length c) pre.length (u8s pre))
    (hg6 : (wr.alloc (.cells #[.int .u8 b] 5)).grownBy w6 (Value.slice A pre.length c).ownBlock) : Below w.heap.size w w6 :=
  (hb.alloc hb.size _).grown hg6 (by simp; exact Nat.le_trans hb.size (Nat.le_succ _)) (fun i hi => (ho.lt i hi).1)

def RefTo (w : World) (bs : List UInt8) (e : Ending) (w' : World) : Prop := e = .returned (.string (str bs)) ∧ Below w.heap.size w w'

set_option maxHeartbeats 1600000 in
set_option maxRecDepth 100000 in
theorem refint (w : World) (v : Int) (h1 : -9223372036854775808 ≤ v) (h2 : v ≤ 9223372036854775807) :
    Calls Tryz.prog 38 #[.int .i64 v] w (RefTo w (encI v)) := by
  have Z := Lib.hid (zz_lt v h1 h2)
  have L := Lib.hid (encI_len v h1 h2)
  have st : Hid (∀ (e : Int), e = ((zz v : Nat) : Int) → RefAt w (encI v) (.int .u64 e) (.slice none 0 0) w) := fun e he => by
    rw [he]
    exact ⟨zz v, [], rfl, Z.out, World.ownsRow_nil _ _ _ _, rfl, by simp, Below.refl _ _⟩
  have P0 : Hid (0 ≤ v → v * 2 = ((zz v : Nat) : Int)) := fun h => zz_pos h
  have P1 : Hid (v < 0 → bits .xor .u64 IntKind.u64.max (IntKind.u64.wrap (IntKind.u64.wrap v * 2)) = ((zz v : Nat) : Int)) := fun h => zz_neg h h1
  by_cases hv : v < 0
  all_goals
    go_enter Tryz.func38, Tryz.ntmps38
    go_wp2
    go_loopw [3, 4] (fun u s wr => RefAt w (encI v) u s wr) (fun u _ _ => (intOf u).toNat)
    case atStart =>
      first
        | exact st.out _ (P1.out (by omega))
        | exact st.out _ (P0.out (by omega))
    case round =>
      obtain ⟨x, pre, rfl, hx, ho, hall, hl, hb⟩ := hrel
      obtain ⟨A, c, rfl⟩ := own_form ho
      replace hx := Lib.hid hx
      replace ho := Lib.hid ho
      replace hall := Lib.hid hall
      replace hb := Lib.hid hb
      have hsz : Hid (w.heap.size ≤ wr.heap.size) := hb.out.size
      have hnb : pre.length + 1 ≤ 140737488355328 := by omega
      by_cases hgt : 127 < x
      · have Rn : Hid _ := rb_one wr _ _ (byte_hi x)
        have On : Hid _ := ho.out.alloc (.cells #[.int .u8 (bits .or .u8 ((x : Int) % 256) 128)] 5)
        go_wp2_with (at_builtin; refine wpList_append_b _ rfl (.tmp 14) (.tmp 18) rfl w.heap.size (.slice A pre.length c) pre.length pre rfl On.out rfl Rn.out hnb (by have := hsz.out; simp; omega) ?_; intro v6 w6 hown6 hg6 _; have st6 : Hid (RefAt w (encI v) (.int .u64 ((x : Int) / 128)) v6 w6) := ref_next hgt hx.out hall.out L.out hb.out ho.out hown6 hg6; clear hown6 hg6)
        go_roundw
        case rel => exact st6.out
        case measure => simp [intOf]; omega
      · have Rn : Hid _ := rb_one wr _ _ (byte_lo x (by omega))
        have On : Hid _ := ho.out.alloc (.cells #[.int .u8 (x : Int)] 5)
        have hfin : Hid (pre ++ [UInt8.ofNat x] = encI v) := by have := hall.out; rw [enc_lo (by omega)] at this; exact this
        go_wp2_with (at_builtin; refine wpList_append_b _ rfl (.tmp 22) (.tmp 25) rfl w.heap.size (.slice A pre.length c) pre.length pre rfl On.out rfl Rn.out hnb (by have := hsz.out; simp; omega) ?_; intro v6 w6 hown6 hg6 _; obtain ⟨A6, c6, rfl⟩ := own_form hown6; have hs6 := str_run (c := c6) (Rb.of_own hown6); have be6 : Hid (Below w.heap.size w w6) := ref_last hb.out ho.out hg6; clear hown6 hg6)
        go_ret
        refine ⟨?_, be6.out⟩
        show Ending.returned (.string (str (pre ++ [UInt8.ofNat x]))) = _
        rw [hfin.out]

theorem str_cat (a b : List UInt8) : str a ++ str b = str (a ++ b) := by unfold str; rw [ByteArray.mk_append_mk]
theorem str_add (a b : List UInt8) (h : a.length + b.length ≤ 9223372036854775807) (w : World) : (Op.stringOp .add (str a) (str b)).run Tryz.prog w = .ok (.string (str (a ++ b))) w := by
  rw [run_string_add_sum w _ _ (by rw [str_size, str_size]; exact h), str_cat]

end Pk
end Go.Proofs.YtbolcapgocjgcaaGreatDoor

namespace Go.Proofs.YtbolcapgocjgcaaGreatDoor
namespace Pk

theorem enc_of_dec (l : List UInt8) : ∀ i u x r, i ≤ 9 → dec i u l = some (x, r) → ∃ v, x = u + v * 128 ^ i ∧ l = enc v ++ r ∧ (i = 0 ∨ v ≠ 0) := by
  induction l with
  | nil => intro i u x r _ h; simp [dec] at h
  | cons c t ih =>
    intro i u x r hi h
    rw [dec] at h
    split at h
    · cases h
    · rename_i h9
      split at h
      · rename_i hc
        split at h
        · rename_i hz
          simp only [Option.some.injEq, Prod.mk.injEq] at h
          obtain ⟨rfl, rfl⟩ := h
          refine ⟨c.toNat, rfl, ?_, hz⟩
          rw [enc_lo hc]
          simp
        · cases h
      · rename_i hc
        obtain ⟨v, hx, hl, hv⟩ := ih (i + 1) _ x r (by omega) h
        have hcb := c.toNat_lt
        refine ⟨c.toNat % 128 + 128 * v, ?_, ?_, .inr (by omega)⟩
        · rw [hx, Nat.pow_succ, Nat.add_mul, Nat.add_assoc]
          congr 2
          rw [Nat.mul_comm (128 ^ i) 128, ← Nat.mul_assoc, Nat.mul_comm v 128]
        · rw [enc_hi (by omega), hl]
          have e1 : (c.toNat % 128 + 128 * v) % 128 + 128 = c.toNat := by omega
          have e2 : (c.toNat % 128 + 128 * v) / 128 = v := by omega
          rw [e1, e2]
          simp
/-- The one form of a number: where it is taken, its bytes are those that would be put; else not. -/
theorem form_yes {l : List UInt8} {k u : Nat} {c : UInt8} {t : List UInt8} {x : Nat} (hd : dec 0 0 l = dec k u (c :: t)) (ht : l.drop (k + 1) = t) (hs : dec k u (c :: t) = some (x, t)) (hl : k < l.length) : enc x = l.take (k + 1) := by
  obtain ⟨v, hx, hlv, _⟩ := enc_of_dec l 0 0 x t (by omega) (hd.trans hs)
  simp only [Nat.pow_zero, Nat.mul_one, Nat.zero_add] at hx
  subst hx
  have hlen := congrArg List.length hlv
  rw [List.length_append, ← ht, List.length_drop] at hlen
  have e : (enc x).length = k + 1 := by omega
  have h2 := congrArg (List.take (k + 1)) hlv
  rw [List.take_append_of_le_length (by omega)] at h2
  rw [h2, List.take_of_length_le (by omega)]
theorem form_no {l : List UInt8} {k u : Nat} {c : UInt8} {t : List UInt8} {x : Nat} (hd : dec 0 0 l = dec k u (c :: t)) (hs : dec k u (c :: t) = none) (hx : x < 18446744073709551616) : enc x ≠ l.take (k + 1) := by
  intro e
  have h := dec_enc (l.drop (k + 1)) 9 0 0 x rfl (by omega) (by simpa using hx) (.inl rfl)
  rw [e, List.take_append_drop, hd, hs] at h
  cases h
end Pk
end Go.Proofs.YtbolcapgocjgcaaGreatDoor

namespace Go.Proofs.YtbolcapgocjgcaaGreatDoor
open Go.RowKit
namespace Pk

/-- The document's reader in block p. -/
def Rx (w : World) (p : Nat) (s : St) : Prop := ∃ bs f, w.heap[p]? = some (.cells #[.string (str bs), .bool f] 103 (0, 0)) ∧ bs.length ≤ 400 ∧ s = if f then none else some bs
structure RxTo (w : World) (p : Nat) (s : St) (w' : World) : Prop where
  rx : Rx w' p s
  gr : w.grownBy w' (some p)
theorem Rx.lt {w : World} {p : Nat} {s : St} (h : Rx w p s) : p < w.heap.size := by obtain ⟨bs, f, h1, _⟩ := h; exact lt_some h1
theorem Rx.drewN {w : World} {p : Nat} {s : St} (h : Rx w p s) (k : Nat) : Rx (w.drewN k) p s := h
theorem Rx.same {w w' : World} {p : Nat} {s : St} (h : Rx w p s) (hb : w'.heap[p]? = w.heap[p]?) : Rx w' p s := by obtain ⟨bs, f, h1, h2⟩ := h; exact ⟨bs, f, hb.trans h1, h2⟩

set_option maxHeartbeats 400000 in
theorem xwrong (p : Nat) (w : World) (s : St) (h : Rx w p s) : Calls Tryz.prog 74 #[.pointer (some ⟨p, 0, none⟩)] w fun e w' => e = .returned (.tuple #[]) ∧ RxTo w p none w' := by
  obtain ⟨bs, f, h1, h2, h3⟩ := h
  have c0 : w.cell? ⟨p, 0, none⟩ = some (.string (str bs)) := one_at h1
  have c1 : w.cell? ⟨p, 1, none⟩ = some (.bool f) := one_at h1
  have f0 : w.frozen? ⟨p, 0, none⟩ = false := one_free h1
  have f1 : w.frozen? ⟨p, 1, none⟩ = false := one_free h1
  have fin : Hid (RxTo w p none ((w.setCell ⟨p, 1, none⟩ (.bool true)).setCell ⟨p, 0, none⟩ (.string ⟨#[]⟩))) :=
    ⟨⟨[], true, one_set (one_set h1 _) _, by simp, rfl⟩, grown_trans (grown_set _ _ _ _) (grown_set _ _ _ _)⟩
  clear h1 h2 h3
  go_enter Tryz.func74, Tryz.ntmps74
  go_wp2
  go_end0
  exact ⟨rfl, fin.out⟩

set_option maxHeartbeats 400000 in
theorem xend (p : Nat) (w : World) (s : St) (h : Rx w p s) : Calls Tryz.prog 56 #[.pointer (some ⟨p, 0, none⟩)] w fun e w' => e = .returned (.int .i64 (rEnd s)) ∧ w = w' := by
  obtain ⟨bs, f, h1, h2, h3⟩ := h
  have c0 : w.cell? ⟨p, 0, none⟩ = some (.string (str bs)) := one_at h1
  have c1 : w.cell? ⟨p, 1, none⟩ = some (.bool f) := one_at h1
  clear h1
  subst h3
  cases f with
  | true =>
    go_enter Tryz.func56, Tryz.ntmps56
    go_wp2
    go_ret
    exact ⟨rfl, rfl⟩
  | false =>
    rcases bs with _ | ⟨x, t⟩
    · have hs : (str []).size = 0 := rfl
      go_enter Tryz.func56, Tryz.ntmps56
      go_wp2
      go_ret
      exact ⟨rfl, rfl⟩
    · have hs : 0 < (str (x :: t)).size := by rw [str_size]; simp
      go_enter Tryz.func56, Tryz.ntmps56
      go_wp2
      go_ret
      exact ⟨rfl, rfl⟩

theorem str_drop (bs : List UInt8) (k : Nat) : (str bs).extract k (str bs).size = str (bs.drop k) := by
  apply ByteArray.ext
  apply Array.toList_inj.1
  simp [str, ByteArray.size]
  exact List.take_of_length_le (by simp)
theorem str_take (bs : List UInt8) (k : Nat) : (str bs).extract 0 k = str (bs.take k) := by
  apply ByteArray.ext
  apply Array.toList_inj.1
  simp [str]

/-- The loop of the document's Int. -/
def XAt (l : List UInt8) (u i : Value) : Prop := ∃ (k x : Nat), i = .int .i64 k ∧ u = .int .u64 x ∧ k ≤ 10 ∧ k ≤ l.length ∧ x < 128 ^ k ∧ dec 0 0 l = dec k x (l.drop k) ∧ (k = 10 → dec 0 0 l = none)

theorem and127_64 (c : UInt8) : bits .and .u64 (c.toNat : Int) 127 = ((c.toNat % 128 : Nat) : Int) := by
  have hc := c.toNat_lt
  have h := u64_and_nat c.toNat 127 (by omega) (by omega)
  rw [Nat.and_two_pow_sub_one_eq_mod c.toNat 7] at h
  exact h

theorem grpx (k x : Nat) (c : UInt8) (hk : k ≤ 9) (hx : x < 128 ^ k) (h9 : ¬ (k = 9 ∧ 1 < c.toNat % 128)) :
    bits .or .u64 (x : Int) (IntKind.u64.wrap (bits .and .u64 (c.toNat : Int) 127 * 2 ^ (7 * k))) = ((x + c.toNat % 128 * 128 ^ k : Nat) : Int) := by
  have h := grp_at k x c hk hx h9
  rw [wrap_and] at h
  rw [and127_64]
  exact h
theorem grpx9 (x : Nat) (c : UInt8) (hx : x < 128 ^ 9) (h9 : ¬ 1 < c.toNat % 128) :
    bits .or .u64 (x : Int) (IntKind.u64.wrap (bits .and .u64 (c.toNat : Int) 127 * 9223372036854775808)) = ((x + c.toNat % 128 * 128 ^ 9 : Nat) : Int) := by
  have h := grpx 9 x c (by omega) hx (by omega)
  exact h
theorem drop_at {bs : List UInt8} {k : Nat} {c : UInt8} (h : bs[k]? = some c) : bs.drop k = c :: bs.drop (k + 1) := by
  obtain ⟨hl, rfl⟩ := List.getElem?_eq_some_iff.1 h
  exact List.drop_eq_getElem_cons hl
theorem x_next {bs : List UInt8} {k x : Nat} {c : UInt8} {v : Int} (hc : bs[k]? = some c) (hdec : dec 0 0 bs = dec k x (bs.drop k)) (hk : k < 10) (h9 : ¬ k = 9) (h128 : 128 ≤ c.toNat) (hx : x < 128 ^ k) (hv : v = ((x + c.toNat % 128 * 128 ^ k : Nat) : Int)) :
    XAt bs (.int .u64 v) (.int .i64 ((k : Int) + 1)) := by
  subst hv
  refine ⟨k + 1, _, rfl, rfl, by omega, (List.getElem?_eq_some_iff.1 hc).1, ?_, ?_, by omega⟩
  · have : c.toNat % 128 * 128 ^ k ≤ 127 * 128 ^ k := Nat.mul_le_mul_right _ (by omega)
    rw [Nat.pow_succ]; omega
  · rw [hdec, drop_at hc, dec, if_neg (by omega), if_neg (by omega)]

theorem uz_even {y : Nat} (h : y % 2 = 0) : ((y : Int) / 2) = uz y := by unfold uz; rw [if_pos h]; omega
theorem uz_odd {y : Nat} (h : y % 2 = 1) (hy : y < 18446744073709551616) : bits .xor .i64 (-1) ((y : Int) / 2) = uz y := by
  have := i64_not (y / 2) (by omega)
  rw [show ((y : Int) / 2) = ((y / 2 : Nat) : Int) by omega, this]
  unfold uz; rw [if_neg (by omega)]; omega
theorem and1_64 (y : Nat) (h : y < 18446744073709551616) : bits .and .u64 (y : Int) 1 = ((y % 2 : Nat) : Int) := by
  have := u64_and_nat y 1 h (by omega)
  rw [Nat.and_one_is_mod] at this
  exact this
section
variable {bs : List UInt8} {k x y : Nat} {c : UInt8} {lo hi : Int}
theorem x_dec (hc : bs[k]? = some c) (h9 : ¬ (k = 9 ∧ 1 < c.toNat)) (h128 : c.toNat < 128) (hy : y = x + c.toNat % 128 * 128 ^ k) :
    dec k x (bs.drop k) = if k = 0 ∨ c.toNat ≠ 0 then some (y, bs.drop (k + 1)) else none := by
  rw [drop_at hc, dec, if_neg h9, if_pos h128, hy, Nat.mod_eq_of_lt h128]
theorem x_out (hc : bs[k]? = some c) (hdec : dec 0 0 bs = dec k x (bs.drop k)) (h9 : ¬ (k = 9 ∧ 1 < c.toNat)) (h128 : c.toNat < 128) (hy : y = x + c.toNat % 128 * 128 ^ k) (hb : uz y < lo ∨ hi < uz y) : rInt lo hi (some bs) = (0, none) := by
  have hd := x_dec hc h9 h128 hy
  by_cases hz : k = 0 ∨ c.toNat ≠ 0
  · rw [if_pos hz] at hd
    exact rInt_out (hdec.trans hd) hb
  · rw [if_neg hz] at hd
    exact rInt_none (.inr ⟨bs, rfl, hdec.trans hd⟩)
theorem x_yes (hc : bs[k]? = some c) (hdec : dec 0 0 bs = dec k x (bs.drop k)) (h9 : ¬ (k = 9 ∧ 1 < c.toNat)) (h128 : c.toNat < 128) (hy : y = x + c.toNat % 128 * 128 ^ k) (hz : k = 0 ∨ c.toNat ≠ 0) (h1 : ¬ uz y < lo) (h2 : ¬ hi < uz y) :
    rInt lo hi (some bs) = (uz y, some (bs.drop (k + 1))) ∧ encI (uz y) = bs.take (k + 1) := by
  have hd := x_dec hc h9 h128 hy
  rw [if_pos hz] at hd
  refine ⟨rInt_in (hdec.trans hd) h1 h2, ?_⟩
  unfold encI
  rw [zz_uz]
  have hl := (List.getElem?_eq_some_iff.1 hc).1
  have hd2 := hdec
  rw [drop_at hc] at hd2 hd
  exact form_yes hd2 rfl hd hl
theorem x_no (hc : bs[k]? = some c) (hdec : dec 0 0 bs = dec k x (bs.drop k)) (h9 : ¬ (k = 9 ∧ 1 < c.toNat)) (h128 : c.toNat < 128) (hy : y = x + c.toNat % 128 * 128 ^ k) (hyb : y < 18446744073709551616) (hz : ¬ (k = 0 ∨ c.toNat ≠ 0)) :
    rInt lo hi (some bs) = (0, none) ∧ encI (uz y) ≠ bs.take (k + 1) := by
  have hd := x_dec hc h9 h128 hy
  rw [if_neg hz] at hd
  refine ⟨rInt_none (.inr ⟨bs, rfl, hdec.trans hd⟩), ?_⟩
  unfold encI
  rw [zz_uz]
  have hd2 := hdec
  rw [drop_at hc] at hd2 hd
  exact form_no hd2 hd hyb
end
theorem rx_drewN {w w' : World} {p : Nat} {s : St} {n : Nat} (h : RxTo (w.drewN n) p s w') : RxTo w p s w' := ⟨h.rx, h.gr.os, h.gr.tape, h.gr.output, h.gr.size, h.gr.block⟩

end Pk
end Go.Proofs.YtbolcapgocjgcaaGreatDoor

namespace Go.Proofs.YtbolcapgocjgcaaGreatDoor
open Go.RowKit Go.Sort
namespace Pk

theorem grown_of_below {w w' : World} {r : Option Nat} (hb : Below w.heap.size w w') : w.grownBy w' r := ⟨hb.os, hb.tape, hb.output, hb.size, fun k hk _ => hb.block k hk⟩
theorem rx_put {w w2 : World} {p : Nat} {bs bs' : List UInt8} (h1 : w.heap[p]? = some (.cells #[.string (str bs), .bool false] 103 (0, 0))) (hb : Below w.heap.size w w2) (hl : bs'.length ≤ 400) :
    RxTo w p (some bs') (w2.setCell ⟨p, 0, none⟩ (.string (str bs'))) :=
  ⟨⟨bs', false, one_set ((hb.block p (lt_some h1)).trans h1) _, hl, rfl⟩, grown_trans (grown_of_below hb) (grown_set _ _ _ _)⟩
theorem rx_from {w w2 w' : World} {p : Nat} {s : St} (hb : Below w.heap.size w w2) (h : RxTo w2 p s w') : RxTo w p s w' := ⟨h.rx, grown_trans (grown_of_below hb) h.gr⟩

set_option maxHeartbeats 32000000 in
set_option maxRecDepth 100000 in
theorem xint (p : Nat) (w : World) (s : St) (lo hi : Int) (h : Rx w p s) : Calls Tryz.prog 55 #[.pointer (some ⟨p, 0, none⟩), .int .i64 lo, .int .i64 hi] w fun e w' => e = .returned (.int .i64 (rInt lo hi s).1) ∧ RxTo w p (rInt lo hi s).2 w' := by
  have hh := Lib.hid h
  obtain ⟨bs, f, h1, h2, h3⟩ := h
  have c0 : w.cell? ⟨p, 0, none⟩ = some (.string (str bs)) := one_at h1
  have c1 : w.cell? ⟨p, 1, none⟩ = some (.bool f) := one_at h1
  have f0 : w.frozen? ⟨p, 0, none⟩ = false := one_free h1
  cases f with
  | true =>
    obtain rfl : s = none := h3
    have X := Lib.hid (xwrong p w none hh.out)
    clear h1
    go_enter Tryz.func55, Tryz.ntmps55
    go_wp2
    refine wp_loop_rounds 1 ?_
    rw [rounds_succ]
    by_cases hz : 0 < (str bs).size
    all_goals
      go_wp2_with (go_at_call 74; ((with_reducible refine X.out.mono ?_); rintro e w' ⟨rfl, hr⟩))
      go_ret
      exact ⟨rfl, hr⟩
  | false =>
    obtain rfl : s = some bs := h3
    obtain ⟨S, hS⟩ : ∃ S, S = str bs := ⟨_, rfl⟩
    have hsz : S.size = bs.length := by rw [hS, str_size]
    have hget : Hid (∀ k (h : k < S.size), bs[k]? = some S[k]) := by
      intro k h
      subst hS
      have : k < bs.length := by omega
      rw [List.getElem?_eq_getElem this]
      rfl
    rw [← hS] at c0
    have hsb : S.size ≤ 400 := by omega
    replace hS := Lib.hid hS
    replace hsz := Lib.hid hsz
    have X := Lib.hid (xwrong p w (some bs) hh.out)
    have XN := Lib.hid (fun n => xwrong p (w.drewN n) (some bs) (hh.out.drewN n))
    have hpl := Lib.hid (lt_some h1)
    replace h1 := Lib.hid h1
    clear h2
    go_enter Tryz.func55, Tryz.ntmps55
    go_wp2
    go_loop [7, 8] (fun u i => XAt bs u i) (fun _ i => 10 - (intOf i).toNat)
    case atStart => exact ⟨0, 0, rfl, rfl, by omega, by omega, by omega, rfl, by omega⟩
    case round =>
      obtain ⟨k, x, rfl, rfl, hk, hkl, hx, hdec, hten⟩ := hrel
      replace hx := Lib.hid hx
      replace hdec := Lib.hid hdec
      replace hten := Lib.hid hten
      have hks : k ≤ S.size := by have := hsz.out; omega
      clear hkl
      by_cases hlt : k < 10
      · by_cases hin : k < S.size
        · obtain ⟨c, hc⟩ : ∃ c, c = S[k] := ⟨_, rfl⟩
          have hck : Hid (bs[k]? = some c) := by rw [hc]; exact hget.out k hin
          have hcb := c.toNat_lt
          have r0 : (S[k].toNat : Int) = (c.toNat : Int) := by rw [hc]
          clear hc
          by_cases h9 : k = 9 ∧ 1 < c.toNat
          · obtain ⟨rfl, hc1⟩ := h9
            have E : Hid (rInt lo hi (some bs) = (0, none)) := rInt_none (.inr ⟨bs, rfl, by rw [hdec.out, drop_at hck.out, dec, if_pos ⟨rfl, hc1⟩]⟩)
            go_wp2_with (go_at_call 74; ((with_reducible refine X.out.mono ?_); rintro e w' ⟨rfl, hr⟩))
            go_ret
            rw [E.out]
            exact ⟨rfl, hr⟩
          · by_cases h128 : 128 ≤ c.toNat
            · have hk9 : ((k : Int) == 9) = false := by simpa using (fun e => h9 ⟨by omega, by omega⟩)
              have r1 := grpx k x c (by omega) hx.out (by omega)
              go_wp2
              exact ⟨x_next hck.out hdec.out hlt (by omega) h128 hx.out rfl, by simp [intOf]; omega⟩
            · obtain ⟨y, hy⟩ : ∃ y, y = x + c.toNat % 128 * 128 ^ k := ⟨_, rfl⟩
              have hyb : y < 18446744073709551616 := by rw [hy]; exact step_bd (by omega) hx.out (by omega) (by omega)
              by_cases hk9 : k = 9
              · have hk9' : ((k : Int) == 9) = true := by rw [hk9]; rfl
                have hc1 : ¬ 1 < c.toNat := fun h => h9 ⟨hk9, h⟩
                have hc2 : ¬ (1 : Int) < (c.toNat : Int) := by omega
                have r1 := grpx k x c (by omega) hx.out (by omega)
                rw [← hy] at r1
                replace hk9 := Lib.hid hk9
                have h128b : c.toNat < 128 := by omega
                obtain ⟨vv, hvv⟩ : ∃ vv : Int, vv = uz y := ⟨_, rfl⟩
                have hvb := uz_bd y hyb
                rw [← hvv] at hvb
                obtain ⟨hv1, hv2⟩ := hvb
                have OUT : Hid (vv < lo ∨ hi < vv → rInt lo hi (some bs) = (0, none)) := fun h => x_out hck.out hdec.out h9 h128b hy (by rw [← hvv]; exact h)
                have YES : Hid (k = 0 ∨ c.toNat ≠ 0 → ¬ vv < lo → ¬ hi < vv → rInt lo hi (some bs) = (vv, some (bs.drop (k + 1))) ∧ encI vv = bs.take (k + 1)) := fun hz a b => by
                  rw [hvv] at a b ⊢
                  exact x_yes hck.out hdec.out h9 h128b hy hz a b
                have NO : Hid (¬ (k = 0 ∨ c.toNat ≠ 0) → rInt lo hi (some bs) = (0, none) ∧ encI vv ≠ bs.take (k + 1)) := fun hz => by
                  rw [hvv]
                  exact x_no hck.out hdec.out h9 h128b hy hyb hz
                replace hy := Lib.hid hy
                replace h9 := Lib.hid h9
                rcases Nat.mod_two_eq_zero_or_one y with hp | hp
                all_goals
                  first
                    | (have r2 : bits .and .u64 (y : Int) 1 = 0 := by (rw [and1_64 y hyb, hp]; rfl)
                       have r3 : ((y : Int) / 2) = vv := by (rw [hvv]; exact uz_even hp))
                    | (have r2 : bits .and .u64 (y : Int) 1 = 1 := by (rw [and1_64 y hyb, hp]; rfl)
                       have r3 : bits .xor .i64 (-1) ((y : Int) / 2) = vv := by (rw [hvv]; exact uz_odd hp hyb))
                  replace hp := Lib.hid hp
                  replace hvv := Lib.hid hvv
                  by_cases a : vv < lo
                  · have E := Lib.hid (OUT.out (.inl a))
                    go_wp2_with fail
                    go_quiet (fail)
                    go_wp2_with (go_at_call 74; ((with_reducible refine (XN.out _).mono ?_); rintro e w' ⟨rfl, hr⟩))
                    go_ret
                    rw [E.out]
                    exact ⟨rfl, rx_drewN hr⟩
                  by_cases b : hi < vv
                  · have E := Lib.hid (OUT.out (.inr b))
                    have b2 : decide (hi < vv) = true := by simpa using b
                    replace b := Lib.hid b
                    replace a := Lib.hid a
                    have a2 : decide (vv < lo) = false := by simpa using a.out
                    go_wp2_with fail
                    go_quiet (fail)
                    go_wp2_with (go_at_call 74; ((with_reducible refine (XN.out _).mono ?_); rintro e w' ⟨rfl, hr⟩))
                    go_ret
                    rw [E.out]
                    exact ⟨rfl, rx_drewN hr⟩
                  obtain ⟨m, hm⟩ : ∃ m, m = k + 1 := ⟨_, rfl⟩
                  have hw1 : IntKind.i64.wrap ((k : Int) + 1) = (m : Int) := by rw [IntKind.wrap_i64]; omega
                  have hm1 : m ≤ S.size := by omega
                  have t1 : S.extract 0 m = str (bs.take (k + 1)) := by rw [hS.out, hm]; exact str_take bs (k + 1)
                  have t2 : S.extract m S.size = str (bs.drop (k + 1)) := by rw [hS.out, hm]; exact str_drop bs (k + 1)
                  have t3 : S.extract (k + 1) S.size = str (bs.drop (k + 1)) := by rw [hS.out]; exact str_drop bs (k + 1)
                  replace hm := Lib.hid hm
                  by_cases hz : k = 0 ∨ c.toNat ≠ 0
                  · obtain ⟨E, F⟩ := YES.out hz a b
                    replace E := Lib.hid E
                    replace hz := Lib.hid hz
                    have Q : Hid (∀ w1, Calls Tryz.prog 38 #[.int .i64 vv] w1 (RefTo w1 (bs.take (k + 1)))) := fun w1 => by rw [← F]; exact refint w1 vv hv1 hv2
                    clear F
                    have k0 := cell_regrown c0
                    have cI : ∀ d os, Calls Tryz.prog 38 #[.int .i64 vv] (grow (redrawn w d) os) fun e w'' => e = .returned (.string (str (bs.take (k + 1)))) ∧ ∃ q : Regrown, w'' = grow (redrawn w q.d) q.os := fun d os => Calls.regrown_of (Q.out _)
                    go_wp2_with fail
                    refine wp_region_quiet_below (by kernel_rfl) (by kernel_rfl) ?_
                    clear c0
                    repeat (quiet_step (exact cI _ _))
                    refine wpQuiet_nil ?_
                    intro w2 hw'
                    obtain ⟨⟨dq, osq⟩, hw''⟩ := hw'
                    have gb : Hid (Below w.heap.size w w2) := by rw [hw'']; exact below_regrown w dq osq
                    have c0 : w2.cell? ⟨p, 0, none⟩ = some (.string S) := by rw [hw'']; exact k0 dq osq
                    have f0b : w2.frozen? ⟨p, 0, none⟩ = false := (gb.out.frozen (p := ⟨p, 0, none⟩) hpl.out).trans f0
                    clear k0 cI hw'' dq osq
                    have fin : Hid (RxTo w p (some (bs.drop (k + 1))) (w2.setCell ⟨p, 0, none⟩ (.string (str (bs.drop (k + 1)))))) := rx_put h1.out gb.out (by have := hsz.out; rw [List.length_drop]; omega)
                    go_wp2
                    go_ret
                    rw [E.out]
                    exact ⟨rfl, fin.out⟩
                  · obtain ⟨E, F⟩ := NO.out hz
                    replace E := Lib.hid E
                    replace hz := Lib.hid hz
                    have Q : Hid (∀ w1, Calls Tryz.prog 38 #[.int .i64 vv] w1 (RefTo w1 (encI vv))) := fun w1 => refint w1 vv hv1 hv2
                    have hne : ((str (encI vv)).toList == (str (bs.take (k + 1))).toList) = false := by rw [str_toList, str_toList]; simpa using F
                    clear F
                    have k0 := cell_regrown c0
                    have cI : ∀ d os, Calls Tryz.prog 38 #[.int .i64 vv] (grow (redrawn w d) os) fun e w'' => e = .returned (.string (str (encI vv))) ∧ ∃ q : Regrown, w'' = grow (redrawn w q.d) q.os := fun d os => Calls.regrown_of (Q.out _)
                    go_wp2_with fail
                    refine wp_region_quiet_below (by kernel_rfl) (by kernel_rfl) ?_
                    clear c0
                    repeat (quiet_step (exact cI _ _))
                    refine wpQuiet_nil ?_
                    intro w2 hw'
                    obtain ⟨⟨dq, osq⟩, hw''⟩ := hw'
                    have gb : Hid (Below w.heap.size w w2) := by rw [hw'']; exact below_regrown w dq osq
                    have c0 : w2.cell? ⟨p, 0, none⟩ = some (.string S) := by rw [hw'']; exact k0 dq osq
                    have f0b : w2.frozen? ⟨p, 0, none⟩ = false := (gb.out.frozen (p := ⟨p, 0, none⟩) hpl.out).trans f0
                    clear k0 cI hw'' dq osq
                    have XW : Hid (Calls Tryz.prog 74 #[.pointer (some ⟨p, 0, none⟩)] w2 fun e w' => e = .returned (.tuple #[]) ∧ RxTo w p none w') := (xwrong p w2 (some bs) (hh.out.same (gb.out.block p hpl.out))).mono fun e w' h => ⟨h.1, rx_from gb.out h.2⟩
                    go_wp2_with (go_at_call 74; ((with_reducible refine XW.out.mono ?_); rintro e w' ⟨rfl, hr⟩))
                    go_ret
                    rw [E.out]
                    exact ⟨rfl, hr⟩
              · have hk9' : ((k : Int) == 9) = false := by simpa using (show ¬ ((k : Int) = 9) by omega)
                have r1 := grpx k x c (by omega) hx.out (by omega)
                rw [← hy] at r1
                have h128b : c.toNat < 128 := by omega
                obtain ⟨vv, hvv⟩ : ∃ vv : Int, vv = uz y := ⟨_, rfl⟩
                have hvb := uz_bd y hyb
                rw [← hvv] at hvb
                obtain ⟨hv1, hv2⟩ := hvb
                have OUT : Hid (vv < lo ∨ hi < vv → rInt lo hi (some bs) = (0, none)) := fun h => x_out hck.out hdec.out h9 h128b hy (by rw [← hvv]; exact h)
                have YES : Hid (k = 0 ∨ c.toNat ≠ 0 → ¬ vv < lo → ¬ hi < vv → rInt lo hi (some bs) = (vv, some (bs.drop (k + 1))) ∧ encI vv = bs.take (k + 1)) := fun hz a b => by
                  rw [hvv] at a b ⊢
                  exact x_yes hck.out hdec.out h9 h128b hy hz a b
                have NO : Hid (¬ (k = 0 ∨ c.toNat ≠ 0) → rInt lo hi (some bs) = (0, none) ∧ encI vv ≠ bs.take (k + 1)) := fun hz => by
                  rw [hvv]
                  exact x_no hck.out hdec.out h9 h128b hy hyb hz
                replace hy := Lib.hid hy
                replace h9 := Lib.hid h9
                rcases Nat.mod_two_eq_zero_or_one y with hp | hp
                all_goals
                  first
                    | (have r2 : bits .and .u64 (y : Int) 1 = 0 := by (rw [and1_64 y hyb, hp]; rfl)
                       have r3 : ((y : Int) / 2) = vv := by (rw [hvv]; exact uz_even hp))
                    | (have r2 : bits .and .u64 (y : Int) 1 = 1 := by (rw [and1_64 y hyb, hp]; rfl)
                       have r3 : bits .xor .i64 (-1) ((y : Int) / 2) = vv := by (rw [hvv]; exact uz_odd hp hyb))
                  replace hp := Lib.hid hp
                  replace hvv := Lib.hid hvv
                  by_cases a : vv < lo
                  · have E := Lib.hid (OUT.out (.inl a))
                    go_wp2_with fail
                    go_quiet (fail)
                    go_wp2_with (go_at_call 74; ((with_reducible refine (XN.out _).mono ?_); rintro e w' ⟨rfl, hr⟩))
                    go_ret
                    rw [E.out]
                    exact ⟨rfl, rx_drewN hr⟩
                  by_cases b : hi < vv
                  · have E := Lib.hid (OUT.out (.inr b))
                    have b2 : decide (hi < vv) = true := by simpa using b
                    replace b := Lib.hid b
                    replace a := Lib.hid a
                    have a2 : decide (vv < lo) = false := by simpa using a.out
                    go_wp2_with fail
                    go_quiet (fail)
                    go_wp2_with (go_at_call 74; ((with_reducible refine (XN.out _).mono ?_); rintro e w' ⟨rfl, hr⟩))
                    go_ret
                    rw [E.out]
                    exact ⟨rfl, rx_drewN hr⟩
                  obtain ⟨m, hm⟩ : ∃ m, m = k + 1 := ⟨_, rfl⟩
                  have hw1 : IntKind.i64.wrap ((k : Int) + 1) = (m : Int) := by rw [IntKind.wrap_i64]; omega
                  have hm1 : m ≤ S.size := by omega
                  have t1 : S.extract 0 m = str (bs.take (k + 1)) := by rw [hS.out, hm]; exact str_take bs (k + 1)
                  have t2 : S.extract m S.size = str (bs.drop (k + 1)) := by rw [hS.out, hm]; exact str_drop bs (k + 1)
                  have t3 : S.extract (k + 1) S.size = str (bs.drop (k + 1)) := by rw [hS.out]; exact str_drop bs (k + 1)
                  replace hm := Lib.hid hm
                  by_cases hz : k = 0 ∨ c.toNat ≠ 0
                  · obtain ⟨E, F⟩ := YES.out hz a b
                    replace E := Lib.hid E
                    replace hz := Lib.hid hz
                    have Q : Hid (∀ w1, Calls Tryz.prog 38 #[.int .i64 vv] w1 (RefTo w1 (bs.take (k + 1)))) := fun w1 => by rw [← F]; exact refint w1 vv hv1 hv2
                    clear F
                    have k0 := cell_regrown c0
                    have cI : ∀ d os, Calls Tryz.prog 38 #[.int .i64 vv] (grow (redrawn w d) os) fun e w'' => e = .returned (.string (str (bs.take (k + 1)))) ∧ ∃ q : Regrown, w'' = grow (redrawn w q.d) q.os := fun d os => Calls.regrown_of (Q.out _)
                    go_wp2_with fail
                    refine wp_region_quiet_below (by kernel_rfl) (by kernel_rfl) ?_
                    clear c0
                    repeat (quiet_step (exact cI _ _))
                    refine wpQuiet_nil ?_
                    intro w2 hw'
                    obtain ⟨⟨dq, osq⟩, hw''⟩ := hw'
                    have gb : Hid (Below w.heap.size w w2) := by rw [hw'']; exact below_regrown w dq osq
                    have c0 : w2.cell? ⟨p, 0, none⟩ = some (.string S) := by rw [hw'']; exact k0 dq osq
                    have f0b : w2.frozen? ⟨p, 0, none⟩ = false := (gb.out.frozen (p := ⟨p, 0, none⟩) hpl.out).trans f0
                    clear k0 cI hw'' dq osq
                    have fin : Hid (RxTo w p (some (bs.drop (k + 1))) (w2.setCell ⟨p, 0, none⟩ (.string (str (bs.drop (k + 1)))))) := rx_put h1.out gb.out (by have := hsz.out; rw [List.length_drop]; omega)
                    go_wp2
                    go_ret
                    rw [E.out]
                    exact ⟨rfl, fin.out⟩
                  · obtain ⟨E, F⟩ := NO.out hz
                    replace E := Lib.hid E
                    replace hz := Lib.hid hz
                    have Q : Hid (∀ w1, Calls Tryz.prog 38 #[.int .i64 vv] w1 (RefTo w1 (encI vv))) := fun w1 => refint w1 vv hv1 hv2
                    have hne : ((str (encI vv)).toList == (str (bs.take (k + 1))).toList) = false := by rw [str_toList, str_toList]; simpa using F
                    clear F
                    have k0 := cell_regrown c0
                    have cI : ∀ d os, Calls Tryz.prog 38 #[.int .i64 vv] (grow (redrawn w d) os) fun e w'' => e = .returned (.string (str (encI vv))) ∧ ∃ q : Regrown, w'' = grow (redrawn w q.d) q.os := fun d os => Calls.regrown_of (Q.out _)
                    go_wp2_with fail
                    refine wp_region_quiet_below (by kernel_rfl) (by kernel_rfl) ?_
                    clear c0
                    repeat (quiet_step (exact cI _ _))
                    refine wpQuiet_nil ?_
                    intro w2 hw'
                    obtain ⟨⟨dq, osq⟩, hw''⟩ := hw'
                    have gb : Hid (Below w.heap.size w w2) := by rw [hw'']; exact below_regrown w dq osq
                    have c0 : w2.cell? ⟨p, 0, none⟩ = some (.string S) := by rw [hw'']; exact k0 dq osq
                    have f0b : w2.frozen? ⟨p, 0, none⟩ = false := (gb.out.frozen (p := ⟨p, 0, none⟩) hpl.out).trans f0
                    clear k0 cI hw'' dq osq
                    have XW : Hid (Calls Tryz.prog 74 #[.pointer (some ⟨p, 0, none⟩)] w2 fun e w' => e = .returned (.tuple #[]) ∧ RxTo w p none w') := (xwrong p w2 (some bs) (hh.out.same (gb.out.block p hpl.out))).mono fun e w' h => ⟨h.1, rx_from gb.out h.2⟩
                    go_wp2_with (go_at_call 74; ((with_reducible refine XW.out.mono ?_); rintro e w' ⟨rfl, hr⟩))
                    go_ret
                    rw [E.out]
                    exact ⟨rfl, hr⟩
        · have hkl : k = S.size := by omega
          have E : Hid (rInt lo hi (some bs) = (0, none)) := rInt_none (.inr ⟨bs, rfl, by rw [hdec.out, List.drop_of_length_le (by have := hsz.out; omega)]; rfl⟩)
          go_wp2_with (go_at_call 74; ((with_reducible refine X.out.mono ?_); rintro e w' ⟨rfl, hr⟩))
          go_ret
          rw [E.out]
          exact ⟨rfl, hr⟩
      · have E : Hid (rInt lo hi (some bs) = (0, none)) := rInt_none (.inr ⟨bs, rfl, hten.out (by omega)⟩)
        go_wp2_with (go_at_call 74; ((with_reducible refine X.out.mono ?_); rintro e w' ⟨rfl, hr⟩))
        go_ret
        rw [E.out]
        exact ⟨rfl, hr⟩
end Pk
end Go.Proofs.YtbolcapgocjgcaaGreatDoor
