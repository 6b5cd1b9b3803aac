/- The document's own writer of bookings. -/
import Derived.Test.YtakicogelkdofaaDoorPk7
import Derived.Lib.SlBytesConst
import Derived.Test.YtakicogelkdofaaDoorLwReadsM
import Derived.Test.YtakicogelkdofaaDoorPkR
import Derived.Test.YtakicogelkdofaaDoorPk3
import Derived.Test.YtakicogelkdofaaDoorPk4
import Derived.Deep.QuietTactic
import Derived.BigQuiet
import Derived.Deep.RegionWith
import Derived.Lib.QuietBelow
import Derived.Test.YtakicogelkdofaaDoorWtO
namespace Go.Proofs.YtakicogelkdofaaDoor
open Go.RowKit
namespace Pk

def tabs : List Nat := [0, 498536548, 997073096, 651767980, 1994146192, 1802195444, 1303535960, 1342533948, 3988292384, 4027552580, 3604390888, 3412177804, 2607071920, 2262029012, 2685067896, 3183342108]
def tab (i : Nat) : Nat := tabs.getD i 0
def nib (x : Nat) : Nat := (x / 16) ^^^ tab (x % 16)
def byt (s : Nat) (c : UInt8) : Nat := nib (nib (s ^^^ c.toNat))
def run (s : Nat) (bs : List UInt8) : Nat := bs.foldl byt s
def sumOf (bs : List UInt8) : Nat := 4294967295 - run 4294967295 bs
theorem tab_lt (i : Nat) : tab i < 4294967296 := by
  by_cases h : i < 16
  · have d : ∀ k : Fin 16, tab k.val < 4294967296 := by decide
    exact d ⟨i, h⟩
  · have e : tab i = 0 := by
      unfold tab
      rw [List.getD_eq_getElem?_getD, List.getElem?_eq_none (by have : tabs.length = 16 := rfl
                                                                omega)]
      rfl
    omega
theorem nib_lt (x : Nat) (h : x < 4294967296) : nib x < 4294967296 := Nat.xor_lt_two_pow (n := 32) (by omega) (by have := tab_lt (x % 16); omega)
theorem byt_lt (s : Nat) (c : UInt8) (h : s < 4294967296) : byt s c < 4294967296 :=
  nib_lt _ (nib_lt _ (Nat.xor_lt_two_pow (n := 32) (by omega) (by have := c.toNat_lt; omega)))
theorem run_lt (bs : List UInt8) : ∀ s, s < 4294967296 → run s bs < 4294967296 := by
  induction bs with
  | nil => intro s h; exact h
  | cons c t ih => intro s h; exact ih _ (byt_lt s c h)
theorem run_snoc (s : Nat) (bs : List UInt8) (c : UInt8) : run s (bs ++ [c]) = byt (run s bs) c := by simp [run]

/-- The table as the program's text lays it. -/
def Tab (w : World) : Prop := ∀ i, i < 16 → w.cell? ⟨0, i, none⟩ = some (.int .u32 (tab i : Nat))
theorem Tab.lt {w : World} (h : Tab w) : 0 < w.heap.size := block_lt_of_cell (a := ⟨0, 0, none⟩) (h 0 (by omega))
theorem Tab.below {w w' : World} (h : Tab w) (hb : Below w.heap.size w w') : Tab w' := fun i hi => (hb.cell (p := ⟨0, i, none⟩) h.lt).trans (h i hi)

theorem and15 (a : Nat) (h : a < 4294967296) : bits .and .u32 (a : Int) 15 = ((a % 16 : Nat) : Int) := by
  have r := u32_and_nat a 15 h (by omega)
  rw [Nat.and_two_pow_sub_one_eq_mod a 4] at r
  exact r
theorem xor_nib (a : Nat) (h : a < 4294967296) : bits .xor .u32 ((a : Int) / 16) ((tab (a % 16) : Nat) : Int) = ((nib a : Nat) : Int) := by
  rw [show (a : Int) / 16 = ((a / 16 : Nat) : Int) by omega]
  exact u32_xor_nat _ _ (by omega) (tab_lt _)
theorem u32_not (x : Nat) (h : x < 4294967296) : bits .xor .u32 IntKind.u32.max (x : Int) = ((4294967295 - x : Nat) : Int) := by
  have h1 : BitVec.ofInt 32 IntKind.u32.max = BitVec.allOnes 32 := by decide
  have h2 : (BitVec.ofInt 32 (x : Int)).toNat = x := by rw [BitVec.ofInt_natCast, BitVec.toNat_ofNat]; exact Nat.mod_eq_of_lt (by omega)
  show IntKind.u32.wrap ((BitVec.ofInt 32 IntKind.u32.max ^^^ BitVec.ofInt 32 (x : Int)).toNat : Int) = _
  rw [h1, BitVec.allOnes_xor, BitVec.toNat_not, h2, IntKind.wrap_u32']
  omega
theorem ret_u32 {a b : Int} (h : a = b) : Ending.returned (.int .u32 a) = .returned (.int .u32 b) := by rw [h]

def SumAt (bs : List UInt8) (s i : Value) : Prop := ∃ k : Nat, k ≤ bs.length ∧ i = .int .i64 k ∧ s = .int .u32 (run 4294967295 (bs.take k) : Nat)
/-- The example of the document: Sum("123456789") is CBF43926. -/
theorem sum_nine : sumOf [49, 50, 51, 52, 53, 54, 55, 56, 57] = 3421780262 := by decide +kernel
end Pk
end Go.Proofs.YtakicogelkdofaaDoor

namespace Go.Proofs.YtakicogelkdofaaDoor
open Go.RowKit
namespace Pk

theorem told1 : encI (-1) = [1] := by unfold encI; rw [show zz (-1) = 1 by decide, enc_lo (by omega)]; rfl
theorem told2 : encT [97, 98] = [4, 97, 98] := by unfold encT encI; rw [show zz (([97, 98] : List UInt8).length : Int) = 4 by decide, enc_lo (by omega)]; rfl
theorem told3 : rInt (-5) 5 (some [1, 7, 4, 97, 98]) = (-1, some [7, 4, 97, 98]) := by decide
theorem told4 : rByte (some [7, 4, 97, 98]) = (7, some [4, 97, 98]) := by decide
theorem told5 : rText 2 (some [4, 97, 98]) = ([97, 98], some []) := by decide

theorem str_toList (l : List UInt8) : (str l).toList = l := ByteArray.toList_mk l
theorem rb_nine (W : World) (fr : Nat × Nat) : Rb (W.alloc (.cells #[.int .u8 49, .int .u8 50, .int .u8 51, .int .u8 52, .int .u8 53, .int .u8 54, .int .u8 55, .int .u8 56, .int .u8 57] 5 fr)) (fun _ => True) (some ⟨W.heap.size, 0, none⟩) 9 [49, 50, 51, 52, 53, 54, 55, 56, 57] :=
  ⟨rfl, fun _ => ⟨_, rfl, trivial, fun j x hj => by
    rw [Addr.add_lit, Nat.zero_add, World.cell?_alloc_mark]
    match j, hj with
    | 0, hj | 1, hj | 2, hj | 3, hj | 4, hj | 5, hj | 6, hj | 7, hj | 8, hj => simp at hj; subst hj; rfl
    | j + 9, hj => simp at hj⟩⟩
end Pk
end Go.Proofs.YtakicogelkdofaaDoor

namespace Go.Proofs.YtakicogelkdofaaDoor
open Go.RowKit
namespace Pk

/-- The document's reader in block p. -/
def Rx (w : World) (p : Nat) (s : St) : Prop := ∃ bs f, w.heap[p]? = some (.cells #[.string (str bs), .bool f] 90 (0, 0)) ∧ bs.length ≤ 400 ∧ s = if f then none else some bs
structure RxTo (w : World) (p : Nat) (s : St) (w' : World) : Prop where
  rx : Rx w' p s
  gr : w.grownBy w' (some p)
theorem Rx.lt {w : World} {p : Nat} {s : St} (h : Rx w p s) : p < w.heap.size := by obtain ⟨bs, f, h1, _⟩ := h; exact lt_some h1
theorem Rx.drewN {w : World} {p : Nat} {s : St} (h : Rx w p s) (k : Nat) : Rx (w.drewN k) p s := h
theorem Rx.same {w w' : World} {p : Nat} {s : St} (h : Rx w p s) (hb : w'.heap[p]? = w.heap[p]?) : Rx w' p s := by obtain ⟨bs, f, h1, h2⟩ := h; exact ⟨bs, f, hb.trans h1, h2⟩

set_option maxHeartbeats 400000 in
theorem xwrong (p : Nat) (w : World) (s : St) (h : Rx w p s) : Calls Tryd.prog 72 #[.pointer (some ⟨p, 0, none⟩)] w fun e w' => e = .returned (.tuple #[]) ∧ RxTo w p none w' := by
  obtain ⟨bs, f, h1, h2, h3⟩ := h
  have c0 : w.cell? ⟨p, 0, none⟩ = some (.string (str bs)) := one_at h1
  have c1 : w.cell? ⟨p, 1, none⟩ = some (.bool f) := one_at h1
  have f0 : w.frozen? ⟨p, 0, none⟩ = false := one_free h1
  have f1 : w.frozen? ⟨p, 1, none⟩ = false := one_free h1
  have fin : Hid (RxTo w p none ((w.setCell ⟨p, 1, none⟩ (.bool true)).setCell ⟨p, 0, none⟩ (.string ⟨#[]⟩))) :=
    ⟨⟨[], true, one_set (one_set h1 _) _, by simp, rfl⟩, grown_trans (grown_set _ _ _ _) (grown_set _ _ _ _)⟩
  clear h1 h2 h3
  go_enter Tryd.func72, Tryd.ntmps72
  go_wp2
  go_end0
  exact ⟨rfl, fin.out⟩

set_option maxHeartbeats 400000 in
theorem xend (p : Nat) (w : World) (s : St) (h : Rx w p s) : Calls Tryd.prog 56 #[.pointer (some ⟨p, 0, none⟩)] w fun e w' => e = .returned (.int .i64 (rEnd s)) ∧ w = w' := by
  obtain ⟨bs, f, h1, h2, h3⟩ := h
  have c0 : w.cell? ⟨p, 0, none⟩ = some (.string (str bs)) := one_at h1
  have c1 : w.cell? ⟨p, 1, none⟩ = some (.bool f) := one_at h1
  clear h1
  subst h3
  cases f with
  | true =>
    go_enter Tryd.func56, Tryd.ntmps56
    go_wp2
    go_ret
    exact ⟨rfl, rfl⟩
  | false =>
    rcases bs with _ | ⟨x, t⟩
    · have hs : (str []).size = 0 := rfl
      go_enter Tryd.func56, Tryd.ntmps56
      go_wp2
      go_ret
      exact ⟨rfl, rfl⟩
    · have hs : 0 < (str (x :: t)).size := by rw [str_size]; simp
      go_enter Tryd.func56, Tryd.ntmps56
      go_wp2
      go_ret
      exact ⟨rfl, rfl⟩

theorem str_drop (bs : List UInt8) (k : Nat) : (str bs).extract k (str bs).size = str (bs.drop k) := by
  apply ByteArray.ext
  apply Array.toList_inj.1
  simp [str, ByteArray.size]
  exact List.take_of_length_le (by simp)
theorem str_take (bs : List UInt8) (k : Nat) : (str bs).extract 0 k = str (bs.take k) := by
  apply ByteArray.ext
  apply Array.toList_inj.1
  simp [str]

/-- The loop of the document's Int. -/
def XAt (l : List UInt8) (u i : Value) : Prop := ∃ (k x : Nat), i = .int .i64 k ∧ u = .int .u64 x ∧ k ≤ 10 ∧ k ≤ l.length ∧ x < 128 ^ k ∧ dec 0 0 l = dec k x (l.drop k) ∧ (k = 10 → dec 0 0 l = none)

theorem and127_64 (c : UInt8) : bits .and .u64 (c.toNat : Int) 127 = ((c.toNat % 128 : Nat) : Int) := by
  have hc := c.toNat_lt
  have h := u64_and_nat c.toNat 127 (by omega) (by omega)
  rw [Nat.and_two_pow_sub_one_eq_mod c.toNat 7] at h
  exact h

theorem grpx (k x : Nat) (c : UInt8) (hk : k ≤ 9) (hx : x < 128 ^ k) (h9 : ¬ (k = 9 ∧ 1 < c.toNat % 128)) :
    bits .or .u64 (x : Int) (IntKind.u64.wrap (bits .and .u64 (c.toNat : Int) 127 * 2 ^ (7 * k))) = ((x + c.toNat % 128 * 128 ^ k : Nat) : Int) := by
  have h := grp_at k x c hk hx h9
  rw [wrap_and] at h
  rw [and127_64]
  exact h
theorem grpx9 (x : Nat) (c : UInt8) (hx : x < 128 ^ 9) (h9 : ¬ 1 < c.toNat % 128) :
    bits .or .u64 (x : Int) (IntKind.u64.wrap (bits .and .u64 (c.toNat : Int) 127 * 9223372036854775808)) = ((x + c.toNat % 128 * 128 ^ 9 : Nat) : Int) := by
  have h := grpx 9 x c (by omega) hx (by omega)
  exact h
theorem drop_at {bs : List UInt8} {k : Nat} {c : UInt8} (h : bs[k]? = some c) : bs.drop k = c :: bs.drop (k + 1) := by
  obtain ⟨hl, rfl⟩ := List.getElem?_eq_some_iff.1 h
  exact List.drop_eq_getElem_cons hl
theorem x_next {bs : List UInt8} {k x : Nat} {c : UInt8} {v : Int} (hc : bs[k]? = some c) (hdec : dec 0 0 bs = dec k x (bs.drop k)) (hk : k < 10) (h9 : ¬ k = 9) (h128 : 128 ≤ c.toNat) (hx : x < 128 ^ k) (hv : v = ((x + c.toNat % 128 * 128 ^ k : Nat) : Int)) :
    XAt bs (.int .u64 v) (.int .i64 ((k : Int) + 1)) := by
  subst hv
  refine ⟨k + 1, _, rfl, rfl, by omega, (List.getElem?_eq_some_iff.1 hc).1, ?_, ?_, by omega⟩
  · have : c.toNat % 128 * 128 ^ k ≤ 127 * 128 ^ k := Nat.mul_le_mul_right _ (by omega)
    rw [Nat.pow_succ]; omega
  · rw [hdec, drop_at hc, dec, if_neg (by omega), if_neg (by omega)]

theorem uz_even {y : Nat} (h : y % 2 = 0) : ((y : Int) / 2) = uz y := by unfold uz; rw [if_pos h]; omega
theorem uz_odd {y : Nat} (h : y % 2 = 1) (hy : y < 18446744073709551616) : bits .xor .i64 (-1) ((y : Int) / 2) = uz y := by
  have := i64_not (y / 2) (by omega)
  rw [show ((y : Int) / 2) = ((y / 2 : Nat) : Int) by omega, this]
  unfold uz; rw [if_neg (by omega)]; omega
theorem and1_64 (y : Nat) (h : y < 18446744073709551616) : bits .and .u64 (y : Int) 1 = ((y % 2 : Nat) : Int) := by
  have := u64_and_nat y 1 h (by omega)
  rw [Nat.and_one_is_mod] at this
  exact this
section
variable {bs : List UInt8} {k x y : Nat} {c : UInt8} {lo hi : Int}
theorem x_dec (hc : bs[k]? = some c) (h9 : ¬ (k = 9 ∧ 1 < c.toNat)) (h128 : c.toNat < 128) (hy : y = x + c.toNat % 128 * 128 ^ k) :
    dec k x (bs.drop k) = if k = 0 ∨ c.toNat ≠ 0 then some (y, bs.drop (k + 1)) else none := by
  rw [drop_at hc, dec, if_neg h9, if_pos h128, hy, Nat.mod_eq_of_lt h128]
theorem x_out (hc : bs[k]? = some c) (hdec : dec 0 0 bs = dec k x (bs.drop k)) (h9 : ¬ (k = 9 ∧ 1 < c.toNat)) (h128 : c.toNat < 128) (hy : y = x + c.toNat % 128 * 128 ^ k) (hb : uz y < lo ∨ hi < uz y) : rInt lo hi (some bs) = (0, none) := by
  have hd := x_dec hc h9 h128 hy
  by_cases hz : k = 0 ∨ c.toNat ≠ 0
  · rw [if_pos hz] at hd
    exact rInt_out (hdec.trans hd) hb
  · rw [if_neg hz] at hd
    exact rInt_none (.inr ⟨bs, rfl, hdec.trans hd⟩)
theorem x_yes (hc : bs[k]? = some c) (hdec : dec 0 0 bs = dec k x (bs.drop k)) (h9 : ¬ (k = 9 ∧ 1 < c.toNat)) (h128 : c.toNat < 128) (hy : y = x + c.toNat % 128 * 128 ^ k) (hz : k = 0 ∨ c.toNat ≠ 0) (h1 : ¬ uz y < lo) (h2 : ¬ hi < uz y) :
    rInt lo hi (some bs) = (uz y, some (bs.drop (k + 1))) ∧ encI (uz y) = bs.take (k + 1) := by
  have hd := x_dec hc h9 h128 hy
  rw [if_pos hz] at hd
  refine ⟨rInt_in (hdec.trans hd) h1 h2, ?_⟩
  unfold encI
  rw [zz_uz]
  have hl := (List.getElem?_eq_some_iff.1 hc).1
  have hd2 := hdec
  rw [drop_at hc] at hd2 hd
  exact form_yes hd2 rfl hd hl
theorem x_no (hc : bs[k]? = some c) (hdec : dec 0 0 bs = dec k x (bs.drop k)) (h9 : ¬ (k = 9 ∧ 1 < c.toNat)) (h128 : c.toNat < 128) (hy : y = x + c.toNat % 128 * 128 ^ k) (hyb : y < 18446744073709551616) (hz : ¬ (k = 0 ∨ c.toNat ≠ 0)) :
    rInt lo hi (some bs) = (0, none) ∧ encI (uz y) ≠ bs.take (k + 1) := by
  have hd := x_dec hc h9 h128 hy
  rw [if_neg hz] at hd
  refine ⟨rInt_none (.inr ⟨bs, rfl, hdec.trans hd⟩), ?_⟩
  unfold encI
  rw [zz_uz]
  have hd2 := hdec
  rw [drop_at hc] at hd2 hd
  exact form_no hd2 hd hyb
end
theorem rx_drewN {w w' : World} {p : Nat} {s : St} {n : Nat} (h : RxTo (w.drewN n) p s w') : RxTo w p s w' := ⟨h.rx, h.gr.os, h.gr.tape, h.gr.output, h.gr.size, h.gr.block⟩

end Pk
end Go.Proofs.YtakicogelkdofaaDoor

namespace Go.Proofs.YtakicogelkdofaaDoor
open Go.RowKit Go.Sort
namespace Pk

theorem grown_of_below {w w' : World} {r : Option Nat} (hb : Below w.heap.size w w') : w.grownBy w' r := ⟨hb.os, hb.tape, hb.output, hb.size, fun k hk _ => hb.block k hk⟩
theorem rx_put {w w2 : World} {p : Nat} {bs bs' : List UInt8} (h1 : w.heap[p]? = some (.cells #[.string (str bs), .bool false] 90 (0, 0))) (hb : Below w.heap.size w w2) (hl : bs'.length ≤ 400) :
    RxTo w p (some bs') (w2.setCell ⟨p, 0, none⟩ (.string (str bs'))) :=
  ⟨⟨bs', false, one_set ((hb.block p (lt_some h1)).trans h1) _, hl, rfl⟩, grown_trans (grown_of_below hb) (grown_set _ _ _ _)⟩
theorem rx_from {w w2 w' : World} {p : Nat} {s : St} (hb : Below w.heap.size w w2) (h : RxTo w2 p s w') : RxTo w p s w' := ⟨h.rx, grown_trans (grown_of_below hb) h.gr⟩

set_option maxHeartbeats 32000000 in
set_option maxRecDepth 100000 in
theorem xint (p : Nat) (w : World) (s : St) (lo hi : Int) (h : Rx w p s) : Calls Tryd.prog 55 #[.pointer (some ⟨p, 0, none⟩), .int .i64 lo, .int .i64 hi] w fun e w' => e = .returned (.int .i64 (rInt lo hi s).1) ∧ RxTo w p (rInt lo hi s).2 w' := by
  have hh := Lib.hid h
  obtain ⟨bs, f, h1, h2, h3⟩ := h
  have c0 : w.cell? ⟨p, 0, none⟩ = some (.string (str bs)) := one_at h1
  have c1 : w.cell? ⟨p, 1, none⟩ = some (.bool f) := one_at h1
  have f0 : w.frozen? ⟨p, 0, none⟩ = false := one_free h1
  cases f with
  | true =>
    obtain rfl : s = none := h3
    have X := Lib.hid (xwrong p w none hh.out)
    clear h1
    go_enter Tryd.func55, Tryd.ntmps55
    go_wp2
    refine wp_loop_rounds 1 ?_
    rw [rounds_succ]
    by_cases hz : 0 < (str bs).size
    all_goals
      go_wp2_with (go_at_call 72; ((with_reducible refine X.out.mono ?_); rintro e w' ⟨rfl, hr⟩))
      go_ret
      exact ⟨rfl, hr⟩
  | false =>
    obtain rfl : s = some bs := h3
    obtain ⟨S, hS⟩ : ∃ S, S = str bs := ⟨_, rfl⟩
    have hsz : S.size = bs.length := by rw [hS, str_size]
    have hget : Hid (∀ k (h : k < S.size), bs[k]? = some S[k]) := by
      intro k h
      subst hS
      have : k < bs.length := by omega
      rw [List.getElem?_eq_getElem this]
      rfl
    rw [← hS] at c0
    have hsb : S.size ≤ 400 := by omega
    replace hS := Lib.hid hS
    replace hsz := Lib.hid hsz
    have X := Lib.hid (xwrong p w (some bs) hh.out)
    have XN := Lib.hid (fun n => xwrong p (w.drewN n) (some bs) (hh.out.drewN n))
    have hpl := Lib.hid (lt_some h1)
    replace h1 := Lib.hid h1
    clear h2
    go_enter Tryd.func55, Tryd.ntmps55
    go_wp2
    go_loop [7, 8] (fun u i => XAt bs u i) (fun _ i => 10 - (intOf i).toNat)
    case atStart => exact ⟨0, 0, rfl, rfl, by omega, by omega, by omega, rfl, by omega⟩
    case round =>
      obtain ⟨k, x, rfl, rfl, hk, hkl, hx, hdec, hten⟩ := hrel
      replace hx := Lib.hid hx
      replace hdec := Lib.hid hdec
      replace hten := Lib.hid hten
      have hks : k ≤ S.size := by have := hsz.out; omega
      clear hkl
      by_cases hlt : k < 10
      · by_cases hin : k < S.size
        · obtain ⟨c, hc⟩ : ∃ c, c = S[k] := ⟨_, rfl⟩
          have hck : Hid (bs[k]? = some c) := by rw [hc]; exact hget.out k hin
          have hcb := c.toNat_lt
          have r0 : (S[k].toNat : Int) = (c.toNat : Int) := by rw [hc]
          clear hc
          by_cases h9 : k = 9 ∧ 1 < c.toNat
          · obtain ⟨rfl, hc1⟩ := h9
            have E : Hid (rInt lo hi (some bs) = (0, none)) := rInt_none (.inr ⟨bs, rfl, by rw [hdec.out, drop_at hck.out, dec, if_pos ⟨rfl, hc1⟩]⟩)
            go_wp2_with (go_at_call 72; ((with_reducible refine X.out.mono ?_); rintro e w' ⟨rfl, hr⟩))
            go_ret
            rw [E.out]
            exact ⟨rfl, hr⟩
          · by_cases h128 : 128 ≤ c.toNat
            · have hk9 : ((k : Int) == 9) = false := by simpa using (fun e => h9 ⟨by omega, by omega⟩)
              have r1 := grpx k x c (by omega) hx.out (by omega)
              go_wp2
              exact ⟨x_next hck.out hdec.out hlt (by omega) h128 hx.out rfl, by simp [intOf]; omega⟩
            · obtain ⟨y, hy⟩ : ∃ y, y = x + c.toNat % 128 * 128 ^ k := ⟨_, rfl⟩
              have hyb : y < 18446744073709551616 := by rw [hy]; exact step_bd (by omega) hx.out (by omega) (by omega)
              by_cases hk9 : k = 9
              · have hk9' : ((k : Int) == 9) = true := by rw [hk9]; rfl
                have hc1 : ¬ 1 < c.toNat := fun h => h9 ⟨hk9, h⟩
                have hc2 : ¬ (1 : Int) < (c.toNat : Int) := by omega
                have r1 := grpx k x c (by omega) hx.out (by omega)
                rw [← hy] at r1
                replace hk9 := Lib.hid hk9
                have h128b : c.toNat < 128 := by omega
                obtain ⟨vv, hvv⟩ : ∃ vv : Int, vv = uz y := ⟨_, rfl⟩
                have hvb := uz_bd y hyb
                rw [← hvv] at hvb
                obtain ⟨hv1, hv2⟩ := hvb
                have OUT : Hid (vv < lo ∨ hi < vv → rInt lo hi (some bs) = (0, none)) := fun h => x_out hck.out hdec.out h9 h128b hy (by rw [← hvv]; exact h)
                have YES : Hid (k = 0 ∨ c.toNat ≠ 0 → ¬ vv < lo → ¬ hi < vv → rInt lo hi (some bs) = (vv, some (bs.drop (k + 1))) ∧ encI vv = bs.take (k + 1)) := fun hz a b => by
                  rw [hvv] at a b ⊢
                  exact x_yes hck.out hdec.out h9 h128b hy hz a b
                have NO : Hid (¬ (k = 0 ∨ c.toNat ≠ 0) → rInt lo hi (some bs) = (0, none) ∧ encI vv ≠ bs.take (k + 1)) := fun hz => by
                  rw [hvv]
                  exact x_no hck.out hdec.out h9 h128b hy hyb hz
                replace hy := Lib.hid hy
                replace h9 := Lib.hid h9
                rcases Nat.mod_two_eq_zero_or_one y with hp | hp
                all_goals
                  first
                    | (have r2 : bits .and .u64 (y : Int) 1 = 0 := by (rw [and1_64 y hyb, hp]; rfl)
                       have r3 : ((y : Int) / 2) = vv := by (rw [hvv]; exact uz_even hp))
                    | (have r2 : bits .and .u64 (y : Int) 1 = 1 := by (rw [and1_64 y hyb, hp]; rfl)
                       have r3 : bits .xor .i64 (-1) ((y : Int) / 2) = vv := by (rw [hvv]; exact uz_odd hp hyb))
                  replace hp := Lib.hid hp
                  replace hvv := Lib.hid hvv
                  by_cases a : vv < lo
                  · have E := Lib.hid (OUT.out (.inl a))
                    go_wp2_with fail
                    go_quiet (fail)
                    go_wp2_with (go_at_call 72; ((with_reducible refine (XN.out _).mono ?_); rintro e w' ⟨rfl, hr⟩))
                    go_ret
                    rw [E.out]
                    exact ⟨rfl, rx_drewN hr⟩
                  by_cases b : hi < vv
                  · have E := Lib.hid (OUT.out (.inr b))
                    have b2 : decide (hi < vv) = true := by simpa using b
                    replace b := Lib.hid b
                    replace a := Lib.hid a
                    have a2 : decide (vv < lo) = false := by simpa using a.out
                    go_wp2_with fail
                    go_quiet (fail)
                    go_wp2_with (go_at_call 72; ((with_reducible refine (XN.out _).mono ?_); rintro e w' ⟨rfl, hr⟩))
                    go_ret
                    rw [E.out]
                    exact ⟨rfl, rx_drewN hr⟩
                  obtain ⟨m, hm⟩ : ∃ m, m = k + 1 := ⟨_, rfl⟩
                  have hw1 : IntKind.i64.wrap ((k : Int) + 1) = (m : Int) := by rw [IntKind.wrap_i64]; omega
                  have hm1 : m ≤ S.size := by omega
                  have t1 : S.extract 0 m = str (bs.take (k + 1)) := by rw [hS.out, hm]; exact str_take bs (k + 1)
                  have t2 : S.extract m S.size = str (bs.drop (k + 1)) := by rw [hS.out, hm]; exact str_drop bs (k + 1)
                  have t3 : S.extract (k + 1) S.size = str (bs.drop (k + 1)) := by rw [hS.out]; exact str_drop bs (k + 1)
                  replace hm := Lib.hid hm
                  by_cases hz : k = 0 ∨ c.toNat ≠ 0
                  · obtain ⟨E, F⟩ := YES.out hz a b
                    replace E := Lib.hid E
                    replace hz := Lib.hid hz
                    have Q : Hid (∀ w1, Calls Tryd.prog 50 #[.int .i64 vv] w1 (RefTo w1 (bs.take (k + 1)))) := fun w1 => by rw [← F]; exact refint w1 vv hv1 hv2
                    clear F
                    have k0 := cell_regrown c0
                    have cI : ∀ d os, Calls Tryd.prog 50 #[.int .i64 vv] (grow (redrawn w d) os) fun e w'' => e = .returned (.string (str (bs.take (k + 1)))) ∧ ∃ q : Regrown, w'' = grow (redrawn w q.d) q.os := fun d os => Calls.regrown_of (Q.out _)
                    go_wp2_with fail
                    refine wp_region_quiet_below (by kernel_rfl) (by kernel_rfl) ?_
                    clear c0
                    repeat (quiet_step (exact cI _ _))
                    refine wpQuiet_nil ?_
                    intro w2 hw'
                    obtain ⟨⟨dq, osq⟩, hw''⟩ := hw'
                    have gb : Hid (Below w.heap.size w w2) := by rw [hw'']; exact below_regrown w dq osq
                    have c0 : w2.cell? ⟨p, 0, none⟩ = some (.string S) := by rw [hw'']; exact k0 dq osq
                    have f0b : w2.frozen? ⟨p, 0, none⟩ = false := (gb.out.frozen (p := ⟨p, 0, none⟩) hpl.out).trans f0
                    clear k0 cI hw'' dq osq
                    have fin : Hid (RxTo w p (some (bs.drop (k + 1))) (w2.setCell ⟨p, 0, none⟩ (.string (str (bs.drop (k + 1)))))) := rx_put h1.out gb.out (by have := hsz.out; rw [List.length_drop]; omega)
                    go_wp2
                    go_ret
                    rw [E.out]
                    exact ⟨rfl, fin.out⟩
                  · obtain ⟨E, F⟩ := NO.out hz
                    replace E := Lib.hid E
                    replace hz := Lib.hid hz
                    have Q : Hid (∀ w1, Calls Tryd.prog 50 #[.int .i64 vv] w1 (RefTo w1 (encI vv))) := fun w1 => refint w1 vv hv1 hv2
                    have hne : ((str (encI vv)).toList == (str (bs.take (k + 1))).toList) = false := by rw [str_toList, str_toList]; simpa using F
                    clear F
                    have k0 := cell_regrown c0
                    have cI : ∀ d os, Calls Tryd.prog 50 #[.int .i64 vv] (grow (redrawn w d) os) fun e w'' => e = .returned (.string (str (encI vv))) ∧ ∃ q : Regrown, w'' = grow (redrawn w q.d) q.os := fun d os => Calls.regrown_of (Q.out _)
                    go_wp2_with fail
                    refine wp_region_quiet_below (by kernel_rfl) (by kernel_rfl) ?_
                    clear c0
                    repeat (quiet_step (exact cI _ _))
                    refine wpQuiet_nil ?_
                    intro w2 hw'
                    obtain ⟨⟨dq, osq⟩, hw''⟩ := hw'
                    have gb : Hid (Below w.heap.size w w2) := by rw [hw'']; exact below_regrown w dq osq
                    have c0 : w2.cell? ⟨p, 0, none⟩ = some (.string S) := by rw [hw'']; exact k0 dq osq
                    have f0b : w2.frozen? ⟨p, 0, none⟩ = false := (gb.out.frozen (p := ⟨p, 0, none⟩) hpl.out).trans f0
                    clear k0 cI hw'' dq osq
                    have XW : Hid (Calls Tryd.prog 72 #[.pointer (some ⟨p, 0, none⟩)] w2 fun e w' => e = .returned (.tuple #[]) ∧ RxTo w p none w') := (xwrong p w2 (some bs) (hh.out.same (gb.out.block p hpl.out))).mono fun e w' h => ⟨h.1, rx_from gb.out h.2⟩
                    go_wp2_with (go_at_call 72; ((with_reducible refine XW.out.mono ?_); rintro e w' ⟨rfl, hr⟩))
                    go_ret
                    rw [E.out]
                    exact ⟨rfl, hr⟩
              · have hk9' : ((k : Int) == 9) = false := by simpa using (show ¬ ((k : Int) = 9) by omega)
                have r1 := grpx k x c (by omega) hx.out (by omega)
                rw [← hy] at r1
                have h128b : c.toNat < 128 := by omega
                obtain ⟨vv, hvv⟩ : ∃ vv : Int, vv = uz y := ⟨_, rfl⟩
                have hvb := uz_bd y hyb
                rw [← hvv] at hvb
                obtain ⟨hv1, hv2⟩ := hvb
                have OUT : Hid (vv < lo ∨ hi < vv → rInt lo hi (some bs) = (0, none)) := fun h => x_out hck.out hdec.out h9 h128b hy (by rw [← hvv]; exact h)
                have YES : Hid (k = 0 ∨ c.toNat ≠ 0 → ¬ vv < lo → ¬ hi < vv → rInt lo hi (some bs) = (vv, some (bs.drop (k + 1))) ∧ encI vv = bs.take (k + 1)) := fun hz a b => by
                  rw [hvv] at a b ⊢
                  exact x_yes hck.out hdec.out h9 h128b hy hz a b
                have NO : Hid (¬ (k = 0 ∨ c.toNat ≠ 0) → rInt lo hi (some bs) = (0, none) ∧ encI vv ≠ bs.take (k + 1)) := fun hz => by
                  rw [hvv]
                  exact x_no hck.out hdec.out h9 h128b hy hyb hz
                replace hy := Lib.hid hy
                replace h9 := Lib.hid h9
                rcases Nat.mod_two_eq_zero_or_one y with hp | hp
                all_goals
                  first
                    | (have r2 : bits .and .u64 (y : Int) 1 = 0 := by (rw [and1_64 y hyb, hp]; rfl)
                       have r3 : ((y : Int) / 2) = vv := by (rw [hvv]; exact uz_even hp))
                    | (have r2 : bits .and .u64 (y : Int) 1 = 1 := by (rw [and1_64 y hyb, hp]; rfl)
                       have r3 : bits .xor .i64 (-1) ((y : Int) / 2) = vv := by (rw [hvv]; exact uz_odd hp hyb))
                  replace hp := Lib.hid hp
                  replace hvv := Lib.hid hvv
                  by_cases a : vv < lo
                  · have E := Lib.hid (OUT.out (.inl a))
                    go_wp2_with fail
                    go_quiet (fail)
                    go_wp2_with (go_at_call 72; ((with_reducible refine (XN.out _).mono ?_); rintro e w' ⟨rfl, hr⟩))
                    go_ret
                    rw [E.out]
                    exact ⟨rfl, rx_drewN hr⟩
                  by_cases b : hi < vv
                  · have E := Lib.hid (OUT.out (.inr b))
                    have b2 : decide (hi < vv) = true := by simpa using b
                    replace b := Lib.hid b
                    replace a := Lib.hid a
                    have a2 : decide (vv < lo) = false := by simpa using a.out
                    go_wp2_with fail
                    go_quiet (fail)
                    go_wp2_with (go_at_call 72; ((with_reducible refine (XN.out _).mono ?_); rintro e w' ⟨rfl, hr⟩))
                    go_ret
                    rw [E.out]
                    exact ⟨rfl, rx_drewN hr⟩
                  obtain ⟨m, hm⟩ : ∃ m, m = k + 1 := ⟨_, rfl⟩
                  have hw1 : IntKind.i64.wrap ((k : Int) + 1) = (m : Int) := by rw [IntKind.wrap_i64]; omega
                  have hm1 : m ≤ S.size := by omega
                  have t1 : S.extract 0 m = str (bs.take (k + 1)) := by rw [hS.out, hm]; exact str_take bs (k + 1)
                  have t2 : S.extract m S.size = str (bs.drop (k + 1)) := by rw [hS.out, hm]; exact str_drop bs (k + 1)
                  have t3 : S.extract (k + 1) S.size = str (bs.drop (k + 1)) := by rw [hS.out]; exact str_drop bs (k + 1)
                  replace hm := Lib.hid hm
                  by_cases hz : k = 0 ∨ c.toNat ≠ 0
                  · obtain ⟨E, F⟩ := YES.out hz a b
                    replace E := Lib.hid E
                    replace hz := Lib.hid hz
                    have Q : Hid (∀ w1, Calls Tryd.prog 50 #[.int .i64 vv] w1 (RefTo w1 (bs.take (k + 1)))) := fun w1 => by rw [← F]; exact refint w1 vv hv1 hv2
                    clear F
                    have k0 := cell_regrown c0
                    have cI : ∀ d os, Calls Tryd.prog 50 #[.int .i64 vv] (grow (redrawn w d) os) fun e w'' => e = .returned (.string (str (bs.take (k + 1)))) ∧ ∃ q : Regrown, w'' = grow (redrawn w q.d) q.os := fun d os => Calls.regrown_of (Q.out _)
                    go_wp2_with fail
                    refine wp_region_quiet_below (by kernel_rfl) (by kernel_rfl) ?_
                    clear c0
                    repeat (quiet_step (exact cI _ _))
                    refine wpQuiet_nil ?_
                    intro w2 hw'
                    obtain ⟨⟨dq, osq⟩, hw''⟩ := hw'
                    have gb : Hid (Below w.heap.size w w2) := by rw [hw'']; exact below_regrown w dq osq
                    have c0 : w2.cell? ⟨p, 0, none⟩ = some (.string S) := by rw [hw'']; exact k0 dq osq
                    have f0b : w2.frozen? ⟨p, 0, none⟩ = false := (gb.out.frozen (p := ⟨p, 0, none⟩) hpl.out).trans f0
                    clear k0 cI hw'' dq osq
                    have fin : Hid (RxTo w p (some (bs.drop (k + 1))) (w2.setCell ⟨p, 0, none⟩ (.string (str (bs.drop (k + 1)))))) := rx_put h1.out gb.out (by have := hsz.out; rw [List.length_drop]; omega)
                    go_wp2
                    go_ret
                    rw [E.out]
                    exact ⟨rfl, fin.out⟩
                  · obtain ⟨E, F⟩ := NO.out hz
                    replace E := Lib.hid E
                    replace hz := Lib.hid hz
                    have Q : Hid (∀ w1, Calls Tryd.prog 50 #[.int .i64 vv] w1 (RefTo w1 (encI vv))) := fun w1 => refint w1 vv hv1 hv2
                    have hne : ((str (encI vv)).toList == (str (bs.take (k + 1))).toList) = false := by rw [str_toList, str_toList]; simpa using F
                    clear F
                    have k0 := cell_regrown c0
                    have cI : ∀ d os, Calls Tryd.prog 50 #[.int .i64 vv] (grow (redrawn w d) os) fun e w'' => e = .returned (.string (str (encI vv))) ∧ ∃ q : Regrown, w'' = grow (redrawn w q.d) q.os := fun d os => Calls.regrown_of (Q.out _)
                    go_wp2_with fail
                    refine wp_region_quiet_below (by kernel_rfl) (by kernel_rfl) ?_
                    clear c0
                    repeat (quiet_step (exact cI _ _))
                    refine wpQuiet_nil ?_
                    intro w2 hw'
                    obtain ⟨⟨dq, osq⟩, hw''⟩ := hw'
                    have gb : Hid (Below w.heap.size w w2) := by rw [hw'']; exact below_regrown w dq osq
                    have c0 : w2.cell? ⟨p, 0, none⟩ = some (.string S) := by rw [hw'']; exact k0 dq osq
                    have f0b : w2.frozen? ⟨p, 0, none⟩ = false := (gb.out.frozen (p := ⟨p, 0, none⟩) hpl.out).trans f0
                    clear k0 cI hw'' dq osq
                    have XW : Hid (Calls Tryd.prog 72 #[.pointer (some ⟨p, 0, none⟩)] w2 fun e w' => e = .returned (.tuple #[]) ∧ RxTo w p none w') := (xwrong p w2 (some bs) (hh.out.same (gb.out.block p hpl.out))).mono fun e w' h => ⟨h.1, rx_from gb.out h.2⟩
                    go_wp2_with (go_at_call 72; ((with_reducible refine XW.out.mono ?_); rintro e w' ⟨rfl, hr⟩))
                    go_ret
                    rw [E.out]
                    exact ⟨rfl, hr⟩
        · have hkl : k = S.size := by omega
          have E : Hid (rInt lo hi (some bs) = (0, none)) := rInt_none (.inr ⟨bs, rfl, by rw [hdec.out, List.drop_of_length_le (by have := hsz.out; omega)]; rfl⟩)
          go_wp2_with (go_at_call 72; ((with_reducible refine X.out.mono ?_); rintro e w' ⟨rfl, hr⟩))
          go_ret
          rw [E.out]
          exact ⟨rfl, hr⟩
      · have E : Hid (rInt lo hi (some bs) = (0, none)) := rInt_none (.inr ⟨bs, rfl, hten.out (by omega)⟩)
        go_wp2_with (go_at_call 72; ((with_reducible refine X.out.mono ?_); rintro e w' ⟨rfl, hr⟩))
        go_ret
        rw [E.out]
        exact ⟨rfl, hr⟩
end Pk
end Go.Proofs.YtakicogelkdofaaDoor

namespace Go.Proofs.YtakicogelkdofaaDoor
set_option maxRecDepth 100000
open Go.RowKit Go.Proofs.YtakicogelkdofaaDoor.Pk
namespace Wt

/-- What so many reads have done: the numbers lie in block b; block p is the reader's. -/
structure TkX (w : World) (p b : Nat) (Z : Array Value) (t : TypeId) (q : List Int × St) (w' : World) : Prop where
  rx : Rx w' p q.2
  bl : w'.heap[b]? = some (Obj.cells (setL Z 0 q.1) t (0, 0))
  gr : Gr2 w p b w'
theorem tx_step {w wr w2 : World} {p b k : Nat} {Z : Array Value} {t : TypeId} {s : St} (h : TkX w p b Z t (rdk k s) wr) (hpb : p ≠ b)
    (h2 : RxTo wr p (rInt (-9223372036854775808) 9223372036854775807 (rdk k s).2).2 w2) :
    TkX w p b Z t (rdk (k + 1) s) (w2.setCell ⟨b, k, none⟩ (.int .i64 (rInt (-9223372036854775808) 9223372036854775807 (rdk k s).2).1)) := by
  have hb2 : w2.heap[b]? = some (Obj.cells (setL Z 0 (rdk k s).1) t (0, 0)) := (h2.gr.block b (lt_some h.bl) (fun e => hpb (by injection e with e; exact e.symm))).trans h.bl
  refine ⟨h2.rx.same (Below.heap_setCell _ ⟨b, k, none⟩ _ p hpb), ?_, h.gr.trans ((Gr2.of_p h2.gr).trans (Gr2.of_b (grown_set _ b _ _)))⟩
  rw [one_set hb2, rdk, setL_snoc, rdk_len, Nat.zero_add]
theorem tx_first {w w1 : World} {p : Nat} {s : St} {t tz : TypeId} {Z Z' : Array Value} (h1 : RxTo (w.alloc (.cells Z tz)) p (rInt (-9223372036854775808) 9223372036854775807 s).2 w1)
    (hZ : Z' = Z.setIfInBounds 0 (.int .i64 (rInt (-9223372036854775808) 9223372036854775807 s).1)) :
    TkX w p w1.heap.size Z t (rdk 1 s) (w1.alloc (.cells Z' t)) := by
  refine ⟨h1.rx.same (heap_alloc_old _ _ h1.rx.lt), ?_, (Gr2.of_below ((Below.refl _ w).alloc (Nat.le_refl _) _)).trans ((Gr2.of_p h1.gr).trans (Gr2.of_below ((Below.refl _ w1).alloc (Nat.le_refl _) _)))⟩
  rw [heap_alloc_new, hZ]
  rfl
theorem boxW (s : St) (x : Wan) (hx : x = wanOf (rdk 7 s).1) : setL #[.int .i64 0, .int .i64 0, .int .i64 0, .int .i64 0, .int .i64 0, .int .i64 0, .int .i64 0] 0 (rdk 7 s).1 = #[.int .i64 x.book, .int .i64 x.cust, .int .i64 x.dead, .int .i64 x.u0, .int .i64 x.u1, .int .i64 x.u2, .int .i64 x.price] := by
  have hl := rdk_len 7 s
  rw [hx]
  generalize (rdk 7 s).1 = l at hl
  match l, hl with
  | [a, b, c, d, e, f, g], _ => rfl
theorem boxO (s : St) (x : Opn) (hx : x = opnOf (rdk 5 s).1) : setL #[.int .i64 0, .int .i64 0, .int .i64 0, .int .i64 0, .int .i64 0] 0 (rdk 5 s).1 = #[.int .i64 x.kind, .int .i64 x.book, .int .i64 x.units, .int .i64 x.cust, .int .i64 x.amount] := by
  have hl := rdk_len 5 s
  rw [hx]
  generalize (rdk 5 s).1 = l at hl
  match l, hl with
  | [a, b, c, d, e], _ => rfl

theorem take_results : Tryd.f54.results = #[.cell 2 24] := by kernel_rfl
set_option maxHeartbeats 3200000 in
set_option maxRecDepth 100000 in
theorem rtake (p : Nat) (w : World) (s : St) (h : Rx w p s) (x : Wan) (hx : x = wanOf (rdk 7 s).1) :
    Calls Tryd.prog 54 #[.pointer (some ⟨p, 0, none⟩)] w fun e w' => e = .returned (.agg #[.int .i64 x.book, .int .i64 x.cust, .int .i64 x.dead, .int .i64 x.u0, .int .i64 x.u1, .int .i64 x.u2, .int .i64 x.price]) ∧ RxTo w p (rdk 7 s).2 w' := by
  have hpw := h.lt
  obtain ⟨v0, hv0⟩ : ∃ v, v = (rInt (-9223372036854775808) 9223372036854775807 s).1 := ⟨_, rfl⟩
  have C0 : Hid (Calls Tryd.prog 55 #[.pointer (some ⟨p, 0, none⟩), .int .i64 (-9223372036854775808), .int .i64 9223372036854775807] (w.alloc (.cells #[.int .i64 0, .int .i64 0, .int .i64 0, .int .i64 0, .int .i64 0, .int .i64 0, .int .i64 0] 24)) fun e w' => e = .returned (.int .i64 v0) ∧ RxTo (w.alloc (.cells #[.int .i64 0, .int .i64 0, .int .i64 0, .int .i64 0, .int .i64 0, .int .i64 0, .int .i64 0] 24)) p (rInt (-9223372036854775808) 9223372036854775807 s).2 w') := by
    rw [hv0]; exact xint p _ _ _ _ (h.same (heap_alloc_old _ _ hpw))
  replace hv0 := Lib.hid hv0
  go_enter Tryd.func54, Tryd.ntmps54
  go_wp2_with fail
  refine C0.out.mono ?_
  rintro e w1 ⟨rfl, r0⟩
  have ha1 : Hid (w1.heap[w.heap.size]? = some (.cells #[.int .i64 0, .int .i64 0, .int .i64 0, .int .i64 0, .int .i64 0, .int .i64 0, .int .i64 0] 24 (0, 0))) := (r0.gr.block _ (by simp) (fun e => by injection e with e; omega)).trans (heap_alloc_new _ _)
  have la1 := lt_some ha1.out
  have hp1 : p < w1.heap.size := r0.rx.lt
  have h1 : Hid (TkX w p w1.heap.size #[.int .i64 0, .int .i64 0, .int .i64 0, .int .i64 0, .int .i64 0, .int .i64 0, .int .i64 0] 24 (rdk 1 s) (w1.alloc (.cells #[.int .i64 v0, .int .i64 0, .int .i64 0, .int .i64 0, .int .i64 0, .int .i64 0, .int .i64 0] 24))) := tx_first r0 (by rw [hv0.out]; rfl)
  clear r0 C0 hv0
  obtain ⟨W1, eW1⟩ : ∃ z, z = w1.alloc (.cells #[.int .i64 v0, .int .i64 0, .int .i64 0, .int .i64 0, .int .i64 0, .int .i64 0, .int .i64 0] 24) := ⟨_, rfl⟩
  have hpb : p ≠ w1.heap.size := by omega
  have hab : w.heap.size ≠ w1.heap.size := by omega
  have hwb : w.heap.size < w1.heap.size := la1
  have haw : Hid (W1.heap[w.heap.size]? = some (.cells #[.int .i64 0, .int .i64 0, .int .i64 0, .int .i64 0, .int .i64 0, .int .i64 0, .int .i64 0] 24 (0, 0))) := by rw [eW1]; exact stay1 ha1 _
  go_upto_region 3 with fail
  rw [← eW1] at h1 ⊢
  clear eW1
  generalize w1.heap.size = b at *
  generalize hsz : w.heap.size = a at *
  have hap : a ≠ p := by omega
  have ha1' := haw
  clear ha1
  have ha1 := ha1'
  clear ha1' haw la1 hp1
  obtain ⟨v1, hv1⟩ : ∃ v, v = (rInt (-9223372036854775808) 9223372036854775807 (rdk 1 s).2).1 := ⟨_, rfl⟩
  have C1 : Hid (Calls Tryd.prog 55 #[.pointer (some ⟨p, 0, none⟩), .int .i64 (-9223372036854775808), .int .i64 9223372036854775807] W1 fun e w' => e = .returned (.int .i64 v1) ∧ RxTo W1 p (rInt (-9223372036854775808) 9223372036854775807 (rdk 1 s).2).2 w') := by rw [hv1]; exact xint p _ _ _ _ h1.out.rx
  replace hv1 := Lib.hid hv1
  go_wp2_with fail
  refine C1.out.mono ?_
  rintro e u1 ⟨rfl, r1⟩
  have hb1 : u1.heap[b]? = _ := (r1.gr.block b (lt_some h1.out.bl) (fun e => hpb (by injection e with e; exact e.symm))).trans h1.out.bl
  have ha10 : Hid (u1.heap[a]? = some (.cells #[.int .i64 0, .int .i64 0, .int .i64 0, .int .i64 0, .int .i64 0, .int .i64 0, .int .i64 0] 24 (0, 0))) := (r1.gr.block a (lt_some ha1.out) (fun e => hap (by injection e))).trans ha1.out
  have ha2 : Hid ((u1.setCell ⟨b, 1, none⟩ (.int .i64 v1)).heap[a]? = some (.cells #[.int .i64 0, .int .i64 0, .int .i64 0, .int .i64 0, .int .i64 0, .int .i64 0, .int .i64 0] 24 (0, 0))) := (Below.heap_setCell _ ⟨b, 1, none⟩ _ a hab).trans ha10.out
  obtain ⟨y1, hy1⟩ : ∃ y, (setL #[.int .i64 0, .int .i64 0, .int .i64 0, .int .i64 0, .int .i64 0, .int .i64 0, .int .i64 0] 0 (rdk 1 s).1)[1]? = some y := ⟨_, Array.getElem?_eq_getElem (by rw [setL_size]; decide)⟩
  have d1 : u1.cell? ⟨b, 1, none⟩ = some y1 := (one_at hb1).trans hy1
  have f1 : u1.frozen? ⟨b, 1, none⟩ = false := one_free hb1
  have h2 : Hid (TkX w p b #[.int .i64 0, .int .i64 0, .int .i64 0, .int .i64 0, .int .i64 0, .int .i64 0, .int .i64 0] 24 (rdk 2 s) (u1.setCell ⟨b, 1, none⟩ (.int .i64 v1))) := by rw [hv1.out]; exact tx_step h1.out hpb r1
  clear r1 hb1 hy1 C1 h1 hv1 ha1 ha10
  obtain ⟨v2, hv2⟩ : ∃ v, v = (rInt (-9223372036854775808) 9223372036854775807 (rdk 2 s).2).1 := ⟨_, rfl⟩
  have C2 : Hid (Calls Tryd.prog 55 #[.pointer (some ⟨p, 0, none⟩), .int .i64 (-9223372036854775808), .int .i64 9223372036854775807] (u1.setCell ⟨b, 1, none⟩ (.int .i64 v1)) fun e w' => e = .returned (.int .i64 v2) ∧ RxTo (u1.setCell ⟨b, 1, none⟩ (.int .i64 v1)) p (rInt (-9223372036854775808) 9223372036854775807 (rdk 2 s).2).2 w') := by rw [hv2]; exact xint p _ _ _ _ h2.out.rx
  replace hv2 := Lib.hid hv2
  go_wp2_with fail
  refine C2.out.mono ?_
  rintro e u2 ⟨rfl, r2⟩
  have hb2 : u2.heap[b]? = _ := (r2.gr.block b (lt_some h2.out.bl) (fun e => hpb (by injection e with e; exact e.symm))).trans h2.out.bl
  have ha20 : Hid (u2.heap[a]? = some (.cells #[.int .i64 0, .int .i64 0, .int .i64 0, .int .i64 0, .int .i64 0, .int .i64 0, .int .i64 0] 24 (0, 0))) := (r2.gr.block a (lt_some ha2.out) (fun e => hap (by injection e))).trans ha2.out
  have ha3 : Hid ((u2.setCell ⟨b, 2, none⟩ (.int .i64 v2)).heap[a]? = some (.cells #[.int .i64 0, .int .i64 0, .int .i64 0, .int .i64 0, .int .i64 0, .int .i64 0, .int .i64 0] 24 (0, 0))) := (Below.heap_setCell _ ⟨b, 2, none⟩ _ a hab).trans ha20.out
  obtain ⟨y2, hy2⟩ : ∃ y, (setL #[.int .i64 0, .int .i64 0, .int .i64 0, .int .i64 0, .int .i64 0, .int .i64 0, .int .i64 0] 0 (rdk 2 s).1)[2]? = some y := ⟨_, Array.getElem?_eq_getElem (by rw [setL_size]; decide)⟩
  have d2 : u2.cell? ⟨b, 2, none⟩ = some y2 := (one_at hb2).trans hy2
  have f2 : u2.frozen? ⟨b, 2, none⟩ = false := one_free hb2
  have h3 : Hid (TkX w p b #[.int .i64 0, .int .i64 0, .int .i64 0, .int .i64 0, .int .i64 0, .int .i64 0, .int .i64 0] 24 (rdk 3 s) (u2.setCell ⟨b, 2, none⟩ (.int .i64 v2))) := by rw [hv2.out]; exact tx_step h2.out hpb r2
  clear r2 hb2 hy2 C2 h2 hv2 ha2 ha20
  obtain ⟨v3, hv3⟩ : ∃ v, v = (rInt (-9223372036854775808) 9223372036854775807 (rdk 3 s).2).1 := ⟨_, rfl⟩
  have C3 : Hid (Calls Tryd.prog 55 #[.pointer (some ⟨p, 0, none⟩), .int .i64 (-9223372036854775808), .int .i64 9223372036854775807] (u2.setCell ⟨b, 2, none⟩ (.int .i64 v2)) fun e w' => e = .returned (.int .i64 v3) ∧ RxTo (u2.setCell ⟨b, 2, none⟩ (.int .i64 v2)) p (rInt (-9223372036854775808) 9223372036854775807 (rdk 3 s).2).2 w') := by rw [hv3]; exact xint p _ _ _ _ h3.out.rx
  replace hv3 := Lib.hid hv3
  go_wp2_with fail
  refine wp_loop_rounds 4 ?_
  rw [rounds_succ]
  go_wp2_with fail
  refine C3.out.mono ?_
  rintro e u3 ⟨rfl, r3⟩
  have hb3 : u3.heap[b]? = _ := (r3.gr.block b (lt_some h3.out.bl) (fun e => hpb (by injection e with e; exact e.symm))).trans h3.out.bl
  have ha30 : Hid (u3.heap[a]? = some (.cells #[.int .i64 0, .int .i64 0, .int .i64 0, .int .i64 0, .int .i64 0, .int .i64 0, .int .i64 0] 24 (0, 0))) := (r3.gr.block a (lt_some ha3.out) (fun e => hap (by injection e))).trans ha3.out
  have ha4 : Hid ((u3.setCell ⟨b, 3, none⟩ (.int .i64 v3)).heap[a]? = some (.cells #[.int .i64 0, .int .i64 0, .int .i64 0, .int .i64 0, .int .i64 0, .int .i64 0, .int .i64 0] 24 (0, 0))) := (Below.heap_setCell _ ⟨b, 3, none⟩ _ a hab).trans ha30.out
  obtain ⟨y3, hy3⟩ : ∃ y, (setL #[.int .i64 0, .int .i64 0, .int .i64 0, .int .i64 0, .int .i64 0, .int .i64 0, .int .i64 0] 0 (rdk 3 s).1)[3]? = some y := ⟨_, Array.getElem?_eq_getElem (by rw [setL_size]; decide)⟩
  have d3 : u3.cell? ⟨b, 3, none⟩ = some y3 := (one_at hb3).trans hy3
  have f3 : u3.frozen? ⟨b, 3, none⟩ = false := one_free hb3
  have h4 : Hid (TkX w p b #[.int .i64 0, .int .i64 0, .int .i64 0, .int .i64 0, .int .i64 0, .int .i64 0, .int .i64 0] 24 (rdk 4 s) (u3.setCell ⟨b, 3, none⟩ (.int .i64 v3))) := by rw [hv3.out]; exact tx_step h3.out hpb r3
  clear r3 hb3 hy3 C3 h3 hv3 ha3 ha30
  obtain ⟨v4, hv4⟩ : ∃ v, v = (rInt (-9223372036854775808) 9223372036854775807 (rdk 4 s).2).1 := ⟨_, rfl⟩
  have C4 : Hid (Calls Tryd.prog 55 #[.pointer (some ⟨p, 0, none⟩), .int .i64 (-9223372036854775808), .int .i64 9223372036854775807] (u3.setCell ⟨b, 3, none⟩ (.int .i64 v3)) fun e w' => e = .returned (.int .i64 v4) ∧ RxTo (u3.setCell ⟨b, 3, none⟩ (.int .i64 v3)) p (rInt (-9223372036854775808) 9223372036854775807 (rdk 4 s).2).2 w') := by rw [hv4]; exact xint p _ _ _ _ h4.out.rx
  replace hv4 := Lib.hid hv4
  go_wp2_with fail
  rw [rounds_succ]
  go_wp2_with fail
  refine C4.out.mono ?_
  rintro e u4 ⟨rfl, r4⟩
  have hb4 : u4.heap[b]? = _ := (r4.gr.block b (lt_some h4.out.bl) (fun e => hpb (by injection e with e; exact e.symm))).trans h4.out.bl
  have ha40 : Hid (u4.heap[a]? = some (.cells #[.int .i64 0, .int .i64 0, .int .i64 0, .int .i64 0, .int .i64 0, .int .i64 0, .int .i64 0] 24 (0, 0))) := (r4.gr.block a (lt_some ha4.out) (fun e => hap (by injection e))).trans ha4.out
  have ha5 : Hid ((u4.setCell ⟨b, 4, none⟩ (.int .i64 v4)).heap[a]? = some (.cells #[.int .i64 0, .int .i64 0, .int .i64 0, .int .i64 0, .int .i64 0, .int .i64 0, .int .i64 0] 24 (0, 0))) := (Below.heap_setCell _ ⟨b, 4, none⟩ _ a hab).trans ha40.out
  obtain ⟨y4, hy4⟩ : ∃ y, (setL #[.int .i64 0, .int .i64 0, .int .i64 0, .int .i64 0, .int .i64 0, .int .i64 0, .int .i64 0] 0 (rdk 4 s).1)[4]? = some y := ⟨_, Array.getElem?_eq_getElem (by rw [setL_size]; decide)⟩
  have d4 : u4.cell? ⟨b, 4, none⟩ = some y4 := (one_at hb4).trans hy4
  have f4 : u4.frozen? ⟨b, 4, none⟩ = false := one_free hb4
  have h5 : Hid (TkX w p b #[.int .i64 0, .int .i64 0, .int .i64 0, .int .i64 0, .int .i64 0, .int .i64 0, .int .i64 0] 24 (rdk 5 s) (u4.setCell ⟨b, 4, none⟩ (.int .i64 v4))) := by rw [hv4.out]; exact tx_step h4.out hpb r4
  clear r4 hb4 hy4 C4 h4 hv4 ha4 ha40
  obtain ⟨v5, hv5⟩ : ∃ v, v = (rInt (-9223372036854775808) 9223372036854775807 (rdk 5 s).2).1 := ⟨_, rfl⟩
  have C5 : Hid (Calls Tryd.prog 55 #[.pointer (some ⟨p, 0, none⟩), .int .i64 (-9223372036854775808), .int .i64 9223372036854775807] (u4.setCell ⟨b, 4, none⟩ (.int .i64 v4)) fun e w' => e = .returned (.int .i64 v5) ∧ RxTo (u4.setCell ⟨b, 4, none⟩ (.int .i64 v4)) p (rInt (-9223372036854775808) 9223372036854775807 (rdk 5 s).2).2 w') := by rw [hv5]; exact xint p _ _ _ _ h5.out.rx
  replace hv5 := Lib.hid hv5
  go_wp2_with fail
  rw [rounds_succ]
  go_wp2_with fail
  refine C5.out.mono ?_
  rintro e u5 ⟨rfl, r5⟩
  have hb5 : u5.heap[b]? = _ := (r5.gr.block b (lt_some h5.out.bl) (fun e => hpb (by injection e with e; exact e.symm))).trans h5.out.bl
  have ha50 : Hid (u5.heap[a]? = some (.cells #[.int .i64 0, .int .i64 0, .int .i64 0, .int .i64 0, .int .i64 0, .int .i64 0, .int .i64 0] 24 (0, 0))) := (r5.gr.block a (lt_some ha5.out) (fun e => hap (by injection e))).trans ha5.out
  have ha6 : Hid ((u5.setCell ⟨b, 5, none⟩ (.int .i64 v5)).heap[a]? = some (.cells #[.int .i64 0, .int .i64 0, .int .i64 0, .int .i64 0, .int .i64 0, .int .i64 0, .int .i64 0] 24 (0, 0))) := (Below.heap_setCell _ ⟨b, 5, none⟩ _ a hab).trans ha50.out
  obtain ⟨y5, hy5⟩ : ∃ y, (setL #[.int .i64 0, .int .i64 0, .int .i64 0, .int .i64 0, .int .i64 0, .int .i64 0, .int .i64 0] 0 (rdk 5 s).1)[5]? = some y := ⟨_, Array.getElem?_eq_getElem (by rw [setL_size]; decide)⟩
  have d5 : u5.cell? ⟨b, 5, none⟩ = some y5 := (one_at hb5).trans hy5
  have f5 : u5.frozen? ⟨b, 5, none⟩ = false := one_free hb5
  have h6 : Hid (TkX w p b #[.int .i64 0, .int .i64 0, .int .i64 0, .int .i64 0, .int .i64 0, .int .i64 0, .int .i64 0] 24 (rdk 6 s) (u5.setCell ⟨b, 5, none⟩ (.int .i64 v5))) := by rw [hv5.out]; exact tx_step h5.out hpb r5
  clear r5 hb5 hy5 C5 h5 hv5 ha5 ha50
  obtain ⟨v6, hv6⟩ : ∃ v, v = (rInt (-9223372036854775808) 9223372036854775807 (rdk 6 s).2).1 := ⟨_, rfl⟩
  have C6 : Hid (Calls Tryd.prog 55 #[.pointer (some ⟨p, 0, none⟩), .int .i64 (-9223372036854775808), .int .i64 9223372036854775807] (u5.setCell ⟨b, 5, none⟩ (.int .i64 v5)) fun e w' => e = .returned (.int .i64 v6) ∧ RxTo (u5.setCell ⟨b, 5, none⟩ (.int .i64 v5)) p (rInt (-9223372036854775808) 9223372036854775807 (rdk 6 s).2).2 w') := by rw [hv6]; exact xint p _ _ _ _ h6.out.rx
  replace hv6 := Lib.hid hv6
  go_wp2_with fail
  rw [rounds_succ]
  go_wp2_with fail
  refine C6.out.mono ?_
  rintro e u6 ⟨rfl, r6⟩
  have hb6 : u6.heap[b]? = _ := (r6.gr.block b (lt_some h6.out.bl) (fun e => hpb (by injection e with e; exact e.symm))).trans h6.out.bl
  have ha60 : Hid (u6.heap[a]? = some (.cells #[.int .i64 0, .int .i64 0, .int .i64 0, .int .i64 0, .int .i64 0, .int .i64 0, .int .i64 0] 24 (0, 0))) := (r6.gr.block a (lt_some ha6.out) (fun e => hap (by injection e))).trans ha6.out
  have ha7 : Hid ((u6.setCell ⟨b, 6, none⟩ (.int .i64 v6)).heap[a]? = some (.cells #[.int .i64 0, .int .i64 0, .int .i64 0, .int .i64 0, .int .i64 0, .int .i64 0, .int .i64 0] 24 (0, 0))) := (Below.heap_setCell _ ⟨b, 6, none⟩ _ a hab).trans ha60.out
  obtain ⟨y6, hy6⟩ : ∃ y, (setL #[.int .i64 0, .int .i64 0, .int .i64 0, .int .i64 0, .int .i64 0, .int .i64 0, .int .i64 0] 0 (rdk 6 s).1)[6]? = some y := ⟨_, Array.getElem?_eq_getElem (by rw [setL_size]; decide)⟩
  have d6 : u6.cell? ⟨b, 6, none⟩ = some y6 := (one_at hb6).trans hy6
  have f6 : u6.frozen? ⟨b, 6, none⟩ = false := one_free hb6
  have h7 : Hid (TkX w p b #[.int .i64 0, .int .i64 0, .int .i64 0, .int .i64 0, .int .i64 0, .int .i64 0, .int .i64 0] 24 (rdk 7 s) (u6.setCell ⟨b, 6, none⟩ (.int .i64 v6))) := by rw [hv6.out]; exact tx_step h6.out hpb r6
  clear r6 hb6 hy6 C6 h6 hv6 ha6 ha60
  have hb7 : Hid ((u6.setCell ⟨b, 6, none⟩ (.int .i64 v6)).heap[b]? = some (.cells #[.int .i64 x.book, .int .i64 x.cust, .int .i64 x.dead, .int .i64 x.u0, .int .i64 x.u1, .int .i64 x.u2, .int .i64 x.price] 24 (0, 0))) := by unfold Hid; rw [h7.out.bl, boxW s x hx]
  have g7 : Hid (RxTo w p (rdk 7 s).2 ((u6.setCell ⟨b, 6, none⟩ (.int .i64 v6)).setRow a #[.int .i64 x.book, .int .i64 x.cust, .int .i64 x.dead, .int .i64 x.u0, .int .i64 x.u1, .int .i64 x.u2, .int .i64 x.price])) := by
    have hg := h7.out.gr
    refine ⟨h7.out.rx.same (setRow_other _ _ _ _ (fun e => hap e.symm)), hg.os, hg.tape, hg.output, by have := hg.size; simpa [World.setRow] using this, fun i hi hne => ?_⟩
    rw [setRow_other _ _ _ _ (by omega : i ≠ a)]
    exact hg.block i hi (fun e => hne (by rw [e])) (by omega)
  go_wp2_with (first | (refine wpList_load_row rfl 24 (.tmp 5) rfl b rfl 24 #[.int .i64 x.book, .int .i64 x.cust, .int .i64 x.dead, .int .i64 x.u0, .int .i64 x.u1, .int .i64 x.u2, .int .i64 x.price] (0, 0) _ hb7.out Tryd.underlying24 rfl want_info ?_) | (refine wpList_store_row rfl 24 (.tmp 2) (.tmp 38) rfl a #[.int .i64 x.book, .int .i64 x.cust, .int .i64 x.dead, .int .i64 x.u0, .int .i64 x.u1, .int .i64 x.u2, .int .i64 x.price] rfl rfl 24 #[.int .i64 0, .int .i64 0, .int .i64 0, .int .i64 0, .int .i64 0, .int .i64 0, .int .i64 0] ha7.out want_info rfl (one7 _ _ _ _ _ _ _) ?_))
  refine bodyPost_ret (results_cell_row take_results _ _ a 24 #[.int .i64 x.book, .int .i64 x.cust, .int .i64 x.dead, .int .i64 x.u0, .int .i64 x.u1, .int .i64 x.u2, .int .i64 x.price] (0, 0) _ rfl (setRow_heap _ _ _ _ _ _ ha7.out) Tryd.underlying24 rfl want_info) rfl ?_
  exact ⟨rfl, g7.out⟩
end Wt
end Go.Proofs.YtakicogelkdofaaDoor

namespace Go.Proofs.YtakicogelkdofaaDoor
set_option maxRecDepth 100000
open Go.RowKit Go.Sort Go.Proofs.YtakicogelkdofaaDoor.Pk
namespace Wt

theorem size_add {a b : List UInt8} (h : a.length + b.length ≤ 1000) : ¬ (str a).size + (str b).size > 9223372036854775807 := by rw [str_size, str_size]; omega
theorem cat5 (a b c d e : Int) : cat [a, b, c, d, e] = encI a ++ encI b ++ encI c ++ encI d ++ encI e := by simp [cat, List.append_assoc]
end Wt
end Go.Proofs.YtakicogelkdofaaDoor

namespace Go.Proofs.YtakicogelkdofaaDoor
set_option maxRecDepth 100000
open Go.RowKit Go.Sort Go.Proofs.YtakicogelkdofaaDoor.Pk
namespace Wt

theorem cat7 (a b c d e f g : Int) : cat [a, b, c, d, e, f, g] = encI a ++ encI b ++ encI c ++ encI d ++ encI e ++ encI f ++ encI g := by simp [cat, List.append_assoc]
set_option maxHeartbeats 3200000 in
set_option maxRecDepth 100000 in
theorem rraw_any (w : World) (x : Wan) (hx : ∀ z ∈ wz x, I z) :
    Calls Tryd.prog 49 #[.agg #[.int .i64 x.book, .int .i64 x.cust, .int .i64 x.dead, .int .i64 x.u0, .int .i64 x.u1, .int .i64 x.u2, .int .i64 x.price]] w fun e w' => e = .returned (.string (str (raw x))) ∧ Below w.heap.size w w' := by
  have i0 := hx x.book (by simp [wz])
  have i1 := hx x.cust (by simp [wz])
  have i2 := hx x.dead (by simp [wz])
  have i3 := hx x.u0 (by simp [wz])
  have i4 := hx x.u1 (by simp [wz])
  have i5 := hx x.u2 (by simp [wz])
  have i6 := hx x.price (by simp [wz])
  obtain ⟨w0, e0⟩ : ∃ z, z = w.alloc (.cells #[.int .i64 x.book, .int .i64 x.cust, .int .i64 x.dead, .int .i64 x.u0, .int .i64 x.u1, .int .i64 x.u2, .int .i64 x.price] 24) := ⟨_, rfl⟩
  have be0 : Hid (Below w.heap.size w w0) := by rw [e0]; exact (Below.refl _ w).alloc (Nat.le_refl _) _
  have h0 : Hid (w0.heap[w.heap.size]? = some (.cells #[.int .i64 x.book, .int .i64 x.cust, .int .i64 x.dead, .int .i64 x.u0, .int .i64 x.u1, .int .i64 x.u2, .int .i64 x.price] 24 (0, 0))) := by rw [e0]; exact heap_alloc_new _ _
  have k0 := cell_regrown (show w0.cell? ⟨w.heap.size, 0, none⟩ = some (.int .i64 x.book) from one_at h0.out)
  have k1 := cell_regrown (show w0.cell? ⟨w.heap.size, 1, none⟩ = some (.int .i64 x.cust) from one_at h0.out)
  have k2 := cell_regrown (show w0.cell? ⟨w.heap.size, 2, none⟩ = some (.int .i64 x.dead) from one_at h0.out)
  have C : ∀ (v : Int) (bs : List UInt8), I v → bs = encI v → ∀ d os, Calls Tryd.prog 50 #[.int .i64 v] (grow (redrawn w0 d) os) fun e w'' => e = .returned (.string (str bs)) ∧ ∃ q : Regrown, w'' = grow (redrawn w0 q.d) q.os := fun v bs hv hb d os => Calls.regrown_of (by rw [hb]; exact refint _ v hv.1 hv.2)
  have D : ∀ (v : Int) (bs : List UInt8), I v → bs = encI v → ∀ w, Calls Tryd.prog 50 #[.int .i64 v] w (RefTo w bs) := fun v bs hv hb w => by rw [hb]; exact refint w v hv.1 hv.2
  have F : Hid (raw x = encI x.book ++ encI x.cust ++ encI x.dead ++ encI x.u0 ++ encI x.u1 ++ encI x.u2 ++ encI x.price) := cat7 _ _ _ _ _ _ _
  obtain ⟨b0, e0'⟩ : ∃ b, b = encI x.book := ⟨_, rfl⟩
  have l0 : b0.length ≤ 10 := by rw [e0']; exact encI_len _ i0.1 i0.2
  obtain ⟨b1, e1'⟩ : ∃ b, b = encI x.cust := ⟨_, rfl⟩
  have l1 : b1.length ≤ 10 := by rw [e1']; exact encI_len _ i1.1 i1.2
  obtain ⟨b2, e2'⟩ : ∃ b, b = encI x.dead := ⟨_, rfl⟩
  have l2 : b2.length ≤ 10 := by rw [e2']; exact encI_len _ i2.1 i2.2
  obtain ⟨b3, e3'⟩ : ∃ b, b = encI x.u0 := ⟨_, rfl⟩
  have l3 : b3.length ≤ 10 := by rw [e3']; exact encI_len _ i3.1 i3.2
  obtain ⟨b4, e4'⟩ : ∃ b, b = encI x.u1 := ⟨_, rfl⟩
  have l4 : b4.length ≤ 10 := by rw [e4']; exact encI_len _ i4.1 i4.2
  obtain ⟨b5, e5'⟩ : ∃ b, b = encI x.u2 := ⟨_, rfl⟩
  have l5 : b5.length ≤ 10 := by rw [e5']; exact encI_len _ i5.1 i5.2
  obtain ⟨b6, e6'⟩ : ∃ b, b = encI x.price := ⟨_, rfl⟩
  have l6 : b6.length ≤ 10 := by rw [e6']; exact encI_len _ i6.1 i6.2
  rw [← e0', ← e1', ← e2', ← e3', ← e4', ← e5', ← e6'] at F
  obtain ⟨s1, f1⟩ : ∃ s, s = b0 ++ b1 := ⟨_, rfl⟩
  have m1 : s1.length ≤ 20 := by rw [f1, List.length_append]; omega
  have a1 := str_add b0 b1 (by omega)
  have q1 := size_add (a := b0) (b := b1) (by omega)
  have t1 := str_cat b0 b1
  rw [← f1] at a1 t1
  obtain ⟨s2, f2⟩ : ∃ s, s = s1 ++ b2 := ⟨_, rfl⟩
  have m2 : s2.length ≤ 30 := by rw [f2, List.length_append]; omega
  have a2 := str_add s1 b2 (by omega)
  have q2 := size_add (a := s1) (b := b2) (by omega)
  have t2 := str_cat s1 b2
  rw [← f2] at a2 t2
  obtain ⟨s3, f3⟩ : ∃ s, s = s2 ++ b3 := ⟨_, rfl⟩
  have m3 : s3.length ≤ 40 := by rw [f3, List.length_append]; omega
  have a3 := str_add s2 b3 (by omega)
  have q3 := size_add (a := s2) (b := b3) (by omega)
  have t3 := str_cat s2 b3
  rw [← f3] at a3 t3
  obtain ⟨s4, f4⟩ : ∃ s, s = s3 ++ b4 := ⟨_, rfl⟩
  have m4 : s4.length ≤ 50 := by rw [f4, List.length_append]; omega
  have a4 := str_add s3 b4 (by omega)
  have q4 := size_add (a := s3) (b := b4) (by omega)
  have t4 := str_cat s3 b4
  rw [← f4] at a4 t4
  obtain ⟨s5, f5⟩ : ∃ s, s = s4 ++ b5 := ⟨_, rfl⟩
  have m5 : s5.length ≤ 60 := by rw [f5, List.length_append]; omega
  have a5 := str_add s4 b5 (by omega)
  have q5 := size_add (a := s4) (b := b5) (by omega)
  have t5 := str_cat s4 b5
  rw [← f5] at a5 t5
  obtain ⟨s6, f6⟩ : ∃ s, s = s5 ++ b6 := ⟨_, rfl⟩
  have m6 : s6.length ≤ 70 := by rw [f6, List.length_append]; omega
  have a6 := str_add s5 b6 (by omega)
  have q6 := size_add (a := s5) (b := b6) (by omega)
  have t6 := str_cat s5 b6
  rw [← f6] at a6 t6
  rw [← f1, ← f2, ← f3, ← f4, ← f5, ← f6] at F
  have C0 := C _ b0 i0 e0'
  have C1 := C _ b1 i1 e1'
  have C2 := C _ b2 i2 e2'
  have D3 := Lib.hid (D _ b3 i3 e3')
  have D4 := Lib.hid (D _ b4 i4 e4')
  have D5 := Lib.hid (D _ b5 i5 e5')
  have D6 := Lib.hid (D _ b6 i6 e6')
  clear C D hx i0 e0' l0 i1 e1' l1 i2 e2' l2 i3 e3' l3 i4 e4' l4 i5 e5' l5 i6 e6' l6 f1 m1 f2 m2 f3 m3 f4 m4 f5 m5 f6 m6
  go_enter Tryd.func49, Tryd.ntmps49
  go_upto_region 1 with fail
  rw [← e0]
  clear e0
  refine wp_region_quiet_below (by kernel_rfl) (by kernel_rfl) ?_
  repeat (go_big_quiet_step (first | with_reducible exact C0 _ _ | with_reducible exact C1 _ _ | with_reducible exact C2 _ _))
  refine wpQuiet_nil ?_
  intro w2 hw'
  obtain ⟨⟨dq, osq⟩, hw''⟩ := hw'
  have b20 : RowKit.Below w0.heap.size w0 w2 := by rw [hw'']; exact below_regrown w0 dq osq
  have be2 : Hid (RowKit.Below w.heap.size w w2) := be0.out.trans (b20.mono be0.out.size)
  have h2 := stay h0 b20
  have c3 : w2.cell? ⟨w.heap.size, 3, none⟩ = some (.int .i64 x.u0) := one_at h2.out
  clear hw'' b20 be0 h0 k0 k1 k2 C0 C1 C2
  go_wp2_with fail
  refine wp_loop_rounds 4 ?_
  rw [rounds_succ]
  go_wp2_with fail
  refine (D3.out w2).mono ?_
  rintro e w3 ⟨rfl, g3⟩
  have be3 : Hid (RowKit.Below w.heap.size w w3) := be2.out.trans (g3.mono be2.out.size)
  have h3 := stay h2 g3
  have c4 : w3.cell? ⟨w.heap.size, 4, none⟩ = some (.int .i64 x.u1) := one_at h3.out
  clear g3 be2 h2 c3 D3
  go_wp2_with fail
  rw [rounds_succ]
  go_wp2_with fail
  refine (D4.out w3).mono ?_
  rintro e w4 ⟨rfl, g4⟩
  have be4 : Hid (RowKit.Below w.heap.size w w4) := be3.out.trans (g4.mono be3.out.size)
  have h4 := stay h3 g4
  have c5 : w4.cell? ⟨w.heap.size, 5, none⟩ = some (.int .i64 x.u2) := one_at h4.out
  clear g4 be3 h3 c4 D4
  go_wp2_with fail
  rw [rounds_succ]
  go_wp2_with fail
  refine (D5.out w4).mono ?_
  rintro e w5 ⟨rfl, g5⟩
  have be5 : Hid (RowKit.Below w.heap.size w w5) := be4.out.trans (g5.mono be4.out.size)
  have h5 := stay h4 g5
  have c6 : w5.cell? ⟨w.heap.size, 6, none⟩ = some (.int .i64 x.price) := one_at h5.out
  clear g5 be4 h4 c5 D5
  go_wp2_with fail
  rw [rounds_succ]
  go_wp2_with fail
  refine (D6.out w5).mono ?_
  rintro e w6 ⟨rfl, g6⟩
  have be6 : Hid (RowKit.Below w.heap.size w w6) := be5.out.trans (g6.mono be5.out.size)
  clear g6 be5 h5 c6 D6
  go_wp2_with fail
  go_ret
  rw [F.out]
  exact ⟨rfl, be6.out⟩
end Wt
end Go.Proofs.YtakicogelkdofaaDoor
