/- The program's Get of a saga. -/
import Derived.Test.YtidfpbnepdjagaaDoorPk7
import Derived.Test.YtidfpbnepdjagaaDoorPkR
import Derived.Test.YtidfpbnepdjagaaDoorWtL
import Derived.Test.YtidfpbnepdjagaaDoorSbM
import Derived.Test.YtidfpbnepdjagaaDoorSgQX
import Derived.Test.YtidfpbnepdjagaaDoorSgC
import Derived.Test.YtidfpbnepdjagaaDoorWtRX
import Derived.Test.YtidfpbnepdjagaaDoorSgA
import Derived.Deep.MidRow
import Derived.LoopTactic
namespace Go.Proofs.YtidfpbnepdjagaaDoor
set_option maxRecDepth 100000
open Go.RowKit
open Go.Proofs.YtidfpbnepdjagaaDoor.Pk (one_at one_free one_set lt_some grown_set grown_trans below_grown grown_refl u8s enc zz zz_lt zz_pos enc_lo enc_hi enc_ne encI_len rb_one byte_hi byte_lo own_form wpList_append_b adr_block Rb)
namespace In
abbrev Bs := List UInt8

/-- Numbers as bytes, one behind the other. -/
def cat (zs : List Int) : Bs := zs.flatMap Pk.encI
theorem cat_nil : cat [] = [] := rfl
theorem cat_app (a b : List Int) : cat (a ++ b) = cat a ++ cat b := by simp [cat]
theorem cat_snoc {zs : List Int} {k : Nat} {z : Int} (h : zs[k]? = some z) : cat (zs.take (k + 1)) = cat (zs.take k) ++ Pk.encI z := by
  obtain ⟨hl, rfl⟩ := List.getElem?_eq_some_iff.1 h
  rw [List.take_succ_eq_append_getElem hl, cat_app]
  simp [cat]
theorem cat_len (zs : List Int) (h : ∀ z ∈ zs, 0 ≤ z ∧ z ≤ 4000000000000000000) : (cat zs).length ≤ 10 * zs.length := by
  induction zs with
  | nil => simp [cat]
  | cons z zs ih =>
    have e : cat (z :: zs) = Pk.encI z ++ cat zs := by simp [cat]
    rw [e, List.length_append]
    have h1 := h z (by simp)
    have := encI_len z (by omega) (by omega)
    have := ih (fun y hy => h y (by simp [hy]))
    simp only [List.length_cons]
    omega
/-- What lies below base, and each block that holds no bytes, is as it was. -/
structure Gu (base : Nat) (w w' : World) : Prop where
  os : w'.os = w.os
  tape : w'.tape = w.tape
  output : w'.output = w.output
  size : w.heap.size ≤ w'.heap.size
  block : ∀ g, g < w.heap.size → (g < base ∨ ∀ cs fr, w.heap[g]? ≠ some (.cells cs 5 fr)) → w'.heap[g]? = w.heap[g]?
section
variable {w w1 w2 : World} {base : Nat}
theorem Gu.refl (base : Nat) (w : World) : Gu base w w := ⟨rfl, rfl, rfl, Nat.le_refl _, fun _ _ _ => rfl⟩
theorem Gu.trans (h : Gu base w w1) (k : Gu base w1 w2) : Gu base w w2 :=
  ⟨k.os.trans h.os, k.tape.trans h.tape, k.output.trans h.output, Nat.le_trans h.size k.size, fun g hg hn => by
    have e := h.block g hg hn
    exact (k.block g (Nat.lt_of_lt_of_le hg h.size) (by rw [e]; exact hn)).trans e⟩
theorem Gu.of_below (h : Below w.heap.size w w1) : Gu base w w1 := ⟨h.os, h.tape, h.output, h.size, fun g hg _ => h.block g hg⟩
theorem Gu.below (h : Gu base w w1) (hb : base ≤ w.heap.size) : Below base w w1 := ⟨h.os, h.tape, h.output, h.size, fun g hg => h.block g (by omega) (.inl hg)⟩
theorem Gu.of_row {v : Value} {n : Nat} {xs : List Value} (hg : w.grownBy w1 v.ownBlock) (ho : w.ownsRow base 5 1 v n xs) : Gu base w w1 :=
  ⟨hg.os, hg.tape, hg.output, hg.size, fun g hlt hn => hg.block g hlt fun e => by
    rcases ho.2 with ⟨rfl, _⟩ | ⟨g', cap, cur, rfl, hb, hh, _⟩
    · simp [Value.ownBlock] at e
    · have e1 : g = g' := by simpa [Value.ownBlock] using e
      subst e1
      rcases hn with hn | hn
      · omega
      · exact hn _ _ hh⟩
end
/-- Numbers that lie below base, or in a block that holds no bytes. -/
structure Ns (base : Nat) (w : World) (ad : Addr) (zs : List Int) : Prop where
  lt : ad.block < w.heap.size
  blk : ad.block < base ∨ ∀ cs fr, w.heap[ad.block]? ≠ some (Obj.cells cs 5 fr)
  at_ : ∀ (j : Nat) (z : Int), zs[j]? = some z → w.cell? (ad.add j) = some (.int .i64 z)
theorem Ns.gu {w w' : World} {ad : Addr} {zs : List Int} {base : Nat} (h : Ns base w ad zs) (k : Gu base w w') : Ns base w' ad zs := by
  have e := k.block _ h.lt h.blk
  exact ⟨Nat.lt_of_lt_of_le h.lt k.size, by rw [e]; exact h.blk, fun j z hj => (World.cell?_of_block (by rw [adr_block]; exact e)).trans (h.at_ j z hj)⟩
theorem Ns.one {w : World} {g base : Nat} {cs : Array Value} {t : TypeId} {zs : List Int} (h : w.heap[g]? = some (.cells cs t (0, 0))) (ht : t ≠ 5) (hc : ∀ (j : Nat) (z : Int), zs[j]? = some z → cs[j]? = some (.int .i64 z)) : Ns base w ⟨g, 0, none⟩ zs := by
  refine ⟨lt_some h, .inr fun cs' fr e => ?_, fun j z hj => ?_⟩
  · rw [h] at e
    injection e with e
    injection e with _ e2 _
    exact ht e2
  · rw [Addr.add_lit, Nat.zero_add, one_at h]
    exact hc j z hj
abbrev RowB (w : World) (base : Nat) (v : Value) (bs : Bs) : Prop := w.ownsRow base 5 1 v bs.length (u8s bs)
def InAt (base : Nat) (w : World) (all : Bs) (v u : Value) (wr : World) : Prop :=
  ∃ (x : Nat) (pre : Bs), u = .int .u64 x ∧ x < 18446744073709551616 ∧ RowB wr base v pre ∧ pre ++ enc x = all ∧ Gu base w wr ∧ base ≤ wr.heap.size
theorem in_next {base : Nat} {w wr w6 : World} {all pre : Bs} {x : Nat} {A : Option Addr} {c : Nat} {v6 : Value} {b : Int} (hx : 127 < x) (hx2 : x < 18446744073709551616) (hall : pre ++ enc x = all) (hb : Gu base w wr) (hs : base ≤ wr.heap.size)
    (ho : RowB wr base (.slice A pre.length c) pre) (h6 : w6.ownsRow base 5 1 v6 (pre.length + 1) (u8s (pre ++ [UInt8.ofNat (x % 128 + 128)]))) (hg6 : (wr.alloc (.cells #[.int .u8 b] 5)).grownBy w6 (Value.slice A pre.length c).ownBlock) :
    InAt base w all v6 (.int .u64 ((x : Int) / 128)) w6 := by
  refine ⟨x / 128, pre ++ [UInt8.ofNat (x % 128 + 128)], by simp, by omega, by unfold RowB; rw [List.length_append]; exact h6, ?_, hb.trans (Gu.of_row ((World.grownBy_alloc _ _ _).trans hg6) ho), by have := hg6.size; simp at this; omega⟩
  have e := enc_hi (u := x) (by omega)
  rw [← hall, e, List.append_assoc]; rfl
def ApAt (base : Nat) (w : World) (bs : Bs) (zs : List Int) (v i : Value) (wr : World) : Prop :=
  ∃ k : Nat, i = .int .i64 k ∧ k ≤ zs.length ∧ RowB wr base v (bs ++ cat (zs.take k)) ∧ Gu base w wr ∧ base ≤ wr.heap.size
/-- What appendInts answers. -/
def ApTo (base : Nat) (w : World) (bs : Bs) (e : Ending) (w' : World) : Prop := ∃ v, e = .returned v ∧ RowB w' base v bs ∧ Gu base w w' ∧ base ≤ w'.heap.size
theorem xor_zero (x : Nat) (h : x < 18446744073709551616) : bits .xor .u64 (x : Int) 0 = (x : Int) := by
  have h1 : (BitVec.ofInt 64 (x : Int)).toNat = x := by rw [BitVec.ofInt_natCast, BitVec.toNat_ofNat]; exact Nat.mod_eq_of_lt (by omega)
  show IntKind.u64.wrap ((BitVec.ofInt 64 (x : Int) ^^^ BitVec.ofInt 64 0).toNat : Int) = _
  rw [BitVec.toNat_xor, h1, show (BitVec.ofInt 64 0).toNat = 0 from rfl, Nat.xor_zero, IntKind.wrap_u64]
  omega
theorem fold_eq {z : Int} (h0 : 0 ≤ z) (h1 : z ≤ 4000000000000000000) : bits .xor .u64 (z * 2) 0 = z * 2 := by
  have := xor_zero (z * 2).toNat (by omega)
  rwa [show ((z * 2).toNat : Int) = z * 2 by omega] at this
theorem ret_u64 {a b : Int} (h : a = b) : Ending.returned (.int .u64 a) = .returned (.int .u64 b) := by rw [h]
set_option maxHeartbeats 400000 in
theorem fold_any (w : World) (z : Int) (h0 : 0 ≤ z) (h1 : z ≤ 4000000000000000000) :
    Calls Tryd.prog 69 #[.int .i64 z] w fun e w' => e = .returned (.int .u64 (z * 2)) ∧ w = w' := by
  have F := Lib.hid (fold_eq h0 h1)
  go_enter Tryd.func69, Tryd.ntmps69
  go_wp2
  go_ret
  exact ⟨ret_u64 (by rw [show z / 9223372036854775808 = 0 by omega]; exact F.out), rfl⟩
set_option maxHeartbeats 3200000 in
theorem append_any (base : Nat) (w : World) (v : Value) (bs : Bs) (ho : RowB w base v bs) (hB : base ≤ w.heap.size) (ad : Addr) (n : Nat) (zs : List Int) (hl : zs.length = n) (hs : Ns base w ad zs) (hz : ∀ z ∈ zs, 0 ≤ z ∧ z ≤ 4000000000000000000) (hn : bs.length ≤ 100000) (hm : n ≤ 100) :
    Calls Tryd.prog 50 #[v, .slice (some ad) n n] w (ApTo base w (bs ++ cat zs)) := by
  have st : Hid (ApAt base w bs zs v (.int .i64 0) w) := ⟨0, rfl, Nat.zero_le _, by simpa [cat] using ho, Gu.refl _ _, hB⟩
  have hl' := Lib.hid hl
  have hs' := Lib.hid hs
  have hz' := Lib.hid hz
  replace hB := Lib.hid hB
  clear hl hs hz ho
  go_enter Tryd.func50, Tryd.ntmps50
  go_wp2
  go_loopw [0, 10] (fun v i wr => ApAt base w bs zs v i wr) (fun _ i _ => n - (intOf i).toNat)
  case atStart => exact st.out
  case round =>
    obtain ⟨w3, e3⟩ : ∃ x, x = wr := ⟨_, rfl⟩
    subst e3
    obtain ⟨k, rfl, hk, hrow, hgu, hbs⟩ := hrel
    replace hrow := Lib.hid hrow
    replace hgu := Lib.hid hgu
    replace hk := Lib.hid hk
    replace hbs := Lib.hid hbs
    by_cases hlt : k < n
    · obtain ⟨z, hzk⟩ : ∃ z, zs[k]? = some z := ⟨_, List.getElem?_eq_getElem (by have := hl'.out; omega)⟩
      have q := (hs'.out.gu hgu.out).at_ k z hzk
      obtain ⟨z0, z1⟩ := hz'.out z (List.mem_of_getElem? hzk)
      have hcl : (bs ++ cat (zs.take k)).length ≤ 110000 := by
        rw [List.length_append]
        have h1 := cat_len (zs.take k) (fun y hy => hz'.out y (List.mem_of_mem_take hy))
        have h2 : (zs.take k).length ≤ 100 := by rw [List.length_take]; have := hl'.out; omega
        omega
      have hel := encI_len z (by omega) (by omega)
      have hall : Hid (bs ++ cat (zs.take (k + 1)) = (bs ++ cat (zs.take k)) ++ Pk.encI z) := by show _ = _; rw [cat_snoc hzk, List.append_assoc]
      have st2 : Hid (InAt base w (bs ++ cat (zs.take (k + 1))) u0 (.int .u64 (z * 2)) w3) := by
        rw [zz_pos z0]
        exact ⟨zz z, _, rfl, zz_lt z (by omega) (by omega), hrow.out, hall.out.symm, hgu.out, hbs.out⟩
      have hAl : Hid ((bs ++ cat (zs.take (k + 1))).length ≤ 110010) := by show _ ≤ _; rw [hall.out, List.length_append]; omega
      have hk1 : Hid (k + 1 ≤ zs.length) := by have := hl'.out; show _ ≤ _; omega
      clear hzk hcl hel hrow hgu hbs hall
      go_wp2_with fail
      refine (fold_any _ z z0 z1).mono ?_
      rintro e w' ⟨rfl, rfl⟩
      clear z0 z1 q
      go_wp2_with fail
      go_loopw [0, 7] (fun v u wr => InAt base w (bs ++ cat (zs.take (k + 1))) v u wr) (fun _ u _ => (intOf u).toNat)
      case atStart => exact st2.out
      case round =>
        clear st2
        obtain ⟨x, pre, rfl, hx, ho, hall, hg, hb⟩ := hrel
        obtain ⟨A, c, rfl⟩ := own_form ho
        have hpl : pre.length ≤ 110010 := by
          have h1 := hAl.out
          rw [← hall, List.length_append] at h1
          omega
        replace hx := Lib.hid hx
        replace ho := Lib.hid ho
        replace hall := Lib.hid hall
        replace hg := Lib.hid hg
        replace hb := Lib.hid hb
        have hnb : pre.length + 1 ≤ 140737488355328 := by omega
        by_cases hgt : 127 < x
        · have Rn : Hid _ := rb_one wr _ _ (byte_hi x)
          have On : Hid _ := ho.out.alloc (.cells #[.int .u8 (bits .or .u8 ((x : Int) % 256) 128)] 5)
          go_wp2_with (at_builtin; refine wpList_append_b _ rfl (.tmp 20) (.tmp 24) rfl base (.slice A pre.length c) pre.length pre rfl On.out rfl Rn.out hnb (by have := hb.out; simp; omega) ?_; intro v6 w6 hown6 hg6 _; have st6 : Hid (InAt base w (bs ++ cat (zs.take (k + 1))) v6 (.int .u64 ((x : Int) / 128)) w6) := in_next hgt hx.out hall.out hg.out hb.out ho.out hown6 hg6; clear hown6 hg6)
          go_roundw
          case rel => exact st6.out
          case measure => simp [intOf]; omega
        · have Rn : Hid _ := rb_one wr _ _ (byte_lo x (by omega))
          have On : Hid _ := ho.out.alloc (.cells #[.int .u8 (x : Int)] 5)
          have hfin : Hid (pre ++ [UInt8.ofNat x] = bs ++ cat (zs.take (k + 1))) := by have := hall.out; rw [enc_lo (by omega)] at this; exact this
          go_wp2_with (at_builtin; refine wpList_append_b _ rfl (.tmp 26) (.tmp 29) rfl base (.slice A pre.length c) pre.length pre rfl On.out rfl Rn.out hnb (by have := hb.out; simp; omega) ?_; intro v6 w6 hown6 hg6 _; have st6 : Hid (ApAt base w bs zs v6 (.int .i64 ((k + 1 : Nat) : Int)) w6) := ⟨k + 1, rfl, hk1.out, by rw [← hfin.out]; unfold RowB; rw [List.length_append]; exact hown6, hg.out.trans (Gu.of_row ((World.grownBy_alloc _ _ _).trans hg6) ho.out), by have := hg6.size; simp at this; have := hb.out; omega⟩; clear hown6 hg6)
          go_roundw
          case rel => exact st6.out
          case measure => simp [intOf]; omega
    · have F : Hid (ApTo base w (bs ++ cat zs) (.returned u0) w3) := by
        have h2 : zs.take k = zs := List.take_of_length_le (by have := hl'.out; omega)
        have h1 := hrow.out
        rw [h2] at h1
        exact ⟨u0, rfl, h1, hgu.out, hbs.out⟩
      go_wp2
      go_ret
      exact F.out
end In
end Go.Proofs.YtidfpbnepdjagaaDoor

namespace Go.Proofs.YtidfpbnepdjagaaDoor
set_option maxRecDepth 100000
open Go.RowKit
open Go.Proofs.YtidfpbnepdjagaaDoor.Pk
namespace In

set_option maxHeartbeats 400000 in
theorem unfold_nat (u : Nat) (w : World) (h2 : u < 18446744073709551616) :
    Calls Tryd.prog 79 #[.int .u64 u] w fun e w' => e = .returned (.int .i64 (uz u)) ∧ w = w' := by
  go_enter Tryd.func79, Tryd.ntmps79
  go_wp2
  go_ret
  exact ⟨ret_i64 (unfold_eq u h2), rfl⟩
set_option maxHeartbeats 400000 in
theorem unfold_wild (z : Int) (w : World) :
    Calls Tryd.prog 79 #[.int .u64 z] w fun e w' => (∃ y, e = .returned (.int .i64 y)) ∧ w = w' := by
  go_enter Tryd.func79, Tryd.ntmps79
  go_wp2
  go_ret
  exact ⟨⟨_, rfl⟩, rfl⟩
theorem unfold_any (z : Int) (w : World) : Calls Tryd.prog 79 #[.int .u64 z] w fun e w' => (∃ y : Int, e = .returned (.int .i64 y) ∧ ∀ u : Nat, z = (u : Int) → u < 18446744073709551616 → y = uz u) ∧ w = w' := by
  by_cases h : ∃ u : Nat, z = (u : Int) ∧ u < 18446744073709551616
  · obtain ⟨u, rfl, hu⟩ := h
    exact (unfold_nat u w hu).mono fun e w' ⟨h1, h2⟩ => ⟨⟨_, h1, fun u' e' _ => by rw [show u' = u by omega]⟩, h2⟩
  · exact (unfold_wild z w).mono fun e w' ⟨⟨y, h1⟩, h2⟩ => ⟨⟨y, h1, fun u e' hu => absurd ⟨u, e', hu⟩ h⟩, h2⟩

/-- What Take answers of bytes: where they begin as a number is put, that number, and what is behind it. -/
def TkTo (T : Nat → Prop) (bs : Bs) (w : World) (e : Ending) (w' : World) : Prop :=
  ∃ (y : Int) (A : Option Addr) (m c : Nat) (r : Bs), e = .returned (.tuple #[.int .i64 y, .slice A m c]) ∧ Rb w T A m r ∧ m ≤ bs.length ∧ m ≤ c ∧ c ≤ 9223372036854775807 ∧ (A = none → c = 0) ∧
    (∀ v q, bs = encI v ++ q → Wt.I v → y = v ∧ r = q) ∧ ∃ n, w' = w.drewN n
/-- Between the rounds: k bytes are read, u is what they make. -/
def TkAt (bs : Bs) (u i : Value) : Prop := ∃ (k : Nat) (z : Int), i = .int .i64 (k : Int) ∧ k ≤ bs.length ∧ u = .int .u64 z ∧
  ∀ v q, bs = encI v ++ q → Wt.I v → k ≤ 9 ∧ ∃ x : Nat, z = (x : Int) ∧ x < 128 ^ k ∧ dec k x (bs.drop k) = some (zz v, q)
theorem tk_step {bs : Bs} {k : Nat} {c : UInt8} {z z2 : Int} (hc : bs[k]? = some c) (h : ∀ v q, bs = encI v ++ q → Wt.I v → k ≤ 9 ∧ ∃ x : Nat, z = (x : Int) ∧ x < 128 ^ k ∧ dec k x (bs.drop k) = some (zz v, q))
    (hz : k ≤ 9 → ∀ x : Nat, z = (x : Int) → x < 128 ^ k → ¬ (k = 9 ∧ 1 < c.toNat % 128) → z2 = ((x + c.toNat % 128 * 128 ^ k : Nat) : Int)) :
    (128 ≤ c.toNat → ∀ v q, bs = encI v ++ q → Wt.I v → k + 1 ≤ 9 ∧ ∃ x : Nat, z2 = (x : Int) ∧ x < 128 ^ (k + 1) ∧ dec (k + 1) x (bs.drop (k + 1)) = some (zz v, q)) ∧
    (c.toNat < 128 → ∀ v q, bs = encI v ++ q → Wt.I v → (∃ u : Nat, z2 = (u : Int) ∧ u < 18446744073709551616 ∧ uz u = v) ∧ bs.drop (k + 1) = q) := by
  have hd : bs.drop k = c :: bs.drop (k + 1) := by
    obtain ⟨hl, rfl⟩ := List.getElem?_eq_some_iff.1 hc
    exact List.drop_eq_getElem_cons hl
  have hb := c.toNat_lt
  refine ⟨fun hg v q hv hI => ?_, fun hl v q hv hI => ?_⟩
  · obtain ⟨hk, x, hx, hx2, hdec⟩ := h v q hv hI
    rw [hd, dec] at hdec
    by_cases h9 : k = 9 ∧ 1 < c.toNat
    · rw [if_pos h9] at hdec; cases hdec
    · rw [if_neg h9, if_neg (by omega)] at hdec
      refine ⟨by omega, _, hz hk x hx hx2 (by omega), ?_, hdec⟩
      have : c.toNat % 128 * 128 ^ k ≤ 127 * 128 ^ k := Nat.mul_le_mul_right _ (by omega)
      rw [Nat.pow_succ]; omega
  · obtain ⟨hk, x, hx, hx2, hdec⟩ := h v q hv hI
    rw [hd, dec] at hdec
    by_cases h9 : k = 9 ∧ 1 < c.toNat
    · rw [if_pos h9] at hdec; cases hdec
    · rw [if_neg h9, if_pos hl] at hdec
      split at hdec
      · injection hdec with hdec
        injection hdec with h1 h2
        have e : c.toNat % 128 = c.toNat := Nat.mod_eq_of_lt hl
        have h3 := hz hk x hx hx2 (by omega)
        rw [e] at h3
        refine ⟨⟨_, h3, step_bd hk hx2 hl (by omega), by rw [h1, uz_zz]⟩, h2⟩
      · cases hdec
theorem enc_ne0 {v : Int} {q : Bs} : (encI v ++ q).length ≠ 0 := by
  have := enc_ne (zz v)
  rw [List.length_append]
  unfold encI
  omega
theorem shl_run (x : Int) (k : Nat) (w : World) : Sem.run Tryd.prog (Op.shift .shl .u64 x .i64 (7 * (k : Int))) w = .ok (.int .u64 (IntKind.u64.wrap (x * 2 ^ (min (7 * k) 64)))) w := by
  unfold Op.shift
  rw [if_neg (by omega)]
  have e : (7 * (k : Int)).toNat = 7 * k := by omega
  simp only [e]
  rfl
set_option maxHeartbeats 3200000 in
theorem take_any (w : World) (A : Option Addr) (n c : Nat) {T : Nat → Prop} (bs : Bs) (h : Rb w T A n bs) (hn : n ≤ 140737488355328) (hnc : n ≤ c) (hc : c ≤ 9223372036854775807) (hA : A = none → c = 0) :
    Calls Tryd.prog 64 #[.slice A n c] w (TkTo T bs w) := by
  have hlen := h.len
  have st : Hid (TkAt bs (.int .u64 0) (.int .i64 0)) := ⟨0, 0, rfl, Nat.zero_le _, rfl, fun v q hv hI => ⟨by omega, 0, rfl, by simp, by rw [List.drop_zero, hv]; exact dec_encI v hI.1 hI.2 q⟩⟩
  have h' := Lib.hid h
  have hA' := Lib.hid hA
  have hl' := Lib.hid hlen
  clear h hA hlen
  go_enter Tryd.func64, Tryd.ntmps64
  go_wp2
  go_loopw [4, 9] (fun u i wr => TkAt bs u i ∧ wr = w) (fun _ i _ => n - (intOf i).toNat)
  case atStart => exact ⟨st.out, rfl⟩
  case round =>
    clear st
    obtain ⟨⟨k, z, rfl, hk, rfl, hv⟩, rfl⟩ := hrel
    replace hv := Lib.hid hv
    by_cases hlt : k < n
    · obtain ⟨b, hb⟩ : ∃ b, bs[k]? = some b := ⟨_, List.getElem?_eq_getElem (by rw [hl'.out]; exact hlt)⟩
      obtain ⟨ad, rfl, hT, hat⟩ := h'.out.at_ (by omega)
      have e0 := hat k b hb
      have i0 : (k : Int) < (n : Int) := by omega
      have i1 : (0 : Int) ≤ (k : Int) := by omega
      have hbb := b.toNat_lt
      obtain ⟨sh, hsh⟩ : ∃ s : Int, s = IntKind.u64.wrap (IntKind.u64.wrap (bits .and .u8 (b.toNat : Int) 127) * 2 ^ (min (7 * k) 64)) := ⟨_, rfl⟩
      have SR := fun w => shl_run (IntKind.u64.wrap (bits .and .u8 (b.toNat : Int) 127)) k w
      rw [← hsh] at SR
      obtain ⟨z2, hz2⟩ : ∃ s : Int, s = bits .or .u64 z sh := ⟨_, rfl⟩
      have ST := tk_step (z2 := z2) hb hv.out (fun hk9 x hx hx2 h9 => by
        rw [hz2, hsh, hx, Nat.min_eq_left (by omega)]
        exact grp_at k x b hk9 hx2 h9)
      have R2 : Hid (Rb wr T (some (ad.add (k + 1))) (n - (k + 1)) (bs.drop (k + 1))) := h'.out.drop (by omega) (.inl rfl)
      replace ST := Lib.hid ST
      replace hsh := Lib.hid hsh
      clear hat hT hv
      by_cases hlo : b.toNat < 128
      · have hlo2 : (b.toNat : Int) < 128 := by omega
        go_upto_region 6 with fail
        rw [← hz2]
        replace hz2 := Lib.hid hz2
        clear SR
        have U := Lib.hid (fun w => unfold_any z2 w)
        have i2 : (k : Int) + 1 ≤ (n : Int) := by omega
        have i3 : (n : Int) ≤ (c : Int) := by omega
        have i6 : IntKind.i64.wrap ((k : Int) + 1) = (k : Int) + 1 := by rw [IntKind.wrap_i64]; omega
        have i8 : (0 : Int) ≤ (k : Int) + 1 := by omega
        have i9 : ((k : Int) + 1).toNat = k + 1 := by omega
        have i10 : ¬ (k : Int) + 1 < 0 := by omega
        have FIN : ∀ (y : Int) (A' : Option Addr) (m' c' : Nat), (∀ u : Nat, z2 = (u : Int) → u < 18446744073709551616 → y = uz u) → (A' = some (ad.add (k + 1)) ∨ n = k + 1) → A' ≠ none → m' = n - (k + 1) → c' = c - (k + 1) → ∀ q, TkTo T bs wr (.returned (.tuple #[.int .i64 y, .slice A' m' c'])) (wr.drewN q) := fun y A' m' c' hy hA hne hm' hc' q => by
          subst hm' hc'
          have R : Rb (wr.drewN q) T A' (n - (k + 1)) (bs.drop (k + 1)) := (h'.out.drop (by omega) hA).keep (fun _ _ => rfl) (fun _ h => h)
          refine ⟨y, A', _, _, bs.drop (k + 1), rfl, ?_, by have := hl'.out; omega, by omega, by omega, fun e => absurd e hne, fun v q hv hI => ?_, q, rfl⟩
          · exact (h'.out.drop (by omega) hA)
          · obtain ⟨⟨u, e1, e2, e3⟩, e4⟩ := ST.out.2 hlo v q hv hI
            exact ⟨by rw [hy u e1 e2, e3], e4⟩
        replace FIN := Lib.hid FIN
        by_cases hck : c = k + 1
        · subst hck
          have hnk : n = k + 1 := by omega
          go_upto_region 7 with fail
          go_region_with (go_at_call 79; refine (U.out _).mono ?_; rintro e w' ⟨⟨y, rfl, hy⟩, rfl⟩)
          go_wp2
          go_ret2
          exact FIN.out y (some ad) 0 0 hy (.inr hnk) (by simp) (by omega) (by omega) 1
        · have i4 : ¬ (c : Int) = (k : Int) + 1 := by omega
          go_upto_region 7 with fail
          go_region_with (go_at_call 79; refine (U.out _).mono ?_; rintro e w' ⟨⟨y, rfl, hy⟩, rfl⟩)
          go_wp2
          go_ret2
          exact FIN.out y _ _ _ hy (.inl (by rw [Addr.add_succ'])) (by simp) rfl rfl 1
      · have hlo2 : ¬ (b.toNat : Int) < 128 := by omega
        have st2 : Hid (TkAt bs (.int .u64 z2) (.int .i64 ((k : Int) + 1))) := ⟨k + 1, z2, by simp, by have := hl'.out; omega, rfl, ST.out.1 (by omega)⟩
        go_upto_region 6 with fail
        rw [← hz2]
        replace hz2 := Lib.hid hz2
        clear SR
        go_wp2
        go_roundw
        case rel => exact ⟨st2.out, by trivial⟩
        case measure => simp [intOf]; omega
    · have F : Hid (TkTo T bs wr (.returned (.tuple #[.int .i64 0, .slice none 0 0])) wr) := ⟨0, none, 0, 0, [], rfl, .none_, Nat.zero_le _, Nat.le_refl _, by omega, fun _ => rfl, (by
        intro v q hb hI
        obtain ⟨-, x, -, -, hd⟩ := hv.out v q hb hI
        have hkn : k = bs.length := by have := hl'.out; omega
        rw [hkn, List.drop_length] at hd
        cases hd), 0, rfl⟩
      go_wp2
      go_ret2
      exact F.out
end In
end Go.Proofs.YtidfpbnepdjagaaDoor

namespace Go.Proofs.YtidfpbnepdjagaaDoor
set_option maxRecDepth 100000
open Go.RowKit
open Go.Proofs.YtidfpbnepdjagaaDoor.Pk (one_at one_free one_set lt_some grown_set grown_trans below_grown grown_refl own_form u8s)
namespace Sb
open Go.Proofs.YtidfpbnepdjagaaDoor.Sg
open Wt (Wan may Opn mayOp may_any inR put_any PutTo raw own_mono raw_len)
open Pl (wanv)

theorem in_cat (zs : List Int) : In.cat zs = Wt.cat zs := rfl
theorem ns4 {w : World} (s : Sag) (base : Nat) {cs : Array Value} (hc : cs = #[.int .i64 s.ph, .int .i64 s.st, .int .i64 s.rs, .int .i64 s.si]) : In.Ns base (w.alloc (.cells cs 3)) ⟨w.heap.size, 0, none⟩ [s.ph, s.st, s.rs, s.si] := by
  refine In.Ns.one (heap_alloc_new _ _) (by decide) fun j z hj => ?_
  rw [hc]
  rcases j with _ | _ | _ | _ | j
  · simp at hj ⊢; exact hj
  · simp at hj ⊢; exact hj
  · simp at hj ⊢; exact hj
  · simp at hj ⊢; exact hj
  · simp at hj
set_option maxHeartbeats 6400000 in
theorem sput_any (w : World) (t : Tab w) (s : Sag) : Calls Tryd.prog 20 #[sgv s] w (PutTo w (smay s) (sput s)) := by
  cases hs : smay s with
  | false =>
    refine (qputE_any w t s hs).mono fun e w' ⟨h1, h2⟩ => ⟨h2, (by intro h; cases h), fun _ => h1⟩
  | true =>
    obtain ⟨W0, hW0⟩ : ∃ W0, W0 = w.alloc (.cells (sgc s) 28) := ⟨_, rfl⟩
    have B0 : BoxS W0 w.heap.size s := by rw [hW0]; exact heap_alloc_new _ _
    have be0 : Hid (Below w.heap.size w W0) := by rw [hW0]; exact (Below.refl _ w).alloc (Nat.le_refl _) _
    have M := put_any W0 s.w
    have T0 := t.below be0.out
    have V : Hid (∀ w', Below W0.heap.size W0 w' → Calls Tryd.prog 24 #[sgv s] w' fun e w'' => e = .returned (.bool true) ∧ Below w'.heap.size w' w'') := fun w' h => by
      have := smay_any w' (T0.below h) s
      rw [hs] at this
      exact this
    have C0 := B0.cells
    have hm := (smay_true hs).1
    have hl := raw_len hm
    have ht := tail_in hs
    have hz : ∀ z ∈ [s.ph, s.st, s.rs, s.si], 0 ≤ z ∧ z ≤ 4000000000000000000 := by
      intro z hz
      simp only [List.mem_cons, List.not_mem_nil, or_false] at hz
      rcases hz with rfl | rfl | rfl | rfl <;> omega
    have hsp := sput_eq s
    generalize raw s.w = rw_ at *
    generalize sput s = sp at *
    unfold sgv sgc at *
    clear t T0 hs ht
    have hwl : w.heap.size < W0.heap.size := B0.lt
    replace hW0 := Lib.hid hW0
    replace M := Lib.hid M
    replace hz := Lib.hid hz
    replace hl := Lib.hid hl
    replace hsp := Lib.hid hsp
    obtain ⟨c0, c1, c2, c3, c4, c5, c6, c7, c8, c9, ca⟩ := C0
    go_enter Tryd.func20, Tryd.ntmps20
    go_upto_region 1 with fail
    rw [← hW0.out]
    go_wp2_with fail
    refine M.out.mono ?_
    intro e w1 h1
    clear M hW0 c0 c1 c2 c3 c4 c5 c6 c7 c8 c9 ca hwl
    obtain ⟨v, rfl, ho⟩ := h1.yes hm
    have B1 := B0.below h1.be B0.lt
    obtain ⟨c0, c1, c2, c3, c4, c5, c6, c7, c8, c9, ca⟩ := B1.cells
    have hwl1 : w.heap.size < w1.heap.size := B1.lt
    have K := Lib.hid (V.out w1 h1.be)
    have b1 : Hid (Below W0.heap.size W0 w1) := h1.be
    replace ho := Lib.hid ho
    replace B1 := Lib.hid B1
    clear h1 V hm
    go_wp2_with fail
    refine K.out.mono ?_
    rintro e w2 ⟨rfl, h2⟩
    have b2 : Hid (Below W0.heap.size W0 w2) := b1.out.trans (h2.mono b1.out.size)
    have B2 := B1.out.below h2 hwl1
    replace ho : Hid (w2.ownsRow W0.heap.size 5 1 v rw_.length (u8s rw_)) := Pk.own_below ho.out h2
    clear h2 K c0 c1 c2 c3 c4 c5 c6 c7 c8 c9 ca hwl1 B1 b1
    obtain ⟨c0, c1, c2, c3, c4, c5, c6, c7, c8, c9, ca⟩ := B2.cells
    have hwl2 : w.heap.size < w2.heap.size := B2.lt
    have A2 : Hid (Calls Tryd.prog 50 #[v, .slice (some ⟨w2.heap.size, 0, none⟩) 4 4] (w2.alloc (.cells #[.int .i64 s.ph, .int .i64 s.st, .int .i64 s.rs, .int .i64 s.si] 3)) (In.ApTo W0.heap.size (w2.alloc (.cells #[.int .i64 s.ph, .int .i64 s.st, .int .i64 s.rs, .int .i64 s.si] 3)) (rw_ ++ In.cat [s.ph, s.st, s.rs, s.si]))) :=
      In.append_any W0.heap.size _ v rw_ (ho.out.alloc _) (by have := b2.out.size; simp; omega) ⟨w2.heap.size, 0, none⟩ 4 [s.ph, s.st, s.rs, s.si] rfl (ns4 s _ rfl) hz.out (by have := hl.out; omega) (by omega)
    clear ho hz hl
    go_wp2_with fail
    refine A2.out.mono ?_
    rintro e w3 ⟨v3, rfl, hr, hg, hsz⟩
    have R3 : Hid (w3.ownsRow W0.heap.size 5 1 v3 sp.length (u8s sp)) := by
      have e : rw_ ++ In.cat [s.ph, s.st, s.rs, s.si] = sp := hsp.out.symm
      rw [← e]
      exact hr
    have b3 : Hid (Below w.heap.size w w3) := by
      have h1 : Below W0.heap.size W0 (w2.alloc (.cells #[.int .i64 s.ph, .int .i64 s.st, .int .i64 s.rs, .int .i64 s.si] 3)) := b2.out.alloc b2.out.size _
      have h2 := hg.below h1.size
      exact be0.out.trans ((h1.trans h2).mono be0.out.size)
    clear A2 hr hg hsz B2 b2 hsp c0 c1 c2 c3 c4 c5 c6 c7 c8 c9 ca hwl2
    go_wp2_with fail
    go_ret2
    exact ⟨b3.out, fun _ => ⟨v3, rfl, own_mono R3.out be0.out.size⟩, (by intro h; cases h)⟩
end Sb
end Go.Proofs.YtidfpbnepdjagaaDoor

namespace Go.Proofs.YtidfpbnepdjagaaDoor
set_option maxRecDepth 100000
open Go.RowKit
open Go.Proofs.YtidfpbnepdjagaaDoor.Pk
namespace Sb
open Go.Proofs.YtidfpbnepdjagaaDoor.Sg
open Wt (Wan may wanOf rdk rdk_len rtake)
open Pl (wpList_store_row setRow_below)

/-- What Get answers. -/
structure SGetTo (w : World) (q : Option Sag) (e : Ending) (w' : World) : Prop where
  be : Below w.heap.size w w'
  yes : ∀ s, q = some s → e = .returned (.tuple #[sgv s, .int .i64 0])
  no : q = none → e = .returned (.tuple #[sgv sz, .int .i64 2])
/-- What is read, its numbers named. -/
theorem sget_of {l : List UInt8} {x : Wan} {v0 v1 v2 v3 : Int} {s7 s8 s9 s10 s11 : St} (h7 : s7 = (rdk 7 (some l)).2) (hx : x = wanOf (rdk 7 (some l)).1)
    (h0 : rInt (-9223372036854775808) 9223372036854775807 s7 = (v0, s8)) (h1 : rInt (-9223372036854775808) 9223372036854775807 s8 = (v1, s9)) (h2 : rInt (-9223372036854775808) 9223372036854775807 s9 = (v2, s10)) (h3 : rInt (-9223372036854775808) 9223372036854775807 s10 = (v3, s11)) :
    sget l = if rEnd s11 = 0 ∧ smay ⟨x, v0, v1, v2, v3⟩ = true then some ⟨x, v0, v1, v2, v3⟩ else none := by
  have hl := rdk_len 7 (some l)
  have e : rdk 11 (some l) = ((rdk 7 (some l)).1 ++ [v0, v1, v2, v3], s11) := by
    simp only [rdk] at h7 ⊢
    rw [← h7, h0, h1, h2, h3]
    simp
  unfold sget
  rw [e]
  subst hx
  generalize (rdk 7 (some l)).1 = q at hl ⊢
  match q, hl with
  | [a, b, c, d, e, f, g], _ => rfl
theorem rgets_results : Tryd.f39.results = #[.cell 2 28, .tmp 3] := by kernel_rfl
set_option maxHeartbeats 6400000 in
theorem rgets_any (w : World) (bs : List UInt8) (hl : bs.length ≤ 400) :
    Calls Tryd.prog 39 #[.string (str bs)] w (SGetTo w (sget bs)) := by
  obtain ⟨w0, e0⟩ : ∃ z, z = (w.alloc (.cells #[.int .i64 0, .int .i64 0, .int .i64 0, .int .i64 0, .int .i64 0, .int .i64 0, .int .i64 0, .int .i64 0, .int .i64 0, .int .i64 0, .int .i64 0] 28)).alloc (.cells #[.string (str bs), .bool false] 72) := ⟨_, rfl⟩
  have be0 : Hid (Below w.heap.size w w0) := by rw [e0]; exact ((Below.refl _ w).alloc (Nat.le_refl _) _).alloc (by simp) _
  have ha0 : Hid (w0.heap[w.heap.size]? = some (.cells #[.int .i64 0, .int .i64 0, .int .i64 0, .int .i64 0, .int .i64 0, .int .i64 0, .int .i64 0, .int .i64 0, .int .i64 0, .int .i64 0, .int .i64 0] 28 (0, 0))) := by rw [e0]; exact heap_alloc2_old _ _ _
  have hR0 : Rx w0 (w.heap.size + 1) (some bs) := by rw [e0]; exact ⟨bs, false, heap_alloc2_new _ _ _, hl, rfl⟩
  obtain ⟨x, hx⟩ : ∃ x, x = wanOf (rdk 7 (some bs)).1 := ⟨_, rfl⟩
  obtain ⟨s7, h7⟩ : ∃ s, s = (rdk 7 (some bs)).2 := ⟨_, rfl⟩
  obtain ⟨⟨v0, s8⟩, q0⟩ : ∃ z, rInt (-9223372036854775808) 9223372036854775807 s7 = z := ⟨_, rfl⟩
  obtain ⟨⟨v1, s9⟩, q1⟩ : ∃ z, rInt (-9223372036854775808) 9223372036854775807 s8 = z := ⟨_, rfl⟩
  obtain ⟨⟨v2, s10⟩, q2⟩ : ∃ z, rInt (-9223372036854775808) 9223372036854775807 s9 = z := ⟨_, rfl⟩
  obtain ⟨⟨v3, s11⟩, q3⟩ : ∃ z, rInt (-9223372036854775808) 9223372036854775807 s10 = z := ⟨_, rfl⟩
  have F := sget_of h7 hx q0 q1 q2 q3
  have C0 := rtake _ w0 _ hR0 x hx
  rw [← h7] at C0
  have CI : ∀ (p : Nat) (w : World) (s s' : St) (v : Int), rInt (-9223372036854775808) 9223372036854775807 s = (v, s') → Rx w p s → Calls Tryd.prog 36 #[.pointer (some ⟨p, 0, none⟩), .int .i64 (-9223372036854775808), .int .i64 9223372036854775807] w fun e w' => e = .returned (.int .i64 v) ∧ RxTo w p s' w' := fun p w s s' v h hr => by
    have := xint p w s (-9223372036854775808) 9223372036854775807 hr
    rw [h] at this
    exact this
  generalize sget bs = q at *
  replace F := Lib.hid F
  replace C0 := Lib.hid C0
  replace CI := Lib.hid CI
  replace e0 := Lib.hid e0
  replace q0 := Lib.hid q0
  replace q1 := Lib.hid q1
  replace q2 := Lib.hid q2
  replace q3 := Lib.hid q3
  clear hR0 hx h7 hl
  go_enter Tryd.func39, Tryd.ntmps39
  go_wp2_with fail
  rw [← e0.out]
  refine C0.out.mono ?_
  rintro e w1 ⟨rfl, r0⟩
  have hp1 : w.heap.size + 1 < w1.heap.size := r0.rx.lt
  have hsz : w.heap.size + 1 < w0.heap.size := by rw [e0.out]; simp
  have ha1 : Hid (w1.heap[w.heap.size]? = some (.cells #[.int .i64 0, .int .i64 0, .int .i64 0, .int .i64 0, .int .i64 0, .int .i64 0, .int .i64 0, .int .i64 0, .int .i64 0, .int .i64 0, .int .i64 0] 28 (0, 0))) := (r0.gr.block _ (by omega) (fun e => by injection e with e; omega)).trans ha0.out
  have be1 : Hid (Below w.heap.size w w1) := be0.out.trans ⟨r0.gr.os, r0.gr.tape, r0.gr.output, r0.gr.size, fun i hi => r0.gr.block i (by omega) (fun e => by injection e with e; omega)⟩
  have rx1 := r0.rx
  clear r0 C0 be0 ha0 hsz e0
  go_upto_region 4 with fail
  obtain ⟨u0, eu⟩ : ∃ z, z = w1.alloc (.cells #[.int .i64 x.book, .int .i64 x.cust, .int .i64 x.dead, .int .i64 x.u0, .int .i64 x.u1, .int .i64 x.u2, .int .i64 x.price, .int .i64 0, .int .i64 0, .int .i64 0, .int .i64 0] 28) := ⟨_, rfl⟩
  rw [← eu]
  have bl0 : Hid (u0.heap[w1.heap.size]? = some (.cells #[.int .i64 x.book, .int .i64 x.cust, .int .i64 x.dead, .int .i64 x.u0, .int .i64 x.u1, .int .i64 x.u2, .int .i64 x.price, .int .i64 0, .int .i64 0, .int .i64 0, .int .i64 0] 28 (0, 0))) := by rw [eu]; exact heap_alloc_new _ _
  have al : Below w1.heap.size w1 u0 := by rw [eu]; exact (Below.refl _ _).alloc (Nat.le_refl _) _
  have za0 : Hid (u0.heap[w.heap.size]? = some (.cells #[.int .i64 0, .int .i64 0, .int .i64 0, .int .i64 0, .int .i64 0, .int .i64 0, .int .i64 0, .int .i64 0, .int .i64 0, .int .i64 0, .int .i64 0] 28 (0, 0))) := (al.block _ (by omega)).trans ha1.out
  have rx_0 : Hid (Rx u0 (w.heap.size + 1) s7) := rx1.same (al.block _ hp1)
  have bu0 : Hid (Below w.heap.size w u0) := be1.out.trans (al.mono be1.out.size)
  obtain ⟨b, eb⟩ : ∃ z, z = w1.heap.size := ⟨_, rfl⟩
  rw [← eb] at bl0 hp1 ⊢
  clear eb al eu ha1 be1 rx1
  have l0 : b < u0.heap.size := lt_some bl0.out
  go_wp2_with fail
  refine (CI.out _ _ _ _ _ q0.out rx_0.out).mono ?_
  rintro e w10 ⟨rfl, r⟩
  have bm : Hid (w10.heap[b]? = some (.cells #[.int .i64 x.book, .int .i64 x.cust, .int .i64 x.dead, .int .i64 x.u0, .int .i64 x.u1, .int .i64 x.u2, .int .i64 x.price, .int .i64 0, .int .i64 0, .int .i64 0, .int .i64 0] 28 (0, 0))) := (r.gr.block _ l0 (fun e => by injection e with e; omega)).trans bl0.out
  have zm : w10.heap[w.heap.size]? = some (.cells #[.int .i64 0, .int .i64 0, .int .i64 0, .int .i64 0, .int .i64 0, .int .i64 0, .int .i64 0, .int .i64 0, .int .i64 0, .int .i64 0, .int .i64 0] 28 (0, 0)) := (r.gr.block _ (lt_some za0.out) (fun e => by injection e with e; omega)).trans za0.out
  have bw : Below w.heap.size w w10 := bu0.out.trans ⟨r.gr.os, r.gr.tape, r.gr.output, r.gr.size, fun j hj => r.gr.block j (by have := bu0.out.size; omega) (fun e => by injection e with e; omega)⟩
  have rxm := r.rx
  have fm : w10.frozen? ⟨b, 7, none⟩ = false := one_free bm.out
  have cm : w10.cell? ⟨b, 7, none⟩ = some (.int .i64 0) := one_at bm.out
  have lm : b < w10.heap.size := lt_some bm.out
  clear r l0 bl0 za0 bu0 rx_0
  go_upto_region 5 with fail
  obtain ⟨u1, eu⟩ : ∃ z, z = w10.setCell ⟨b, 7, none⟩ (.int .i64 v0) := ⟨_, rfl⟩
  rw [← eu]
  have gs := grown_set w10 b 7 (.int .i64 v0)
  rw [← eu] at gs
  have bl1 : Hid (u1.heap[b]? = some (.cells #[.int .i64 x.book, .int .i64 x.cust, .int .i64 x.dead, .int .i64 x.u0, .int .i64 x.u1, .int .i64 x.u2, .int .i64 x.price, .int .i64 v0, .int .i64 0, .int .i64 0, .int .i64 0] 28 (0, 0))) := by rw [eu]; exact one_set bm.out _
  have za1 : Hid (u1.heap[w.heap.size]? = some (.cells #[.int .i64 0, .int .i64 0, .int .i64 0, .int .i64 0, .int .i64 0, .int .i64 0, .int .i64 0, .int .i64 0, .int .i64 0, .int .i64 0, .int .i64 0] 28 (0, 0))) := (gs.block _ (lt_some zm) (fun e => by injection e with e; omega)).trans zm
  have rx_1 : Hid (Rx u1 (w.heap.size + 1) s8) := rxm.same (gs.block _ rxm.lt (fun e => by injection e with e; omega))
  have bu1 : Hid (Below w.heap.size w u1) := bw.trans ⟨gs.os, gs.tape, gs.output, gs.size, fun j hj => gs.block j (by have := bw.size; omega) (fun e => by injection e with e; omega)⟩
  clear gs eu bm zm bw rxm fm cm lm
  have l1 : b < u1.heap.size := lt_some bl1.out
  go_wp2_with fail
  refine (CI.out _ _ _ _ _ q1.out rx_1.out).mono ?_
  rintro e w11 ⟨rfl, r⟩
  have bm : Hid (w11.heap[b]? = some (.cells #[.int .i64 x.book, .int .i64 x.cust, .int .i64 x.dead, .int .i64 x.u0, .int .i64 x.u1, .int .i64 x.u2, .int .i64 x.price, .int .i64 v0, .int .i64 0, .int .i64 0, .int .i64 0] 28 (0, 0))) := (r.gr.block _ l1 (fun e => by injection e with e; omega)).trans bl1.out
  have zm : w11.heap[w.heap.size]? = some (.cells #[.int .i64 0, .int .i64 0, .int .i64 0, .int .i64 0, .int .i64 0, .int .i64 0, .int .i64 0, .int .i64 0, .int .i64 0, .int .i64 0, .int .i64 0] 28 (0, 0)) := (r.gr.block _ (lt_some za1.out) (fun e => by injection e with e; omega)).trans za1.out
  have bw : Below w.heap.size w w11 := bu1.out.trans ⟨r.gr.os, r.gr.tape, r.gr.output, r.gr.size, fun j hj => r.gr.block j (by have := bu1.out.size; omega) (fun e => by injection e with e; omega)⟩
  have rxm := r.rx
  have fm : w11.frozen? ⟨b, 8, none⟩ = false := one_free bm.out
  have cm : w11.cell? ⟨b, 8, none⟩ = some (.int .i64 0) := one_at bm.out
  have lm : b < w11.heap.size := lt_some bm.out
  clear r l1 bl1 za1 bu1 rx_1
  go_upto_region 6 with fail
  obtain ⟨u2, eu⟩ : ∃ z, z = w11.setCell ⟨b, 8, none⟩ (.int .i64 v1) := ⟨_, rfl⟩
  rw [← eu]
  have gs := grown_set w11 b 8 (.int .i64 v1)
  rw [← eu] at gs
  have bl2 : Hid (u2.heap[b]? = some (.cells #[.int .i64 x.book, .int .i64 x.cust, .int .i64 x.dead, .int .i64 x.u0, .int .i64 x.u1, .int .i64 x.u2, .int .i64 x.price, .int .i64 v0, .int .i64 v1, .int .i64 0, .int .i64 0] 28 (0, 0))) := by rw [eu]; exact one_set bm.out _
  have za2 : Hid (u2.heap[w.heap.size]? = some (.cells #[.int .i64 0, .int .i64 0, .int .i64 0, .int .i64 0, .int .i64 0, .int .i64 0, .int .i64 0, .int .i64 0, .int .i64 0, .int .i64 0, .int .i64 0] 28 (0, 0))) := (gs.block _ (lt_some zm) (fun e => by injection e with e; omega)).trans zm
  have rx_2 : Hid (Rx u2 (w.heap.size + 1) s9) := rxm.same (gs.block _ rxm.lt (fun e => by injection e with e; omega))
  have bu2 : Hid (Below w.heap.size w u2) := bw.trans ⟨gs.os, gs.tape, gs.output, gs.size, fun j hj => gs.block j (by have := bw.size; omega) (fun e => by injection e with e; omega)⟩
  clear gs eu bm zm bw rxm fm cm lm
  have l2 : b < u2.heap.size := lt_some bl2.out
  go_wp2_with fail
  refine (CI.out _ _ _ _ _ q2.out rx_2.out).mono ?_
  rintro e w12 ⟨rfl, r⟩
  have bm : Hid (w12.heap[b]? = some (.cells #[.int .i64 x.book, .int .i64 x.cust, .int .i64 x.dead, .int .i64 x.u0, .int .i64 x.u1, .int .i64 x.u2, .int .i64 x.price, .int .i64 v0, .int .i64 v1, .int .i64 0, .int .i64 0] 28 (0, 0))) := (r.gr.block _ l2 (fun e => by injection e with e; omega)).trans bl2.out
  have zm : w12.heap[w.heap.size]? = some (.cells #[.int .i64 0, .int .i64 0, .int .i64 0, .int .i64 0, .int .i64 0, .int .i64 0, .int .i64 0, .int .i64 0, .int .i64 0, .int .i64 0, .int .i64 0] 28 (0, 0)) := (r.gr.block _ (lt_some za2.out) (fun e => by injection e with e; omega)).trans za2.out
  have bw : Below w.heap.size w w12 := bu2.out.trans ⟨r.gr.os, r.gr.tape, r.gr.output, r.gr.size, fun j hj => r.gr.block j (by have := bu2.out.size; omega) (fun e => by injection e with e; omega)⟩
  have rxm := r.rx
  have fm : w12.frozen? ⟨b, 9, none⟩ = false := one_free bm.out
  have cm : w12.cell? ⟨b, 9, none⟩ = some (.int .i64 0) := one_at bm.out
  have lm : b < w12.heap.size := lt_some bm.out
  clear r l2 bl2 za2 bu2 rx_2
  go_upto_region 7 with fail
  obtain ⟨u3, eu⟩ : ∃ z, z = w12.setCell ⟨b, 9, none⟩ (.int .i64 v2) := ⟨_, rfl⟩
  rw [← eu]
  have gs := grown_set w12 b 9 (.int .i64 v2)
  rw [← eu] at gs
  have bl3 : Hid (u3.heap[b]? = some (.cells #[.int .i64 x.book, .int .i64 x.cust, .int .i64 x.dead, .int .i64 x.u0, .int .i64 x.u1, .int .i64 x.u2, .int .i64 x.price, .int .i64 v0, .int .i64 v1, .int .i64 v2, .int .i64 0] 28 (0, 0))) := by rw [eu]; exact one_set bm.out _
  have za3 : Hid (u3.heap[w.heap.size]? = some (.cells #[.int .i64 0, .int .i64 0, .int .i64 0, .int .i64 0, .int .i64 0, .int .i64 0, .int .i64 0, .int .i64 0, .int .i64 0, .int .i64 0, .int .i64 0] 28 (0, 0))) := (gs.block _ (lt_some zm) (fun e => by injection e with e; omega)).trans zm
  have rx_3 : Hid (Rx u3 (w.heap.size + 1) s10) := rxm.same (gs.block _ rxm.lt (fun e => by injection e with e; omega))
  have bu3 : Hid (Below w.heap.size w u3) := bw.trans ⟨gs.os, gs.tape, gs.output, gs.size, fun j hj => gs.block j (by have := bw.size; omega) (fun e => by injection e with e; omega)⟩
  clear gs eu bm zm bw rxm fm cm lm
  have l3 : b < u3.heap.size := lt_some bl3.out
  go_wp2_with fail
  refine (CI.out _ _ _ _ _ q3.out rx_3.out).mono ?_
  rintro e w13 ⟨rfl, r⟩
  have bm : Hid (w13.heap[b]? = some (.cells #[.int .i64 x.book, .int .i64 x.cust, .int .i64 x.dead, .int .i64 x.u0, .int .i64 x.u1, .int .i64 x.u2, .int .i64 x.price, .int .i64 v0, .int .i64 v1, .int .i64 v2, .int .i64 0] 28 (0, 0))) := (r.gr.block _ l3 (fun e => by injection e with e; omega)).trans bl3.out
  have zm : w13.heap[w.heap.size]? = some (.cells #[.int .i64 0, .int .i64 0, .int .i64 0, .int .i64 0, .int .i64 0, .int .i64 0, .int .i64 0, .int .i64 0, .int .i64 0, .int .i64 0, .int .i64 0] 28 (0, 0)) := (r.gr.block _ (lt_some za3.out) (fun e => by injection e with e; omega)).trans za3.out
  have bw : Below w.heap.size w w13 := bu3.out.trans ⟨r.gr.os, r.gr.tape, r.gr.output, r.gr.size, fun j hj => r.gr.block j (by have := bu3.out.size; omega) (fun e => by injection e with e; omega)⟩
  have rxm := r.rx
  have fm : w13.frozen? ⟨b, 10, none⟩ = false := one_free bm.out
  have cm : w13.cell? ⟨b, 10, none⟩ = some (.int .i64 0) := one_at bm.out
  have lm : b < w13.heap.size := lt_some bm.out
  clear r l3 bl3 za3 bu3 rx_3
  go_upto_region 8 with fail
  obtain ⟨u4, eu⟩ : ∃ z, z = w13.setCell ⟨b, 10, none⟩ (.int .i64 v3) := ⟨_, rfl⟩
  rw [← eu]
  have gs := grown_set w13 b 10 (.int .i64 v3)
  rw [← eu] at gs
  have bl4 : Hid (u4.heap[b]? = some (.cells #[.int .i64 x.book, .int .i64 x.cust, .int .i64 x.dead, .int .i64 x.u0, .int .i64 x.u1, .int .i64 x.u2, .int .i64 x.price, .int .i64 v0, .int .i64 v1, .int .i64 v2, .int .i64 v3] 28 (0, 0))) := by rw [eu]; exact one_set bm.out _
  have za4 : Hid (u4.heap[w.heap.size]? = some (.cells #[.int .i64 0, .int .i64 0, .int .i64 0, .int .i64 0, .int .i64 0, .int .i64 0, .int .i64 0, .int .i64 0, .int .i64 0, .int .i64 0, .int .i64 0] 28 (0, 0))) := (gs.block _ (lt_some zm) (fun e => by injection e with e; omega)).trans zm
  have rx_4 : Hid (Rx u4 (w.heap.size + 1) s11) := rxm.same (gs.block _ rxm.lt (fun e => by injection e with e; omega))
  have bu4 : Hid (Below w.heap.size w u4) := bw.trans ⟨gs.os, gs.tape, gs.output, gs.size, fun j hj => gs.block j (by have := bw.size; omega) (fun e => by injection e with e; omega)⟩
  clear gs eu bm zm bw rxm fm cm lm
  have l4 : b < u4.heap.size := lt_some bl4.out
  have E := xend _ u4 _ rx_4.out
  have M := Lib.hid (rsmay_any u4 ⟨x, v0, v1, v2, v3⟩)
  generalize rEnd s11 = en at *
  replace E := Lib.hid E
  clear CI q0 q1 q2 q3 rx_4
  go_wp2_with fail
  refine E.out.mono ?_
  rintro e w5 ⟨rfl, rfl⟩
  obtain ⟨c0, c1, c2, c3, c4, c5, c6, c7, c8, c9, ca⟩ := BoxS.cells (s := ⟨x, v0, v1, v2, v3⟩) bl4.out
  simp only at c0 c1 c2 c3 c4 c5 c6 c7 c8 c9 ca
  clear E
  replace F := F.out
  by_cases he : en = 0
  case neg =>
    rw [if_neg (fun h => he h.1)] at F
    have g1 : (en != 0) = true := by simp [he]
    have g2 : (en == 0) = false := by simp [he]
    have FF : Hid (q = none) := F
    clear F M
    go_wp2_with (refine wpList_store_row rfl 28 (.tmp 2) (.tmp 42) rfl w.heap.size #[.int .i64 0, .int .i64 0, .int .i64 0, .int .i64 0, .int .i64 0, .int .i64 0, .int .i64 0, .int .i64 0, .int .i64 0, .int .i64 0, .int .i64 0] rfl rfl 28 _ za4.out sag_size rfl (by simp [Value.oneCell']) ?_)
    refine bodyPost_ret (res_row rgets_results _ _ w.heap.size 28 #[.int .i64 0, .int .i64 0, .int .i64 0, .int .i64 0, .int .i64 0, .int .i64 0, .int .i64 0, .int .i64 0, .int .i64 0, .int .i64 0, .int .i64 0] (0, 0) _ rfl (setRow_heap _ _ _ _ _ _ za4.out) Tryd.underlying28 rfl sag_size) rfl ?_
    exact ⟨bu4.out.trans (setRow_below _ (Nat.le_refl _)), (by intro s h; rw [FF.out] at h; cases h), fun _ => rfl⟩
  subst he
  unfold sgv sgc at M
  simp only at M
  cases hm : smay ⟨x, v0, v1, v2, v3⟩ with
  | false =>
    rw [hm] at M F
    rw [if_neg (by simp)] at F
    have FF : Hid (q = none) := F
    clear F hm
    go_wp2_with fail
    refine M.out.mono ?_
    rintro e w6 ⟨rfl, h⟩
    have za6 : Hid (w6.heap[w.heap.size]? = some (.cells #[.int .i64 0, .int .i64 0, .int .i64 0, .int .i64 0, .int .i64 0, .int .i64 0, .int .i64 0, .int .i64 0, .int .i64 0, .int .i64 0, .int .i64 0] 28 (0, 0))) := (h.block _ (lt_some za4.out)).trans za4.out
    have bu6 : Hid (Below w.heap.size w w6) := bu4.out.trans (h.mono bu4.out.size)
    clear h M c0 c1 c2 c3 c4 c5 c6 c7 c8 c9 ca l4 bl4 za4 bu4
    go_wp2_with (refine wpList_store_row rfl 28 (.tmp 2) (.tmp 42) rfl w.heap.size #[.int .i64 0, .int .i64 0, .int .i64 0, .int .i64 0, .int .i64 0, .int .i64 0, .int .i64 0, .int .i64 0, .int .i64 0, .int .i64 0, .int .i64 0] rfl rfl 28 _ za6.out sag_size rfl (by simp [Value.oneCell']) ?_)
    refine bodyPost_ret (res_row rgets_results _ _ w.heap.size 28 #[.int .i64 0, .int .i64 0, .int .i64 0, .int .i64 0, .int .i64 0, .int .i64 0, .int .i64 0, .int .i64 0, .int .i64 0, .int .i64 0, .int .i64 0] (0, 0) _ rfl (setRow_heap _ _ _ _ _ _ za6.out) Tryd.underlying28 rfl sag_size) rfl ?_
    exact ⟨bu6.out.trans (setRow_below _ (Nat.le_refl _)), (by intro s h; rw [FF.out] at h; cases h), fun _ => rfl⟩
  | true =>
    rw [hm] at M F
    rw [if_pos (by simp)] at F
    have FF : Hid (q = some ⟨x, v0, v1, v2, v3⟩) := F
    clear F hm
    go_wp2_with fail
    refine M.out.mono ?_
    rintro e w6 ⟨rfl, h⟩
    have za6 : Hid (w6.heap[w.heap.size]? = some (.cells #[.int .i64 0, .int .i64 0, .int .i64 0, .int .i64 0, .int .i64 0, .int .i64 0, .int .i64 0, .int .i64 0, .int .i64 0, .int .i64 0, .int .i64 0] 28 (0, 0))) := (h.block _ (lt_some za4.out)).trans za4.out
    have bl6 : Hid (BoxS w6 b ⟨x, v0, v1, v2, v3⟩) := (h.block _ l4).trans bl4.out
    have bu6 : Hid (Below w.heap.size w w6) := bu4.out.trans (h.mono bu4.out.size)
    clear h M c0 c1 c2 c3 c4 c5 c6 c7 c8 c9 ca l4 bl4 za4 bu4
    obtain ⟨c0, c1, c2, c3, c4, c5, c6, c7, c8, c9, ca⟩ := bl6.out.cells
    simp only at c0 c1 c2 c3 c4 c5 c6 c7 c8 c9 ca
    have l6 : b < w6.heap.size := bl6.out.lt
    go_wp2_with (refine wpList_store_row rfl 28 (.tmp 2) (.tmp 43) rfl w.heap.size #[.int .i64 x.book, .int .i64 x.cust, .int .i64 x.dead, .int .i64 x.u0, .int .i64 x.u1, .int .i64 x.u2, .int .i64 x.price, .int .i64 v0, .int .i64 v1, .int .i64 v2, .int .i64 v3] rfl rfl 28 _ za6.out sag_size rfl (by simp [Value.oneCell']) ?_)
    refine bodyPost_ret (res_row rgets_results _ _ w.heap.size 28 #[.int .i64 x.book, .int .i64 x.cust, .int .i64 x.dead, .int .i64 x.u0, .int .i64 x.u1, .int .i64 x.u2, .int .i64 x.price, .int .i64 v0, .int .i64 v1, .int .i64 v2, .int .i64 v3] (0, 0) _ rfl (setRow_heap _ _ _ _ _ _ za6.out) Tryd.underlying28 rfl sag_size) rfl ?_
    exact ⟨bu6.out.trans (setRow_below _ (Nat.le_refl _)), (by
      intro s h
      rw [FF.out] at h
      injection h with h
      subst h
      rfl), (by intro h; rw [FF.out] at h; cases h)⟩
end Sb
end Go.Proofs.YtidfpbnepdjagaaDoor

namespace Go.Proofs.YtidfpbnepdjagaaDoor
set_option maxRecDepth 100000
open Go.RowKit
open Go.Sort (grow)
open Go.Proofs.YtidfpbnepdjagaaDoor.Pk
namespace Sb
open Go.Proofs.YtidfpbnepdjagaaDoor.Sg
open Wt (Wan may raw raw_len rraw_any may_I I cat)

theorem cat4 (a b c d : Int) : cat [a, b, c, d] = encI a ++ encI b ++ encI c ++ encI d := by simp [cat, List.append_assoc]
set_option maxHeartbeats 6400000 in
theorem rput_any (w : World) (s : Sag) (hs : smay s = true) : Calls Tryd.prog 28 #[sgv s] w fun e w' => e = .returned (.string (str (sput s))) ∧ Below w.heap.size w w' := by
  have hm := (smay_true hs).1
  have ht := tail_in hs
  have F := sput_eq s
  rw [cat4] at F
  obtain ⟨w0, e0⟩ : ∃ z, z = w.alloc (.cells #[.int .i64 s.w.book, .int .i64 s.w.cust, .int .i64 s.w.dead, .int .i64 s.w.u0, .int .i64 s.w.u1, .int .i64 s.w.u2, .int .i64 s.w.price, .int .i64 s.ph, .int .i64 s.st, .int .i64 s.rs, .int .i64 s.si] 28) := ⟨_, rfl⟩
  have be0 : Hid (Below w.heap.size w w0) := by rw [e0]; exact (Below.refl _ w).alloc (Nat.le_refl _) _
  have h0 : Hid (w0.heap[w.heap.size]? = some (.cells #[.int .i64 s.w.book, .int .i64 s.w.cust, .int .i64 s.w.dead, .int .i64 s.w.u0, .int .i64 s.w.u1, .int .i64 s.w.u2, .int .i64 s.w.price, .int .i64 s.ph, .int .i64 s.st, .int .i64 s.rs, .int .i64 s.si] 28 (0, 0))) := by rw [e0]; exact heap_alloc_new _ _
  have k0 := cell_regrown (show w0.cell? ⟨w.heap.size, 0, none⟩ = some (.int .i64 s.w.book) from one_at h0.out)
  have k1 := cell_regrown (show w0.cell? ⟨w.heap.size, 1, none⟩ = some (.int .i64 s.w.cust) from one_at h0.out)
  have k2 := cell_regrown (show w0.cell? ⟨w.heap.size, 2, none⟩ = some (.int .i64 s.w.dead) from one_at h0.out)
  have k3 := cell_regrown (show w0.cell? ⟨w.heap.size, 3, none⟩ = some (.int .i64 s.w.u0) from one_at h0.out)
  have k4 := cell_regrown (show w0.cell? ⟨w.heap.size, 4, none⟩ = some (.int .i64 s.w.u1) from one_at h0.out)
  have k5 := cell_regrown (show w0.cell? ⟨w.heap.size, 5, none⟩ = some (.int .i64 s.w.u2) from one_at h0.out)
  have k6 := cell_regrown (show w0.cell? ⟨w.heap.size, 6, none⟩ = some (.int .i64 s.w.price) from one_at h0.out)
  have k7 := cell_regrown (show w0.cell? ⟨w.heap.size, 7, none⟩ = some (.int .i64 s.ph) from one_at h0.out)
  have k8 := cell_regrown (show w0.cell? ⟨w.heap.size, 8, none⟩ = some (.int .i64 s.st) from one_at h0.out)
  have k9 := cell_regrown (show w0.cell? ⟨w.heap.size, 9, none⟩ = some (.int .i64 s.rs) from one_at h0.out)
  have k10 := cell_regrown (show w0.cell? ⟨w.heap.size, 10, none⟩ = some (.int .i64 s.si) from one_at h0.out)
  have C : ∀ (v : Int) (bs : List UInt8), I v → bs = encI v → ∀ d os, Calls Tryd.prog 25 #[.int .i64 v] (grow (redrawn w0 d) os) fun e w'' => e = .returned (.string (str bs)) ∧ ∃ q : Regrown, w'' = grow (redrawn w0 q.d) q.os := fun v bs hv hb d os => Calls.regrown_of (by rw [hb]; exact refint _ v hv.1 hv.2)
  have R : ∀ (bs : List UInt8), bs = raw s.w → ∀ d os, Calls Tryd.prog 59 #[.agg #[.int .i64 s.w.book, .int .i64 s.w.cust, .int .i64 s.w.dead, .int .i64 s.w.u0, .int .i64 s.w.u1, .int .i64 s.w.u2, .int .i64 s.w.price]] (grow (redrawn w0 d) os) fun e w'' => e = .returned (.string (str bs)) ∧ ∃ q : Regrown, w'' = grow (redrawn w0 q.d) q.os := fun bs hb d os => Calls.regrown_of (by rw [hb]; exact rraw_any _ s.w (may_I hm))
  obtain ⟨b0, e0'⟩ : ∃ b, b = raw s.w := ⟨_, rfl⟩
  have l0 : b0.length ≤ 70 := by rw [e0']; exact (raw_len hm).2
  have i1 : I s.ph := by unfold I; omega
  obtain ⟨b1, e1'⟩ : ∃ b, b = encI s.ph := ⟨_, rfl⟩
  have l1 : b1.length ≤ 10 := by rw [e1']; exact encI_len _ i1.1 i1.2
  have i2 : I s.st := by unfold I; omega
  obtain ⟨b2, e2'⟩ : ∃ b, b = encI s.st := ⟨_, rfl⟩
  have l2 : b2.length ≤ 10 := by rw [e2']; exact encI_len _ i2.1 i2.2
  have i3 : I s.rs := by unfold I; omega
  obtain ⟨b3, e3'⟩ : ∃ b, b = encI s.rs := ⟨_, rfl⟩
  have l3 : b3.length ≤ 10 := by rw [e3']; exact encI_len _ i3.1 i3.2
  have i4 : I s.si := by unfold I; omega
  obtain ⟨b4, e4'⟩ : ∃ b, b = encI s.si := ⟨_, rfl⟩
  have l4 : b4.length ≤ 10 := by rw [e4']; exact encI_len _ i4.1 i4.2
  rw [← e0', ← e1', ← e2', ← e3', ← e4'] at F
  have F2 : sput s = b0 ++ b1 ++ b2 ++ b3 ++ b4 := by rw [F]; simp [List.append_assoc]
  obtain ⟨s1, f1⟩ : ∃ s, s = b0 ++ b1 := ⟨_, rfl⟩
  have m1 : s1.length ≤ 80 := by rw [f1, List.length_append]; omega
  have a1 := str_add b0 b1 (by omega)
  have q1 := Wt.size_add (a := b0) (b := b1) (by omega)
  have t1 := str_cat b0 b1
  rw [← f1] at a1 t1
  obtain ⟨s2, f2⟩ : ∃ s, s = s1 ++ b2 := ⟨_, rfl⟩
  have m2 : s2.length ≤ 90 := by rw [f2, List.length_append]; omega
  have a2 := str_add s1 b2 (by omega)
  have q2 := Wt.size_add (a := s1) (b := b2) (by omega)
  have t2 := str_cat s1 b2
  rw [← f2] at a2 t2
  obtain ⟨s3, f3⟩ : ∃ s, s = s2 ++ b3 := ⟨_, rfl⟩
  have m3 : s3.length ≤ 100 := by rw [f3, List.length_append]; omega
  have a3 := str_add s2 b3 (by omega)
  have q3 := Wt.size_add (a := s2) (b := b3) (by omega)
  have t3 := str_cat s2 b3
  rw [← f3] at a3 t3
  obtain ⟨s4, f4⟩ : ∃ s, s = s3 ++ b4 := ⟨_, rfl⟩
  have m4 : s4.length ≤ 110 := by rw [f4, List.length_append]; omega
  have a4 := str_add s3 b4 (by omega)
  have q4 := Wt.size_add (a := s3) (b := b4) (by omega)
  have t4 := str_cat s3 b4
  rw [← f4] at a4 t4
  rw [← f1, ← f2, ← f3, ← f4] at F2
  have R0 := R b0 e0'
  have C1 := C _ b1 i1 e1'
  have C2 := C _ b2 i2 e2'
  have C3 := C _ b3 i3 e3'
  have C4 := C _ b4 i4 e4'
  replace F2 := Lib.hid F2
  unfold sgv sgc
  clear C R hs hm ht F e0' l0 i1 e1' l1 i2 e2' l2 i3 e3' l3 i4 e4' l4 f1 m1 f2 m2 f3 m3 f4 m4
  go_enter Tryd.func28, Tryd.ntmps28
  go_upto_region 1 with fail
  rw [← e0]
  clear e0
  refine wp_region_quiet_below (by kernel_rfl) (by kernel_rfl) ?_
  repeat (go_big_quiet_step (first | with_reducible exact R0 _ _ | with_reducible exact C1 _ _ | with_reducible exact C2 _ _ | with_reducible exact C3 _ _ | with_reducible exact C4 _ _))
  refine wpQuiet_nil ?_
  intro w2 hw'
  obtain ⟨⟨dq, osq⟩, hw''⟩ := hw'
  have be2 : Hid (Below w.heap.size w w2) := by rw [hw'']; exact be0.out.trans ((below_regrown w0 dq osq).mono be0.out.size)
  clear hw'' be0 h0 R0 C1 C2 C3 C4
  go_wp2
  go_ret
  rw [F2.out]
  exact ⟨rfl, be2.out⟩
end Sb
end Go.Proofs.YtidfpbnepdjagaaDoor

namespace Go.Proofs.YtidfpbnepdjagaaDoor
set_option maxRecDepth 100000
open Go.RowKit
open Go.Proofs.YtidfpbnepdjagaaDoor.Pk (one_at one_free one_set lt_some grown_set grown_trans below_grown grown_refl encI Rb St str str_size)
namespace Sb
open Go.Proofs.YtidfpbnepdjagaaDoor.Sg
open Wt (Wan may wanOf raw getW getW_raw get_any GetTo PutTo I cat cat_app cat_cons cat_nil)
open Pl (wpList_store_row setRow_below)

def stv (cs : Array Value) (o : Nat) : List Value → Array Value
  | [] => cs
  | v :: vs => stv (cs.setIfInBounds o v) (o + 1) vs
theorem setCells_heap {b : Nat} {t : TypeId} (vs : List Value) : ∀ (w : World) (o : Nat) (cs : Array Value), w.heap[b]? = some (.cells cs t (0, 0)) → (w.setCells b o vs).heap[b]? = some (.cells (stv cs o vs) t (0, 0)) := by
  induction vs with
  | nil => intro w o cs h; exact h
  | cons v vs ih => intro w o cs h; exact ih _ _ _ (one_set h v)
theorem setCells_grown {b : Nat} (vs : List Value) : ∀ (w : World) (o : Nat), w.grownBy (w.setCells b o vs) (some b) := by
  induction vs with
  | nil => intro w o; exact grown_refl _ _
  | cons v vs ih => intro w o; exact grown_trans (grown_set w b o v) (ih _ _)
/-- What is left of the bytes behind k numbers, wherever numbers stand there. -/
def Lft (bs : List UInt8) (n k : Nat) (r : List UInt8) : Prop := ∀ zs rest, bs = cat zs ++ rest → zs.length = n → (∀ z ∈ zs, I z) → r = cat (zs.drop k) ++ rest
theorem lft_step {bs r r2 : List UInt8} {n k : Nat} {y : Int} (hk : k < n) (h : Lft bs n k r) (ht : ∀ v q, r = encI v ++ q → I v → y = v ∧ r2 = q) : Lft bs n (k + 1) r2 ∧ ∀ zs rest, bs = cat zs ++ rest → zs.length = n → (∀ z ∈ zs, I z) → zs[k]? = some y := by
  have key : ∀ zs rest, bs = cat zs ++ rest → zs.length = n → (∀ z ∈ zs, I z) → (zs[k]? = some y ∧ r2 = cat (zs.drop (k + 1)) ++ rest) := fun zs rest h1 h2 h3 => by
    have e := h zs rest h1 h2 h3
    have hd : zs.drop k = zs[k] :: zs.drop (k + 1) := List.drop_eq_getElem_cons (by omega)
    rw [hd, cat_cons, List.append_assoc] at e
    obtain ⟨e1, e2⟩ := ht _ _ e (h3 _ (List.getElem_mem _))
    exact ⟨by rw [List.getElem?_eq_getElem (by omega), e1], e2⟩
  exact ⟨fun zs rest h1 h2 h3 => (key zs rest h1 h2 h3).2, fun zs rest h1 h2 h3 => (key zs rest h1 h2 h3).1⟩
/-- Between the rounds of the first loop. -/
def GtAt (T : Nat → Prop) (bs : List UInt8) (w : World) (v i : Value) (wr : World) : Prop :=
  ∃ (k : Nat) (A : Option Addr) (m c : Nat) (r : List UInt8) (j : Nat), i = .int .i64 (k : Int) ∧ k ≤ 7 ∧ v = .slice A m c ∧ Rb w T A m r ∧ m ≤ bs.length ∧ m ≤ c ∧ c ≤ 9223372036854775807 ∧ (A = none → c = 0) ∧ Lft bs 11 k r ∧ wr = w.drewN j
theorem drewN_two (w : World) (a b : Nat) : (w.drewN a).drewN b = w.drewN (a + b) := by simp [World.drewN, Nat.add_assoc]
theorem str_run {w : World} {T : Nat → Prop} {A : Option Addr} {n c : Nat} {bs : List UInt8} (h : Rb w T A n bs) : (convert 31 9 (.slice A n c)).run Tryd.prog w = .ok (.string (str bs)) w := by
  obtain rfl := h.len
  cases A with
  | none =>
    rcases bs with _ | ⟨x, t⟩
    · exact run_convert_bytes_nil w 31 5 Tryd.underlying31 Tryd.underlying5 _ _ _ Tryd.underlying9
    · obtain ⟨ad, e, _⟩ := h.at_ (by simp)
      cases e
  | some a =>
    refine run_convert_bytes_back w 31 9 5 a c bs Tryd.underlying31 Tryd.underlying5 Tryd.underlying9 fun j hj => ?_
    obtain ⟨ad, e, _, hc⟩ := h.at_ (by omega)
    injection e with e
    subst e
    exact hc j _ (List.getElem?_eq_getElem hj)
theorem str_ne {a b : List UInt8} (h : a ≠ b) : ((str a).toList == (str b).toList) = false := by
  have e : ∀ l : List UInt8, (str l).toList = l := fun l => ByteArray.toList_mk l
  rw [e, e]
  simpa using h
theorem str_eq {a b : List UInt8} (h : a = b) : ((str a).toList == (str b).toList) = true := by
  have e : ∀ l : List UInt8, (str l).toList = l := fun l => ByteArray.toList_mk l
  rw [e, e]
  simpa using h
theorem equal_any (w : World) {T T' : Nat → Prop} {A A' : Option Addr} {n n' c c' : Nat} {a b : List UInt8} (h : Rb w T A n a) (k : Rb w T' A' n' b) :
    Calls Tryd.prog 66 #[.slice A n c, .slice A' n' c'] w fun e w' => e = .returned (.bool (decide (a = b))) ∧ w = w' := by
  have h1 := str_run (c := c) h
  have k1 := str_run (c := c') k
  have e : ((str a).toList == (str b).toList) = decide (a = b) := by
    by_cases hab : a = b
    · rw [str_eq hab, decide_eq_true hab]
    · rw [str_ne hab, decide_eq_false hab]
  have E := Lib.hid e
  clear h k e
  go_enter Tryd.func66, Tryd.ntmps66
  go_wp2
  go_ret
  rw [← E.out]
  exact ⟨rfl, rfl⟩
theorem stv7 (x : Wan) : stv #[.int .i64 0, .int .i64 0, .int .i64 0, .int .i64 0, .int .i64 0, .int .i64 0, .int .i64 0, .int .i64 0, .int .i64 0, .int .i64 0, .int .i64 0] 0 [.int .i64 x.book, .int .i64 x.cust, .int .i64 x.dead, .int .i64 x.u0, .int .i64 x.u1, .int .i64 x.u2, .int .i64 x.price] = #[.int .i64 x.book, .int .i64 x.cust, .int .i64 x.dead, .int .i64 x.u0, .int .i64 x.u1, .int .i64 x.u2, .int .i64 x.price, .int .i64 0, .int .i64 0, .int .i64 0, .int .i64 0] := by
  simp only [stv, List.setIfInBounds_toArray, List.set_cons_zero, List.set_cons_succ]
theorem gform {w w' : World} {o : Option Wan} {e : Ending} (h : GetTo w o e w') : ∃ (x : Wan) (k : Int), e = .returned (.tuple #[.agg #[.int .i64 x.book, .int .i64 x.cust, .int .i64 x.dead, .int .i64 x.u0, .int .i64 x.u1, .int .i64 x.u2, .int .i64 x.price], .int .i64 k]) ∧ ∀ y, o = some y → x = y := by
  cases o with
  | some y => exact ⟨y, 0, h.yes y rfl, fun z hz => by injection hz⟩
  | none => exact ⟨⟨0, 0, 0, 0, 0, 0, 0⟩, 2, h.no rfl, fun z hz => by cases hz⟩
theorem sgets_results : Tryd.f34.results = #[.cell 2 28, .tmp 3] := by kernel_rfl
theorem int_info : (Tryd.prog.info? 26).map (·.size) = some 7 := by kernel_rfl
set_option maxHeartbeats 12800000 in
theorem gets_any (w : World) (t : Tab w) (A : Option Addr) (n c : Nat) {T : Nat → Prop} (bs : List UInt8) (h : Rb w T A n bs) (hT : ∀ g, T g → g < w.heap.size) (hn : n ≤ 400) (hnc : n ≤ c) (hc : c ≤ 9223372036854775807) (hA : A = none → c = 0) :
    Calls Tryd.prog 34 #[.slice A n c] w (SGetTo w (sget bs)) := by
  obtain ⟨W0, hW0⟩ : ∃ W0, W0 = (w.alloc (.cells #[.int .i64 0, .int .i64 0, .int .i64 0, .int .i64 0, .int .i64 0, .int .i64 0, .int .i64 0, .int .i64 0, .int .i64 0, .int .i64 0, .int .i64 0] 28)).alloc (.cells #[.int .i64 0, .int .i64 0, .int .i64 0, .int .i64 0, .int .i64 0, .int .i64 0, .int .i64 0, .int .i64 0, .int .i64 0, .int .i64 0, .int .i64 0] 28) := ⟨_, rfl⟩
  have be0 : Hid (Below w.heap.size w W0) := by rw [hW0]; exact ((Below.refl _ w).alloc (Nat.le_refl _) _).alloc (by simp) _
  have ZA : Hid (W0.heap[w.heap.size]? = some (.cells #[.int .i64 0, .int .i64 0, .int .i64 0, .int .i64 0, .int .i64 0, .int .i64 0, .int .i64 0, .int .i64 0, .int .i64 0, .int .i64 0, .int .i64 0] 28 (0, 0))) := by rw [hW0]; exact heap_alloc2_old _ _ _
  have ZB : Hid (W0.heap[w.heap.size + 1]? = some (.cells #[.int .i64 0, .int .i64 0, .int .i64 0, .int .i64 0, .int .i64 0, .int .i64 0, .int .i64 0, .int .i64 0, .int .i64 0, .int .i64 0, .int .i64 0] 28 (0, 0))) := by rw [hW0]; exact heap_alloc2_new _ _ _
  have R0 : Hid (Rb W0 T A n bs) := h.keep (fun g hg => be0.out.block g (hT g hg)) (fun _ h => h)
  have hlen := h.len
  have T0 : Hid (Tab W0) := t.below be0.out
  have st : Hid (GtAt T bs W0 (.slice A n c) (.int .i64 0) W0) := ⟨0, A, n, c, bs, 0, rfl, by omega, rfl, R0.out, by omega, hnc, hc, hA, fun zs rest h1 _ _ => by rw [List.drop_zero]; exact h1, rfl⟩
  have hl : Hid (bs.length = n ∧ n ≤ 400 ∧ n ≤ c ∧ (A = none → c = 0) ∧ c ≤ 9223372036854775807) := ⟨hlen, hn, hnc, hA, hc⟩
  have hp0 : Hid (0 < w.heap.size) := t.lt
  replace hT := Lib.hid hT
  replace hW0 := Lib.hid hW0
  clear h t hlen hn hnc hc hA
  go_enter Tryd.func34, Tryd.ntmps34
  go_upto_region 2 with fail
  rw [← hW0.out]
  go_wp2_with fail
  go_loopw [5, 12] (fun v i wr => GtAt T bs W0 v i wr) (fun _ i _ => 7 - (intOf i).toNat)
  case atStart => exact st.out
  case round =>
    clear st
    obtain ⟨k, A1, m, c1, r, j, rfl, hk, rfl, R, hm, hmc, hc1, hA1, hL, rfl⟩ := hrel
    by_cases hlt : k < 7
    · have i0 : (k : Int) < 7 := by omega
      have TK := In.take_any (W0.drewN j) A1 m c1 r (R.keep (fun _ _ => rfl) (fun _ h => h)) (by have := hl.out; omega) hmc hc1 hA1
      have hrl := R.len
      replace TK := Lib.hid TK
      replace hL := Lib.hid hL
      have hmb : Hid (m ≤ bs.length) := hm
      clear R hmc hc1 hA1 hm hk
      go_wp2_with fail
      refine TK.out.mono ?_
      rintro e w' ⟨y, A2, m2, c2, r2, rfl, R2, q1, q2, q3, q4, q5, j2, rfl⟩
      have st2 : Hid (GtAt T bs W0 (.slice A2 m2 c2) (.int .i64 ((k : Int) + 1)) (W0.drewN (j + j2))) := ⟨k + 1, A2, m2, c2, r2, j + j2, by simp, by omega, rfl, R2.keep (fun _ _ => rfl) (fun _ h => h), by have := hmb.out; omega, q2, q3, q4, (lft_step (by omega) hL.out q5).1, rfl⟩
      clear TK R2 q1 q2 q3 q4 q5 hL hmb hrl
      go_wp2_with fail
      go_roundw
      case rel => exact st2.out
      case measure => simp [intOf]; omega
    · obtain rfl : k = 7 := by omega
      clear hlt hk
      have hrl := R.len
      obtain ⟨w1', hw1'⟩ : ∃ z, z = W0.drewN j := ⟨_, rfl⟩
      have bd : Below W0.heap.size W0 w1' := by rw [hw1']; exact ⟨rfl, rfl, rfl, Nat.le_refl _, fun _ _ => rfl⟩
      rw [← hw1']
      clear hw1'
      have ZA1 : Hid (w1'.heap[w.heap.size]? = some (.cells #[.int .i64 0, .int .i64 0, .int .i64 0, .int .i64 0, .int .i64 0, .int .i64 0, .int .i64 0, .int .i64 0, .int .i64 0, .int .i64 0, .int .i64 0] 28 (0, 0))) := (bd.block _ (lt_some ZA.out)).trans ZA.out
      have ZB1 : Hid (w1'.heap[w.heap.size + 1]? = some (.cells #[.int .i64 0, .int .i64 0, .int .i64 0, .int .i64 0, .int .i64 0, .int .i64 0, .int .i64 0, .int .i64 0, .int .i64 0, .int .i64 0, .int .i64 0] 28 (0, 0))) := (bd.block _ (lt_some ZB.out)).trans ZB.out
      have b1 : Hid (Below w.heap.size w w1') := be0.out.trans (bd.mono be0.out.size)
      have RB1 : Hid (Rb w1' T A n bs) := R0.out.keep (fun g hg => bd.block g (Nat.lt_of_lt_of_le (hT.out g hg) be0.out.size)) (fun _ h => h)
      have R1 : Hid (Rb w1' T A1 m r) := R.keep (fun g hg => bd.block g (Nat.lt_of_lt_of_le (hT.out g hg) be0.out.size)) (fun _ h => h)
      have T1 : Hid (Tab w1') := T0.out.below bd
      have hT1 : Hid (∀ g, T g → g < w.heap.size) := hT
      have hmn : m ≤ n := by have := hl.out.1; omega
      have G := get_any w1' A (n - m) c (bs.take (n - m)) (RB1.out.take (by omega)) (fun g hg => Nat.lt_of_lt_of_le (hT.out g hg) b1.out.size) (by have := hl.out; omega) hl.out.2.2.2.1
      have hr1 : Hid (m ≤ c1 ∧ c1 ≤ 9223372036854775807 ∧ (A1 = none → c1 = 0) ∧ m ≤ bs.length) := ⟨hmc, hc1, hA1, hm⟩
      have nc : (n : Int) ≤ (c : Int) := by have := hl.out; omega
      have mn : (m : Int) ≤ (n : Int) := by omega
      have mw : wrap64 ((n : Int) - (m : Int)) = ((n - m : Nat) : Int) := by rw [show (n : Int) - (m : Int) = ((n - m : Nat) : Int) by omega]; unfold wrap64; have := hl.out; omega
      replace hL := Lib.hid hL
      replace G := Lib.hid G
      clear bd R hmc hc1 hA1 hm ZA ZB be0 R0 T0 hT
      go_wp2_with fail
      refine G.out.mono ?_
      intro e w1 hg
      obtain ⟨x, kk, rfl, hx⟩ := gform hg
      have bg := hg.be
      have ZA2 : w1.heap[w.heap.size]? = some (.cells #[.int .i64 0, .int .i64 0, .int .i64 0, .int .i64 0, .int .i64 0, .int .i64 0, .int .i64 0, .int .i64 0, .int .i64 0, .int .i64 0, .int .i64 0] 28 (0, 0)) := (bg.block _ (lt_some ZA1.out)).trans ZA1.out
      have ZB2 : w1.heap[w.heap.size + 1]? = some (.cells #[.int .i64 0, .int .i64 0, .int .i64 0, .int .i64 0, .int .i64 0, .int .i64 0, .int .i64 0, .int .i64 0, .int .i64 0, .int .i64 0, .int .i64 0] 28 (0, 0)) := (bg.block _ (lt_some ZB1.out)).trans ZB1.out
      have b2 : Below w.heap.size w w1 := b1.out.trans (bg.mono b1.out.size)
      have RA2 : Rb w1 T A n bs := RB1.out.keep (fun g hg => bg.block g (Nat.lt_of_lt_of_le (hT1.out g hg) b1.out.size)) (fun _ h => h)
      have RR2 : Rb w1 T A1 m r := R1.out.keep (fun g hg => bg.block g (Nat.lt_of_lt_of_le (hT1.out g hg) b1.out.size)) (fun _ h => h)
      have TB2 : Tab w1 := T1.out.below bg
      have TH : w1.there (w.heap.size + 1) 0 7 := fun j hj => ⟨by rw [Nat.zero_add, one_at ZB2, Array.getElem?_eq_getElem (by simp; omega)]; rfl, one_free ZB2⟩
      obtain ⟨q, hq⟩ : ∃ q, q = w.heap.size + 1 := ⟨_, rfl⟩
      rw [← hq] at ZB2 TH ⊢
      have gs := setCells_grown (b := q) [.int .i64 x.book, .int .i64 x.cust, .int .i64 x.dead, .int .i64 x.u0, .int .i64 x.u1, .int .i64 x.u2, .int .i64 x.price] w1 0
      have hb0 := setCells_heap [.int .i64 x.book, .int .i64 x.cust, .int .i64 x.dead, .int .i64 x.u0, .int .i64 x.u1, .int .i64 x.u2, .int .i64 x.price] w1 0 _ ZB2
      rw [stv7] at hb0
      replace gs := Lib.hid gs
      replace hb0 := Lib.hid hb0
      replace hq := Lib.hid hq
      replace TH := Lib.hid TH
      replace hx := Lib.hid hx
      clear hg bg G ZA1 ZB1 b1 RB1 R1 T1 ZB2 nc mn mw
      go_upto_region 8 with (refine wpList_store_mid rfl 26 (.tmp 31) (.tmp 29) rfl q 0 #[.int .i64 x.book, .int .i64 x.cust, .int .i64 x.dead, .int .i64 x.u0, .int .i64 x.u1, .int .i64 x.u2, .int .i64 x.price] rfl rfl TH.out int_info (by simp [Value.oneCell']) ?_)
      obtain ⟨u0, hu0⟩ : ∃ z, z = w1.setCells q 0 (#[.int .i64 x.book, .int .i64 x.cust, .int .i64 x.dead, .int .i64 x.u0, .int .i64 x.u1, .int .i64 x.u2, .int .i64 x.price] : Array Value).toList := ⟨_, rfl⟩
      rw [← hu0]
      replace gs : w1.grownBy u0 (some q) := by rw [hu0]; exact gs.out
      replace hb0 : u0.heap[q]? = some (.cells #[.int .i64 x.book, .int .i64 x.cust, .int .i64 x.dead, .int .i64 x.u0, .int .i64 x.u1, .int .i64 x.u2, .int .i64 x.price, .int .i64 0, .int .i64 0, .int .i64 0, .int .i64 0] 28 (0, 0)) := by rw [hu0]; exact hb0.out
      have bq : w.heap.size < q := by have := hq.out; omega
      have za0 : u0.heap[w.heap.size]? = some (.cells #[.int .i64 0, .int .i64 0, .int .i64 0, .int .i64 0, .int .i64 0, .int .i64 0, .int .i64 0, .int .i64 0, .int .i64 0, .int .i64 0, .int .i64 0] 28 (0, 0)) := (gs.block _ (lt_some ZA2) (fun e => by injection e with e; omega)).trans ZA2
      have ra0 : Rb u0 T A n bs := RA2.keep (fun g hg => gs.block g (Nat.lt_of_lt_of_le (hT1.out g hg) b2.size) (fun e => by injection e with e; have := hT1.out g hg; omega)) (fun _ h => h)
      have rr0 : Rb u0 T A1 m r := RR2.keep (fun g hg => gs.block g (Nat.lt_of_lt_of_le (hT1.out g hg) b2.size) (fun e => by injection e with e; have := hT1.out g hg; omega)) (fun _ h => h)
      have bu0 : Below w.heap.size w u0 := b2.trans ⟨gs.os, gs.tape, gs.output, gs.size, fun j hj => gs.block j (by have := b2.size; omega) (fun e => by injection e with e; omega)⟩
      have tb0 : Tab u0 := TB2.sub (B := w.heap.size) ⟨gs.os, gs.tape, gs.output, gs.size, fun j hj => gs.block j (by have := b2.size; omega) (fun e => by injection e with e; omega)⟩ (by have := TB2.lt; have := hp0.out; omega)
      clear gs hu0 ZA2 RA2 RR2 TB2 TH b2
      have XW : Hid (∀ s, smay s = true → sput s = bs → x = s.w) := fun s h1 h2 => by
        have e1 : bs = cat (szs s) ++ [] := by rw [List.append_nil]; exact h2.symm
        have e2 := hL.out _ _ e1 (szs_len s) (szs_I h1)
        have e3 : bs = raw s.w ++ r := by rw [← h2, sput_eq, e2, List.append_nil]; rfl
        have e4 : bs.take (n - m) = raw s.w := by
          have : n - m = (raw s.w).length := by have := hl.out.1; rw [e3, List.length_append] at this; omega
          rw [this, e3, List.take_left]
        exact hx.out _ (by rw [e4]; exact getW_raw (smay_true h1).1)
      have hbq := Lib.hid hb0
      replace hb0 := Lib.hid hb0
      replace za0 := Lib.hid za0
      replace ra0 := Lib.hid ra0
      replace rr0 := Lib.hid rr0
      replace bu0 := Lib.hid bu0
      replace tb0 := Lib.hid tb0
      have L0 := hL
      have hr0 := hr1
      clear hx hL hr1 hrl hmn
      go_wp2_with fail
      obtain ⟨u0', eu⟩ : ∃ z, z = u0.alloc (.cells #[.pointer (some ⟨q, 7, none⟩), .pointer (some ⟨q, 8, none⟩), .pointer (some ⟨q, 9, none⟩), .pointer (some ⟨q, 10, none⟩)] 99) := ⟨_, rfl⟩
      rw [← eu]
      have al : Below u0.heap.size u0 u0' := by rw [eu]; exact (Below.refl _ _).alloc (Nat.le_refl _) _
      have PB0 : Hid (u0'.heap[u0.heap.size]? = some (.cells #[.pointer (some ⟨q, 7, none⟩), .pointer (some ⟨q, 8, none⟩), .pointer (some ⟨q, 9, none⟩), .pointer (some ⟨q, 10, none⟩)] 99 (0, 0))) := by rw [eu]; exact heap_alloc_new _ _
      replace hb0 := Lib.hid ((al.block _ (lt_some hb0.out)).trans hb0.out)
      replace za0 := Lib.hid ((al.block _ (lt_some za0.out)).trans za0.out)
      replace ra0 : Hid (Rb u0' T A n bs) := ra0.out.keep (fun g hg => al.block g (Nat.lt_of_lt_of_le (hT1.out g hg) bu0.out.size)) (fun _ h => h)
      replace rr0 : Hid (Rb u0' T A1 m r) := rr0.out.keep (fun g hg => al.block g (Nat.lt_of_lt_of_le (hT1.out g hg) bu0.out.size)) (fun _ h => h)
      replace tb0 := Lib.hid (tb0.out.below al)
      have qp : Hid (q < u0.heap.size) := (lt_some hbq.out)
      replace bu0 := Lib.hid (bu0.out.trans (al.mono bu0.out.size))
      obtain ⟨gp, hgp⟩ : ∃ z, z = u0.heap.size := ⟨_, rfl⟩
      rw [← hgp] at PB0 qp ⊢
      clear eu al hgp hbq
      refine wp_loop_rounds 5 ?_
      rw [rounds_succ]
      have pc : u0'.cell? ⟨gp, 0, none⟩ = some (.pointer (some ⟨q, 7, none⟩)) := one_at PB0.out
      have lp : gp < u0'.heap.size := lt_some PB0.out
      have TK := Lib.hid (In.take_any u0' A1 m c1 r rr0.out (by have := hr0.out; have := hl.out; omega) hr0.out.1 hr0.out.2.1 hr0.out.2.2.1)
      have rlen := rr0.out.len
      go_wp2_with fail
      refine TK.out.mono ?_
      rintro e w' ⟨v0, A_1, m_1, c_1, r_1, rfl, R2, q1, q2, q3, q4, q5, j2, rfl⟩
      have hr1 : Hid (m_1 ≤ c_1 ∧ c_1 ≤ 9223372036854775807 ∧ (A_1 = none → c_1 = 0) ∧ m_1 ≤ bs.length) := ⟨q2, q3, q4, by have := hr0.out; omega⟩
      have LS := lft_step (by omega) L0.out q5
      have L1 := Lib.hid LS.1
      have V0 := Lib.hid LS.2
      obtain ⟨d, hd⟩ : ∃ z : World, z = u0'.drewN j2 := ⟨_, rfl⟩
      have bd : ∀ k : Nat, u0'.heap[k]? = d.heap[k]? := fun k => by rw [hd]; rfl
      have bdb : Below u0'.heap.size u0' d := by rw [hd]; exact ⟨rfl, rfl, rfl, Nat.le_refl _, fun _ _ => rfl⟩
      rw [← hd]
      have hbm : d.heap[q]? = some (.cells #[.int .i64 x.book, .int .i64 x.cust, .int .i64 x.dead, .int .i64 x.u0, .int .i64 x.u1, .int .i64 x.u2, .int .i64 x.price, .int .i64 0, .int .i64 0, .int .i64 0, .int .i64 0] 28 (0, 0)) := (bd q).symm.trans hb0.out
      have R3 : Rb d T A_1 m_1 r_1 := R2.keep (fun g _ => (bd g).symm) (fun _ h => h)
      have rd3 : Rb d T A n bs := ra0.out.keep (fun g _ => (bd g).symm) (fun _ h => h)
      have zm : d.heap[w.heap.size]? = some (.cells #[.int .i64 0, .int .i64 0, .int .i64 0, .int .i64 0, .int .i64 0, .int .i64 0, .int .i64 0, .int .i64 0, .int .i64 0, .int .i64 0, .int .i64 0] 28 (0, 0)) := (bd _).symm.trans za0.out
      have pm : d.heap[gp]? = some (.cells #[.pointer (some ⟨q, 7, none⟩), .pointer (some ⟨q, 8, none⟩), .pointer (some ⟨q, 9, none⟩), .pointer (some ⟨q, 10, none⟩)] 99 (0, 0)) := (bd _).symm.trans PB0.out
      have tm := tb0.out.below bdb
      have bm := bu0.out.trans (bdb.mono bu0.out.size)
      have fm : d.frozen? ⟨q, 7, none⟩ = false := one_free hbm
      have cm : d.cell? ⟨q, 7, none⟩ = some (.int .i64 0) := one_at hbm
      have lm : q < d.heap.size := lt_some hbm
      replace R3 := Lib.hid R3
      replace rd3 := Lib.hid rd3
      clear hd bd bdb LS R2 q1 q2 q3 q4 q5 TK rlen pc lp hb0 ra0 rr0 za0 PB0 tb0 bu0 L0 hr0
      go_upto_region 14 with fail
      obtain ⟨u1, eu⟩ : ∃ z, z = d.setCell ⟨q, 7, none⟩ (.int .i64 v0) := ⟨_, rfl⟩
      rw [← eu]
      have gs := grown_set d q 7 (.int .i64 v0)
      rw [← eu] at gs
      have nq : ∀ k : Nat, k < w.heap.size → some k ≠ some q := fun k hk e => by injection e with e; omega
      have hb1 : Hid (u1.heap[q]? = some (.cells #[.int .i64 x.book, .int .i64 x.cust, .int .i64 x.dead, .int .i64 x.u0, .int .i64 x.u1, .int .i64 x.u2, .int .i64 x.price, .int .i64 v0, .int .i64 0, .int .i64 0, .int .i64 0] 28 (0, 0))) := by rw [eu]; exact one_set hbm _
      have ra1 : Hid (Rb u1 T A n bs) := rd3.out.keep (fun g hg => gs.block g (Nat.lt_of_lt_of_le (hT1.out g hg) bm.size) (nq g (hT1.out g hg))) (fun _ h => h)
      have rr1 : Hid (Rb u1 T A_1 m_1 r_1) := R3.out.keep (fun g hg => gs.block g (Nat.lt_of_lt_of_le (hT1.out g hg) bm.size) (nq g (hT1.out g hg))) (fun _ h => h)
      have za1 : Hid (u1.heap[w.heap.size]? = some (.cells #[.int .i64 0, .int .i64 0, .int .i64 0, .int .i64 0, .int .i64 0, .int .i64 0, .int .i64 0, .int .i64 0, .int .i64 0, .int .i64 0, .int .i64 0] 28 (0, 0))) := (gs.block _ (lt_some zm) (fun e => by injection e with e; omega)).trans zm
      have PB1 : Hid (u1.heap[gp]? = some (.cells #[.pointer (some ⟨q, 7, none⟩), .pointer (some ⟨q, 8, none⟩), .pointer (some ⟨q, 9, none⟩), .pointer (some ⟨q, 10, none⟩)] 99 (0, 0))) := (gs.block _ (lt_some pm) (fun e => by injection e with e; have := qp.out; omega)).trans pm
      have gb : Below w.heap.size d u1 := ⟨gs.os, gs.tape, gs.output, gs.size, fun j hj => gs.block j (by have := bm.size; omega) (nq j hj)⟩
      have bu1 : Hid (Below w.heap.size w u1) := bm.trans gb
      have tb1 : Hid (Tab u1) := tm.sub gb hp0.out
      clear gs eu hbm R3 rd3 zm pm tm bm fm cm lm gb nq
      go_wp2_with fail
      rw [rounds_succ]
      have pc : u1.cell? ⟨gp, 1, none⟩ = some (.pointer (some ⟨q, 8, none⟩)) := one_at PB1.out
      have lp : gp < u1.heap.size := lt_some PB1.out
      have TK := Lib.hid (In.take_any u1 A_1 m_1 c_1 r_1 rr1.out (by have := hr1.out; have := hl.out; omega) hr1.out.1 hr1.out.2.1 hr1.out.2.2.1)
      have rlen := rr1.out.len
      go_wp2_with fail
      refine TK.out.mono ?_
      rintro e w' ⟨v1, A_2, m_2, c_2, r_2, rfl, R2, q1, q2, q3, q4, q5, j2, rfl⟩
      have hr2 : Hid (m_2 ≤ c_2 ∧ c_2 ≤ 9223372036854775807 ∧ (A_2 = none → c_2 = 0) ∧ m_2 ≤ bs.length) := ⟨q2, q3, q4, by have := hr1.out; omega⟩
      have LS := lft_step (by omega) L1.out q5
      have L2 := Lib.hid LS.1
      have V1 := Lib.hid LS.2
      obtain ⟨d, hd⟩ : ∃ z : World, z = u1.drewN j2 := ⟨_, rfl⟩
      have bd : ∀ k : Nat, u1.heap[k]? = d.heap[k]? := fun k => by rw [hd]; rfl
      have bdb : Below u1.heap.size u1 d := by rw [hd]; exact ⟨rfl, rfl, rfl, Nat.le_refl _, fun _ _ => rfl⟩
      rw [← hd]
      have hbm : d.heap[q]? = some (.cells #[.int .i64 x.book, .int .i64 x.cust, .int .i64 x.dead, .int .i64 x.u0, .int .i64 x.u1, .int .i64 x.u2, .int .i64 x.price, .int .i64 v0, .int .i64 0, .int .i64 0, .int .i64 0] 28 (0, 0)) := (bd q).symm.trans hb1.out
      have R3 : Rb d T A_2 m_2 r_2 := R2.keep (fun g _ => (bd g).symm) (fun _ h => h)
      have rd3 : Rb d T A n bs := ra1.out.keep (fun g _ => (bd g).symm) (fun _ h => h)
      have zm : d.heap[w.heap.size]? = some (.cells #[.int .i64 0, .int .i64 0, .int .i64 0, .int .i64 0, .int .i64 0, .int .i64 0, .int .i64 0, .int .i64 0, .int .i64 0, .int .i64 0, .int .i64 0] 28 (0, 0)) := (bd _).symm.trans za1.out
      have pm : d.heap[gp]? = some (.cells #[.pointer (some ⟨q, 7, none⟩), .pointer (some ⟨q, 8, none⟩), .pointer (some ⟨q, 9, none⟩), .pointer (some ⟨q, 10, none⟩)] 99 (0, 0)) := (bd _).symm.trans PB1.out
      have tm := tb1.out.below bdb
      have bm := bu1.out.trans (bdb.mono bu1.out.size)
      have fm : d.frozen? ⟨q, 8, none⟩ = false := one_free hbm
      have cm : d.cell? ⟨q, 8, none⟩ = some (.int .i64 0) := one_at hbm
      have lm : q < d.heap.size := lt_some hbm
      replace R3 := Lib.hid R3
      replace rd3 := Lib.hid rd3
      clear hd bd bdb LS R2 q1 q2 q3 q4 q5 TK rlen pc lp hb1 ra1 rr1 za1 PB1 tb1 bu1 L1 hr1
      go_upto_region 14 with fail
      obtain ⟨u2, eu⟩ : ∃ z, z = d.setCell ⟨q, 8, none⟩ (.int .i64 v1) := ⟨_, rfl⟩
      rw [← eu]
      have gs := grown_set d q 8 (.int .i64 v1)
      rw [← eu] at gs
      have nq : ∀ k : Nat, k < w.heap.size → some k ≠ some q := fun k hk e => by injection e with e; omega
      have hb2 : Hid (u2.heap[q]? = some (.cells #[.int .i64 x.book, .int .i64 x.cust, .int .i64 x.dead, .int .i64 x.u0, .int .i64 x.u1, .int .i64 x.u2, .int .i64 x.price, .int .i64 v0, .int .i64 v1, .int .i64 0, .int .i64 0] 28 (0, 0))) := by rw [eu]; exact one_set hbm _
      have ra2 : Hid (Rb u2 T A n bs) := rd3.out.keep (fun g hg => gs.block g (Nat.lt_of_lt_of_le (hT1.out g hg) bm.size) (nq g (hT1.out g hg))) (fun _ h => h)
      have rr2 : Hid (Rb u2 T A_2 m_2 r_2) := R3.out.keep (fun g hg => gs.block g (Nat.lt_of_lt_of_le (hT1.out g hg) bm.size) (nq g (hT1.out g hg))) (fun _ h => h)
      have za2 : Hid (u2.heap[w.heap.size]? = some (.cells #[.int .i64 0, .int .i64 0, .int .i64 0, .int .i64 0, .int .i64 0, .int .i64 0, .int .i64 0, .int .i64 0, .int .i64 0, .int .i64 0, .int .i64 0] 28 (0, 0))) := (gs.block _ (lt_some zm) (fun e => by injection e with e; omega)).trans zm
      have PB2 : Hid (u2.heap[gp]? = some (.cells #[.pointer (some ⟨q, 7, none⟩), .pointer (some ⟨q, 8, none⟩), .pointer (some ⟨q, 9, none⟩), .pointer (some ⟨q, 10, none⟩)] 99 (0, 0))) := (gs.block _ (lt_some pm) (fun e => by injection e with e; have := qp.out; omega)).trans pm
      have gb : Below w.heap.size d u2 := ⟨gs.os, gs.tape, gs.output, gs.size, fun j hj => gs.block j (by have := bm.size; omega) (nq j hj)⟩
      have bu2 : Hid (Below w.heap.size w u2) := bm.trans gb
      have tb2 : Hid (Tab u2) := tm.sub gb hp0.out
      clear gs eu hbm R3 rd3 zm pm tm bm fm cm lm gb nq
      go_wp2_with fail
      rw [rounds_succ]
      have pc : u2.cell? ⟨gp, 2, none⟩ = some (.pointer (some ⟨q, 9, none⟩)) := one_at PB2.out
      have lp : gp < u2.heap.size := lt_some PB2.out
      have TK := Lib.hid (In.take_any u2 A_2 m_2 c_2 r_2 rr2.out (by have := hr2.out; have := hl.out; omega) hr2.out.1 hr2.out.2.1 hr2.out.2.2.1)
      have rlen := rr2.out.len
      go_wp2_with fail
      refine TK.out.mono ?_
      rintro e w' ⟨v2, A_3, m_3, c_3, r_3, rfl, R2, q1, q2, q3, q4, q5, j2, rfl⟩
      have hr3 : Hid (m_3 ≤ c_3 ∧ c_3 ≤ 9223372036854775807 ∧ (A_3 = none → c_3 = 0) ∧ m_3 ≤ bs.length) := ⟨q2, q3, q4, by have := hr2.out; omega⟩
      have LS := lft_step (by omega) L2.out q5
      have L3 := Lib.hid LS.1
      have V2 := Lib.hid LS.2
      obtain ⟨d, hd⟩ : ∃ z : World, z = u2.drewN j2 := ⟨_, rfl⟩
      have bd : ∀ k : Nat, u2.heap[k]? = d.heap[k]? := fun k => by rw [hd]; rfl
      have bdb : Below u2.heap.size u2 d := by rw [hd]; exact ⟨rfl, rfl, rfl, Nat.le_refl _, fun _ _ => rfl⟩
      rw [← hd]
      have hbm : d.heap[q]? = some (.cells #[.int .i64 x.book, .int .i64 x.cust, .int .i64 x.dead, .int .i64 x.u0, .int .i64 x.u1, .int .i64 x.u2, .int .i64 x.price, .int .i64 v0, .int .i64 v1, .int .i64 0, .int .i64 0] 28 (0, 0)) := (bd q).symm.trans hb2.out
      have R3 : Rb d T A_3 m_3 r_3 := R2.keep (fun g _ => (bd g).symm) (fun _ h => h)
      have rd3 : Rb d T A n bs := ra2.out.keep (fun g _ => (bd g).symm) (fun _ h => h)
      have zm : d.heap[w.heap.size]? = some (.cells #[.int .i64 0, .int .i64 0, .int .i64 0, .int .i64 0, .int .i64 0, .int .i64 0, .int .i64 0, .int .i64 0, .int .i64 0, .int .i64 0, .int .i64 0] 28 (0, 0)) := (bd _).symm.trans za2.out
      have pm : d.heap[gp]? = some (.cells #[.pointer (some ⟨q, 7, none⟩), .pointer (some ⟨q, 8, none⟩), .pointer (some ⟨q, 9, none⟩), .pointer (some ⟨q, 10, none⟩)] 99 (0, 0)) := (bd _).symm.trans PB2.out
      have tm := tb2.out.below bdb
      have bm := bu2.out.trans (bdb.mono bu2.out.size)
      have fm : d.frozen? ⟨q, 9, none⟩ = false := one_free hbm
      have cm : d.cell? ⟨q, 9, none⟩ = some (.int .i64 0) := one_at hbm
      have lm : q < d.heap.size := lt_some hbm
      replace R3 := Lib.hid R3
      replace rd3 := Lib.hid rd3
      clear hd bd bdb LS R2 q1 q2 q3 q4 q5 TK rlen pc lp hb2 ra2 rr2 za2 PB2 tb2 bu2 L2 hr2
      go_upto_region 14 with fail
      obtain ⟨u3, eu⟩ : ∃ z, z = d.setCell ⟨q, 9, none⟩ (.int .i64 v2) := ⟨_, rfl⟩
      rw [← eu]
      have gs := grown_set d q 9 (.int .i64 v2)
      rw [← eu] at gs
      have nq : ∀ k : Nat, k < w.heap.size → some k ≠ some q := fun k hk e => by injection e with e; omega
      have hb3 : Hid (u3.heap[q]? = some (.cells #[.int .i64 x.book, .int .i64 x.cust, .int .i64 x.dead, .int .i64 x.u0, .int .i64 x.u1, .int .i64 x.u2, .int .i64 x.price, .int .i64 v0, .int .i64 v1, .int .i64 v2, .int .i64 0] 28 (0, 0))) := by rw [eu]; exact one_set hbm _
      have ra3 : Hid (Rb u3 T A n bs) := rd3.out.keep (fun g hg => gs.block g (Nat.lt_of_lt_of_le (hT1.out g hg) bm.size) (nq g (hT1.out g hg))) (fun _ h => h)
      have rr3 : Hid (Rb u3 T A_3 m_3 r_3) := R3.out.keep (fun g hg => gs.block g (Nat.lt_of_lt_of_le (hT1.out g hg) bm.size) (nq g (hT1.out g hg))) (fun _ h => h)
      have za3 : Hid (u3.heap[w.heap.size]? = some (.cells #[.int .i64 0, .int .i64 0, .int .i64 0, .int .i64 0, .int .i64 0, .int .i64 0, .int .i64 0, .int .i64 0, .int .i64 0, .int .i64 0, .int .i64 0] 28 (0, 0))) := (gs.block _ (lt_some zm) (fun e => by injection e with e; omega)).trans zm
      have PB3 : Hid (u3.heap[gp]? = some (.cells #[.pointer (some ⟨q, 7, none⟩), .pointer (some ⟨q, 8, none⟩), .pointer (some ⟨q, 9, none⟩), .pointer (some ⟨q, 10, none⟩)] 99 (0, 0))) := (gs.block _ (lt_some pm) (fun e => by injection e with e; have := qp.out; omega)).trans pm
      have gb : Below w.heap.size d u3 := ⟨gs.os, gs.tape, gs.output, gs.size, fun j hj => gs.block j (by have := bm.size; omega) (nq j hj)⟩
      have bu3 : Hid (Below w.heap.size w u3) := bm.trans gb
      have tb3 : Hid (Tab u3) := tm.sub gb hp0.out
      clear gs eu hbm R3 rd3 zm pm tm bm fm cm lm gb nq
      go_wp2_with fail
      rw [rounds_succ]
      have pc : u3.cell? ⟨gp, 3, none⟩ = some (.pointer (some ⟨q, 10, none⟩)) := one_at PB3.out
      have lp : gp < u3.heap.size := lt_some PB3.out
      have TK := Lib.hid (In.take_any u3 A_3 m_3 c_3 r_3 rr3.out (by have := hr3.out; have := hl.out; omega) hr3.out.1 hr3.out.2.1 hr3.out.2.2.1)
      have rlen := rr3.out.len
      go_wp2_with fail
      refine TK.out.mono ?_
      rintro e w' ⟨v3, A_4, m_4, c_4, r_4, rfl, R2, q1, q2, q3, q4, q5, j2, rfl⟩
      have hr4 : Hid (m_4 ≤ c_4 ∧ c_4 ≤ 9223372036854775807 ∧ (A_4 = none → c_4 = 0) ∧ m_4 ≤ bs.length) := ⟨q2, q3, q4, by have := hr3.out; omega⟩
      have LS := lft_step (by omega) L3.out q5
      have L4 := Lib.hid LS.1
      have V3 := Lib.hid LS.2
      obtain ⟨d, hd⟩ : ∃ z : World, z = u3.drewN j2 := ⟨_, rfl⟩
      have bd : ∀ k : Nat, u3.heap[k]? = d.heap[k]? := fun k => by rw [hd]; rfl
      have bdb : Below u3.heap.size u3 d := by rw [hd]; exact ⟨rfl, rfl, rfl, Nat.le_refl _, fun _ _ => rfl⟩
      rw [← hd]
      have hbm : d.heap[q]? = some (.cells #[.int .i64 x.book, .int .i64 x.cust, .int .i64 x.dead, .int .i64 x.u0, .int .i64 x.u1, .int .i64 x.u2, .int .i64 x.price, .int .i64 v0, .int .i64 v1, .int .i64 v2, .int .i64 0] 28 (0, 0)) := (bd q).symm.trans hb3.out
      have R3 : Rb d T A_4 m_4 r_4 := R2.keep (fun g _ => (bd g).symm) (fun _ h => h)
      have rd3 : Rb d T A n bs := ra3.out.keep (fun g _ => (bd g).symm) (fun _ h => h)
      have zm : d.heap[w.heap.size]? = some (.cells #[.int .i64 0, .int .i64 0, .int .i64 0, .int .i64 0, .int .i64 0, .int .i64 0, .int .i64 0, .int .i64 0, .int .i64 0, .int .i64 0, .int .i64 0] 28 (0, 0)) := (bd _).symm.trans za3.out
      have pm : d.heap[gp]? = some (.cells #[.pointer (some ⟨q, 7, none⟩), .pointer (some ⟨q, 8, none⟩), .pointer (some ⟨q, 9, none⟩), .pointer (some ⟨q, 10, none⟩)] 99 (0, 0)) := (bd _).symm.trans PB3.out
      have tm := tb3.out.below bdb
      have bm := bu3.out.trans (bdb.mono bu3.out.size)
      have fm : d.frozen? ⟨q, 10, none⟩ = false := one_free hbm
      have cm : d.cell? ⟨q, 10, none⟩ = some (.int .i64 0) := one_at hbm
      have lm : q < d.heap.size := lt_some hbm
      replace R3 := Lib.hid R3
      replace rd3 := Lib.hid rd3
      clear hd bd bdb LS R2 q1 q2 q3 q4 q5 TK rlen pc lp hb3 ra3 rr3 za3 PB3 tb3 bu3 L3 hr3
      go_upto_region 14 with fail
      obtain ⟨u4, eu⟩ : ∃ z, z = d.setCell ⟨q, 10, none⟩ (.int .i64 v3) := ⟨_, rfl⟩
      rw [← eu]
      have gs := grown_set d q 10 (.int .i64 v3)
      rw [← eu] at gs
      have nq : ∀ k : Nat, k < w.heap.size → some k ≠ some q := fun k hk e => by injection e with e; omega
      have hb4 : Hid (u4.heap[q]? = some (.cells #[.int .i64 x.book, .int .i64 x.cust, .int .i64 x.dead, .int .i64 x.u0, .int .i64 x.u1, .int .i64 x.u2, .int .i64 x.price, .int .i64 v0, .int .i64 v1, .int .i64 v2, .int .i64 v3] 28 (0, 0))) := by rw [eu]; exact one_set hbm _
      have ra4 : Hid (Rb u4 T A n bs) := rd3.out.keep (fun g hg => gs.block g (Nat.lt_of_lt_of_le (hT1.out g hg) bm.size) (nq g (hT1.out g hg))) (fun _ h => h)
      have rr4 : Hid (Rb u4 T A_4 m_4 r_4) := R3.out.keep (fun g hg => gs.block g (Nat.lt_of_lt_of_le (hT1.out g hg) bm.size) (nq g (hT1.out g hg))) (fun _ h => h)
      have za4 : Hid (u4.heap[w.heap.size]? = some (.cells #[.int .i64 0, .int .i64 0, .int .i64 0, .int .i64 0, .int .i64 0, .int .i64 0, .int .i64 0, .int .i64 0, .int .i64 0, .int .i64 0, .int .i64 0] 28 (0, 0))) := (gs.block _ (lt_some zm) (fun e => by injection e with e; omega)).trans zm
      have PB4 : Hid (u4.heap[gp]? = some (.cells #[.pointer (some ⟨q, 7, none⟩), .pointer (some ⟨q, 8, none⟩), .pointer (some ⟨q, 9, none⟩), .pointer (some ⟨q, 10, none⟩)] 99 (0, 0))) := (gs.block _ (lt_some pm) (fun e => by injection e with e; have := qp.out; omega)).trans pm
      have gb : Below w.heap.size d u4 := ⟨gs.os, gs.tape, gs.output, gs.size, fun j hj => gs.block j (by have := bm.size; omega) (nq j hj)⟩
      have bu4 : Hid (Below w.heap.size w u4) := bm.trans gb
      have tb4 : Hid (Tab u4) := tm.sub gb hp0.out
      clear gs eu hbm R3 rd3 zm pm tm bm fm cm lm gb nq
      go_wp2_with fail
      rw [rounds_succ]
      have bl4 : Hid (BoxS u4 q ⟨x, v0, v1, v2, v3⟩) := hb4.out
      have SP : Hid (Calls Tryd.prog 20 #[.agg #[.int .i64 x.book, .int .i64 x.cust, .int .i64 x.dead, .int .i64 x.u0, .int .i64 x.u1, .int .i64 x.u2, .int .i64 x.price, .int .i64 v0, .int .i64 v1, .int .i64 v2, .int .i64 v3]] u4 (PutTo u4 (smay ⟨x, v0, v1, v2, v3⟩) (sput ⟨x, v0, v1, v2, v3⟩))) := sput_any u4 tb4.out ⟨x, v0, v1, v2, v3⟩
      have SS : Hid ((if smay ⟨x, v0, v1, v2, v3⟩ = true ∧ sput ⟨x, v0, v1, v2, v3⟩ = bs then some (⟨x, v0, v1, v2, v3⟩ : Sag) else none) = sget bs) := by
        refine sget_same fun s h1 h2 => ?_
        have e1 : bs = cat (szs s) ++ [] := by rw [List.append_nil]; exact h2.symm
        have w0 : x = s.w := XW.out s h1 h2
        have a0 : some s.ph = some v0 := V0.out _ _ e1 (szs_len s) (szs_I h1)
        have a1 : some s.st = some v1 := V1.out _ _ e1 (szs_len s) (szs_I h1)
        have a2 : some s.rs = some v2 := V2.out _ _ e1 (szs_len s) (szs_I h1)
        have a3 : some s.si = some v3 := V3.out _ _ e1 (szs_len s) (szs_I h1)
        injection a0 with a0
        injection a1 with a1
        injection a2 with a2
        injection a3 with a3
        rw [w0, ← a0, ← a1, ← a2, ← a3]
      obtain ⟨ok, hok⟩ : ∃ ok, ok = smay ⟨x, v0, v1, v2, v3⟩ := ⟨_, rfl⟩
      obtain ⟨pb, hpb⟩ : ∃ pb, pb = sput ⟨x, v0, v1, v2, v3⟩ := ⟨_, rfl⟩
      rw [← hok, ← hpb] at SP SS
      obtain ⟨c0, c1, c2, c3, c4, c5, c6, c7, c8, c9, ca⟩ := bl4.out.cells
      simp only at c0 c1 c2 c3 c4 c5 c6 c7 c8 c9 ca
      have l4 : q < u4.heap.size := lt_some hb4.out
      clear XW V0 V1 V2 V3 L4 hr4 rr4 PB4 hb4 hok hpb tb4 qp
      cases ok with
      | false =>
        rw [if_neg (by simp)] at SS
        go_wp2_with fail
        refine SP.out.mono ?_
        rintro e w5 h5
        obtain rfl := h5.no rfl
        have za5 : Hid (w5.heap[w.heap.size]? = some (.cells #[.int .i64 0, .int .i64 0, .int .i64 0, .int .i64 0, .int .i64 0, .int .i64 0, .int .i64 0, .int .i64 0, .int .i64 0, .int .i64 0, .int .i64 0] 28 (0, 0))) := (h5.be.block _ (lt_some za4.out)).trans za4.out
        have bu5 : Hid (Below w.heap.size w w5) := bu4.out.trans (h5.be.mono bu4.out.size)
        clear h5 SP c0 c1 c2 c3 c4 c5 c6 c7 c8 c9 ca l4 bl4 za4 ra4 bu4
        go_wp2_with (refine wpList_store_row rfl 28 (.tmp 2) (.tmp 64) rfl w.heap.size #[.int .i64 0, .int .i64 0, .int .i64 0, .int .i64 0, .int .i64 0, .int .i64 0, .int .i64 0, .int .i64 0, .int .i64 0, .int .i64 0, .int .i64 0] rfl rfl 28 _ za5.out sag_size rfl (by simp [Value.oneCell']) ?_)
        refine bodyPost_ret (res_row sgets_results _ _ w.heap.size 28 #[.int .i64 0, .int .i64 0, .int .i64 0, .int .i64 0, .int .i64 0, .int .i64 0, .int .i64 0, .int .i64 0, .int .i64 0, .int .i64 0, .int .i64 0] (0, 0) _ rfl (setRow_heap _ _ _ _ _ _ za5.out) Tryd.underlying28 rfl sag_size) rfl ?_
        exact ⟨bu5.out.trans (setRow_below _ (Nat.le_refl _)), (by intro s h; rw [← SS.out] at h; cases h), fun _ => rfl⟩
      | true =>
        go_wp2_with fail
        refine SP.out.mono ?_
        rintro e w5 h5
        obtain ⟨va, rfl, ow⟩ := h5.yes rfl
        obtain ⟨A5, c5', rfl, R5, -⟩ := Wt.PutTo.rb ow
        have za5 : Hid (w5.heap[w.heap.size]? = some (.cells #[.int .i64 0, .int .i64 0, .int .i64 0, .int .i64 0, .int .i64 0, .int .i64 0, .int .i64 0, .int .i64 0, .int .i64 0, .int .i64 0, .int .i64 0] 28 (0, 0))) := (h5.be.block _ (lt_some za4.out)).trans za4.out
        have bl5 : Hid (BoxS w5 q ⟨x, v0, v1, v2, v3⟩) := (h5.be.block _ l4).trans bl4.out
        have bu5 : Hid (Below w.heap.size w w5) := bu4.out.trans (h5.be.mono bu4.out.size)
        have ra5 : Rb w5 T A n bs := ra4.out.keep (fun g hg => h5.be.block g (Nat.lt_of_lt_of_le (hT1.out g hg) bu4.out.size)) (fun _ h => h)
        have EQ := Lib.hid (equal_any w5 (c := c5') (c' := c) R5 ra5)
        clear h5 ow R5 ra5 SP c0 c1 c2 c3 c4 c5 c6 c7 c8 c9 ca l4 bl4 za4 ra4 bu4
        obtain ⟨c0, c1, c2, c3, c4, c5, c6, c7, c8, c9, ca⟩ := bl5.out.cells
        simp only at c0 c1 c2 c3 c4 c5 c6 c7 c8 c9 ca
        have l5 : q < w5.heap.size := bl5.out.lt
        by_cases hb : pb = bs
        · rw [decide_eq_true hb] at EQ
          rw [if_pos ⟨by trivial, hb⟩] at SS
          replace hb := Lib.hid hb
          go_wp2_with fail
          refine EQ.out.mono ?_
          rintro e w6 ⟨rfl, rfl⟩
          go_wp2_with (refine wpList_store_row rfl 28 (.tmp 2) (.tmp 65) rfl w.heap.size #[.int .i64 x.book, .int .i64 x.cust, .int .i64 x.dead, .int .i64 x.u0, .int .i64 x.u1, .int .i64 x.u2, .int .i64 x.price, .int .i64 v0, .int .i64 v1, .int .i64 v2, .int .i64 v3] rfl rfl 28 _ za5.out sag_size rfl (by simp [Value.oneCell']) ?_)
          refine bodyPost_ret (res_row sgets_results _ _ w.heap.size 28 #[.int .i64 x.book, .int .i64 x.cust, .int .i64 x.dead, .int .i64 x.u0, .int .i64 x.u1, .int .i64 x.u2, .int .i64 x.price, .int .i64 v0, .int .i64 v1, .int .i64 v2, .int .i64 v3] (0, 0) _ rfl (setRow_heap _ _ _ _ _ _ za5.out) Tryd.underlying28 rfl sag_size) rfl ?_
          exact ⟨bu5.out.trans (setRow_below _ (Nat.le_refl _)), (by
            intro s h
            rw [← SS.out] at h
            injection h with h
            subst h
            rfl), (by intro h; rw [← SS.out] at h; cases h)⟩
        · rw [decide_eq_false hb] at EQ
          rw [if_neg (fun h => hb h.2)] at SS
          replace hb := Lib.hid hb
          go_wp2_with fail
          refine EQ.out.mono ?_
          rintro e w6 ⟨rfl, rfl⟩
          go_wp2_with (refine wpList_store_row rfl 28 (.tmp 2) (.tmp 64) rfl w.heap.size #[.int .i64 0, .int .i64 0, .int .i64 0, .int .i64 0, .int .i64 0, .int .i64 0, .int .i64 0, .int .i64 0, .int .i64 0, .int .i64 0, .int .i64 0] rfl rfl 28 _ za5.out sag_size rfl (by simp [Value.oneCell']) ?_)
          refine bodyPost_ret (res_row sgets_results _ _ w.heap.size 28 #[.int .i64 0, .int .i64 0, .int .i64 0, .int .i64 0, .int .i64 0, .int .i64 0, .int .i64 0, .int .i64 0, .int .i64 0, .int .i64 0, .int .i64 0] (0, 0) _ rfl (setRow_heap _ _ _ _ _ _ za5.out) Tryd.underlying28 rfl sag_size) rfl ?_
          exact ⟨bu5.out.trans (setRow_below _ (Nat.le_refl _)), (by intro s h; rw [← SS.out] at h; cases h), fun _ => rfl⟩
end Sb
end Go.Proofs.YtidfpbnepdjagaaDoor
