/- Part of the claim: InA -/
import Derived.Test.YtpkdigegkemogaaGreatDoorPkXT
namespace Go.Proofs.YtpkdigegkemogaaGreatDoor
set_option maxRecDepth 100000
open Go.RowKit
open Go.Proofs.YtpkdigegkemogaaGreatDoor.Pk (one_at one_free one_set lt_some grown_set grown_trans grown_refl u8s enc zz zz_lt zz_pos enc_lo enc_hi enc_ne encI_len rb_one byte_hi byte_lo own_form wpList_append_b adr_block Rb)
namespace In
abbrev Bs := List UInt8

def cat (zs : List Int) : Bs := zs.flatMap Pk.encI
theorem cat_app (a b : List Int) : cat (a ++ b) = cat a ++ cat b := by simp [cat]
theorem cat_snoc {zs : List Int} {k : Nat} {z : Int} (h : zs[k]? = some z) : cat (zs.take (k + 1)) = cat (zs.take k) ++ Pk.encI z := by
  obtain ⟨hl, rfl⟩ := List.getElem?_eq_some_iff.1 h
  rw [List.take_succ_eq_append_getElem hl, cat_app]
  simp [cat]
theorem cat_len (zs : List Int) (h : ∀ z ∈ zs, 0 ≤ z ∧ z ≤ 4000000000000000000) : (cat zs).length ≤ 10 * zs.length := by
  induction zs with
  | nil => simp [cat]
  | cons z zs ih =>
    have e : cat (z :: zs) = Pk.encI z ++ cat zs := by simp [cat]
    rw [e, List.length_append]
    have h1 := h z (by simp)
    have := encI_len z (by omega) (by omega)
    have := ih (fun y hy => h y (by simp [hy]))
    simp only [List.length_cons]
    omega
structure Gu (base : Nat) (w w' : World) : Prop where
  os : w'.os = w.os
  tape : w'.tape = w.tape
  output : w'.output = w.output
  size : w.heap.size ≤ w'.heap.size
  block : ∀ g, g < w.heap.size → (g < base ∨ ∀ cs fr, w.heap[g]? ≠ some (.cells cs 5 fr)) → w'.heap[g]? = w.heap[g]?
section
variable {w w1 w2 : World} {base : Nat}
theorem Gu.refl (base : Nat) (w : World) : Gu base w w := ⟨rfl, rfl, rfl, Nat.le_refl _, fun _ _ _ => rfl⟩
theorem Gu.trans (h : Gu base w w1) (k : Gu base w1 w2) : Gu base w w2 :=
  ⟨k.os.trans h.os, k.tape.trans h.tape, k.output.trans h.output, Nat.le_trans h.size k.size, fun g hg hn => by
    have e := h.block g hg hn
    exact (k.block g (Nat.lt_of_lt_of_le hg h.size) (by rw [e]; exact hn)).trans e⟩
theorem Gu.below (h : Gu base w w1) (hb : base ≤ w.heap.size) : Below base w w1 := ⟨h.os, h.tape, h.output, h.size, fun g hg => h.block g (by omega) (.inl hg)⟩
theorem Gu.of_row {v : Value} {n : Nat} {xs : List Value} (hg : w.grownBy w1 v.ownBlock) (ho : w.ownsRow base 5 1 v n xs) : Gu base w w1 :=
  ⟨hg.os, hg.tape, hg.output, hg.size, fun g hlt hn => hg.block g hlt fun e => by
    rcases ho.2 with ⟨rfl, _⟩ | ⟨g', cap, cur, rfl, hb, hh, _⟩
    · simp [Value.ownBlock] at e
    · have e1 : g = g' := by simpa [Value.ownBlock] using e
      subst e1
      rcases hn with hn | hn
      · omega
      · exact hn _ _ hh⟩
end
structure Ns (base : Nat) (w : World) (ad : Addr) (zs : List Int) : Prop where
  lt : ad.block < w.heap.size
  blk : ad.block < base ∨ ∀ cs fr, w.heap[ad.block]? ≠ some (Obj.cells cs 5 fr)
  at_ : ∀ (j : Nat) (z : Int), zs[j]? = some z → w.cell? (ad.add j) = some (.int .i64 z)
theorem Ns.gu {w w' : World} {ad : Addr} {zs : List Int} {base : Nat} (h : Ns base w ad zs) (k : Gu base w w') : Ns base w' ad zs := by
  have e := k.block _ h.lt h.blk
  exact ⟨Nat.lt_of_lt_of_le h.lt k.size, by rw [e]; exact h.blk, fun j z hj => (World.cell?_of_block (by rw [adr_block]; exact e)).trans (h.at_ j z hj)⟩
theorem Ns.one {w : World} {g base : Nat} {cs : Array Value} {t : TypeId} {zs : List Int} (h : w.heap[g]? = some (.cells cs t (0, 0))) (ht : t ≠ 5) (hc : ∀ (j : Nat) (z : Int), zs[j]? = some z → cs[j]? = some (.int .i64 z)) : Ns base w ⟨g, 0, none⟩ zs := by
  refine ⟨lt_some h, .inr fun cs' fr e => ?_, fun j z hj => ?_⟩
  · rw [h] at e
    injection e with e
    injection e with _ e2 _
    exact ht e2
  · rw [Addr.add_lit, Nat.zero_add, one_at h]
    exact hc j z hj
abbrev RowB (w : World) (base : Nat) (v : Value) (bs : Bs) : Prop := w.ownsRow base 5 1 v bs.length (u8s bs)
def InAt (base : Nat) (w : World) (all : Bs) (v u : Value) (wr : World) : Prop :=
  ∃ (x : Nat) (pre : Bs), u = .int .u64 x ∧ x < 18446744073709551616 ∧ RowB wr base v pre ∧ pre ++ enc x = all ∧ Gu base w wr ∧ base ≤ wr.heap.size
theorem in_next {base : Nat} {w wr w6 : World} {all pre : Bs} {x : Nat} {A : Option Addr} {c : Nat} {v6 : Value} {b : Int} (hx : 127 < x) (hx2 : x < 18446744073709551616) (hall : pre ++ enc x = all) (hb : Gu base w wr) (hs : base ≤ wr.heap.size)
    (ho : RowB wr base (.slice A pre.length c) pre) (h6 : w6.ownsRow base 5 1 v6 (pre.length + 1) (u8s (pre ++ [UInt8.ofNat (x % 128 + 128)]))) (hg6 : (wr.alloc (.cells #[.int .u8 b] 5)).grownBy w6 (Value.slice A pre.length c).ownBlock) :
    InAt base w all v6 (.int .u64 ((x : Int) / 128)) w6 := by
  refine ⟨x / 128, pre ++ [UInt8.ofNat (x % 128 + 128)], by simp, by omega, by unfold RowB; rw [List.length_append]; exact h6, ?_, hb.trans (Gu.of_row ((World.grownBy_alloc _ _ _).trans hg6) ho), by have := hg6.size; simp at this; omega⟩
  have e := enc_hi (u := x) (by omega)
  rw [← hall, e, List.append_assoc]; rfl
def ApAt (base : Nat) (w : World) (bs : Bs) (zs : List Int) (v i : Value) (wr : World) : Prop :=
  ∃ k : Nat, i = .int .i64 k ∧ k ≤ zs.length ∧ RowB wr base v (bs ++ cat (zs.take k)) ∧ Gu base w wr ∧ base ≤ wr.heap.size
def ApTo (base : Nat) (w : World) (bs : Bs) (e : Ending) (w' : World) : Prop := ∃ v, e = .returned v ∧ RowB w' base v bs ∧ Gu base w w' ∧ base ≤ w'.heap.size
theorem xor_zero (x : Nat) (h : x < 18446744073709551616) : bits .xor .u64 (x : Int) 0 = (x : Int) := by
  have h1 : (BitVec.ofInt 64 (x : Int)).toNat = x := by rw [BitVec.ofInt_natCast, BitVec.toNat_ofNat]; exact Nat.mod_eq_of_lt (by omega)
  show IntKind.u64.wrap ((BitVec.ofInt 64 (x : Int) ^^^ BitVec.ofInt 64 0).toNat : Int) = _
  rw [BitVec.toNat_xor, h1, show (BitVec.ofInt 64 0).toNat = 0 from rfl, Nat.xor_zero, IntKind.wrap_u64]
  omega
theorem fold_eq {z : Int} (h0 : 0 ≤ z) (h1 : z ≤ 4000000000000000000) : bits .xor .u64 (z * 2) 0 = z * 2 := by
  have := xor_zero (z * 2).toNat (by omega)
  rwa [show ((z * 2).toNat : Int) = z * 2 by omega] at this
theorem ret_u64 {a b : Int} (h : a = b) : Ending.returned (.int .u64 a) = .returned (.int .u64 b) := by rw [h]
set_option maxHeartbeats 400000 in
theorem fold_any (w : World) (z : Int) (h0 : 0 ≤ z) (h1 : z ≤ 4000000000000000000) :
    Calls Tryz.prog 210 #[.int .i64 z] w fun e w' => e = .returned (.int .u64 (z * 2)) ∧ w = w' := by
  have F := Lib.hid (fold_eq h0 h1)
  go_enter Tryz.func210, Tryz.ntmps210
  go_wp2
  go_ret
  exact ⟨ret_u64 (by rw [show z / 9223372036854775808 = 0 by omega]; exact F.out), rfl⟩
set_option maxHeartbeats 3200000 in
theorem append_any (base : Nat) (w : World) (v : Value) (bs : Bs) (ho : RowB w base v bs) (hB : base ≤ w.heap.size) (ad : Addr) (n : Nat) (zs : List Int) (hl : zs.length = n) (hs : Ns base w ad zs) (hz : ∀ z ∈ zs, 0 ≤ z ∧ z ≤ 4000000000000000000) (hn : bs.length ≤ 100000) (hm : n ≤ 100) :
    Calls Tryz.prog 208 #[v, .slice (some ad) n n] w (ApTo base w (bs ++ cat zs)) := by
  have st : Hid (ApAt base w bs zs v (.int .i64 0) w) := ⟨0, rfl, Nat.zero_le _, by simpa [cat] using ho, Gu.refl _ _, hB⟩
  have hl' := Lib.hid hl
  have hs' := Lib.hid hs
  have hz' := Lib.hid hz
  replace hB := Lib.hid hB
  clear hl hs hz ho
  go_enter Tryz.func208, Tryz.ntmps208
  go_wp2
  go_loopw [0, 10] (fun v i wr => ApAt base w bs zs v i wr) (fun _ i _ => n - (intOf i).toNat)
  case atStart => exact st.out
  case round =>
    obtain ⟨w3, e3⟩ : ∃ x, x = wr := ⟨_, rfl⟩
    subst e3
    obtain ⟨k, rfl, hk, hrow, hgu, hbs⟩ := hrel
    replace hrow := Lib.hid hrow
    replace hgu := Lib.hid hgu
    replace hk := Lib.hid hk
    replace hbs := Lib.hid hbs
    by_cases hlt : k < n
    · obtain ⟨z, hzk⟩ : ∃ z, zs[k]? = some z := ⟨_, List.getElem?_eq_getElem (by have := hl'.out; omega)⟩
      have q := (hs'.out.gu hgu.out).at_ k z hzk
      obtain ⟨z0, z1⟩ := hz'.out z (List.mem_of_getElem? hzk)
      have hcl : (bs ++ cat (zs.take k)).length ≤ 110000 := by
        rw [List.length_append]
        have h1 := cat_len (zs.take k) (fun y hy => hz'.out y (List.mem_of_mem_take hy))
        have h2 : (zs.take k).length ≤ 100 := by rw [List.length_take]; have := hl'.out; omega
        omega
      have hel := encI_len z (by omega) (by omega)
      have hall : Hid (bs ++ cat (zs.take (k + 1)) = (bs ++ cat (zs.take k)) ++ Pk.encI z) := by show _ = _; rw [cat_snoc hzk, List.append_assoc]
      have st2 : Hid (InAt base w (bs ++ cat (zs.take (k + 1))) u0 (.int .u64 (z * 2)) w3) := by
        rw [zz_pos z0]
        exact ⟨zz z, _, rfl, zz_lt z (by omega) (by omega), hrow.out, hall.out.symm, hgu.out, hbs.out⟩
      have hAl : Hid ((bs ++ cat (zs.take (k + 1))).length ≤ 110010) := by show _ ≤ _; rw [hall.out, List.length_append]; omega
      have hk1 : Hid (k + 1 ≤ zs.length) := by have := hl'.out; show _ ≤ _; omega
      clear hzk hcl hel hrow hgu hbs hall
      go_wp2_with fail
      refine (fold_any _ z z0 z1).mono ?_
      rintro e w' ⟨rfl, rfl⟩
      clear z0 z1 q
      go_wp2_with fail
      go_loopw [0, 7] (fun v u wr => InAt base w (bs ++ cat (zs.take (k + 1))) v u wr) (fun _ u _ => (intOf u).toNat)
      case atStart => exact st2.out
      case round =>
        clear st2
        obtain ⟨x, pre, rfl, hx, ho, hall, hg, hb⟩ := hrel
        obtain ⟨A, c, rfl⟩ := own_form ho
        have hpl : pre.length ≤ 110010 := by
          have h1 := hAl.out
          rw [← hall, List.length_append] at h1
          omega
        replace hx := Lib.hid hx
        replace ho := Lib.hid ho
        replace hall := Lib.hid hall
        replace hg := Lib.hid hg
        replace hb := Lib.hid hb
        have hnb : pre.length + 1 ≤ 140737488355328 := by omega
        by_cases hgt : 127 < x
        · have Rn : Hid _ := rb_one wr _ _ (byte_hi x)
          have On : Hid _ := ho.out.alloc (.cells #[.int .u8 (bits .or .u8 ((x : Int) % 256) 128)] 5)
          go_wp2_with (at_builtin; refine wpList_append_b _ rfl (.tmp 20) (.tmp 24) rfl base (.slice A pre.length c) pre.length pre rfl On.out rfl Rn.out hnb (by have := hb.out; simp; omega) ?_; intro v6 w6 hown6 hg6 _; have st6 : Hid (InAt base w (bs ++ cat (zs.take (k + 1))) v6 (.int .u64 ((x : Int) / 128)) w6) := in_next hgt hx.out hall.out hg.out hb.out ho.out hown6 hg6; clear hown6 hg6)
          go_roundw
          case rel => exact st6.out
          case measure => simp [intOf]; omega
        · have Rn : Hid _ := rb_one wr _ _ (byte_lo x (by omega))
          have On : Hid _ := ho.out.alloc (.cells #[.int .u8 (x : Int)] 5)
          have hfin : Hid (pre ++ [UInt8.ofNat x] = bs ++ cat (zs.take (k + 1))) := by have := hall.out; rw [enc_lo (by omega)] at this; exact this
          go_wp2_with (at_builtin; refine wpList_append_b _ rfl (.tmp 26) (.tmp 29) rfl base (.slice A pre.length c) pre.length pre rfl On.out rfl Rn.out hnb (by have := hb.out; simp; omega) ?_; intro v6 w6 hown6 hg6 _; have st6 : Hid (ApAt base w bs zs v6 (.int .i64 ((k + 1 : Nat) : Int)) w6) := ⟨k + 1, rfl, hk1.out, by rw [← hfin.out]; unfold RowB; rw [List.length_append]; exact hown6, hg.out.trans (Gu.of_row ((World.grownBy_alloc _ _ _).trans hg6) ho.out), by have := hg6.size; simp at this; have := hb.out; omega⟩; clear hown6 hg6)
          go_roundw
          case rel => exact st6.out
          case measure => simp [intOf]; omega
    · have F : Hid (ApTo base w (bs ++ cat zs) (.returned u0) w3) := by
        have h2 : zs.take k = zs := List.take_of_length_le (by have := hl'.out; omega)
        have h1 := hrow.out
        rw [h2] at h1
        exact ⟨u0, rfl, h1, hgu.out, hbs.out⟩
      go_wp2
      go_ret
      exact F.out
set_option maxHeartbeats 3200000 in
theorem append64_any (base : Nat) (w : World) (v : Value) (bs : Bs) (ho : RowB w base v bs) (hB : base ≤ w.heap.size) (ad : Addr) (n : Nat) (zs : List Int) (hl : zs.length = n) (hs : Ns base w ad zs) (hz : ∀ z ∈ zs, 0 ≤ z ∧ z ≤ 4000000000000000000) (hn : bs.length ≤ 100000) (hm : n ≤ 100) :
    Calls Tryz.prog 228 #[v, .slice (some ad) n n] w (ApTo base w (bs ++ cat zs)) := by
  have st : Hid (ApAt base w bs zs v (.int .i64 0) w) := ⟨0, rfl, Nat.zero_le _, by simpa [cat] using ho, Gu.refl _ _, hB⟩
  have hl' := Lib.hid hl
  have hs' := Lib.hid hs
  have hz' := Lib.hid hz
  replace hB := Lib.hid hB
  clear hl hs hz ho
  go_enter Tryz.func228, Tryz.ntmps228
  go_wp2
  go_loopw [0, 10] (fun v i wr => ApAt base w bs zs v i wr) (fun _ i _ => n - (intOf i).toNat)
  case atStart => exact st.out
  case round =>
    obtain ⟨w3, e3⟩ : ∃ x, x = wr := ⟨_, rfl⟩
    subst e3
    obtain ⟨k, rfl, hk, hrow, hgu, hbs⟩ := hrel
    replace hrow := Lib.hid hrow
    replace hgu := Lib.hid hgu
    replace hk := Lib.hid hk
    replace hbs := Lib.hid hbs
    by_cases hlt : k < n
    · obtain ⟨z, hzk⟩ : ∃ z, zs[k]? = some z := ⟨_, List.getElem?_eq_getElem (by have := hl'.out; omega)⟩
      have q := (hs'.out.gu hgu.out).at_ k z hzk
      obtain ⟨z0, z1⟩ := hz'.out z (List.mem_of_getElem? hzk)
      have hcl : (bs ++ cat (zs.take k)).length ≤ 110000 := by
        rw [List.length_append]
        have h1 := cat_len (zs.take k) (fun y hy => hz'.out y (List.mem_of_mem_take hy))
        have h2 : (zs.take k).length ≤ 100 := by rw [List.length_take]; have := hl'.out; omega
        omega
      have hel := encI_len z (by omega) (by omega)
      have hall : Hid (bs ++ cat (zs.take (k + 1)) = (bs ++ cat (zs.take k)) ++ Pk.encI z) := by show _ = _; rw [cat_snoc hzk, List.append_assoc]
      have st2 : Hid (InAt base w (bs ++ cat (zs.take (k + 1))) u0 (.int .u64 (z * 2)) w3) := by
        rw [zz_pos z0]
        exact ⟨zz z, _, rfl, zz_lt z (by omega) (by omega), hrow.out, hall.out.symm, hgu.out, hbs.out⟩
      have hAl : Hid ((bs ++ cat (zs.take (k + 1))).length ≤ 110010) := by show _ ≤ _; rw [hall.out, List.length_append]; omega
      have hk1 : Hid (k + 1 ≤ zs.length) := by have := hl'.out; show _ ≤ _; omega
      clear hzk hcl hel hrow hgu hbs hall
      go_wp2_with fail
      refine (fold_any _ z z0 z1).mono ?_
      rintro e w' ⟨rfl, rfl⟩
      clear z0 z1 q
      go_wp2_with fail
      go_loopw [0, 7] (fun v u wr => InAt base w (bs ++ cat (zs.take (k + 1))) v u wr) (fun _ u _ => (intOf u).toNat)
      case atStart => exact st2.out
      case round =>
        clear st2
        obtain ⟨x, pre, rfl, hx, ho, hall, hg, hb⟩ := hrel
        obtain ⟨A, c, rfl⟩ := own_form ho
        have hpl : pre.length ≤ 110010 := by
          have h1 := hAl.out
          rw [← hall, List.length_append] at h1
          omega
        replace hx := Lib.hid hx
        replace ho := Lib.hid ho
        replace hall := Lib.hid hall
        replace hg := Lib.hid hg
        replace hb := Lib.hid hb
        have hnb : pre.length + 1 ≤ 140737488355328 := by omega
        by_cases hgt : 127 < x
        · have Rn : Hid _ := rb_one wr _ _ (byte_hi x)
          have On : Hid _ := ho.out.alloc (.cells #[.int .u8 (bits .or .u8 ((x : Int) % 256) 128)] 5)
          go_wp2_with (at_builtin; refine wpList_append_b _ rfl (.tmp 20) (.tmp 24) rfl base (.slice A pre.length c) pre.length pre rfl On.out rfl Rn.out hnb (by have := hb.out; simp; omega) ?_; intro v6 w6 hown6 hg6 _; have st6 : Hid (InAt base w (bs ++ cat (zs.take (k + 1))) v6 (.int .u64 ((x : Int) / 128)) w6) := in_next hgt hx.out hall.out hg.out hb.out ho.out hown6 hg6; clear hown6 hg6)
          go_roundw
          case rel => exact st6.out
          case measure => simp [intOf]; omega
        · have Rn : Hid _ := rb_one wr _ _ (byte_lo x (by omega))
          have On : Hid _ := ho.out.alloc (.cells #[.int .u8 (x : Int)] 5)
          have hfin : Hid (pre ++ [UInt8.ofNat x] = bs ++ cat (zs.take (k + 1))) := by have := hall.out; rw [enc_lo (by omega)] at this; exact this
          go_wp2_with (at_builtin; refine wpList_append_b _ rfl (.tmp 26) (.tmp 29) rfl base (.slice A pre.length c) pre.length pre rfl On.out rfl Rn.out hnb (by have := hb.out; simp; omega) ?_; intro v6 w6 hown6 hg6 _; have st6 : Hid (ApAt base w bs zs v6 (.int .i64 ((k + 1 : Nat) : Int)) w6) := ⟨k + 1, rfl, hk1.out, by rw [← hfin.out]; unfold RowB; rw [List.length_append]; exact hown6, hg.out.trans (Gu.of_row ((World.grownBy_alloc _ _ _).trans hg6) ho.out), by have := hg6.size; simp at this; have := hb.out; omega⟩; clear hown6 hg6)
          go_roundw
          case rel => exact st6.out
          case measure => simp [intOf]; omega
    · have F : Hid (ApTo base w (bs ++ cat zs) (.returned u0) w3) := by
        have h2 : zs.take k = zs := List.take_of_length_le (by have := hl'.out; omega)
        have h1 := hrow.out
        rw [h2] at h1
        exact ⟨u0, rfl, h1, hgu.out, hbs.out⟩
      go_wp2
      go_ret
      exact F.out
end In
end Go.Proofs.YtpkdigegkemogaaGreatDoor
