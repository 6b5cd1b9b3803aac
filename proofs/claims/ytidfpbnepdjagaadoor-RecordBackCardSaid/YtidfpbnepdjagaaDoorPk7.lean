/- The Writer's calls that the document lists: what each puts (chapter 1, promise 1.1). -/
import Derived.Test.YtidfpbnepdjagaaDoorPk6
namespace Go.Proofs.YtidfpbnepdjagaaDoor
open Go.RowKit
namespace Pk

theorem xor_u64_zero (x : Nat) (h : x < 18446744073709551616) : bits .xor .u64 (x : Int) 0 = x := by
  have := u64_xor_nat x 0 h (by omega)
  rwa [Nat.xor_zero] at this
theorem xor_u64_ones (x : Nat) (h : x < 18446744073709551616) : bits .xor .u64 (x : Int) 18446744073709551615 = ((18446744073709551615 - x : Nat) : Int) := by
  have h1 : BitVec.ofInt 64 18446744073709551615 = BitVec.allOnes 64 := by decide
  have h2 : (BitVec.ofInt 64 (x : Int)).toNat = x := by rw [BitVec.ofInt_natCast, BitVec.toNat_ofNat]; exact Nat.mod_eq_of_lt (by omega)
  show IntKind.u64.wrap ((BitVec.ofInt 64 (x : Int) ^^^ BitVec.ofInt 64 18446744073709551615).toNat : Int) = _
  rw [h1, BitVec.xor_allOnes, BitVec.toNat_not, h2, IntKind.wrap_u64]
  omega
theorem fold_eq (v : Int) (h1 : -9223372036854775808 ≤ v) (h2 : v ≤ 9223372036854775807) :
    bits .xor .u64 (IntKind.u64.wrap (IntKind.u64.wrap v * 2)) (IntKind.u64.wrap (v / 9223372036854775808)) = ((zz v : Nat) : Int) := by
  by_cases h : 0 ≤ v
  · have e1 : IntKind.u64.wrap (IntKind.u64.wrap v * 2) = ((zz v : Nat) : Int) := by rw [IntKind.wrap_u64, IntKind.wrap_u64]; unfold zz; rw [if_pos h]; omega
    have e2 : IntKind.u64.wrap (v / 9223372036854775808) = 0 := by rw [IntKind.wrap_u64]; omega
    rw [e1, e2, xor_u64_zero _ (zz_lt v h1 h2)]
  · have e1 : IntKind.u64.wrap (IntKind.u64.wrap v * 2) = (((2 * v + 18446744073709551616).toNat : Nat) : Int) := by rw [IntKind.wrap_u64, IntKind.wrap_u64]; omega
    have e2 : IntKind.u64.wrap (v / 9223372036854775808) = 18446744073709551615 := by rw [IntKind.wrap_u64]; omega
    rw [e1, e2, xor_u64_ones _ (by omega)]
    unfold zz
    rw [if_neg h]; omega
theorem ret_u64 {a b : Int} (h : a = b) : Ending.returned (.int .u64 a) = .returned (.int .u64 b) := by rw [h]
set_option maxHeartbeats 400000 in
theorem fold_any (v : Int) (w : World) (h1 : -9223372036854775808 ≤ v) (h2 : v ≤ 9223372036854775807) :
    Calls Tryd.prog 44 #[.int .i64 v] w fun e w' => e = .returned (.int .u64 ((zz v : Nat) : Int)) ∧ w = w' := by
  go_enter Tryd.func44, Tryd.ntmps44
  go_wp2
  go_ret
  exact ⟨ret_u64 (fold_eq v h1 h2), rfl⟩

theorem byte_lo (x : Nat) (h : x < 128) : (x : Int) = ((UInt8.ofNat x).toNat : Int) := by rw [ofNat_toNat (by omega)]
set_option maxRecDepth 10000 in
theorem or128 : ∀ n : Fin 256, (n.val ||| 128) = n.val % 128 + 128 := by decide
theorem byte_hi (x : Nat) : bits .or .u8 ((x : Int) % 256) 128 = ((UInt8.ofNat (x % 128 + 128)).toNat : Int) := by
  rw [ofNat_toNat (by omega)]
  have e : ((x : Int) % 256) = ((x % 256 : Nat) : Int) := by omega
  have h := u8_or_nat (x % 256) 128 (by omega) (by omega)
  rw [e]
  have d' := or128 ⟨x % 256, by omega⟩
  simp only at d'
  rw [d'] at h
  rw [show ((128 : Nat) : Int) = 128 from rfl] at h
  rw [h]; omega
theorem byte_any (v : Int) : v % 256 = ((UInt8.ofNat (v % 256).toNat).toNat : Int) := by rw [ofNat_toNat (by omega)]; omega

theorem rb_one (W : World) (v : Int) (c : UInt8) (h : v = (c.toNat : Int)) : Rb (W.alloc (.cells #[.int .u8 v] 5)) (fun g => g = W.heap.size) (some ⟨W.heap.size, 0, none⟩) 1 [c] :=
  ⟨rfl, fun _ => ⟨_, rfl, rfl, fun j x hj => by
    match j, hj with
    | 0, hj =>
      simp at hj
      subst hj
      rw [Addr.add_zero', h]
      exact one_at (heap_alloc_new _ _)⟩⟩
theorem Wr.alloc {w : World} {p : Nat} {bs : List UInt8} (h : Wr w p bs) (o : Obj) : Wr (w.alloc o) p bs := h.below ((Below.refl _ _).alloc (Nat.le_refl _) _)

/-- What a Writer's call leaves: the bytes bs are there. -/
structure WrTo (w : World) (p : Nat) (bs : List UInt8) (w' : World) : Prop where
  wr : Wr w' p bs
  be : Below p w w'
  ot : Oth w w'
theorem WrTo.trans {a b c : World} {p : Nat} {xs ys : List UInt8} (h : WrTo a p xs b) (k : WrTo b p ys c) : WrTo a p ys c := ⟨k.wr, h.be.trans k.be, h.ot.trans k.ot⟩

/-- 'add' of one byte that was laid for it. -/
theorem add_one (p : Nat) (W : World) (bs : List UInt8) (h : Wr W p bs) (v : Int) (c : UInt8) (hv : v = (c.toNat : Int)) (hn : bs.length ≤ 140737488355327) :
    Calls Tryd.prog 45 #[.pointer (some ⟨p, 0, none⟩), .slice (some ⟨W.heap.size, 0, none⟩) 1 1] (W.alloc (.cells #[.int .u8 v] 5)) fun e w' => e = .returned (.tuple #[]) ∧ WrTo W p (bs ++ [c]) w' := by
  refine (add_any p _ bs (h.alloc _) (some ⟨W.heap.size, 0, none⟩) 1 1 [c] (rb_one W v c hv) (fun g hg => by subst hg; have := h.lt; simp; omega) (by omega)).mono ?_
  rintro e w' ⟨rfl, h1, h2, h3⟩
  exact ⟨rfl, h1, ((Below.refl p W).alloc (Nat.le_of_lt h.lt) _).trans h2, (Oth.below ((Below.refl _ W).alloc (Nat.le_refl _) _)).trans h3⟩

def PutAt (w : World) (p : Nat) (all : List UInt8) (n : Nat) (u : Value) (wr : World) : Prop :=
  ∃ (x : Nat) (pre : List UInt8), u = .int .u64 x ∧ x < 18446744073709551616 ∧ WrTo w p pre wr ∧ pre ++ enc x = all ∧ all.length ≤ n

set_option maxHeartbeats 800000 in
set_option maxRecDepth 100000 in
theorem wint_any (p : Nat) (w : World) (bs : List UInt8) (h : Wr w p bs) (v : Int) (h1 : -9223372036854775808 ≤ v) (h2 : v ≤ 9223372036854775807) (hn : bs.length ≤ 140737488355317) :
    Calls Tryd.prog 16 #[.pointer (some ⟨p, 0, none⟩), .int .i64 v] w fun e w' => e = .returned (.tuple #[]) ∧ WrTo w p (bs ++ encI v) w' := by
  have F := Lib.hid (fold_any v w h1 h2)
  have H := Lib.hid h
  have Z := Lib.hid (zz_lt v h1 h2)
  have L := Lib.hid (encI_len v h1 h2)
  clear h
  go_enter Tryd.func16, Tryd.ntmps16
  go_wp2_with (go_at_call 44; go_loud ((with_reducible refine F.out.mono ?_); rintro e w' ⟨rfl, rfl⟩))
  go_loopw [4] (fun u wr => PutAt w p (bs ++ encI v) 140737488355327 u wr) (fun u _ => (intOf u).toNat)
  case atStart => exact ⟨zz v, bs, rfl, Z.out, ⟨H.out, Below.refl _ _, Oth.refl _⟩, rfl, by rw [List.length_append]; have := L.out; omega⟩
  case round =>
    obtain ⟨x, pre, rfl, hx, hw, hall, hlen⟩ := hrel
    have hx' := Lib.hid hx
    have hw' := Lib.hid hw
    have hall' := Lib.hid hall
    have hpre : Hid (pre.length ≤ 140737488355326) := by
      have := enc_ne x
      rw [← hall, List.length_append] at hlen
      show _ ≤ _
      omega
    have hlen' := Lib.hid hlen
    clear hx hw hall hlen
    by_cases hgt : 127 < x
    · have A1 := Lib.hid (add_one p wr pre hw'.out.wr _ _ (byte_hi x) (by have := hpre.out; omega))
      go_wp2_with (go_at_call 45; go_loud ((with_reducible refine A1.out.mono ?_); rintro e w' ⟨rfl, hw2⟩))
      go_roundw
      case rel =>
        refine ⟨x / 128, pre ++ [UInt8.ofNat (x % 128 + 128)], by simp, by have := hx'.out; omega, hw'.out.trans hw2, ?_, hlen'.out⟩
        have e := enc_hi (u := x) (by omega)
        rw [← hall'.out, e, List.append_assoc]; rfl
      case measure => simp [intOf]; omega
    · have A1 := Lib.hid (add_one p wr pre hw'.out.wr _ _ (byte_lo x (by omega)) (by have := hpre.out; omega))
      go_wp2_with (go_at_call 45; ((with_reducible refine A1.out.mono ?_); rintro e w' ⟨rfl, hw2⟩))
      go_end0
      refine ⟨rfl, ?_⟩
      have h3 := hw'.out.trans hw2
      rw [← hall'.out, enc_lo (by omega)]
      exact h3

theorem str_size (ys : List UInt8) : (str ys).size = ys.length := by simp [str, ByteArray.size]
theorem rb_str (W : World) (ys : List UInt8) (c : Nat) (fr : Nat × Nat) : Rb (W.alloc (.cells (bytesRow (str ys) c) 5 fr)) (fun g => g = W.heap.size) (some ⟨W.heap.size, 0, none⟩) ys.length ys :=
  ⟨rfl, fun _ => ⟨_, rfl, rfl, fun j x hj => by
    rw [Addr.add_lit, Nat.zero_add, World.cell?_alloc_mark]
    have hl : j < ys.length := (List.getElem?_eq_some_iff.1 hj).1
    unfold bytesRow
    rw [Array.getElem?_append_left (by simp [str]; omega)]
    simp [str, hj]⟩⟩

set_option maxHeartbeats 800000 in
theorem wtext_any (p : Nat) (w : World) (bs : List UInt8) (h : Wr w p bs) (ys : List UInt8) (hn : bs.length + ys.length ≤ 140737488355300) :
    Calls Tryd.prog 46 #[.pointer (some ⟨p, 0, none⟩), .string (str ys)] w fun e w' => e = .returned (.tuple #[]) ∧ WrTo w p (bs ++ encT ys) w' := by
  have hz := str_size ys
  have hlen : (str ys).size ≤ 9223372036854775807 := by omega
  have I := Lib.hid (wint_any p w bs h ((str ys).size : Int) (by omega) (by omega) (by omega))
  have L : Hid (bs ++ encT ys = (bs ++ encI ((str ys).size : Int)) ++ ys) := by unfold Hid; rw [hz, encT, List.append_assoc]
  have L2 : Hid ((bs ++ encI ((str ys).size : Int)).length + (str ys).size ≤ 140737488355328) := by
    have := encI_len ((str ys).size : Int) (by omega) (by omega)
    unfold Hid
    rw [List.length_append]; omega
  replace hz := Lib.hid hz
  clear h
  go_enter Tryd.func46, Tryd.ntmps46
  go_wp2_with fail
  refine I.out.mono ?_
  rintro e w1 ⟨rfl, hw1⟩
  have hw1' := Lib.hid hw1
  have hconv := run_bytes_of_string (P := Tryd.prog) w1 9 31 5 (str ys) Tryd.underlying9 Tryd.underlying31 Tryd.underlying5
  have A1 := Lib.hid (fun c fr => add_any p (w1.alloc (.cells (bytesRow (str ys) c) 5 fr)).drew _ (hw1.wr.below ((Below.refl _ w1).alloc (Nat.le_refl _) _).drew) (T := fun g => g = w1.heap.size) (some ⟨w1.heap.size, 0, none⟩) (str ys).size c ys
    (by have := rb_str w1 ys c fr; rw [← hz.out] at this; exact ⟨this.len, this.at_⟩) (fun g hg => by have := hw1.wr.lt; subst hg; exact ⟨by show w1.heap.size ≠ p; omega, by simp⟩) L2.out)
  clear hw1
  go_wp2_with (go_at_call 45; go_loud ((with_reducible refine (A1.out _ _).mono ?_); rintro e w' ⟨rfl, hw2, hb2, ho2⟩))
  go_end0
  refine ⟨rfl, ?_⟩
  rw [L.out]
  exact ⟨hw2, hw1'.out.be.trans (((Below.refl p w1).alloc (Nat.le_of_lt hw1'.out.wr.lt) _).drew.trans hb2), hw1'.out.ot.trans ((Oth.below (((Below.refl _ w1).alloc (Nat.le_refl _) _).drew)).trans ho2)⟩
end Pk
end Go.Proofs.YtidfpbnepdjagaaDoor
