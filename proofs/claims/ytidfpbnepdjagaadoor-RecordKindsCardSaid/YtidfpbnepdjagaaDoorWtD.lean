/- want: put writes numbers one behind the other. -/
import Derived.Test.YtidfpbnepdjagaaDoorWtB
import Derived.Test.YtidfpbnepdjagaaDoorPk7
namespace Go.Proofs.YtidfpbnepdjagaaDoor
open Go.RowKit Go.Proofs.YtidfpbnepdjagaaDoor.Pk
namespace Wt

def I (v : Int) : Prop := -9223372036854775808 ≤ v ∧ v ≤ 9223372036854775807
/-- Numbers as bytes, one behind the other. -/
def cat (zs : List Int) : List UInt8 := zs.flatMap encI
theorem cat_nil : cat [] = [] := rfl
theorem cat_cons (z : Int) (zs : List Int) : cat (z :: zs) = encI z ++ cat zs := by simp [cat]
theorem cat_app (a b : List Int) : cat (a ++ b) = cat a ++ cat b := by simp [cat]
theorem cat_len (zs : List Int) (h : ∀ z ∈ zs, I z) : (cat zs).length ≤ 10 * zs.length := by
  induction zs with
  | nil => simp [cat]
  | cons z zs ih =>
    rw [cat_cons, List.length_append]
    have h1 := h z (by simp)
    have := encI_len z h1.1 h1.2
    have := ih (fun y hy => h y (by simp [hy]))
    simp only [List.length_cons]
    omega
theorem cat_snoc {zs : List Int} {k : Nat} {z : Int} (h : zs[k]? = some z) : cat (zs.take (k + 1)) = cat (zs.take k) ++ encI z := by
  obtain ⟨hl, rfl⟩ := List.getElem?_eq_some_iff.1 h
  rw [List.take_succ_eq_append_getElem hl, cat_app]
  simp [cat]

/-- Numbers that lie in a block of a kind of its own. -/
structure Ns (w : World) (ad : Addr) (zs : List Int) : Prop where
  blk : ∃ (cs : Array Value) (t : TypeId), w.heap[ad.block]? = some (Obj.cells cs t (0, 0)) ∧ t ≠ 49 ∧ t ≠ 31 ∧ t ≠ 5
  at_ : ∀ (j : Nat) (z : Int), zs[j]? = some z → w.cell? (ad.add j) = some (.int .i64 z)
theorem Ns.oth {w w' : World} {ad : Addr} {zs : List Int} (h : Ns w ad zs) (k : Oth w w') : Ns w' ad zs := by
  obtain ⟨⟨cs, t, hb, h1, h2, h3⟩, hc⟩ := h
  have e := k _ cs t hb h1 h2 h3
  exact ⟨⟨cs, t, e.trans hb, h1, h2, h3⟩, fun j z hj => (World.cell?_of_block (by rw [adr_block]; exact e)).trans (hc j z hj)⟩

def PtAt (w : World) (p : Nat) (bs : List UInt8) (zs : List Int) (i : Value) (wr : World) : Prop := ∃ k : Nat, i = .int .i64 k ∧ k ≤ zs.length ∧ WrTo w p (bs ++ cat (zs.take k)) wr
set_option maxHeartbeats 800000 in
theorem puti (p : Nat) (w : World) (bs : List UInt8) (h : Wr w p bs) (ad : Addr) (n : Nat) (zs : List Int) (hl : zs.length = n) (hs : Ns w ad zs) (hz : ∀ z ∈ zs, I z) (hn : bs.length ≤ 1000) (hm : n ≤ 100) :
    Calls Tryd.prog 47 #[.pointer (some ⟨p, 0, none⟩), .slice (some ad) n n] w fun e w' => e = .returned (.tuple #[]) ∧ WrTo w p (bs ++ cat zs) w' := by
  have st : Hid (PtAt w p bs zs (.int .i64 0) w) := ⟨0, rfl, Nat.zero_le _, by simpa [cat] using h, Below.refl _ _, Oth.refl _⟩
  have L := Lib.hid (cat_len zs hz)
  have hl' := Lib.hid hl
  have hs' := Lib.hid hs
  have hz' := Lib.hid hz
  clear h hl hs hz
  go_enter Tryd.func47, Tryd.ntmps47
  go_wp2
  go_loopw [8] (fun i wr => PtAt w p bs zs i wr) (fun i _ => n - (intOf i).toNat)
  case atStart => exact st.out
  case round =>
    obtain ⟨k, rfl, hk, hw⟩ := hrel
    replace hw := Lib.hid hw
    replace hk := Lib.hid hk
    by_cases hlt : k < n
    · obtain ⟨z, hzk⟩ : ∃ z, zs[k]? = some z := ⟨_, List.getElem?_eq_getElem (by have := hl'.out; omega)⟩
      have q := (hs'.out.oth hw.out.ot).at_ k z hzk
      have hI := hz'.out z (List.mem_of_getElem? hzk)
      have C : Hid (Calls Tryd.prog 16 #[.pointer (some ⟨p, 0, none⟩), .int .i64 z] wr fun e w' => e = .returned (.tuple #[]) ∧ WrTo w p (bs ++ cat (zs.take (k + 1))) w') := by
        refine (wint_any p wr _ hw.out.wr z hI.1 hI.2 ?_).mono ?_
        · rw [List.length_append]
          have h1 := cat_len (zs.take k) (fun y hy => hz'.out y (List.mem_of_mem_take hy))
          have h2 : (zs.take k).length ≤ 100 := by rw [List.length_take]; have := hl'.out; omega
          omega
        · rintro e w' ⟨rfl, h5⟩
          rw [cat_snoc hzk, ← List.append_assoc]
          exact ⟨rfl, hw.out.trans h5⟩
      have hk1 : k + 1 ≤ zs.length := by have := hl'.out; omega
      replace hk1 := Lib.hid hk1
      clear hzk hI
      go_wp2_with (go_at_call 16; ((with_reducible refine C.out.mono ?_); rintro e w' ⟨rfl, hw2⟩))
      go_roundw
      case rel => exact ⟨k + 1, by simp, hk1.out, hw2⟩
      case measure => simp [intOf]; omega
    · have F : Hid (WrTo w p (bs ++ cat zs) wr) := by
        have h1 := hw.out
        have h2 : zs.take k = zs := List.take_of_length_le (by have := hl'.out; omega)
        rw [h2] at h1
        exact h1
      have hkn : k = n := by have := hk.out; have := hl'.out; omega
      go_wp2_with fail
      go_end0
      exact ⟨rfl, F.out⟩
set_option maxHeartbeats 800000 in
theorem puti64 (p : Nat) (w : World) (bs : List UInt8) (h : Wr w p bs) (ad : Addr) (n : Nat) (zs : List Int) (hl : zs.length = n) (hs : Ns w ad zs) (hz : ∀ z ∈ zs, I z) (hn : bs.length ≤ 1000) (hm : n ≤ 100) :
    Calls Tryd.prog 48 #[.pointer (some ⟨p, 0, none⟩), .slice (some ad) n n] w fun e w' => e = .returned (.tuple #[]) ∧ WrTo w p (bs ++ cat zs) w' := by
  have st : Hid (PtAt w p bs zs (.int .i64 0) w) := ⟨0, rfl, Nat.zero_le _, by simpa [cat] using h, Below.refl _ _, Oth.refl _⟩
  have L := Lib.hid (cat_len zs hz)
  have hl' := Lib.hid hl
  have hs' := Lib.hid hs
  have hz' := Lib.hid hz
  clear h hl hs hz
  go_enter Tryd.func48, Tryd.ntmps48
  go_wp2
  go_loopw [8] (fun i wr => PtAt w p bs zs i wr) (fun i _ => n - (intOf i).toNat)
  case atStart => exact st.out
  case round =>
    obtain ⟨k, rfl, hk, hw⟩ := hrel
    replace hw := Lib.hid hw
    replace hk := Lib.hid hk
    by_cases hlt : k < n
    · obtain ⟨z, hzk⟩ : ∃ z, zs[k]? = some z := ⟨_, List.getElem?_eq_getElem (by have := hl'.out; omega)⟩
      have q := (hs'.out.oth hw.out.ot).at_ k z hzk
      have hI := hz'.out z (List.mem_of_getElem? hzk)
      have C : Hid (Calls Tryd.prog 16 #[.pointer (some ⟨p, 0, none⟩), .int .i64 z] wr fun e w' => e = .returned (.tuple #[]) ∧ WrTo w p (bs ++ cat (zs.take (k + 1))) w') := by
        refine (wint_any p wr _ hw.out.wr z hI.1 hI.2 ?_).mono ?_
        · rw [List.length_append]
          have h1 := cat_len (zs.take k) (fun y hy => hz'.out y (List.mem_of_mem_take hy))
          have h2 : (zs.take k).length ≤ 100 := by rw [List.length_take]; have := hl'.out; omega
          omega
        · rintro e w' ⟨rfl, h5⟩
          rw [cat_snoc hzk, ← List.append_assoc]
          exact ⟨rfl, hw.out.trans h5⟩
      have hk1 : k + 1 ≤ zs.length := by have := hl'.out; omega
      replace hk1 := Lib.hid hk1
      clear hzk hI
      go_wp2_with (go_at_call 16; ((with_reducible refine C.out.mono ?_); rintro e w' ⟨rfl, hw2⟩))
      go_roundw
      case rel => exact ⟨k + 1, by simp, hk1.out, hw2⟩
      case measure => simp [intOf]; omega
    · have F : Hid (WrTo w p (bs ++ cat zs) wr) := by
        have h1 := hw.out
        have h2 : zs.take k = zs := List.take_of_length_le (by have := hl'.out; omega)
        rw [h2] at h1
        exact h1
      have hkn : k = n := by have := hk.out; have := hl'.out; omega
      go_wp2_with fail
      go_end0
      exact ⟨rfl, F.out⟩
end Wt
end Go.Proofs.YtidfpbnepdjagaaDoor
