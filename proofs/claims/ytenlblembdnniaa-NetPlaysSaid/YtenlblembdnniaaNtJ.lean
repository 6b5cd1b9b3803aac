/- told. -/
import Derived.Test.YtenlblembdnniaaNtI
import Derived.Lib.SlBytesConst
namespace Go.Proofs.Ytenlblembdnniaa
set_option maxRecDepth 100000
open Go.RowKit
open Go.Proofs.Ytenlblembdnniaa.Pk (Rb adr_block one_at one_free one_set lt_some grown_set grown_trans below_grown grown_refl)
namespace Nt

theorem LnTo.be {B w w' : World} {q most : Nat} {us : List Bool} {L : List Ms} {X : Nat → Prop} (h : LnTo B w q most us L X w') : Below B.heap.size B w' := h.1.be
theorem Ln.more {B w w' : World} {q most : Nat} {us : List Bool} {L : List Ms} {X : Nat → Prop} (h : Ln B w q most us L X) (hb : Below w.heap.size w w') : Ln B w' q most us L (fun g => X g ∨ (w.heap.size ≤ g ∧ g < w'.heap.size)) := by
  obtain ⟨fp, D, hf⟩ := h.nt
  refine ⟨⟨fp, D.below hb, fun g hg => ⟨(hf g hg).1, fun e => ?_⟩⟩, h.be.trans (hb.mono h.be.size), fun g hg => ?_⟩
  · rcases e with e | ⟨e, _⟩
    · exact (hf g hg).2 e
    · have := D.size g hg
      omega
  · rcases hg with hg | ⟨_, hg⟩
    · exact Nat.lt_of_lt_of_le (h.xs g hg) hb.size
    · exact hg
/-- One byte in a block of its own. -/
theorem rb_one (w : World) (b : Int) (x : UInt8) (hb : b = (x.toNat : Int)) (fr : Nat × Nat) : Rb (w.alloc (.cells #[.int .u8 b] 5 fr)) (fun g => g = w.heap.size) (some ⟨w.heap.size, 0, none⟩) 1 [x] :=
  ⟨rfl, fun _ => ⟨_, rfl, rfl, fun j c hj => by
    rw [Addr.add_lit, Nat.zero_add, World.cell?_alloc_mark]
    match j, hj with
    | 0, hj => simp at hj; subst hj; rw [hb]; rfl
    | j + 1, hj => simp at hj⟩⟩
def mx : Ms := ⟨0, 1, [120]⟩
set_option maxHeartbeats 6400000 in
theorem told_any (w : World) : Calls Try.prog 8 #[] w fun e w' => e = .returned (.bool true) ∧ Below w.heap.size w w' := by
  have kc := fun (w : World) (C : Array Value) (n c : Nat) => Lib.run_convert_bytes_const (P := Try.prog) w 32 5 C n c Try.underlying32 Try.underlying5
  have NW := Lib.hid (new_yes w 3 2 (by decide) (by decide) (by decide))
  go_enter Try.func8, Try.ntmps8
  go_wp2_with fail
  refine NW.out.mono ?_
  rintro e w1 ⟨q, rfl, V1⟩
  have ba : Below w1.heap.size w1 (w1.alloc (.cells #[.int .u8 120] 5 (1, 2))) := (Below.refl _ _).alloc (Nat.le_refl _) _
  have C1 := Lib.hid (ln_send (V1.below ba) 0 1 (c := 1) (rb_one w1 120 120 rfl (1, 2)) (by decide))
  clear NW V1 ba
  go_wp2_with fail
  refine C1.out.mono ?_
  rintro e w2 ⟨rfl, L2⟩
  have hs : sendS (List.replicate 3 true) 2 [] ⟨0, 1, [120]⟩ = [mx] := rfl
  have hc : sendC (List.replicate 3 true) 2 [] 0 1 = 0 := rfl
  rw [hs] at L2
  rw [hc]
  have C2 := Lib.hid (ln_double L2.1 0)
  clear C1 L2 hs hc
  go_wp2_with fail
  refine C2.out.mono ?_
  rintro e w3 ⟨rfl, L3⟩
  have hs : dblS 2 [mx] 0 = [mx, mx] := rfl
  have hc : dblC 2 [mx] 0 = 0 := rfl
  rw [hs] at L3
  rw [hc]
  have C3 := Lib.hid (ln_send L3.1 0 2 (A := none) (c := 0) (T := fun _ => False) Rb.none_ (by decide))
  clear C2 L3 hs hc
  go_wp2_with fail
  refine C3.out.mono ?_
  rintro e w4 ⟨rfl, L4⟩
  have hs : sendS (List.replicate 3 true) 2 [mx, mx] ⟨0, 2, []⟩ = [mx, mx] := rfl
  have hc : sendC (List.replicate 3 true) 2 [mx, mx] 0 2 = 4 := rfl
  rw [hs] at L4
  rw [hc]
  have C4 := Lib.hid (ln_take L4.1 0)
  clear C3 L4 hs hc
  go_wp2_with fail
  refine C4.out.mono ?_
  rintro e w5 ⟨A, c, rfl, R5, _, _, V5, _⟩
  have hs : tkR (List.replicate 3 true) [mx, mx] 0 = (mx, 0) := rfl
  have ho : outS [mx, mx] 0 = [mx] := rfl
  rw [hs] at R5 ⊢
  rw [ho] at V5
  have z1 : mx.fr = 0 := rfl
  have z2 : mx.to_ = 1 := rfl
  have z3 : mx.tx.length = 1 := rfl
  have z4 : mx.tx = [120] := rfl
  simp only [z1, z2, z3]
  rw [z3, z4] at R5
  have R5h := Lib.hid (R5.keep (T' := fun g => g < w.heap.size ∨ w4.heap.size ≤ g ∧ g < w5.heap.size) (fun _ _ => rfl) (fun g hg => .inr hg))
  have C5 := Lib.hid (ln_up V5 1 false)
  clear C4 V5 hs ho z1 z2 z3 z4 R5
  go_wp2_with fail
  refine C5.out.mono ?_
  rintro e w6 ⟨rfl, V6, k6, _⟩
  have hs : upS (List.replicate 3 true) 1 false = [true, false, true] := rfl
  have hc : upC (List.replicate 3 true) 1 = 0 := rfl
  rw [hs] at V6
  rw [hc]
  have R6 := Lib.hid (R5h.out.keep (w' := w6) k6 (fun _ h => h))
  have C6 := Lib.hid (ln_take V6 0)
  clear C5 V6 hs hc R5h k6
  go_wp2_with fail
  refine C6.out.mono ?_
  rintro e w7 ⟨A7, c7, rfl, _, _, _, V7, k7, _⟩
  have hs : tkR [true, false, true] [mx] 0 = (m0, 6) := rfl
  have ho : outS [mx] 0 = [] := rfl
  rw [hs]
  rw [ho] at V7
  have R7 : (convert 32 9 (.slice A 1 c)).run Try.prog w7 = .ok (.string ⟨#[120]⟩) w7 := str_run (R6.out.keep (w' := w7) k7 (fun _ h => h))
  have C7 := Lib.hid (ln_len V7)
  have C8 := Lib.hid (ln_is V7 1)
  have C9 := Lib.hid (ln_is V7 0)
  have C10 := Lib.hid (ln_to V7 0)
  have C11 := Lib.hid (ln_drop V7 0)
  have u1 : upE [true, false, true] 1 = false := rfl
  have u2 : upE [true, false, true] 0 = true := rfl
  have u3 : toE [] 0 = -1 := rfl
  have u4 : dropC [] 0 = 5 := rfl
  rw [u1] at C8
  rw [u2] at C9
  rw [u3] at C10
  rw [u4] at C11
  clear C6 V7 hs ho R6 k7 u1 u2 u3 u4
  go_wp2_with fail
  refine C7.out.mono ?_
  rintro e w8 ⟨rfl, rfl⟩
  clear C7
  go_wp2_with fail
  refine C8.out.mono ?_
  rintro e w8 ⟨rfl, rfl⟩
  clear C8
  go_wp2_with fail
  refine C9.out.mono ?_
  rintro e w8 ⟨rfl, rfl⟩
  clear C9
  go_wp2_with fail
  refine C10.out.mono ?_
  rintro e w8 ⟨rfl, rfl⟩
  clear C10
  go_wp2_with fail
  refine C11.out.mono ?_
  rintro e w8 ⟨rfl, L8⟩
  have E := Lib.hid L8.1.be
  clear C11 L8
  go_wp2
  go_ret
  exact ⟨rfl, E.out⟩
end Nt
end Go.Proofs.Ytenlblembdnniaa
