/- told: the few things of the document that each statement asks besides. -/
import Derived.Test.YtpkjeplhdnbihaaDkK
import Derived.Lib.SlBytesConst
import Derived.Laws.OwnMore
import Derived.OwnWalk
namespace Go.Proofs.Ytpkjeplhdnbihaa
open Go.RowKit
open Go.Proofs.Ytpkjeplhdnbihaa.Pk
namespace Dk

theorem rb_lit (W : World) (bs : Bs) (fr : Nat × Nat) : Rb (W.alloc (.cells (u8s bs).toArray 5 fr)) (fun g => g = W.heap.size) (some ⟨W.heap.size, 0, none⟩) bs.length bs :=
  ⟨rfl, fun _ => ⟨_, rfl, rfl, fun j c hj => by
    rw [Addr.add_lit, Nat.zero_add, cell_of_row _ _ _ _ _ _ (heap_alloc_new _ _)]
    simp [u8s, hj]⟩⟩
theorem below_alloc (W : World) (o : Obj) : Below W.heap.size W (W.alloc o) := (Below.refl _ _).alloc (Nat.le_refl _) _
def F1 : St := [([97], [97, 98, 99, 100, 101], 0)]
def F2 : St := [([97], [97, 98, 99, 100, 101], 5)]
def F3 : St := [([97], [97, 98, 99, 100, 101, 120, 121, 122], 5)]
def F4 : St := [([97], [97, 98, 99, 100, 101, 120], 6)]
def F5 : St := [([98], [97, 98, 99, 100, 101, 120], 6)]
theorem f1 : sApp 20 [] [97] [97, 98, 99, 100, 101] = (0, F1) := by decide
theorem f2 : sSync F1 [97] = (0, F2) := by decide
theorem f3 : sApp 20 F2 [97] [120, 121, 122] = (0, F3) := by decide
theorem f4 : sCrash 1 F3 = F4 := by decide
theorem f5 : sApp 20 F4 [97] (List.replicate 15 0) = (4, F4) := by decide
theorem f6 : sRen F4 [97] [98] = (0, F5) := by decide
theorem f7 : sSync F5 [97] = (5, F5) := by decide
theorem str_toList (l : List UInt8) : (str l).toList = l := ByteArray.toList_mk l
theorem f9 : look [97] F4 = some ([97, 98, 99, 100, 101, 120], 6) := by decide
theorem f10 : ((look [97] F4).elim 0 fun x => x.2) = 6 := by decide
theorem f11 : used F3 = 8 := by decide
theorem f12 : used [] = 0 := by decide
theorem f13 : (F5.map (·.1)).length = 1 := by decide
theorem u8_zeros (n : Nat) : List.replicate n (Value.int .u8 0) = u8s (List.replicate n 0) := by simp [u8s]
theorem f8 : sRem F5 [98] = (0, []) := by decide

set_option maxHeartbeats 3200000 in
set_option maxRecDepth 100000 in
theorem told_any (w : World) : Calls Try.prog 10 #[] w fun e w' => e = .returned (.bool true) ∧ Below w.heap.size w w' := by
  have N0 := Lib.hid (l_new w 20 (by omega) (Below.refl w.heap.size w))
  have kc := fun (w : World) (C : Array Value) (n c : Nat) => Lib.run_convert_bytes_const (P := Try.prog) w 31 5 C n c Try.underlying31 Try.underlying5
  go_enter Try.func10, Try.ntmps10
  go_wp2_with fail
  refine N0.out.mono ?_
  rintro e w1 ⟨p, rfl, V1⟩
  clear N0
  have V1a := V1.below (below_alloc w1 (.cells (u8s [97, 98, 99, 100, 101]).toArray 5 (5, 6)))
  have C1 := l_append V1a ⟨#[97]⟩ _ 5 5 _ (rb_lit w1 [97, 98, 99, 100, 101] (5, 6)) (fun g hg => by subst hg; simp) (by omega) (by simp)
  rw [show nm ⟨#[97]⟩ = [97] from rfl, f1] at C1
  replace C1 := Lib.hid C1
  clear V1a V1
  go_wp2_with fail
  refine C1.out.mono ?_
  rintro e w2 ⟨rfl, V2⟩
  have C2 := l_sync V2.1 ⟨#[97]⟩ (by decide) (by decide)
  rw [show nm ⟨#[97]⟩ = [97] from rfl, f2] at C2
  replace C2 := Lib.hid C2
  clear C1 V2
  go_wp2_with fail
  refine C2.out.mono ?_
  rintro e w3 ⟨rfl, V3⟩
  have V3a := V3.1.below (below_alloc w3 (.cells (u8s [120, 121, 122]).toArray 5 (3, 4)))
  have C3 := l_append V3a ⟨#[97]⟩ _ 3 3 _ (rb_lit w3 [120, 121, 122] (3, 4)) (fun g hg => by subst hg; simp) (by omega) (by decide)
  rw [show nm ⟨#[97]⟩ = [97] from rfl, f3] at C3
  replace C3 := Lib.hid C3
  clear C2 V3 V3a
  go_wp2_with fail
  refine C3.out.mono ?_
  rintro e w4 ⟨rfl, V4⟩
  have C4 := Lib.hid (l_copy V4.1 (by decide))
  clear C3 V4
  go_wp2_with fail
  refine C4.out.mono ?_
  rintro e w5 ⟨q, rfl, V5, Dq, b5⟩
  have C5 := l_crash V5 1 (by decide) (by omega) (by omega)
  rw [f4] at C5
  replace C5 := Lib.hid C5
  replace V5 := Lib.hid V5
  replace Dq := Lib.hid Dq
  clear C4 b5
  go_wp2_with fail
  refine C5.out.mono ?_
  rintro e w6 ⟨rfl, V6⟩
  have Dq6 : Disk w6 q 20 F3 (fun g => w4.heap.size ≤ g ∧ g < w5.heap.size) := Dq.out.keep V6.2.2 (fun g hg => V6.2.1 g (.inr hg))
  have C6 := l_read V6.1 ⟨#[97]⟩ (by decide)
  rw [show nm ⟨#[97]⟩ = [97] from rfl, f9] at C6
  replace C6 := Lib.hid C6
  replace V6 := Lib.hid V6.1
  replace Dq6 := Lib.hid Dq6
  clear C5 V5 Dq
  go_wp2_with fail
  refine C6.out.mono ?_
  rintro e w7 (⟨h, _⟩ | ⟨bs, k, v, h, rfl, ho7, b7⟩)
  · cases h
  obtain ⟨rfl, rfl⟩ : bs = [97, 98, 99, 100, 101, 120] ∧ k = 6 := by
    injection h with h
    injection h with h1 h2
    exact ⟨h1.symm, h2.symm⟩
  obtain ⟨A7, c7, rfl⟩ := own_form ho7
  have e6 : [97, 98, 99, 100, 101, (120 : UInt8)].length = 6 := rfl
  rw [e6] at ho7 ⊢
  clear e6
  have V7 : Hid (Live w w7 p 20 F4 _) := V6.out.below b7
  have Dq7 : Hid (Disk w7 q 20 F3 _) := Dq6.out.below b7
  have R7 : Rb w7 (fun _ => True) A7 6 [97, 98, 99, 100, 101, 120] := (Rb.of_own ho7).keep (fun _ _ => rfl) (fun _ _ => trivial)
  have hs7 := str_run (c := c7) R7
  have et := str_toList [97, 98, 99, 100, 101, 120]
  have C7 := l_synced V7.out ⟨#[97]⟩ (by decide)
  rw [show nm ⟨#[97]⟩ = [97] from rfl, f10] at C7
  replace C7 := Lib.hid C7
  clear C6 V6 Dq6 h ho7 b7 R7
  go_wp2_with fail
  refine C7.out.mono ?_
  rintro e w8 ⟨rfl, b8⟩
  have V8 : Hid (Live w w8 p 20 F4 _) := V7.out.below b8
  have C8 := d_used (Dq7.out.below b8)
  rw [f11] at C8
  replace C8 := Lib.hid C8
  clear C7 V7 Dq7 hs7 et b8
  go_wp2_with fail
  refine C8.out.mono ?_
  rintro e w9 ⟨rfl, rfl⟩
  clear C8
  obtain ⟨i0, hi, hz0, hz1, hz2⟩ := info_parts u8_info
  obtain ⟨wm, hrun, om, gm⟩ := run_make_full (P := Try.prog) w8 w8.heap.size 31 5 i0 (.int .u8 0) 1 Try.underlying31 hi hz0 hz1 .i64 .i64 15 (by rw [hz2]; omega) (by unfold maxLen; omega) (Nat.le_refl _)
  have em : (madeCells (Value.int .u8 0).cells (15 * 1)).toList = u8s (List.replicate 15 0) := by
    have := toList_madeCells_one (Value.int .u8 0) 15
    rw [u8_zeros] at this
    exact this
  rw [em] at om
  have V9 := V8.out.below (w' := wm) ⟨gm.os, gm.tape, gm.output, gm.size, fun k hk => gm.block k hk (by simp)⟩
  have C9 := l_append V9 ⟨#[97]⟩ _ 15 15 _ (Rb.of_own om) (fun g hg => hg.2.lt) (by omega) (by decide)
  have hm15 : ((15 : Nat) : Int) = 15 := rfl
  rw [hm15] at hrun
  rw [show nm ⟨#[97]⟩ = [97] from rfl, f5] at C9
  replace C9 := Lib.hid C9
  clear V8 V9 om gm hi hz0 hz1 hz2 hm15 em
  go_wp2_with fail
  clear hrun
  refine C9.out.mono ?_
  rintro e wa ⟨rfl, Va⟩
  have Ca := l_rename Va.1 ⟨#[97]⟩ ⟨#[98]⟩ (by decide) (by decide)
  rw [show nm ⟨#[97]⟩ = [97] from rfl, show nm ⟨#[98]⟩ = [98] from rfl, f6] at Ca
  replace Ca := Lib.hid Ca
  clear C9 Va
  go_wp2_with fail
  refine Ca.out.mono ?_
  rintro e wb ⟨rfl, Vb⟩
  have Cb := l_sync Vb.1 ⟨#[97]⟩ (by decide) (by decide)
  rw [show nm ⟨#[97]⟩ = [97] from rfl, f7] at Cb
  replace Cb := Lib.hid Cb
  clear Ca Vb
  go_wp2_with fail
  refine Cb.out.mono ?_
  rintro e wc ⟨rfl, Vc⟩
  have Cc := Lib.hid (l_names Vc.1 (by decide))
  replace Vc := Lib.hid Vc.1
  clear Cb
  go_wp2_with fail
  refine Cc.out.mono ?_
  rintro e wd ⟨v, rfl, ho, bd⟩
  rw [f13] at ho
  obtain ⟨Ad, cd, rfl⟩ := own_form ho
  have Cd := l_remove (Vc.out.below bd) ⟨#[98]⟩ (by decide) (by decide)
  rw [show nm ⟨#[98]⟩ = [98] from rfl, f8] at Cd
  replace Cd := Lib.hid Cd
  clear Cc Vc ho bd
  go_wp2_with fail
  refine Cd.out.mono ?_
  rintro e we ⟨rfl, Ve⟩
  have Ce := l_used Ve.1
  rw [f12] at Ce
  replace Ce := Lib.hid Ce
  have be : Hid (Below w.heap.size w we) := Ve.1.be
  clear Cd Ve
  go_wp2_with fail
  refine Ce.out.mono ?_
  rintro e wf ⟨rfl, rfl⟩
  clear Ce kc
  go_wp2
  go_ret
  exact ⟨rfl, be.out⟩
end Dk
end Go.Proofs.Ytpkjeplhdnbihaa
