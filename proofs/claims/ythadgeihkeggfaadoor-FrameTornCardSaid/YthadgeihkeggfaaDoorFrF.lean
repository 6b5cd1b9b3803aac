/- told: the few things of the document that each statement asks besides. -/
import Derived.Test.YthadgeihkeggfaaDoorFrE
import Derived.Lib.SlBytesConst
namespace Go.Proofs.YthadgeihkeggfaaDoor
open Go.RowKit
open Go.Proofs.YthadgeihkeggfaaDoor.Pk
namespace Fr

theorem rb_own {w : World} {base n : Nat} {A : Option Addr} {c : Nat} {bs : List UInt8} (h : w.ownsRow base 5 1 (.slice A n c) n (u8s bs)) : Rb w (fun g => g < w.heap.size) A n bs := (Rb.of_own h).keep (fun _ _ => rfl) (fun _ hg => hg.2.lt)
theorem rb_below {w w' : World} {A : Option Addr} {n : Nat} {bs : List UInt8} (h : Rb w (fun g => g < w.heap.size) A n bs) (hb : Below w.heap.size w w') : Rb w' (fun g => g < w'.heap.size) A n bs :=
  h.keep (fun _ hg => hb.block _ hg) (fun _ hg => Nat.lt_of_lt_of_le hg hb.size)
theorem rb_two (W : World) (x y : Int) (c d : UInt8) (hx : x = (c.toNat : Int)) (hy : y = (d.toNat : Int)) : Rb (W.alloc (.cells #[.int .u8 x, .int .u8 y] 5)) (fun _ => True) (some ⟨W.heap.size, 0, none⟩) 2 [c, d] :=
  ⟨rfl, fun _ => ⟨_, rfl, trivial, fun j z hj => by
    rw [Addr.add_lit, Nat.zero_add, World.cell?_alloc_mark]
    match j, hj with
    | 0, hj => simp at hj; subst hj; rw [hx]; rfl
    | 1, hj => simp at hj; subst hj; rw [hy]; rfl
    | j + 2, hj => simp at hj⟩⟩
theorem rb_a (W : World) (fr : Nat × Nat) : Rb (W.alloc (.cells #[.int .u8 97] 5 fr)) (fun g => g = W.heap.size) (some ⟨W.heap.size, 0, none⟩) 1 [97] :=
  ⟨rfl, fun _ => ⟨_, rfl, rfl, fun j z hj => by
    rw [Addr.add_lit, Nat.zero_add, World.cell?_alloc_mark]
    match j, hj with
    | 0, hj => simp at hj; subst hj; rfl
    | j + 1, hj => simp at hj⟩⟩
theorem got_told : Got (frame [97] ++ [1, 2]) [[97]] 7 := by
  have h := got_frames (l := [[97]]) (t := [1, 2]) (by intro r hr; simp at hr; subst hr; simp) (one_short (by simp))
  simpa [frames, frame_len] using h
theorem at_told : oneAt (frame [97]) 0 = some [97] := by
  have h := one_frame (r := [97]) (t := []) (by simp) (by simp)
  rw [List.append_nil] at h
  unfold oneAt
  rw [if_pos (by omega)]
  exact h
theorem no_told : oneAt (frame [97]) 1 = none := by decide +kernel
theorem told_len : (frame [97]).length = 7 := by rw [frame_len]; rfl

set_option maxHeartbeats 1600000 in
set_option maxRecDepth 100000 in
theorem told_any (w : World) (ht : Tab w) : Calls Tryd.prog 8 #[] w fun e w' => e = .returned (.bool true) ∧ Below w.heap.size w w' := by
  replace ht := Lib.hid ht
  have R0 : Hid (Rb (w.alloc (.cells #[.int .u8 97] 5 (1, 2))) (fun g => g < (w.alloc (.cells #[.int .u8 97] 5 (1, 2))).heap.size) (some ⟨w.heap.size, 0, none⟩) 1 [97]) := (rb_a w (1, 2)).keep (fun _ _ => rfl) (fun g hg => by subst hg; simp)
  have b0 : Hid (Below w.heap.size w (w.alloc (.cells #[.int .u8 97] 5 (1, 2)))) := (Below.refl _ _).alloc (Nat.le_refl _) _
  have P0 := Lib.hid (put_yes _ (some ⟨w.heap.size, 0, none⟩) 1 1 [97] R0.out (fun g hg => hg) (ht.out.below b0.out) (by omega) (by omega))
  clear R0
  have kc := fun (w : World) (C : Array Value) (n c : Nat) => Lib.run_convert_bytes_const (P := Tryd.prog) w 22 5 C n c Tryd.underlying22 Tryd.underlying5
  go_enter Tryd.func8, Tryd.ntmps8
  go_wp2_with fail
  refine P0.out.mono ?_
  rintro e w1 ⟨v, rfl, hown, hb⟩
  obtain ⟨A, c, rfl⟩ := own_form hown
  have b1 : Hid (Below w.heap.size w w1) := b0.out.trans (hb.mono b0.out.size)
  have hcap := own_cap hown
  have F1 : Hid (Rb w1 (fun g => g < w1.heap.size) A 7 (frame [97])) := rb_own hown
  have hc7 : 7 ≤ c := hcap.1
  have hcm : c ≤ 9223372036854775807 := by have := hcap.2; unfold maxLen at this; exact this
  have N1 := Lib.hid (put_no w1 none 0 0 (by omega) (by omega))
  clear hown hb P0 b0 hcap
  go_wp2_with fail
  refine N1.out.mono ?_
  rintro e w' ⟨rfl, rfl⟩
  clear N1
  have O2 : Hid ((w1.alloc (.cells #[] 5)).ownsRow w1.heap.size 5 1 (.slice (some ⟨w1.heap.size, 0, none⟩) 0 0) 0 (u8s [])) := World.ownsRow_lit w1 #[] 0 (Nat.le_refl _) (by unfold maxLen; omega) rfl
  have F2 : Hid (Rb (w1.alloc (.cells #[] 5)) (fun _ => True) A 7 (frame [97])) := F1.out.keep (fun g hg => heap_alloc_old _ _ hg) (fun _ _ => trivial)
  go_wp2_with (first
    | (at_builtin; refine wpList_append_b _ rfl (.tmp 22) (.tmp 23) rfl w1.heap.size (.slice (some ⟨w1.heap.size, 0, none⟩) 0 0) 0 [] rfl O2.out rfl F2.out (by omega) (by simp) ?_; intro v3 w3 hown3 hg3 _; obtain ⟨A3, c3, rfl⟩ := own_form hown3; have O3 : Hid ((w3.alloc (.cells #[.int .u8 1, .int .u8 2] 5)).ownsRow w1.heap.size 5 1 (.slice A3 (0 + 7) c3) (0 + 7) (u8s ([] ++ frame [97]))) := hown3.alloc _; have b3 : Hid (Below w1.heap.size w1 w3) := ((Below.refl _ w1).alloc (Nat.le_refl _) _).grown hg3 (by simp) (fun k hk => by simp [Value.ownBlock] at hk; omega); have z3 : w1.heap.size ≤ w3.heap.size := b3.out.size; have R3 := Lib.hid (rb_two w3 1 2 1 2 rfl rfl); have hne : ∀ k, (Value.slice A3 (0 + 7) c3).ownBlock = some k → w1.heap.size ≤ k := (fun k hk => (hown3.lt k hk).1); replace hne := Lib.hid hne; clear hown3 hg3)
    | (at_builtin; refine wpList_append_b _ rfl (.tmp 24) (.tmp 25) rfl w1.heap.size _ (0 + 7) _ rfl O3.out rfl R3.out (by omega) (by simp; omega) ?_; intro v4 w4 hown4 hg4 _; obtain ⟨A4, c4, rfl⟩ := own_form hown4; have b4 : Hid (Below w1.heap.size w1 w4) := (b3.out.alloc z3 _).grown hg4 (by simp; omega) (fun k hk => hne.out k hk); have R4 := Lib.hid (rb_own hown4); have hcap4 := own_cap hown4; clear hown4 hg4))
  have b5 : Hid (Below w.heap.size w w4) := b1.out.trans (b4.out.mono b1.out.size)
  have F4 : Hid (Rb w4 (fun g => g < w4.heap.size) A 7 (frame [97])) := rb_below F1.out b4.out
  have hc4 : Hid (9 ≤ c4 ∧ c4 ≤ 9223372036854775807) := by
    have := hcap4.2
    unfold maxLen at this
    exact ⟨hcap4.1, this⟩
  have D5 := Lib.hid (read_any w4 A4 9 c4 (frame [97] ++ [1, 2]) R4.out (fun g hg => hg) (ht.out.below b5.out) hc4.out.1 hc4.out.2 (by omega))
  clear R4 hcap4 hc4 O3 R3 hne b3 b4 O2 F1 F2 z3
  refine D5.out.mono ?_
  rintro e w5 ⟨v5, l, q, rfl, hgot, hL, hb5⟩
  obtain ⟨rfl, rfl⟩ := got_one hgot got_told
  obtain ⟨xs, ho5, _⟩ := hL
  obtain ⟨A5, c5, rfl⟩ := own_form ho5
  have b6 : Hid (Below w.heap.size w w5) := b5.out.trans (hb5.mono b5.out.size)
  have F5 : Hid (Rb w5 (fun g => g < w5.heap.size) A 7 (frame [97])) := rb_below F4.out hb5
  have D6 := Lib.hid (one_any w5 A 7 c 0 (frame [97]) F5.out (fun g hg => hg) (ht.out.below b6.out) hc7 hcm (by omega))
  clear hgot ho5 hb5 D5 F4 b5
  go_wp2_with fail
  refine D6.out.mono ?_
  rintro e w6 (⟨q1, _⟩ | ⟨r, v6, q1, rfl, q3, q4⟩)
  · rw [at_told] at q1; cases q1
  obtain rfl : [97] = r := by rw [at_told] at q1; injection q1
  obtain ⟨A6, c6, rfl⟩ := own_form q3
  have b7 : Hid (Below w.heap.size w w6) := b6.out.trans (q4.mono b6.out.size)
  have F6 : Hid (Rb w6 (fun g => g < w6.heap.size) A 7 (frame [97])) := rb_below F5.out q4
  have hs : (convert 22 9 (.slice A6 1 c6)).run Tryd.prog w6 = .ok (.string (str [97])) w6 := str_run (c := c6) (rb_own q3)
  have D7 := Lib.hid (one_any w6 A 7 c 1 (frame [97]) F6.out (fun g hg => hg) (ht.out.below b7.out) hc7 hcm (by omega))
  have e5 := str_toList [97]
  clear q1 q3 q4 D6 F5 b6
  go_wp2_with fail
  refine D7.out.mono ?_
  rintro e w7 (⟨q1, rfl, rfl⟩ | ⟨r, v6, q1, _⟩)
  · clear q1 D7 F6 kc
    go_wp2
    go_ret
    exact ⟨rfl, b7.out⟩
  · rw [no_told] at q1; cases q1
end Fr
end Go.Proofs.YthadgeihkeggfaaDoor
