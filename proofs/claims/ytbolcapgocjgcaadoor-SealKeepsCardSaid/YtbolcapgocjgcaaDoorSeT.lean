/- told: the few things of the document that each statement asks besides. -/
import Derived.Test.YtbolcapgocjgcaaDoorSeO
namespace Go.Proofs.YtbolcapgocjgcaaDoor
set_option maxRecDepth 100000
open Go.RowKit
open Go.Proofs.YtbolcapgocjgcaaDoor.Pk
namespace Se
open Dk (Bs Live LTo nm used sCrash rb_lit below_alloc)
open Fr (frames frame)

def t1 : Ab := ab0.put [97]
def t2 : Ab := t1.sync
def t3 : Ab := t2.put [98]
def t5 : Ab := t2.save [[83]]
theorem t1_ok : t1.Ok := ab0_ok.put (by decide)
theorem t2_ok : t2.Ok := t1_ok.sync
theorem t3_ok : t3.Ok := t2_ok.put (by decide)
theorem t5_ok : t5.Ok := Ab.save_ok (by intro r hr; rw [List.mem_singleton.1 hr]; decide) (by decide)
theorem one_len {x : UInt8} : (frames [[x]]).length = 7 := by
  show (frame [x] ++ []).length = 7
  rw [List.append_nil, Fr.frame_len]; rfl
theorem two_len {x y : UInt8} : (frames [[x], [y]]).length = 14 := by
  show (frame [x] ++ (frame [y] ++ [])).length = 14
  rw [List.append_nil, List.length_append, Fr.frame_len, Fr.frame_len]; rfl
theorem t1_fits : used ab0.L + ab0.cost [97] ≤ 1000 := by
  have h := (enc_ok 0 (by omega)).2
  have e : used ab0.L = 0 := rfl
  have e2 : ab0.cost [97] = (Pk.encI ((0 : Nat) : Int)).length + 6 + 7 := rfl
  omega
theorem t2_used : used t2.L ≤ 23 := by
  have h := (enc_ok 0 (by omega)).2
  have e : used t2.L = (cnt 0 (some [[97]])).length := by rw [Ab.used_eq]; exact Nat.zero_add _
  rw [e, cnt_len, one_len]
  omega
theorem t3_fits : used t2.L + t2.cost [98] ≤ 1000 := by
  have h := t2_used
  have e2 : t2.cost [98] = 0 + 7 := rfl
  omega
theorem t5_fits : used t2.L + (cnt (t2.g + 1) (some [[83]])).length ≤ 1000 := by
  have h := t2_used
  have h2 := (enc_ok (t2.g + 1) (by decide)).2
  have e := one_len (x := 83)
  rw [cnt_len, e]
  omega
theorem t4_open : pOpen (sCrash 0 t3.L) = (t2.L, [], [[97]]) := by
  obtain ⟨c, h1, h2, h3, h4, h5⟩ := t3_ok.crash_open 0
  have hsy : t3.sy = (cnt 0 (some [[97]])).length := rfl
  have hg : t3.g = 0 := rfl
  have hrc : t3.rc = [[97], [98]] := rfl
  have hm : t3.sy + min (max (0 : Int) 0).toNat ((cnt t3.g t3.con).length - t3.sy) = t3.sy := by simp
  rw [hm, hg] at h4
  have h6 := h5 1 (by rw [hrc]; decide) (by intro h; cases h) (by rw [hm, hg, hrc, hsy]; exact Nat.le_refl _)
  have hc : c = some [[97]] := by
    rcases h2 with h2 | ⟨j, hj, h2⟩
    · rw [h2] at h6; simp at h6
    · rw [hrc] at hj h2
      rw [h2] at h4 h6
      match j, hj with
      | 0, _ => simp at h6
      | 1, _ => exact h2
      | 2, _ =>
        have e1 : (cnt 0 (some (List.take 2 [[97], [(98 : UInt8)]]))).length = (Pk.encI ((0 : Nat) : Int)).length + 6 + 14 := by rw [cnt_len]; exact congrArg _ two_len
        have e2 : (cnt 0 (some [[(97 : UInt8)]])).length = (Pk.encI ((0 : Nat) : Int)).length + 6 + 7 := by rw [cnt_len]; exact congrArg _ one_len
        rw [hsy, e1, e2] at h4
        omega
  rw [h1, hc]
  rfl

set_option maxHeartbeats 6400000 in
theorem told_any (w : World) (ht : Tab w) : Calls Tryd.prog 10 #[] w fun e w' => e = .returned (.bool true) ∧ Below w.heap.size w w' := by
  have N0 := Lib.hid (Dk.l_new w 1000 (by omega) (Below.refl w.heap.size w))
  have kc := fun (w : World) (C : Array Value) (n c : Nat) => Lib.run_convert_bytes_const (P := Tryd.prog) w 31 5 C n c Tryd.underlying31 Tryd.underlying5
  replace ht := Lib.hid ht
  go_enter Tryd.func10, Tryd.ntmps10
  go_wp2_with fail
  refine N0.out.mono ?_
  rintro e w1 ⟨p, rfl, V1⟩
  have C1 := Lib.hid (a_open (a := ab0) V1 ab0_ok ht.out)
  clear N0 V1
  go_wp2_with fail
  refine C1.out.mono ?_
  rintro e w2 h2
  obtain ⟨q, A1, c1, A2, c2, X2, rfl, G2, _⟩ := open_lg h2
  have G2a : Lg w _ p 1000 ab0.L X2 q ab0.rc.length := G2.below (below_alloc w2 (.cells (u8s [97]).toArray 5 (1, 2)))
  have C2 := Lib.hid (a_put G2a ab0_ok ht.out _ 1 1 [97] (rb_lit w2 [97] (1, 2)) (fun g hg => by subst hg; simp) (by omega) (by decide) t1_fits)
  clear C1 h2 G2 G2a
  go_wp2_with fail
  refine C2.out.mono ?_
  rintro e w3 ⟨rfl, T3⟩
  have C3 := Lib.hid (a_sync (a := t1) T3.1)
  clear C2 T3
  go_wp2_with fail
  refine C3.out.mono ?_
  rintro e w4 ⟨rfl, T4⟩
  have G4a : Lg w _ p 1000 t2.L X2 q t2.rc.length := T4.1.below (below_alloc w4 (.cells (u8s [98]).toArray 5 (1, 2)))
  have C4 := Lib.hid (a_put G4a t2_ok ht.out _ 1 1 [98] (rb_lit w4 [98] (1, 2)) (fun g hg => by subst hg; simp) (by omega) (by decide) t3_fits)
  clear C3 T4 G4a
  go_wp2_with fail
  refine C4.out.mono ?_
  rintro e w5 ⟨rfl, T5⟩
  have G5 : Lg w w5 p 1000 t3.L X2 q t3.rc.length := T5.1
  have C5 := Lib.hid (Dk.l_crash G5.live 0 (by have := t3.len_L; omega) (by omega) (by omega))
  replace G5 := Lib.hid G5
  clear C4 T5
  go_wp2_with fail
  refine C5.out.mono ?_
  rintro e w6 ⟨rfl, T6⟩
  have lat6 : Hid (LogAt w6 q p t3.rc.length) := (T6.2.1 q G5.out.inx).trans G5.out.at_
  have xq : Hid (X2 q) := G5.out.inx
  have C6 := open_any T6.1 ht.out (by
    have h1 : (sCrash 0 t3.L).length = t3.L.length := by simp [sCrash, Dk.vals]
    have h2 := t3.len_L
    omega)
  rw [t4_open] at C6
  replace C6 := Lib.hid C6
  clear C5 T6 G5
  go_wp2_with fail
  refine C6.out.mono ?_
  rintro e w7 h7
  obtain ⟨q2, A3, c3, A4, c4, X3, rfl, G7, hq2, hx3, L3, L4, k7, _⟩ := open_lg h7
  have lat7 : Hid (LogAt w7 q p t3.rc.length) := (k7 q xq.out).trans lat6.out
  have xq3 : Hid (X3 q) := hx3 q xq.out
  have hqq : Hid (q ≠ q2) := by
    have := lt_some lat6.out
    intro h
    omega
  obtain ⟨w7b, hw7b⟩ : ∃ z, z = (w7.alloc (.cells (u8s [83]).toArray 5 (1, 2))).alloc (.cells #[.slice (some ⟨w7.heap.size, 0, none⟩) 1 1] 31) := ⟨_, rfl⟩
  have b7b : Below w7.heap.size w7 w7b := by rw [hw7b]; exact (below_alloc w7 _).alloc (by simp) _
  have S7 : Fr.Lr w7b (.slice (some ⟨w7.heap.size + 1, 0, none⟩) 1 1) [[83]] := by
    refine ⟨_, _, rfl, fun _ => ⟨_, rfl, ?_, fun i r hi => ?_⟩⟩
    · rw [hw7b]; simp
    · match i, hi with
      | 0, hi =>
        simp only [List.getElem?_cons_zero, Option.some.injEq] at hi
        subst hi
        refine ⟨some ⟨w7.heap.size, 0, none⟩, 1, ?_, ?_⟩
        · rw [Addr.add_zero', hw7b]
          have := heap_alloc_new (w7.alloc (.cells (u8s [83]).toArray 5 (1, 2))) (.cells #[.slice (some ⟨w7.heap.size, 0, none⟩) 1 1] 31)
          have hz : (w7.alloc (.cells (u8s [83]).toArray 5 (1, 2))).heap.size = w7.heap.size + 1 := by simp
          rw [hz] at this
          exact Pk.one_at this
        · rw [hw7b]
          exact (rb_lit w7 [83] (1, 2)).keep (fun g hg => by subst hg; exact heap_alloc_old _ _ (by simp)) (fun g hg => by subst hg; simp; omega)
  have G7b : Lg w w7b p 1000 t2.L X3 q2 t2.rc.length := G7.below b7b
  have C7 := Lib.hid (a_save G7b t2_ok ht.out _ [[83]] S7 (by decide) (by intro r hr; rw [List.mem_singleton.1 hr]; decide) t5_fits)
  have lat7b : Hid (LogAt w7b q p t3.rc.length) := (b7b.block q (lt_some lat7.out)).trans lat7.out
  have L4b : Hid (Lt w7b (fun g => X3 g ∧ g ≠ q2) (.slice A4 [[(97 : UInt8)]].length c4) [[97]]) := L4.keep (fun g hg => b7b.block g (G7.live.xs g hg.1)) (fun _ h => h)
  clear C6 h7 G7 L3 L4 k7 hx3 lat6 lat7 S7 G7b b7b hq2 xq
  rw [show (u8s [83]).toArray = #[Value.int .u8 83] from rfl] at hw7b
  go_wp2_with fail
  rw [← hw7b]
  clear hw7b
  refine C7.out.mono ?_
  rintro e w8 ⟨rfl, T8⟩
  have G8 : Lg w w8 p 1000 t5.L X3 q2 t5.rc.length := T8.1
  have lat8 : Hid (LogAt w8 q p t3.rc.length) := (T8.2.1 q xq3.out hqq.out).trans lat7b.out
  have L4c : Hid (Lt w8 (fun g => X3 g ∧ g ≠ q2) (.slice A4 [[(97 : UInt8)]].length c4) [[97]]) := L4b.out.keep (fun g hg => T8.2.1 g hg.1 hg.2) (fun _ h => h)
  have C8 := Lib.hid (a_open (a := t5) G8.live t5_ok ht.out)
  have xs8 : Hid (∀ g, X3 g → g < w8.heap.size) := G8.live.xs
  clear C7 T8 G8 lat7b L4b hqq
  go_wp2_with fail
  refine C8.out.mono ?_
  rintro e w9 h9
  obtain ⟨q3, A5, c5, A6, c6, X4, rfl, G9, _, hx4, L5, L6, k9, z9⟩ := open_lg h9
  have lat9 : LogAt w9 q p t3.rc.length := (k9 q xq3.out).trans lat8.out
  have L4d := L4c.out.keep (w' := w9) (fun g hg => k9 g hg.1) (fun g h => (Nat.lt_of_lt_of_le (xs8.out g h.1) z9 : g < w9.heap.size))
  have L5d := L5.keep (w' := w9) (fun _ _ => rfl) (fun g h => (G9.live.xs g h.1 : g < w9.heap.size))
  obtain ⟨_, _, e4, hr4⟩ := L4d
  obtain ⟨_, _, e5, hr5⟩ := L5d
  injection e4 with e41 _ e43
  injection e5 with e51 _ e53
  subst e41 e43 e51 e53
  obtain ⟨ad4, rfl, _, hr4⟩ := hr4 (by decide)
  obtain ⟨ad5, rfl, _, hr5⟩ := hr5 (by decide)
  obtain ⟨Ai, ci, k4, _, _, R4⟩ := hr4 0 [97] rfl
  obtain ⟨Aj, cj, k5, _, _, R5⟩ := hr5 0 [83] rfl
  rw [Addr.add_zero'] at k4 k5
  have s4 := str_run (c := ci) (T := fun g => g < w9.heap.size) ⟨R4.len, R4.at_⟩
  have s5 := str_run (c := cj) (T := fun g => g < w9.heap.size) ⟨R5.len, R5.at_⟩
  have y4 := str_toList [97]
  have y5 := str_toList [83]
  have C9 := Lib.hid (open_none w9)
  have P9 := Lib.hid (put_bad lat9 none 0 0 (by omega) (by omega))
  have be : Hid (Below w.heap.size w w9) := G9.live.be
  have m1 : [(97 : UInt8)].length = 1 := rfl
  have m2 : [(83 : UInt8)].length = 1 := rfl
  rw [m1] at k4 s4
  rw [m2] at k5 s5
  rw [show t5.st.length = 1 from rfl, show t5.rc.length = 0 from rfl]
  clear h9 G9 L5 L6 k9 z9 lat9 lat8 L4c C8 xs8 R4 R5 hr4 hr5 m1 m2 hx4
  go_wp2_with fail
  refine C9.out.mono ?_
  rintro e w' ⟨rfl, rfl⟩
  go_wp2_with fail
  refine P9.out.mono ?_
  rintro e w' ⟨rfl, rfl⟩
  go_wp2
  go_ret
  exact ⟨rfl, be.out⟩
end Se
end Go.Proofs.YtbolcapgocjgcaaDoor
