/- Proved: records of one byte up to a thousand are framed and read again, none and longer ones are refused (FrameBounds), for any number, the package's table being as the program's text lays it. -/
import Derived.Test.YthadgeihkeggfaaDoorFrF
import Derived.Lib.QuietBelow
import Derived.Test.YthadgeihkeggfaaDoorCards
import Derived.Test.YthadgeihkeggfaaDoorTie
namespace Go.Proofs.YthadgeihkeggfaaDoor.frameBounds
open Go.ChangeShapes Go.WideShapes Go.ChangeAt Go.WideElems Go.RowKit
open Go.Sort
open Go.Proofs.YthadgeihkeggfaaDoor.Pk Go.Proofs.YthadgeihkeggfaaDoor.Fr

theorem place (at_ : Int) : ∃ k : Nat, wrap64 ((IntKind.u64.wrap at_).tmod 10) = (k : Int) ∧ k < 10 := by
  have h1 := Int.emod_nonneg (IntKind.u64.wrap at_) (show (10 : Int) ≠ 0 by omega)
  have h2 := Int.emod_lt_of_pos (IntKind.u64.wrap at_) (show (0 : Int) < 10 by omega)
  refine ⟨((IntKind.u64.wrap at_) % 10).toNat, ?_, by omega⟩
  have h0 : 0 ≤ IntKind.u64.wrap at_ := by rw [IntKind.wrap_u64]; omega
  rw [Int.tmod_eq_emod_of_nonneg h0]; unfold wrap64; omega
theorem one_of (W : World) (k : Nat) (hk : k < 10) : ∃ x : Nat, x ≤ 3000 ∧ (W.alloc (.cells #[.int .i64 0, .int .i64 1, .int .i64 2, .int .i64 255, .int .i64 256, .int .i64 257, .int .i64 999, .int .i64 1000, .int .i64 1001, .int .i64 3000] 3)).cell? ⟨W.heap.size, k, none⟩ = some (.int .i64 (x : Nat)) := by
  match k, hk with
  | 0, _ => exact ⟨0, by omega, by rw [World.cell?_alloc_new]; rfl⟩
  | 1, _ => exact ⟨1, by omega, by rw [World.cell?_alloc_new]; rfl⟩
  | 2, _ => exact ⟨2, by omega, by rw [World.cell?_alloc_new]; rfl⟩
  | 3, _ => exact ⟨255, by omega, by rw [World.cell?_alloc_new]; rfl⟩
  | 4, _ => exact ⟨256, by omega, by rw [World.cell?_alloc_new]; rfl⟩
  | 5, _ => exact ⟨257, by omega, by rw [World.cell?_alloc_new]; rfl⟩
  | 6, _ => exact ⟨999, by omega, by rw [World.cell?_alloc_new]; rfl⟩
  | 7, _ => exact ⟨1000, by omega, by rw [World.cell?_alloc_new]; rfl⟩
  | 8, _ => exact ⟨1001, by omega, by rw [World.cell?_alloc_new]; rfl⟩
  | 9, _ => exact ⟨3000, by omega, by rw [World.cell?_alloc_new]; rfl⟩

def FillAt (w : World) (g x : Nat) (i : Value) (wr : World) : Prop :=
  ∃ (j : Nat) (bs : List UInt8), i = .int .i64 (j : Nat) ∧ j ≤ x ∧ wr.ownsRow g 5 1 (.slice (some ⟨g, 0, none⟩) x x) x (u8s bs) ∧ Below w.heap.size w wr
theorem u8_set (bs : List UInt8) (k : Nat) (y : UInt8) : (u8s bs).set k (.int .u8 (y.toNat : Int)) = u8s (bs.set k y) := by simp [u8s, List.map_set]
theorem own_u8 {w : World} {base g n c j : Nat} {bs : List UInt8} (h : w.ownsRow base 5 1 (.slice (some ⟨g, 0, none⟩) n c) n (u8s bs)) (hj : j < n) : ∃ y : UInt8, bs[j]? = some y ∧ w.cell? ⟨g, j, none⟩ = some (.int .u8 (y.toNat : Int)) := by
  have hl := h.1
  rw [u8s_len] at hl
  obtain ⟨y, hy⟩ : ∃ y, bs[j]? = some y := ⟨_, List.getElem?_eq_getElem (by omega)⟩
  refine ⟨y, hy, ?_⟩
  rw [h.cellAt j (by omega), u8s, List.getElem?_map, hy]
  rfl
theorem frame_at (bs : List UInt8) (h : bs.length ≤ 1000) : ∃ y z : UInt8, (frame bs)[4]? = some y ∧ (frame bs)[5]? = some z ∧ (y.toNat : Int) + 256 * (z.toNat : Int) = (bs.length : Int) := by
  have l4 := le_len 4 (sumOf bs)
  have e : (frame bs).drop 4 = UInt8.ofNat (bs.length % 256) :: UInt8.ofNat (bs.length / 256 % 256) :: bs := by
    unfold frame
    rw [List.drop_left' l4]; rfl
  refine ⟨UInt8.ofNat (bs.length % 256), UInt8.ofNat (bs.length / 256 % 256), ?_, ?_, ?_⟩
  · have := List.getElem?_drop (xs := frame bs) (i := 4) (j := 0)
    rw [e] at this
    exact this.symm
  · have := List.getElem?_drop (xs := frame bs) (i := 4) (j := 1)
    rw [e] at this
    exact this.symm
  · rw [ofNat_toNat (by omega), ofNat_toNat (by omega)]; omega
theorem str_regrown {w : World} {A : Option Addr} {n c : Nat} {bs : List UInt8} (h : Rb w (fun g => g < w.heap.size) A n bs) (d : Nat) (os : Array Obj) : (convert 22 9 (.slice A n c)).run Tryd.prog (grow (redrawn w d) os) = .ok (.string (str bs)) (grow (redrawn w d) os) :=
  str_run (rb_below h (below_regrown w d os))
theorem u8_zeros (n : Nat) : List.replicate n (Value.int .u8 0) = u8s (List.replicate n 0) := by simp [u8s]

set_option maxHeartbeats 1600000 in
set_option maxRecDepth 100000 in
theorem walk (n : Int) (w : World) (ht : Tab w) :
    Calls Tryd.prog 6 #[.int .i64 n] w fun e w' => e = .returned (.bool true) ∧ Below w.heap.size w w' := by
  obtain ⟨k, hK, hk⟩ := place n
  obtain ⟨x, hx, hcell⟩ := one_of w k hk
  obtain ⟨w1, hw1⟩ : ∃ w1, w1 = w.alloc (.cells #[.int .i64 0, .int .i64 1, .int .i64 2, .int .i64 255, .int .i64 256, .int .i64 257, .int .i64 999, .int .i64 1000, .int .i64 1001, .int .i64 3000] 3) := ⟨_, rfl⟩
  have b1 : Hid (Below w.heap.size w w1) := by rw [hw1]; exact (Below.refl _ w).alloc (Nat.le_refl _) _
  obtain ⟨i0, hi, hz0, hz1, hz2⟩ := info_parts u8_info
  replace hi := Lib.hid hi
  replace hz0 := Lib.hid hz0
  replace hz1 := Lib.hid hz1
  replace hz2 := Lib.hid hz2
  have hx1 : i0.bytes * x ≤ 281474976710656 := by rw [hz2.out]; omega
  have hx2 : x ≤ maxLen := by unfold maxLen; omega
  go_enter Tryd.func6, Tryd.ntmps6
  go_wp2_with (at_make; rw [← hw1]; go_loud (refine wpList_make_full _ rfl _ _ 22 rfl w1.heap.size 5 i0 (.int .u8 0) 1 Tryd.underlying22 hi.out hz0.out hz1.out .i64 .i64 _ _ x rfl rfl rfl rfl hx1 hx2 (Nat.le_refl _) ?_))
  intro w2 ho2 hg2
  rw [toList_madeCells_one, u8_zeros] at ho2
  obtain ⟨g, hg⟩ : ∃ g, g = w.heap.size + 1 := ⟨_, rfl⟩
  rw [← hg] at ho2 ⊢
  have b2 : Hid (Below w.heap.size w w2) := ((Below.refl _ w).alloc (Nat.le_refl _) _).grown hg2 (by simp) (fun _ h => by cases h)
  have st : Hid (FillAt w g x (.int .i64 0) w2) := ⟨0, _, rfl, Nat.zero_le _, ho2, b2.out⟩
  have hgw : w.heap.size ≤ g := by omega
  clear ho2 hg2 hi hz0 hz1 hz2 hcell hw1 b1 hg b2
  replace hK := Lib.hid hK
  go_wp2_with fail
  go_loopw [5] (fun i wr => FillAt w g x i wr) (fun i _ => x - (intOf i).toNat)
  case atStart => exact st.out
  case round =>
    obtain ⟨j, bs, rfl, hj, ho, hb⟩ := hrel
    replace ho := Lib.hid ho
    replace hb := Lib.hid hb
    by_cases hlt : j < x
    · obtain ⟨y, _, q1⟩ := own_u8 ho.out hlt
      have q2 : wr.frozen? ⟨g, j, none⟩ = false := ho.out.frozenAt j
      obtain ⟨z, hz⟩ : ∃ z : UInt8, ((j : Int) * 7) % 256 = (z.toNat : Int) := ⟨UInt8.ofNat (j * 7 % 256), by rw [ofNat_toNat (by omega)]; omega⟩
      have nx : Hid (FillAt w g x (.int .i64 ((j : Int) + 1)) (wr.setCell ⟨g, j, none⟩ (.int .u8 (((j : Int) * 7) % 256)))) := by
        refine ⟨j + 1, bs.set j z, by simp, hlt, ?_, hb.out.setCell (by show w.heap.size ≤ g; exact hgw) _⟩
        rw [hz, ← u8_set]
        exact (ho.out.stored j _).1
      clear hz
      go_wp2
      exact ⟨nx.out, by simp [intOf]; omega⟩
    · obtain rfl : j = x := by omega
      have R : Hid (Rb wr (fun q => q < wr.heap.size) (some ⟨g, 0, none⟩) j bs) := rb_own ho.out
      obtain ⟨w3, hv⟩ : ∃ z, z = wr := ⟨_, rfl⟩
      subst hv
      have t3 : Hid (Tab w3) := ht.below hb.out
      by_cases hno : j < 1 ∨ 1000 < j
      · have P := Lib.hid (put_no w3 (some ⟨g, 0, none⟩) j j (by omega) hno)
        have Q := Lib.hid (told_any w3 t3.out)
        have d : decide ((j : Int) < 1) = true ∨ decide ((j : Int) > 1000) = true := by
          rcases hno with h | h
          · exact .inl (by simpa using (show (j : Int) < 1 by omega))
          · exact .inr (by simpa using (show (j : Int) > 1000 by omega))
        replace hno := Lib.hid hno
        go_wp2_with fail
        refine P.out.mono ?_
        rintro e w' ⟨rfl, rfl⟩
        clear P
        rcases hno.out with h | h
        all_goals
          clear d
          go_wp2_with fail
          refine Q.out.mono ?_
          rintro e w4 ⟨rfl, b4⟩
          have be4 : Hid (Below w.heap.size w w4) := hb.out.trans (b4.mono hb.out.size)
          clear b4
          go_wp2
          go_ret
          exact ⟨rfl, be4.out⟩
      · have P := Lib.hid (put_yes w3 (some ⟨g, 0, none⟩) j j bs R.out (fun _ hg => hg) t3.out (by omega) (by omega))
        have hl : Hid (bs.length = j) := R.out.len
        go_wp2_with fail
        refine P.out.mono ?_
        rintro e w4 ⟨v, rfl, ho4, hb4⟩
        rw [hl.out] at ho4
        have be4 : Hid (Below w.heap.size w w4) := hb.out.trans (hb4.mono hb.out.size)
        obtain ⟨g4, c4, rfl, _, hgl4, hc4, hcm4⟩ : ∃ g4 c4, v = .slice (some ⟨g4, 0, none⟩) (j + 6) c4 ∧ w3.heap.size ≤ g4 ∧ g4 < w4.heap.size ∧ j + 6 ≤ c4 ∧ c4 ≤ maxLen := by
          rcases ho4.2 with ⟨_, h0⟩ | ⟨g4, cap, cur, e, hb, hh, h1, h2, _⟩
          · omega
          · exact ⟨g4, cap, e, hb, lt_some hh, h1, h2⟩
        unfold maxLen at hcm4
        obtain ⟨y, z, hy, hz, hyz⟩ := frame_at bs (by have := hl.out; omega)
        rw [hl.out] at hyz
        have hyc : Hid (w4.cell? ⟨g4, 4, none⟩ = some (.int .u8 (y.toNat : Int))) := by
          obtain ⟨y', h1, h2⟩ := own_u8 ho4 (j := 4) (by omega)
          rw [hy] at h1; injection h1 with h1; subst h1; exact h2
        have hzc : Hid (w4.cell? ⟨g4, 5, none⟩ = some (.int .u8 (z.toNat : Int))) := by
          obtain ⟨z', h1, h2⟩ := own_u8 ho4 (j := 5) (by omega)
          rw [hz] at h1; injection h1 with h1; subst h1; exact h2
        have F4 : Hid (Rb w4 (fun q => q < w4.heap.size) (some ⟨g4, 0, none⟩) (j + 6) (frame bs)) := rb_own ho4
        have R4 : Hid (Rb w4 (fun q => q < w4.heap.size) (some ⟨g, 0, none⟩) j bs) := rb_below R.out hb4
        clear ho4 hb4 hb P R ho hy hz t3 st
        have t4 : Hid (Tab w4) := ht.below be4.out
        have O4 := Lib.hid (one_any w4 (some ⟨g4, 0, none⟩) (j + 6) c4 0 (frame bs) F4.out (fun _ hg => hg) t4.out hc4 hcm4 (by omega))
        have at0 : Hid (oneAt (frame bs) 0 = some bs) := by
          have h := one_frame (r := bs) (t := []) (by have := hl.out; omega) (by have := hl.out; omega)
          rw [List.append_nil] at h
          unfold oneAt
          unfold Hid
          rw [if_pos (by omega)]
          exact h
        go_wp2_with fail
        refine O4.out.mono ?_
        rintro e w5 (⟨q1, _⟩ | ⟨r, v5, q1, rfl, q3, q4⟩)
        · rw [at0.out] at q1; cases q1
        obtain rfl : bs = r := by rw [at0.out] at q1; injection q1
        rw [hl.out] at q3
        have el : (0 : Int) + (6 + (bs.length : Int)) = (j : Int) + 6 := by rw [hl.out]; omega
        rw [el]
        obtain ⟨A5, c5, rfl⟩ := own_form q3
        have be5 : Hid (Below w.heap.size w w5) := be4.out.trans (q4.mono be4.out.size)
        have S5 : Hid (Rb w5 (fun q => q < w5.heap.size) A5 j bs) := rb_own q3
        have F5 : Hid (Rb w5 (fun q => q < w5.heap.size) (some ⟨g4, 0, none⟩) (j + 6) (frame bs)) := rb_below F4.out q4
        have R5 : Hid (Rb w5 (fun q => q < w5.heap.size) (some ⟨g, 0, none⟩) j bs) := rb_below R4.out q4
        have hyc5 : Hid (w5.cell? ⟨g4, 4, none⟩ = some (.int .u8 (y.toNat : Int))) := (q4.cell hgl4).trans hyc.out
        have hzc5 : Hid (w5.cell? ⟨g4, 5, none⟩ = some (.int .u8 (z.toNat : Int))) := (q4.cell hgl4).trans hzc.out
        have hgl5 : g4 < w5.heap.size := Nat.lt_of_lt_of_le hgl4 q4.size
        clear q1 q3 q4 hyc hzc F4 R4 t4 O4 hgl4 be4 el at0
        have t5 : Hid (Tab w5) := ht.below be5.out
        have D5 := Lib.hid (read_any w5 (some ⟨g4, 0, none⟩) (j + 6) c4 (frame bs) F5.out (fun _ hg => hg) t5.out hc4 hcm4 (by omega))
        have G5 : Hid (Got (frame bs) [bs] (j + 6)) := by
          have h := got_frames (l := [bs]) (t := []) (by intro r hr; simp at hr; subst hr; have := hl.out; omega) (one_short (by simp))
          simp only [frames, List.append_nil, frame_len] at h
          rw [hl.out] at h
          exact h
        go_wp2_with fail
        refine D5.out.mono ?_
        rintro e w6 ⟨v6, l, q, rfl, hgot, hL, q6⟩
        obtain ⟨rfl, rfl⟩ := got_one hgot G5.out
        obtain ⟨xs, ho6, _⟩ := hL
        obtain ⟨A6, c6, rfl⟩ := own_form ho6
        have be6 : Hid (Below w.heap.size w w6) := be5.out.trans (q6.mono be5.out.size)
        have S6 : Hid (Rb w6 (fun q => q < w6.heap.size) A5 j bs) := rb_below S5.out q6
        have R6 : Hid (Rb w6 (fun q => q < w6.heap.size) (some ⟨g, 0, none⟩) j bs) := rb_below R5.out q6
        have hyc6 := cell_regrown ((q6.cell hgl5).trans hyc5.out)
        have hzc6 := cell_regrown ((q6.cell hgl5).trans hzc5.out)
        have s1 := fun d os => str_regrown (c := c5) S6.out d os
        have s2 := fun d os => str_regrown (c := j) R6.out d os
        have t6 : Hid (Tab w6) := ht.below be6.out
        have Q6 := fun d os => Calls.regrown_of (told_any (grow (redrawn w6 d) os) (t6.out.below (below_regrown w6 d os)))
        have y256 := y.toNat_lt
        have z256 := z.toNat_lt
        obtain ⟨yy, hyy⟩ : ∃ yy : Int, yy = (y.toNat : Int) := ⟨_, rfl⟩
        obtain ⟨zz, hzz⟩ : ∃ zz : Int, zz = (z.toNat : Int) := ⟨_, rfl⟩
        rw [← hyy] at hyz hyc6
        rw [← hzz] at hyz hzc6
        have yb1 : 0 ≤ yy := by omega
        have yb2 : yy ≤ 255 := by omega
        have zb1 : 0 ≤ zz := by omega
        have zb2 : zz ≤ 255 := by omega
        have hyz2 : (yy + 256 * zz == (j : Int)) = true := by rw [hyz]; simp
        clear hgot ho6 q6 G5 D5 hyc5 hzc5 S5 F5 R5 t5 hyy hzz y256 z256 hyz S6 R6 hgl5 be5
        go_wp2_with fail
        refine wp_region_quiet_below (by kernel_rfl) (by kernel_rfl) ?_
        repeat (go_big_quiet_step (with_reducible exact Q6 _ _))
        refine wpQuiet_nil ?_
        intro w7 hw'
        obtain ⟨⟨dq, osq⟩, hw7⟩ := hw'
        have be7 : Hid (RowKit.Below w.heap.size w w7) := by rw [hw7]; exact be6.out.trans ((below_regrown w6 dq osq).mono be6.out.size)
        clear hw7
        go_wp2_with fail
        go_ret
        exact ⟨rfl, be7.out⟩

theorem walkd (n : Int) (_w0 : (Lit.int .i64 n).wf = true) (W' : World) (ht : Tab W') :
    Calls Tryd.prog 6 #[.int .i64 n] W' fun e w' => e = .returned (.bool true) ∧ Below W'.heap.size W' w' := walk n W' ht

/-! The row: every input, the listed variable as the condition has it. -/
set_option linter.unusedVariables false
set_option maxRecDepth 100000 in
theorem lifted (os : Os) (started : os.Started) (H : Type) (enc : TypeId × Value → H) :
    ReturnsInHanded {} Tryd.checked os 6 .any (fun w args => (Rows.frameBoundsSpec.pre enc Tryd.prog Tryd.f6 [] false w args ∧ laidMetH Tryd.prog laids w) ∧ sizedMet enc Tryd.prog Tryd.f6 (OpenSpec.ofChange Rows.frameBoundsSpec) false w args)
      (Rows.frameBoundsSpec.post enc Tryd.prog Tryd.f6 false true false false) := by
  refine returnsInHanded_of_change_and (C := Tryd.checked) (X := fun w _ => laidMetH Tryd.prog laids w) (fun _ _ _ hh h => h.of_heap hh) own started (by kernel_rfl) Tryd.func6
    (ChangeSpec.witness_shaped (enc := enc) (C := Tryd.checked) (os := os) (X := fun w _ => laidMetH Tryd.prog laids w) false (World.doorLaid Tryd.prog 400 os) #[.int .i64 0] 8 rfl (World.shaped_of_RefB (by kernel_rfl) (by kernel_rfl)) (by kernel_rfl) (by kernel_rfl) (by kernel_rfl) (door_met os _)) ?_
  intro W base args ds gs before hval0 hW _ _ hL _
  have hval : ∀ (j : Nat) t v, Tryd.f6.params[j]? = some t → args[j]? = some v → Value.okWide Tryd.prog W .any base t v := hval0
  have hW' := hW
  obtain ⟨p, q, hA0, hV, rfl, hfz, hnd⟩ := hW
  have hA : DataW.TrodAll enc Tryd.prog W 0 (fun _ => true) true Tryd.f6.params.toList args.toList ds p := hA0
  rw [Tryd.params6] at hA hval
  obtain ⟨v0, vs0, d0, ds0, p0, q0, hargs, rfl, rfl, h0, r0⟩ := trodAll_cons hA
  obtain ⟨rfl, rfl, rfl⟩ := trodAll_nil r0
  obtain rfl : args = #[v0] := by cases args; simp_all
  obtain ⟨rfl, rfl⟩ := trodVars_none hV
  obtain ⟨a0, rfl, rfl, rfl, w0⟩ := open_int Tryd.underlying3 (hval 0 3 v0 rfl rfl) h0
  clear hA0 hval0
  simp only [List.append_nil] at hW'
  refine (walkd a0 w0 W (of_laid hL)).mono fun e W' ⟨he, hb⟩ => ?_
  subst he
  exact ⟨_, rfl, post_below (pa := []) (pv := []) hW' (fun _ _ _ => (trodAll_cons_mk (shut_bool Tryd.underlying4 _) trodAll_mk0)) (fun sp hsp => (trodAll_cons_mk (shut_int Tryd.underlying3 w0) trodAll_mk0)) (fun _ _ => rfl) (by simp)
    hb (ok_one (by kernel_rfl) rfl (okWide_bool_mk Tryd.underlying4 _))⟩

theorem over : Rows.frameBoundsRow.holds Tryd.pinned (OpenSpec.ofChange Rows.frameBoundsSpec) :=
  OpenClaim.holds_of_wide 6 Tryd.f6 rfl rfl rfl rfl rfl rfl rfl ⟨rfl, rfl, rfl, rfl, rfl⟩ rfl rfl rfl rfl rfl (by kernel_rfl) Tryd.func6 (by kernel_rfl)
    (of_decide_eq_true (by kernel_rfl)) (by unfold Func.isWrapper; first | (rw [if_pos (by decide +kernel)]; kernel_rfl) | (rw [if_neg (by decide +kernel)]; exact ⟨rfl, rfl⟩))
    (fun os started H enc _ => lifted os started H enc)

/-- The tied card. -/
theorem proved : Rows.FrameBoundsCardSaid :=
  Claim7.holds_tied_plain_at .later [] [.data] true _ false
    over (fun _ h => by cases h) (by kernel_rfl) (fun _ h => by cases h) frameBounds_row_tie rfl ⟨rfl, rfl⟩ (by kernel_rfl) rfl
    (fun f fn hf hfn => by
      obtain rfl : f = 6 := Option.some.inj ((show Tryd.prog.funcNamed "sojourn/sojournlaw4.FrameBounds" = some 6 by kernel_rfl).symm.trans hf) |>.symm
      obtain rfl : fn = Tryd.f6 := (Option.some.inj (Tryd.func6.symm.trans hfn)).symm
      exact ⟨by kernel_rfl, fun j t ht => by
        rw [Tryd.params6] at ht
        have hm : t ∈ [3] := by simpa using Array.mem_of_getElem? ht
        have hall : ([3].all fun u => !Tryd.prog.wantsStandIn u) = true := by kernel_rfl
        exact (show Tryd.prog.wantsStandIn t = false by simpa using List.all_eq_true.1 hall t hm)⟩)
    (by kernel_rfl)
#print axioms proved
end Go.Proofs.YthadgeihkeggfaaDoor.frameBounds
