/- Proved: Int takes as few groups as the number needs, each byte but the last one with 128 more, the sign in the lowest bit (PackSmall), for every number, the package's table being as the program's text lays it. -/
import Derived.Test.YtfdgjdakaibifaaDoorLwSmallM
import Derived.Test.YtfdgjdakaibifaaDoorPkL
import Derived.Test.YtfdgjdakaibifaaDoorCards
import Derived.Test.YtfdgjdakaibifaaDoorTie
namespace Go.Proofs.YtfdgjdakaibifaaDoor.packSmall
open Go.ChangeShapes Go.WideShapes Go.ChangeAt Go.RowKit
open Go.ChangeMaps (open_string shut_string)
open Go.Proofs.YtfdgjdakaibifaaDoor.Pk

def U0 (v : Int) : Nat := zz v / 2
def CntAt (L : Nat) (u n : Value) : Prop := ∃ x k : Nat, u = .int .i64 x ∧ n = .int .i64 k ∧ x ≤ 9223372036854775807 ∧ k + grp x = L
def IdxAt (L : Nat) (i : Value) : Prop := ∃ k : Nat, i = .int .i64 k ∧ k ≤ L

theorem and1 (c : UInt8) : bits .and .u8 (c.toNat : Int) 1 = ((c.toNat % 2 : Nat) : Int) := by
  have h := u8_and_nat c.toNat 1 (c.toNat_lt) (by omega)
  rw [Nat.and_one_is_mod] at h
  exact h

set_option maxHeartbeats 3200000 in
set_option maxRecDepth 100000 in
theorem walk (v : Int) (h1 : -9223372036854775808 ≤ v) (h2 : v ≤ 9223372036854775807) (w : World) (ht : Tab w) :
    Calls Tryd.prog 9 #[.int .i64 v] w fun e w' => e = .returned (.bool true) ∧ Below w.heap.size w w' := by
  replace ht := Lib.hid ht
  have W0 := Lib.hid (Wr.new w)
  have be0 : Hid (Below w.heap.size w (w.alloc (.cells #[.pointer none, .int .i64 0] 26))) := (Below.refl _ _).alloc (Nat.le_refl _) _
  go_enter Tryd.func9, Tryd.ntmps9
  go_wp2_with fail
  refine (wint_any w.heap.size _ [] W0.out v h1 h2 (by simp)).mono ?_
  rintro e w1 ⟨rfl, hw1⟩
  have be1 : Hid _ := be0.out.trans hw1.be
  have W1 : Hid (Wr w1 w.heap.size (encI v)) := hw1.wr
  clear hw1 be0 W0
  have hL := encI_len v h1 h2
  obtain ⟨L, hL0⟩ : ∃ L, L = (encI v).length := ⟨_, rfl⟩
  rw [← hL0] at hL
  have hL1 : 1 ≤ L := by rw [hL0]; exact enc_ne _
  go_wp2_with fail
  have B := bytes_any w.heap.size w1 _ W1.out (by rw [← hL0]; omega)
  rw [← hL0] at B
  refine B.mono ?_
  rintro e w2 ⟨bv, rfl, h4, b4⟩
  have be2 : Hid (Below w.heap.size w w2) := be1.out.trans (b4.mono be1.out.size)
  obtain ⟨g, c, hgv, hg1, hg2⟩ : ∃ g c, bv = .slice (some ⟨g, 0, none⟩) L c ∧ w1.heap.size ≤ g ∧ g < w2.heap.size := by
    rcases h4.2 with ⟨_, h0⟩ | ⟨g, cap, cur, e, hb, hh, _⟩
    · omega
    · exact ⟨g, cap, e, hb, lt_some hh⟩
  subst hgv
  have hcell : Hid (∀ j x, (encI v)[j]? = some x → w2.cell? ⟨g, j, none⟩ = some (.int .u8 (x.toNat : Int))) := fun j x hj => by
    have := h4.cells (g := g) rfl j _ (by rw [u8s, List.getElem?_map, hj]; rfl)
    rwa [Addr.add_lit, Nat.zero_add] at this
  clear B h4 b4 be1 W1 hg1
  have HL0 := Lib.hid hL0
  clear hL0
  have hcount : Hid (1 + grp (U0 v) = L) := by
    have := enc_grp (zz v)
    have e := HL0.out
    unfold encI at e
    unfold Hid U0; omega
  have hu : Hid (((U0 v : Nat) : Int) = if 0 ≤ v then v else -(v + 1)) := by
    have := zz_half v
    unfold Hid U0; rw [this]; split <;> omega
  have hub : Hid (U0 v ≤ 9223372036854775807) := by
    have := zz_lt v h1 h2
    unfold Hid U0; omega
  by_cases hv : v < 0
  all_goals
    go_wp2_with fail
    go_loop [5, 6] (fun u n => CntAt L u n) (fun u _ => (intOf u).toNat)
    case atStart =>
      refine ⟨U0 v, 1, ?_, rfl, hub.out, hcount.out⟩
      have := hu.out
      rw [this]
      first | rw [if_pos (by omega)] | rw [if_neg (by omega)]
    case round =>
      obtain ⟨x, k, rfl, rfl, hx, hk⟩ := hrel
      replace hk := Lib.hid hk
      by_cases h64 : 64 ≤ x
      · have hk2 : Hid (k + 1 + grp (x / 128) = L) := by have := hk.out; rw [grp_hi h64] at this; unfold Hid; omega
        have hkb : k ≤ 9 := by have := hk2.out; omega
        go_wp2
        go_round
        case rel => exact ⟨x / 128, k + 1, by simp, by go_num, by omega, hk2.out⟩
        case measure => simp [intOf]; omega
      · obtain rfl : k = L := by have := hk.out; rw [grp_lo (by omega)] at this; omega
        go_wp2_with fail
        go_loop [7] (fun i => IdxAt k i) (fun i => k - (intOf i).toNat)
        case atStart => exact ⟨0, rfl, Nat.zero_le _⟩
        case round =>
          obtain ⟨j, rfl, hj⟩ := hrel
          by_cases hjk : j < k
          · obtain ⟨b, hb⟩ : ∃ b, (encI v)[j]? = some b := ⟨_, List.getElem?_eq_getElem (by have := HL0.out; omega)⟩
            have hcj := hcell.out j b hb
            have hsh : Hid (128 ≤ b.toNat ↔ j + 1 < k) := by have := enc_shape (zz v) j b hb; have e := HL0.out; unfold encI at e; rw [← e] at this; exact this
            have hbb := b.toNat_lt
            clear hb
            have hq : (!decide ((128 : Int) ≤ (b.toNat : Int)) == decide ((j : Int) < (k : Int) - 1)) = false := by
              have e : decide ((128 : Int) ≤ (b.toNat : Int)) = decide ((j : Int) < (k : Int) - 1) := by
                rw [decide_eq_decide]
                have := hsh.out
                omega
              rw [e]
              cases decide ((j : Int) < (k : Int) - 1) <;> rfl
            go_wp2
            exact ⟨⟨j + 1, by go_num, by omega⟩, by simp [intOf]; omega⟩
          · obtain ⟨b, hb⟩ : ∃ b, (encI v)[0]? = some b := ⟨_, List.getElem?_eq_getElem (by have := HL0.out; omega)⟩
            have hc0 := hcell.out 0 b hb
            have hpar : bits .and .u8 (b.toNat : Int) 1 = if v < 0 then 1 else 0 := by
              have e := enc_par (zz v) b hb
              rw [zz_odd] at e
              rw [and1, e]
              split <;> rfl
            first
              | rw [if_pos hv] at hpar
              | rw [if_neg (by omega)] at hpar
            have hbb := b.toNat_lt
            clear hb
            have W2 := Lib.hid (Wr.new w2)
            have be3 : Hid (Below w.heap.size w (w2.alloc (.cells #[.pointer none, .int .i64 0] 26))) := be2.out.alloc be2.out.size _
            go_wp2_with fail
            refine (wtext_any w2.heap.size _ [] W2.out [] (by simp)).mono ?_
            rintro e w3 ⟨rfl, hw3⟩
            have be4 : Hid (Below w.heap.size w w3) := be3.out.trans (hw3.be.mono be2.out.size)
            have W3 : Hid (Wr w3 w2.heap.size [0]) := by
              have := hw3.wr
              rw [show encT [] = [0] by unfold encT encI; rw [show zz (([] : List UInt8).length : Int) = 0 by decide, enc_lo (by omega)]; rfl] at this
              exact this
            have hk3 : Hid (w3.cell? ⟨g, 0, none⟩ = some (.int .u8 (b.toNat : Int))) :=
              (hw3.be.cell (p := ⟨g, 0, none⟩) hg2).trans ((((Below.refl w2.heap.size w2).alloc (Nat.le_refl _) _).cell (p := ⟨g, 0, none⟩) hg2).trans hc0)
            have hg3 : Hid (g < w3.heap.size) := by have := hw3.be.size; simp at this; show g < _; omega
            clear hw3 be3 W2 be2 hc0 hcell
            go_wp2_with fail
            refine (told_any w3 (ht.out.below be4.out)).mono ?_
            rintro e w4 ⟨rfl, hb4⟩
            have be5 : Hid (Below w.heap.size w w4) := be4.out.trans (hb4.mono be4.out.size)
            have W4 : Hid (Wr w4 w2.heap.size [0]) := W3.out.below hb4
            have hk4 : Hid (w4.cell? ⟨g, 0, none⟩ = some (.int .u8 (b.toNat : Int))) := (hb4.cell (p := ⟨g, 0, none⟩) hg3.out).trans hk3.out
            have hg4 : Hid (g < w4.heap.size) := Nat.lt_of_lt_of_le hg3.out hb4.size
            clear hb4 be4 W3 hk3 hg3
            go_wp2_with fail
            refine (bytes_any w2.heap.size w4 _ W4.out (by simp)).mono ?_
            rintro e w5 ⟨v5, rfl, h5, b5⟩
            have be6 : Hid (Below w.heap.size w w5) := be5.out.trans (b5.mono be5.out.size)
            obtain ⟨A5, c5, rfl⟩ := own_form h5
            have hs5 : (convert 34 9 (.slice A5 1 c5)).run Tryd.prog w5 = .ok (.string ⟨#[0]⟩) w5 := str_run (Rb.of_own h5)
            have hk5 : w5.cell? ⟨g, 0, none⟩ = some (.int .u8 (b.toNat : Int)) := (b5.cell (p := ⟨g, 0, none⟩) hg4.out).trans hk4.out
            clear h5 b5 be5 W4 hk4 hg4
            go_wp2
            go_ret
            first
              | exact ⟨rfl, be6.out⟩
              | (refine ⟨?_, be6.out⟩
                 show Ending.returned (.bool (!decide (v < 0))) = _
                 rw [decide_eq_false (by omega)]
                 rfl)

theorem walkd (a0 : Int) (w0 : (Lit.int .i64 a0).wf = true) (W : World) (ht : Tab W) :
    Calls Tryd.prog 9 #[.int .i64 a0] W fun e w' => e = .returned (.bool true) ∧ Below W.heap.size W w' :=
  have hb := bounds_i64 w0
  walk a0 hb.1 hb.2 W ht

/-! The row: every input, the listed variable as the condition has it. -/
set_option linter.unusedVariables false
set_option maxRecDepth 100000 in
theorem lifted (os : Os) (started : os.Started) (H : Type) (enc : TypeId × Value → H) :
    ReturnsInHanded {} Tryd.checked os 9 .any (fun w args => (Rows.packSmallSpec.pre enc Tryd.prog Tryd.f9 [] false w args ∧ laidMetH Tryd.prog laids w) ∧ sizedMet enc Tryd.prog Tryd.f9 (OpenSpec.ofChange Rows.packSmallSpec) false w args)
      (Rows.packSmallSpec.post enc Tryd.prog Tryd.f9 false true false false) := by
  refine returnsInHanded_of_change_and (C := Tryd.checked) (X := fun w _ => laidMetH Tryd.prog laids w) (fun _ _ _ hh h => h.of_heap hh) own started (by kernel_rfl) Tryd.func9
    (ChangeSpec.witness_shaped (enc := enc) (C := Tryd.checked) (os := os) (X := fun w _ => laidMetH Tryd.prog laids w) false (World.doorLaid Tryd.prog 400 os) #[.int .i64 0] 8 rfl (World.shaped_of_RefB (by kernel_rfl) (by kernel_rfl)) (by kernel_rfl) (by kernel_rfl) (by kernel_rfl) (door_met os _)) ?_
  intro W base args ds gs before hval0 hW _ _ hL _
  have hval : ∀ (j : Nat) t v, Tryd.f9.params[j]? = some t → args[j]? = some v → Value.okWide Tryd.prog W .any base t v := hval0
  have hW' := hW
  obtain ⟨p, q, hA0, hV, rfl, hfz, hnd⟩ := hW
  have hA : DataW.TrodAll enc Tryd.prog W 0 (fun _ => true) true Tryd.f9.params.toList args.toList ds p := hA0
  rw [Tryd.params9] at hA hval
  obtain ⟨v0, vs0, d0, ds0, p0, q0, hargs, rfl, rfl, h0, r0⟩ := trodAll_cons hA
  obtain ⟨rfl, rfl, rfl⟩ := trodAll_nil r0
  obtain rfl : args = #[v0] := by cases args; simp_all
  obtain ⟨rfl, rfl⟩ := trodVars_none hV
  obtain ⟨a0, rfl, rfl, rfl, w0⟩ := open_int Tryd.underlying2 (hval 0 2 v0 rfl rfl) h0
  clear hA0 hval0
  simp only [List.append_nil] at hW'
  refine (walkd a0 w0 W (of_laid hL)).mono fun e W' ⟨he, hb⟩ => ?_
  subst he
  exact ⟨_, rfl, post_below (pa := []) (pv := []) hW' (fun _ _ _ => (trodAll_cons_mk (shut_bool Tryd.underlying4 _) trodAll_mk0)) (fun sp _ => (trodAll_cons_mk (shut_int Tryd.underlying2 w0) trodAll_mk0)) (fun _ _ => rfl) rfl
    hb (ok_one (by kernel_rfl) rfl (okWide_bool_mk Tryd.underlying4 _))⟩

theorem over : Rows.packSmallRow.holds Tryd.pinned (OpenSpec.ofChange Rows.packSmallSpec) :=
  OpenClaim.holds_of_wide 9 Tryd.f9 rfl rfl rfl rfl rfl rfl rfl ⟨rfl, rfl, rfl, rfl, rfl⟩ rfl rfl rfl rfl rfl (by kernel_rfl) Tryd.func9 (by kernel_rfl)
    (of_decide_eq_true (by kernel_rfl)) (by unfold Func.isWrapper; first | (rw [if_pos (by decide +kernel)]; kernel_rfl) | (rw [if_neg (by decide +kernel)]; exact ⟨rfl, rfl⟩))
    (fun os started H enc _ => lifted os started H enc)

/-- The tied card. -/
theorem proved : Rows.PackSmallCardSaid :=
  Claim7.holds_tied_plain_at .later [] [.data] true _ false
    over (fun _ h => by cases h) (by kernel_rfl) (fun _ h => by cases h) packSmall_row_tie rfl ⟨rfl, rfl⟩ (by kernel_rfl) rfl
    (fun f fn hf hfn => by
      obtain rfl : f = 9 := Option.some.inj ((show Tryd.prog.funcNamed "sojourn/sojournlaw1.PackSmall" = some 9 by kernel_rfl).symm.trans hf) |>.symm
      obtain rfl : fn = Tryd.f9 := (Option.some.inj (Tryd.func9.symm.trans hfn)).symm
      exact ⟨by kernel_rfl, fun j t ht => by
        rw [Tryd.params9] at ht
        have hm : t ∈ [2] := by simpa using Array.mem_of_getElem? ht
        have hall : ([2].all fun u => !Tryd.prog.wantsStandIn u) = true := by kernel_rfl
        exact (show Tryd.prog.wantsStandIn t = false by simpa using List.all_eq_true.1 hall t hm)⟩)
    (by kernel_rfl)
#print axioms proved

end Go.Proofs.YtfdgjdakaibifaaDoor.packSmall
