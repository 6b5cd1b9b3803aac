/- Proved: once a Reader is wrong it stays so, whatever is asked (PackWrong), for every bytes and all questions, the package's table being as the program's text lays it. -/
import Derived.Test.YtfdgjdakaibifaaDoorPkN
import Derived.Test.YtfdgjdakaibifaaDoorPkO
import Derived.Test.YtfdgjdakaibifaaDoorCards
import Derived.Test.YtfdgjdakaibifaaDoorTie
namespace Go.Proofs.YtfdgjdakaibifaaDoor.packWrong
open Go.ChangeShapes Go.WideShapes Go.ChangeAt Go.WideElems Go.RowKit
open Go.ChangeMaps (open_string shut_string)
open Go.Proofs.YtfdgjdakaibifaaDoor.Pk

def ReadAt (w : World) (r : Nat) (bs : List UInt8) (i : Value) (wr : World) : Prop := ∃ k : Nat, i = .int .i64 k ∧ k ≤ bs.length ∧ Rd wr r (some (bs.drop k)) ∧ Below w.heap.size w wr
def AskAt (w : World) (r n : Nat) (i : Value) (wr : World) : Prop := ∃ k : Nat, i = .int .i64 k ∧ k ≤ n ∧ Rd wr r none ∧ Below w.heap.size w wr

set_option maxHeartbeats 3200000 in
set_option maxRecDepth 100000 in
theorem walk (A : Option Addr) (m c : Nat) (bs : List UInt8) (hA : A = none → c = 0) (w : World) (R : Rb w (fun g => g < w.heap.size) A m bs)
    (L : Option Addr) (n d : Nat) (l : List OpR) (O : Ops w w.heap.size L n l) (ht : Tab w) :
    Calls Tryd.prog 10 #[.slice A m c, .slice L n d] w fun e w' => e = .returned (.bool true) ∧ Below w.heap.size w w' := by
  replace ht := Lib.hid ht
  replace hA := Lib.hid hA
  replace R := Lib.hid R
  replace O := Lib.hid O
  by_cases h60 : 60 < m
  · have Q := Lib.hid (told_any w ht.out)
    go_enter Tryd.func10, Tryd.ntmps10
    go_wp2_with (go_at_call 11; ((with_reducible refine Q.out.mono ?_); rintro e w' ⟨rfl, hb⟩))
    go_ret
    exact ⟨rfl, hb⟩
  by_cases h20 : 20 < n
  · have Q := Lib.hid (told_any w ht.out)
    go_enter Tryd.func10, Tryd.ntmps10
    go_wp2_with (go_at_call 11; ((with_reducible refine Q.out.mono ?_); rintro e w' ⟨rfl, hb⟩))
    go_ret
    exact ⟨rfl, hb⟩
  have hl := Lib.hid R.out.len
  go_enter Tryd.func10, Tryd.ntmps10
  go_wp2_with fail
  refine (new_any w A m c bs R.out (fun g hg => hg) (by omega) hA.out).mono ?_
  rintro e w1 ⟨r, rfl, hr, R1, b1⟩
  have hr' := Lib.hid hr
  have st : Hid (ReadAt w r bs (.int .i64 0) w1) := ⟨0, rfl, Nat.zero_le _, R1, b1⟩
  clear hr R1 b1
  go_wp2_with fail
  go_loopw [6] (fun i wr => ReadAt w r bs i wr) (fun i _ => m - (intOf i).toNat)
  case atStart => exact st.out
  case round =>
    obtain ⟨k, rfl, hk, R2, b2⟩ := hrel
    replace R2 := Lib.hid R2
    replace b2 := Lib.hid b2
    have hkm : k ≤ m := by have := hl.out; omega
    clear hk
    by_cases hlt : k < m
    · have B := rbyte_any r wr _ R2.out
      have hsplit : rByte (some (bs.drop k)) = ((bs.drop k).headD 0 |>.toNat, some (bs.drop (k + 1))) := by
        have hlk : k < bs.length := by have := hl.out; omega
        rw [List.drop_eq_getElem_cons hlk]; rfl
      rw [hsplit] at B
      replace B := Lib.hid B
      clear hsplit
      go_wp2_with (go_at_call 23; ((with_reducible refine B.out.mono ?_); rintro e w' ⟨rfl, hrr⟩))
      go_roundw
      case rel => exact ⟨k + 1, by go_num, by have := hl.out; omega, hrr.rd, b2.out.trans (grown_below hrr.gr hr'.out b2.out.size)⟩
      case measure => simp [intOf]; omega
    · have e0 : bs.drop k = [] := List.drop_of_length_le (by have := hl.out; omega)
      rw [e0] at R2
      clear e0
      go_wp2_with fail
      refine (rend_any r wr _ R2.out).mono ?_
      rintro e w2 ⟨rfl, rfl⟩
      go_wp2_with fail
      refine (rbyte_any r wr _ R2.out).mono ?_
      rintro e w3 ⟨rfl, R3⟩
      have b3 : Hid (Below w.heap.size w w3) := b2.out.trans (grown_below R3.gr hr'.out b2.out.size)
      replace R3 : Hid (Rd w3 r none) := R3.rd
      go_wp2_with fail
      refine (rend_any r w3 _ R3.out).mono ?_
      rintro e w4 ⟨rfl, rfl⟩
      have st2 : Hid (AskAt w r n (.int .i64 0) w3) := ⟨0, rfl, Nat.zero_le _, R3.out, b3.out⟩
      clear R3 b3 R2 b2
      go_wp2_with fail
      go_loopw [7] (fun i wr => AskAt w r n i wr) (fun i _ => n - (intOf i).toNat)
      case atStart => exact st2.out
      case round =>
        obtain ⟨j, rfl, hj, R4, b4⟩ := hrel
        replace R4 := Lib.hid R4
        replace b4 := Lib.hid b4
        by_cases hjn : j < n
        · obtain ⟨a, hL, hab, hat⟩ := O.out.at_ (by omega)
          obtain ⟨o, ho⟩ : ∃ o, l[j]? = some o := ⟨_, List.getElem?_eq_getElem (by have := O.out.len; omega)⟩
          have at1 := (hat j o ho).same (b4.out.block _ hab)
          have q3 := at1.c3
          have q4 := at1.c4
          have q5 := at1.c5
          have e0 := str_toList []
          have C1 := Lib.hid (fun k => rint_no r (wr.drewN k) o.lo o.hi (R4.out.drewN k))
          have C2 := Lib.hid (fun k => rtext_no r (wr.drewN k) o.most (R4.out.drewN k))
          have C3 := Lib.hid (fun k => rbyte_no r (wr.drewN k) (R4.out.drewN k))
          have C4 := Lib.hid (fun k => rend_no r (wr.drewN k) (R4.out.drewN k))
          subst hL
          clear hat ho at1
          go_wp2_with fail
          go_quiet ((first | (go_at_call 19; exact Calls.quiet_of_same (C1.out _)) | (go_at_call 21; exact Calls.quiet_of_same (C2.out _)) | (go_at_call 23; exact Calls.quiet_of_same (C3.out _)) | (go_at_call 25; exact Calls.quiet_of_same (C4.out _))))
          go_wp2
          go_roundw
          case rel => exact ⟨j + 1, by go_num, by omega, R4.out.drewN _, ⟨b4.out.os, b4.out.tape, b4.out.output, b4.out.size, b4.out.block⟩⟩
          case measure => simp [intOf]; omega
        · have Q := Lib.hid (told_any wr (ht.out.below b4.out))
          go_wp2_with (go_at_call 11; ((with_reducible refine Q.out.mono ?_); rintro e w' ⟨rfl, hb⟩))
          go_ret
          exact ⟨rfl, b4.out.trans (hb.mono b4.out.size)⟩
theorem walkd (v0 : Value) (a0 : List UInt8) {W : World} (w0 : Src W v0 a0) (v1 : Value) (A1 : Option Addr) (n1 c1 : Nat) (a1 : List OpR) (e1 : v1 = .slice A1 n1 c1) (_lc : n1 ≤ c1) (_uc : c1 ≤ 9223372036854775807) (w1 : Ops W W.heap.size A1 n1 a1) (W' : World) (hW : W' = W) (ht : Tab W') :
    Calls Tryd.prog 10 #[v0, v1] W' fun e w' => e = .returned (.bool true) ∧ Below W'.heap.size W' w' := by
  subst hW
  obtain ⟨A, m, c, rfl, hA, _, _, R⟩ := w0
  subst e1
  exact walk A m c a0 hA _ R A1 n1 c1 a1 w1 ht

/-! The row: every input, the listed variable as the condition has it. -/
set_option linter.unusedVariables false
set_option maxRecDepth 100000 in
theorem lifted (os : Os) (started : os.Started) (H : Type) (enc : TypeId × Value → H) :
    ReturnsInHanded {} Tryd.checked os 10 .any (fun w args => (Rows.packWrongSpec.pre enc Tryd.prog Tryd.f10 [] false w args ∧ laidMetH Tryd.prog laids w) ∧ sizedMet enc Tryd.prog Tryd.f10 (OpenSpec.ofChange Rows.packWrongSpec) false w args)
      (Rows.packWrongSpec.post enc Tryd.prog Tryd.f10 false true false false) := by
  refine returnsInHanded_of_change_and (C := Tryd.checked) (X := fun w _ => laidMetH Tryd.prog laids w) (fun _ _ _ hh h => h.of_heap hh) own started (by kernel_rfl) Tryd.func10
    (ChangeSpec.witness_shaped (enc := enc) (C := Tryd.checked) (os := os) (X := fun w _ => laidMetH Tryd.prog laids w) false (World.doorLaid Tryd.prog 400 os) #[.slice none 0 0, .slice none 0 0] 8 rfl (World.shaped_of_RefB (by kernel_rfl) (by kernel_rfl)) (by kernel_rfl) (by kernel_rfl) (by kernel_rfl) (door_met os _)) ?_
  intro W base args ds gs before hval0 hW _ _ hL _
  have hval : ∀ (j : Nat) t v, Tryd.f10.params[j]? = some t → args[j]? = some v → Value.okWide Tryd.prog W .any base t v := hval0
  have hW' := hW
  obtain ⟨p, q, hA0, hV, rfl, hfz, hnd⟩ := hW
  have hA : DataW.TrodAll enc Tryd.prog W 0 (fun _ => true) true Tryd.f10.params.toList args.toList ds p := hA0
  rw [Tryd.params10] at hA hval
  obtain ⟨v0, vs0, d0, ds0, p0, q0, hargs, rfl, rfl, h0, r0⟩ := trodAll_cons hA
  obtain ⟨v1, vs1, d1, ds1, p1, q1, rfl, rfl, rfl, h1, r1⟩ := trodAll_cons r0
  obtain ⟨rfl, rfl, rfl⟩ := trodAll_nil r1
  obtain rfl : args = #[v0, v1] := by cases args; simp_all
  obtain ⟨rfl, rfl⟩ := trodVars_none hV
  obtain ⟨a0, w0⟩ := view_bytes (hval 0 34 v0 rfl rfl) h0
  obtain ⟨A1, n1, c1, a1, e1, lc1, uc1, w1⟩ := view_ops (hval 1 22 v1 rfl rfl) h1
  clear hA0 hval0
  simp only [List.append_nil] at hW'
  refine (walkd v0 a0 w0 v1 A1 n1 c1 a1 e1 lc1 uc1 w1 W rfl (of_laid hL)).mono fun e W' ⟨he, hb⟩ => ?_
  subst he
  exact ⟨_, rfl, post_below (pa := p0 ++ (p1 ++ [])) (pv := []) hW' (fun _ _ _ => (trodAll_cons_mk (shut_bool Tryd.underlying4 _) trodAll_mk0)) (fun sp hsp => (trodAll_cons_mk (Trod_stays laidOut (by kernel_rfl) (of_decide_eq_true (by kernel_rfl)) h0 (fun x hx => hb.same (hW'.lt x (by simp [hx]))) (fun x hx => hsp x (by simp [hx]))) (trodAll_cons_mk (Trod_stays laidOut (by kernel_rfl) (of_decide_eq_true (by kernel_rfl)) h1 (fun x hx => hb.same (hW'.lt x (by simp [hx]))) (fun x hx => hsp x (by simp [hx]))) trodAll_mk0))) (fun _ _ => rfl) (by simp)
    hb (ok_one (by kernel_rfl) rfl (okWide_bool_mk Tryd.underlying4 _))⟩

theorem over : Rows.packWrongRow.holds Tryd.pinned (OpenSpec.ofChange Rows.packWrongSpec) :=
  OpenClaim.holds_of_wide 10 Tryd.f10 rfl rfl rfl rfl rfl rfl rfl ⟨rfl, rfl, rfl, rfl, rfl⟩ rfl rfl rfl rfl rfl (by kernel_rfl) Tryd.func10 (by kernel_rfl)
    (of_decide_eq_true (by kernel_rfl)) (by unfold Func.isWrapper; first | (rw [if_pos (by decide +kernel)]; kernel_rfl) | (rw [if_neg (by decide +kernel)]; exact ⟨rfl, rfl⟩))
    (fun os started H enc _ => lifted os started H enc)

/-- The tied card. -/
theorem proved : Rows.PackWrongCardSaid :=
  Claim7.holds_tied_plain_at .later [] [.data] true _ false
    over (fun _ h => by cases h) (by kernel_rfl) (fun _ h => by cases h) packWrong_row_tie rfl ⟨rfl, rfl⟩ (by kernel_rfl) rfl
    (fun f fn hf hfn => by
      obtain rfl : f = 10 := Option.some.inj ((show Tryd.prog.funcNamed "sojourn/sojournlaw1.PackWrong" = some 10 by kernel_rfl).symm.trans hf) |>.symm
      obtain rfl : fn = Tryd.f10 := (Option.some.inj (Tryd.func10.symm.trans hfn)).symm
      exact ⟨by kernel_rfl, fun j t ht => by
        rw [Tryd.params10] at ht
        have hm : t ∈ [34, 22] := by simpa using Array.mem_of_getElem? ht
        have hall : ([34, 22].all fun u => !Tryd.prog.wantsStandIn u) = true := by kernel_rfl
        exact (show Tryd.prog.wantsStandIn t = false by simpa using List.all_eq_true.1 hall t hm)⟩)
    (by kernel_rfl)
#print axioms proved
end Go.Proofs.YtfdgjdakaibifaaDoor.packWrong
