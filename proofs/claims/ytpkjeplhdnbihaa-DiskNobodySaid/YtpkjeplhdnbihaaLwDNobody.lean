/- Proved: a disk that is none has nothing and takes nothing (DiskNobody), for any name, any number. -/
import Derived.Test.YtpkjeplhdnbihaaDkO
namespace Go.Proofs.Ytpkjeplhdnbihaa.diskNobody
open Go.ChangeShapes Go.WideShapes Go.ChangeAt Go.WideElems Go.RowKit
open Go.ChangeMaps (open_string shut_string)
open Go.Proofs.Ytpkjeplhdnbihaa.Pk Go.Proofs.Ytpkjeplhdnbihaa.Dk

set_option maxHeartbeats 3200000 in
set_option maxRecDepth 100000 in
theorem walkd (s : ByteArray) (_hs : s.size ≤ maxLen) (n : Int) (_hn : (Lit.int .i64 n).wf = true) (w : World) :
    Calls Try.prog 6 #[.string s, .int .i64 n] w fun e w' => e = .returned (.bool true) ∧ Below w.heap.size w w' := by
  have TA := Lib.hid told_any
  by_cases hl : 50 < s.size
  · have e0 : decide (50 < s.size) = true := decide_eq_true hl
    go_enter Try.func6, Try.ntmps6
    go_wp2_with fail
    refine (TA.out _).mono ?_
    rintro e w1 ⟨rfl, hb⟩
    replace hb := Lib.hid hb
    go_wp2
    go_ret
    exact ⟨rfl, hb.out⟩
  · have e0 : decide (50 < s.size) = false := decide_eq_false hl
    have C1 := Lib.hid (read_none w s)
    go_enter Try.func6, Try.ntmps6
    go_wp2_with fail
    refine C1.out.mono ?_
    rintro e w1 (⟨_, rfl, hb⟩ | ⟨_, _, _, h, _⟩)
    rotate_left
    · cases h
    have C2 := Lib.hid (crash_none w1 n)
    replace hb := Lib.hid hb
    clear C1
    go_wp2_with fail
    refine C2.out.mono ?_
    rintro e w2 ⟨rfl, h2⟩
    have b2 : Hid (Below w.heap.size w w2) := hb.out.trans (h2.mono hb.out.size)
    clear C2 hb h2
    go_wp2_with fail
    refine (TA.out _).mono ?_
    rintro e w3 ⟨rfl, h3⟩
    have b3 : Hid (Below w.heap.size w w3) := b2.out.trans (h3.mono b2.out.size)
    have C3 := Lib.hid (append_none w3 s (.slice none 0 0))
    clear b2 h3
    go_wp2_with fail
    refine C3.out.mono ?_
    rintro e w4 ⟨rfl, h4⟩
    have b4 : Hid (Below w.heap.size w w4) := b3.out.trans (h4.mono b3.out.size)
    have C4 := Lib.hid (sync_none w4 s)
    clear b3 h4 C3
    go_wp2_with fail
    refine C4.out.mono ?_
    rintro e w5 ⟨rfl, h5⟩
    have b5 : Hid (Below w.heap.size w w5) := b4.out.trans (h5.mono b4.out.size)
    have C5 := Lib.hid (cut_none w5 s n)
    clear b4 h5 C4
    go_wp2_with fail
    refine C5.out.mono ?_
    rintro e w6 ⟨rfl, h6⟩
    have b6 : Hid (Below w.heap.size w w6) := b5.out.trans (h6.mono b5.out.size)
    have C6 := Lib.hid (rename_none w6 s s)
    clear b5 h6 C5
    go_wp2_with fail
    refine C6.out.mono ?_
    rintro e w7 ⟨rfl, h7⟩
    have b7 : Hid (Below w.heap.size w w7) := b6.out.trans (h7.mono b6.out.size)
    have C7 := Lib.hid (remove_none w7 s)
    clear b6 h7 C6
    go_wp2_with fail
    refine C7.out.mono ?_
    rintro e w8 ⟨rfl, h8⟩
    have b8 : Hid (Below w.heap.size w w8) := b7.out.trans (h8.mono b7.out.size)
    have C8 := Lib.hid (names_none w8)
    clear b7 h8 C7
    go_wp2_with fail
    refine C8.out.mono ?_
    rintro e w9 ⟨v, rfl, ho, h9⟩
    obtain ⟨A9, c9, rfl⟩ := own_form ho
    have b9 : Hid (Below w.heap.size w w9) := b8.out.trans (h9.mono b8.out.size)
    have C9 := Lib.hid (used_none w9)
    simp only [List.length_nil]
    clear b8 h9 C8 ho
    go_wp2_with fail
    refine C9.out.mono ?_
    rintro e wa ⟨rfl, rfl⟩
    have Ca := Lib.hid (synced_none w9 s)
    clear C9
    go_wp2_with fail
    refine Ca.out.mono ?_
    rintro e wb ⟨rfl, hb⟩
    have bb : Hid (Below w.heap.size w wb) := b9.out.trans (hb.mono b9.out.size)
    clear Ca b9 hb TA
    go_wp2
    go_ret
    exact ⟨rfl, bb.out⟩


/-! The row: every input. -/
set_option linter.unusedVariables false
set_option maxRecDepth 100000 in
theorem lifted (os : Os) (started : os.Started) (H : Type) (enc : TypeId × Value → H) :
    ReturnsInHanded {} Try.checked os 6 .any (Rows.diskNobodySpec.pre6 enc Try.prog Try.f6 Rows.diskNobodyRow.domain false) (Rows.diskNobodySpec.post enc Try.prog Try.f6 false true false false) := by
  refine returnsInHanded_of_change (C := Try.checked) own started (by kernel_rfl) Try.func6
    (ChangeSpec.witness6 (enc := enc) (C := Try.checked) false ⟨#[], #[.string ByteArray.empty, .int .i64 0], []⟩ 8 (by kernel_rfl) (by kernel_rfl) (by kernel_rfl) (by kernel_rfl)) ?_
  intro W base args ds gs before hval0 hW _ _
  have hval : ∀ (j : Nat) t v, Try.f6.params[j]? = some t → args[j]? = some v → Value.okWide Try.prog W .any base t v := hval0
  have hW' := hW
  obtain ⟨p, q, hA0, hV, rfl, hfz, hnd⟩ := hW
  have hA : DataW.TrodAll enc Try.prog W 0 (fun _ => true) true Try.f6.params.toList args.toList ds p := hA0
  rw [Try.params6] at hA hval
  obtain ⟨v0, vs0, d0, ds0, p0, q0, hargs, rfl, rfl, h0, r0⟩ := trodAll_cons hA
  obtain ⟨v1, vs1, d1, ds1, p1, q1, rfl, rfl, rfl, h1, r1⟩ := trodAll_cons r0
  obtain ⟨rfl, rfl, rfl⟩ := trodAll_nil r1
  obtain rfl : args = #[v0, v1] := by cases args; simp_all
  obtain ⟨rfl, rfl⟩ := trodVars_none hV
  obtain ⟨a0, rfl, rfl, rfl, w0⟩ := open_string Try.underlying9 (hval 0 9 v0 rfl rfl) h0
  obtain ⟨a1, rfl, rfl, rfl, w1⟩ := open_int Try.underlying3 (hval 1 3 v1 rfl rfl) h1
  clear hA0 hval0
  simp only [List.append_nil] at hW'
  refine (walkd a0 w0 a1 w1 W).mono fun e W' ⟨he, hb⟩ => ?_
  subst he
  exact ⟨_, rfl, post_below (pa := []) (pv := []) hW' (fun _ _ _ => (trodAll_cons_mk (shut_bool Try.underlying4 _) trodAll_mk0)) (fun sp hsp => (trodAll_cons_mk (shut_string Try.underlying9 w0) (trodAll_cons_mk (shut_int Try.underlying3 w1) trodAll_mk0))) (fun _ _ => rfl) (by simp)
    hb (ok_one (by kernel_rfl) rfl (okWide_bool_mk Try.underlying4 _))⟩

theorem proved : Rows.DiskNobodySaid :=
  OpenClaim.holds_of_wide 6 Try.f6 rfl rfl rfl rfl rfl rfl rfl ⟨rfl, rfl, rfl, rfl, rfl⟩ rfl rfl rfl rfl rfl (by kernel_rfl) Try.func6 (by kernel_rfl)
    (of_decide_eq_true (by kernel_rfl)) (by unfold Func.isWrapper; first | (rw [if_pos (by decide +kernel)]; kernel_rfl) | (rw [if_neg (by decide +kernel)]; exact ⟨rfl, rfl⟩))
    (fun os started H enc _ => lifted os started H enc)
#print axioms proved

end Go.Proofs.Ytpkjeplhdnbihaa.diskNobody
