/- Proved: each record is found where the one ahead of it ends, and nowhere behind or ahead of all (FramePlaces), for any records, the package's table being as the program's text lays it. -/
import Derived.Test.YthadgeihkeggfaaDoorFrO
import Derived.Lib.QuietBelow
import Derived.Test.YthadgeihkeggfaaDoorCards
import Derived.Test.YthadgeihkeggfaaDoorTie
namespace Go.Proofs.YthadgeihkeggfaaDoor.framePlaces
open Go.ChangeShapes Go.WideShapes Go.ChangeAt Go.WideElems Go.RowKit
open Go.Sort
open Go.Proofs.YthadgeihkeggfaaDoor.Pk Go.Proofs.YthadgeihkeggfaaDoor.Fr

def PutsAt (w : World) (l : List (List UInt8)) (b i : Value) (wr : World) : Prop :=
  ∃ k : Nat, i = .int .i64 (k : Nat) ∧ k ≤ l.length ∧ wr.ownsRow w.heap.size 5 1 b (frames (l.take k)).length (u8s (frames (l.take k))) ∧ (∀ r ∈ l.take k, 1 ≤ r.length ∧ r.length ≤ 40) ∧ RowKit.Below w.heap.size w wr
def OnesAt (w3 : World) (l : List (List UInt8)) (a i : Value) (wr : World) : Prop :=
  ∃ k : Nat, i = .int .i64 (k : Nat) ∧ k ≤ l.length ∧ a = .int .i64 ((frames (l.take k)).length : Nat) ∧ RowKit.Below w3.heap.size w3 wr

set_option maxHeartbeats 3200000 in
set_option maxRecDepth 100000 in
theorem walk (A : Option Addr) (n c : Nat) (l : List (List UInt8)) (w : World) (hx : Txts w w.heap.size A n l) (ht : Tab w) (hnc : n ≤ c) (_hc : c ≤ 9223372036854775807) :
    Calls Tryd.prog 7 #[.slice A n c] w fun e w' => e = .returned (.bool true) ∧ RowKit.Below w.heap.size w w' := by
  have T : Hid (∀ w', RowKit.Below w.heap.size w w' → Calls Tryd.prog 8 #[] w' fun e w'' => e = .returned (.bool true) ∧ RowKit.Below w'.heap.size w' w'') := fun w' hb => told_any w' (ht.below hb)
  have Tk : Hid (∀ w', RowKit.Below w.heap.size w w' → Tab w') := fun w' hb => ht.below hb
  have hl : Hid (l.length = n) := hx.len
  replace hx := Lib.hid hx
  clear ht
  by_cases h8 : n < 1 ∨ 8 < n
  · have T0 := Lib.hid (T.out w (RowKit.Below.refl _ _))
    rcases h8 with h | h
    all_goals
      go_enter Tryd.func7, Tryd.ntmps7
      go_wp2_with fail
      refine T0.out.mono ?_
      rintro e w4 ⟨rfl, b4⟩
      replace b4 := Lib.hid b4
      go_wp2
      go_ret
      exact ⟨rfl, b4.out⟩
  obtain ⟨a, rfl, hab, _⟩ := hx.out.at_ (by omega)
  have st : Hid (PutsAt w l (.slice none 0 0) (.int .i64 0) w) := ⟨0, rfl, Nat.zero_le _, World.ownsRow_nil _ _ _ _, (fun r hr => by simp at hr), RowKit.Below.refl _ _⟩
  go_enter Tryd.func7, Tryd.ntmps7
  go_wp2_with fail
  go_loopw [3, 4] (fun b i wr => PutsAt w l b i wr) (fun _ i _ => n - (intOf i).toNat)
  case atStart => exact st.out
  case round =>
    obtain ⟨k, rfl, hk, ho, hall, hb⟩ := hrel
    replace ho := Lib.hid ho
    replace hb := Lib.hid hb
    replace hall := Lib.hid hall
    by_cases hlt : k < n
    · obtain ⟨r, hr⟩ : ∃ r, l[k]? = some r := ⟨_, List.getElem?_eq_getElem (by have := hl.out; omega)⟩
      obtain ⟨u, hu, A1, c1, e1, _, hc1, hm1, hR⟩ := (hx.out.below hb.out).get hr
      subst e1
      replace hR := Lib.hid hR
      replace hr := Lib.hid hr
      have hzw : w.heap.size ≤ wr.heap.size := hb.out.size
      have Q := Lib.hid (T.out wr hb.out)
      obtain ⟨m, hm⟩ : ∃ m, m = r.length := ⟨_, rfl⟩
      rw [← hm] at hu hc1 hR
      by_cases hbad : m < 1 ∨ 40 < m
      · clear hm
        rcases hbad with h | h
        all_goals
          go_wp2_with fail
          refine Q.out.mono ?_
          rintro e w4 ⟨rfl, b4⟩
          have be4 : Hid (RowKit.Below w.heap.size w w4) := hb.out.trans (b4.mono hb.out.size)
          clear b4
          go_wp2
          go_ret
          exact ⟨rfl, be4.out⟩
      · have P := put_yes wr A1 m c1 r hR.out (fun g hg => by omega) (Tk.out wr hb.out) (by omega) (by omega)
        unfold PutTo at P
        rw [← hm] at P
        replace P := Lib.hid P
        have hall2 : Hid (∀ x ∈ l.take (k + 1), 1 ≤ x.length ∧ x.length ≤ 40) := all_snoc hall.out hr.out (by omega) (by omega)
        obtain ⟨q, hq⟩ : ∃ q, q = (frames (l.take k)).length := ⟨_, rfl⟩
        have hq2 : q ≤ 8 * 46 := by
          have h1 := frames_len_le _ hall.out
          rw [List.length_take, Nat.min_eq_left hk] at h1
          rw [hq]
          exact Nat.le_trans h1 (Nat.mul_le_mul_right _ (by omega))
        have hft := frames_take hr.out
        have hfl : Hid ((frames (l.take (k + 1))).length = q + (m + 6)) := by rw [hft, List.length_append, frame_len, ← hq, ← hm]; rfl
        rw [← hq] at ho
        replace hft := Lib.hid hft
        obtain ⟨Ab, cb, rfl⟩ := own_form ho.out
        clear hq hm hR
        go_wp2_with fail
        refine P.out.mono ?_
        rintro e w4 ⟨v4, rfl, o4, b4⟩
        obtain ⟨A4, c4, rfl⟩ := own_form o4
        have be4 : Hid (RowKit.Below w.heap.size w w4) := hb.out.trans (b4.mono hzw)
        have O4 : Hid (w4.ownsRow w.heap.size 5 1 (.slice Ab q cb) q (u8s (frames (l.take k)))) := Fr.own_below ho.out b4
        have R4 : Hid (Rb w4 (fun g => g < w4.heap.size) A4 (m + 6) (frame r)) := rb_own o4
        have z4 : w.heap.size ≤ w4.heap.size := be4.out.size
        have hnb : q + (m + 6) ≤ 140737488355328 := by omega
        clear o4 b4 P ho hu
        go_wp2_with (at_builtin; refine wpList_append_b _ rfl (.tmp 57) (.tmp 58) rfl w.heap.size (.slice Ab q cb) q _ rfl O4.out rfl R4.out hnb z4 ?_; intro v6 w6 hown6 hg6 _; have st6 : Hid (PutsAt w l v6 (.int .i64 ((k : Int) + 1)) w6) := ⟨k + 1, by simp, by have := hl.out; omega, by rw [hfl.out, hft.out]; exact hown6, hall2.out, be4.out.grown hg6 z4 (fun g hg => (O4.out.lt g hg).1)⟩; clear hown6 hg6)
        exact ⟨st6.out, by simp [intOf]; omega⟩
    · obtain rfl : k = n := by have := hl.out; omega
      have hk2 : k = l.length := hl.out.symm
      have htl : l.take k = l := by rw [hk2, List.take_length]
      rw [htl] at ho hall
      obtain ⟨w3, hv⟩ : ∃ z, z = wr := ⟨_, rfl⟩
      subst hv
      obtain ⟨q, hq⟩ : ∃ q, q = (frames l).length := ⟨_, rfl⟩
      obtain ⟨bs, hbs⟩ : ∃ bs, bs = frames l := ⟨_, rfl⟩
      rw [← hq, ← hbs] at ho
      obtain ⟨Ab, cb, rfl⟩ := own_form ho.out
      have hcap := own_cap ho.out
      have hcb : q ≤ cb := hcap.1
      have hcm : cb ≤ 9223372036854775807 := by have := hcap.2; unfold maxLen at this; exact this
      have Rb3 : Hid (Rb w3 (fun g => g < w3.heap.size) Ab q bs) := rb_own ho.out
      have Tx3 : Hid (Txts w3 w.heap.size (some a) k l) := hx.out.below hb.out
      have hz3 : w.heap.size ≤ w3.heap.size := hb.out.size
      have st3 : Hid (OnesAt w3 l (.int .i64 0) (.int .i64 0) w3) := ⟨0, rfl, Nat.zero_le _, rfl, RowKit.Below.refl _ _⟩
      replace hq := Lib.hid hq
      replace hbs := Lib.hid hbs
      replace hk2 := Lib.hid hk2
      replace htl := Lib.hid htl
      clear ho hcap st hx
      go_wp2_with fail
      go_loopw [7, 8] (fun a i wr => OnesAt w3 l a i wr) (fun _ i _ => k - (intOf i).toNat)
      case atStart => exact st3.out
      case round =>
        obtain ⟨j, rfl, hj, rfl, hb4⟩ := hrel
        replace hb4 := Lib.hid hb4
        have be4 : Hid (RowKit.Below w.heap.size w wr) := hb.out.trans (hb4.out.mono hz3)
        have R4 : Hid (Rb wr (fun g => g < wr.heap.size) Ab q bs) := rb_below Rb3.out hb4.out
        obtain ⟨p, hp⟩ : ∃ p, p = (frames (l.take j)).length := ⟨_, rfl⟩
        have hpq : p ≤ q := by
          have := frames_drop l j
          rw [hp, hq.out]
          conv => rhs; rw [← List.take_append_drop j l, frames_app, List.length_append]
          omega
        have hbl : Hid (bs.length = q) := Rb3.out.len
        have hdr : Hid (bs.drop p = frames (l.drop j)) := by rw [hp, hbs.out]; exact frames_drop l j
        have hq3 : q ≤ 1000000 := by
          have h1 := frames_len_le l hall.out
          rw [hq.out, ← hk2.out] at *
          omega
        rw [← hp]
        by_cases hjl : j < k
        · obtain ⟨r, hr⟩ : ∃ r, l[j]? = some r := ⟨_, List.getElem?_eq_getElem (by have := hk2.out; omega)⟩
          obtain ⟨h1, h2⟩ := hall.out r (List.mem_of_getElem? hr)
          have hat : Hid (oneAt bs (p : Int) = some r) := by
            unfold Hid
            rw [oneAt_nat (by rw [hbl.out]; exact hpq), hdr.out, List.drop_eq_getElem_cons (List.getElem?_eq_some_iff.1 hr).1, (List.getElem?_eq_some_iff.1 hr).2]
            exact one_frame h1 (by omega)
          obtain ⟨u, hu, A1, c1, e1, _, hc1, hm1, hR⟩ := (Tx3.out.below (hb4.out.mono hz3)).get hr
          subst e1
          have hnx : Hid ((frames (l.take (j + 1))).length = p + (6 + r.length)) := by rw [frames_take hr, List.length_append, frame_len, ← hp]; show _ = _; omega
          have O := Lib.hid (one_any wr Ab q cb (p : Int) bs R4.out (fun _ hg => hg) (Tk.out wr be4.out) hcb hcm (by omega))
          obtain ⟨m, hm⟩ : ∃ m, m = r.length := ⟨_, rfl⟩
          rw [← hm] at hu hc1 hR hnx
          have hm2 : m ≤ 40 := by omega
          replace hR := Lib.hid hR
          replace hm := Lib.hid hm
          clear hp hr h1 h2 hdr
          go_wp2_with fail
          refine O.out.mono ?_
          rintro e w5 (⟨q1, _⟩ | ⟨r', v5, q1, rfl, q3, q4⟩)
          · rw [hat.out] at q1; cases q1
          obtain rfl : r = r' := by rw [hat.out] at q1; injection q1
          rw [← hm.out] at q3 ⊢
          obtain ⟨A5, c5, rfl⟩ := own_form q3
          have be5 : Hid (RowKit.Below w3.heap.size w3 w5) := hb4.out.trans (q4.mono hb4.out.size)
          have S5 : Hid (Rb w5 (fun g => g < w5.heap.size) A5 m r) := rb_own q3
          have z4 : w.heap.size ≤ wr.heap.size := be4.out.size
          have S6 : Hid (Rb w5 (fun g => g < w.heap.size) A1 m r) := hR.out.keep (fun g hg => q4.block g (by omega)) (fun _ h => h)
          have hu5 : w5.cell? (a.add j) = some (.slice A1 m c1) := (World.cell?_of_block (by rw [adr_block]; exact q4.block _ (by omega))).trans hu
          have s1 : ∀ d, (convert 22 9 (.slice A5 m c5)).run Tryd.prog (w5.drewN d) = .ok (.string (str r)) (w5.drewN d) := fun d => str_run (T := fun g => g < w5.heap.size) ⟨S5.out.len, S5.out.at_⟩
          have s2 : ∀ d, (convert 22 9 (.slice A1 m c1)).run Tryd.prog (w5.drewN d) = .ok (.string (str r)) (w5.drewN d) := fun d => str_run (T := fun g => g < w.heap.size) ⟨S6.out.len, S6.out.at_⟩
          have e5 : (p : Int) + (6 + (m : Int)) = (p : Int) + 6 + m := by omega
          rw [e5]
          clear q1 q3 q4 hu O hR e5 S5 S6
          have nx : Hid (∀ w6, RowKit.Below w5.heap.size w5 w6 → OnesAt w3 l (.int .i64 ((p : Int) + 6 + m)) (.int .i64 ((j : Int) + 1)) w6) := fun w6 b6 => ⟨j + 1, by simp, by have := hk2.out; omega, by rw [hnx.out]; congr 1; omega, be5.out.trans (b6.mono be5.out.size)⟩
          go_wp2_with fail
          go_quiet (fail)
          go_wp2
          exact ⟨nx.out _ ⟨rfl, rfl, rfl, Nat.le_refl _, fun _ _ => rfl⟩, by simp [intOf]; omega⟩
        · obtain rfl : j = k := by have := hk2.out; omega
          obtain rfl : p = q := by rw [hp, hq.out, htl.out]
          have e1 : Hid (oneAt bs (p : Int) = none) := oneAt_out (.inr (by rw [hbl.out]; omega))
          have e2 : Hid (oneAt bs ((p : Int) + 1) = none) := oneAt_out (.inr (by rw [hbl.out]; omega))
          have e3 : Hid (oneAt bs (-1) = none) := oneAt_out (.inl (by omega))
          have O1 := Lib.hid (one_any wr Ab p cb (p : Int) bs R4.out (fun _ hg => hg) (Tk.out wr be4.out) hcb hcm (by omega))
          have O2 := Lib.hid (one_any wr Ab p cb ((p : Int) + 1) bs R4.out (fun _ hg => hg) (Tk.out wr be4.out) hcb hcm (by omega))
          have O3 := Lib.hid (one_any wr Ab p cb (-1) bs R4.out (fun _ hg => hg) (Tk.out wr be4.out) hcb hcm (by omega))
          have Q := Lib.hid (T.out wr be4.out)
          clear hp hdr
          go_wp2_with fail
          refine O1.out.mono ?_
          rintro e w5 (⟨_, rfl, rfl⟩ | ⟨r', v5, q1, _⟩)
          rotate_left
          · rw [e1.out] at q1; cases q1
          go_wp2_with fail
          refine O2.out.mono ?_
          rintro e w5 (⟨_, rfl, rfl⟩ | ⟨r', v5, q1, _⟩)
          rotate_left
          · rw [e2.out] at q1; cases q1
          go_wp2_with fail
          refine O3.out.mono ?_
          rintro e w5 (⟨_, rfl, rfl⟩ | ⟨r', v5, q1, _⟩)
          rotate_left
          · rw [e3.out] at q1; cases q1
          clear O1 O2 O3 e1 e2 e3
          go_wp2_with fail
          refine Q.out.mono ?_
          rintro e w6 ⟨rfl, b6⟩
          have be6 : Hid (RowKit.Below w.heap.size w w6) := be4.out.trans (b6.mono be4.out.size)
          clear b6 Q
          go_wp2
          go_ret
          exact ⟨rfl, be6.out⟩

theorem walkd (v0 : Value) (A0 : Option Addr) (n0 c0 : Nat) (l0 : List (List UInt8)) (e0 : v0 = .slice A0 n0 c0) (lc0 : n0 ≤ c0) (uc0 : c0 ≤ 9223372036854775807) {W' : World} (w0 : Txts W' W'.heap.size A0 n0 l0) (W : World) (hW : W = W') (ht : Tab W) :
    Calls Tryd.prog 7 #[v0] W fun e w' => e = .returned (.bool true) ∧ RowKit.Below W.heap.size W w' := by
  subst hW
  subst e0
  exact walk A0 n0 c0 l0 _ w0 ht lc0 uc0

/-! The row: every input, the listed variable as the condition has it. -/
set_option linter.unusedVariables false
set_option maxRecDepth 100000 in
theorem lifted (os : Os) (started : os.Started) (H : Type) (enc : TypeId × Value → H) :
    ReturnsInHanded {} Tryd.checked os 7 .any (fun w args => (Rows.framePlacesSpec.pre enc Tryd.prog Tryd.f7 [] false w args ∧ laidMetH Tryd.prog laids w) ∧ sizedMet enc Tryd.prog Tryd.f7 (OpenSpec.ofChange Rows.framePlacesSpec) false w args)
      (Rows.framePlacesSpec.post enc Tryd.prog Tryd.f7 false true false false) := by
  refine returnsInHanded_of_change_and (C := Tryd.checked) (X := fun w _ => laidMetH Tryd.prog laids w) (fun _ _ _ hh h => h.of_heap hh) own started (by kernel_rfl) Tryd.func7
    (ChangeSpec.witness_shaped (enc := enc) (C := Tryd.checked) (os := os) (X := fun w _ => laidMetH Tryd.prog laids w) false (World.doorLaid Tryd.prog 400 os) #[.slice none 0 0] 8 rfl (World.shaped_of_RefB (by kernel_rfl) (by kernel_rfl)) (by kernel_rfl) (by kernel_rfl) (by kernel_rfl) (door_met os _)) ?_
  intro W base args ds gs before hval0 hW _ _ hL _
  have hval : ∀ (j : Nat) t v, Tryd.f7.params[j]? = some t → args[j]? = some v → Value.okWide Tryd.prog W .any base t v := hval0
  have hW' := hW
  obtain ⟨p, q, hA0, hV, rfl, hfz, hnd⟩ := hW
  have hA : DataW.TrodAll enc Tryd.prog W 0 (fun _ => true) true Tryd.f7.params.toList args.toList ds p := hA0
  rw [Tryd.params7] at hA hval
  obtain ⟨v0, vs0, d0, ds0, p0, q0, hargs, rfl, rfl, h0, r0⟩ := trodAll_cons hA
  obtain ⟨rfl, rfl, rfl⟩ := trodAll_nil r0
  obtain rfl : args = #[v0] := by cases args; simp_all
  obtain ⟨rfl, rfl⟩ := trodVars_none hV
  obtain ⟨A0, n0, c0, l0, e0, lc0, uc0, w0⟩ := view_texts (hval 0 27 v0 rfl rfl) h0
  clear hA0 hval0
  simp only [List.append_nil] at hW'
  refine (walkd v0 A0 n0 c0 l0 e0 lc0 uc0 w0 W rfl (of_laid hL)).mono fun e W' ⟨he, hb⟩ => ?_
  subst he
  exact ⟨_, rfl, post_below (pa := p0 ++ []) (pv := []) hW' (fun _ _ _ => (trodAll_cons_mk (shut_bool Tryd.underlying4 _) trodAll_mk0)) (fun sp hsp => (trodAll_cons_mk (Trod_stays laidOut (by kernel_rfl) (of_decide_eq_true (by kernel_rfl)) h0 (fun x hx => hb.same (hW'.lt x (by simp [hx]))) (fun x hx => hsp x (by simp [hx]))) trodAll_mk0)) (fun _ _ => rfl) (by simp)
    hb (ok_one (by kernel_rfl) rfl (okWide_bool_mk Tryd.underlying4 _))⟩

theorem over : Rows.framePlacesRow.holds Tryd.pinned (OpenSpec.ofChange Rows.framePlacesSpec) :=
  OpenClaim.holds_of_wide 7 Tryd.f7 rfl rfl rfl rfl rfl rfl rfl ⟨rfl, rfl, rfl, rfl, rfl⟩ rfl rfl rfl rfl rfl (by kernel_rfl) Tryd.func7 (by kernel_rfl)
    (of_decide_eq_true (by kernel_rfl)) (by unfold Func.isWrapper; first | (rw [if_pos (by decide +kernel)]; kernel_rfl) | (rw [if_neg (by decide +kernel)]; exact ⟨rfl, rfl⟩))
    (fun os started H enc _ => lifted os started H enc)

/-- The tied card. -/
theorem proved : Rows.FramePlacesCardSaid :=
  Claim7.holds_tied_plain_at .later [] [.data] true _ false
    over (fun _ h => by cases h) (by kernel_rfl) (fun _ h => by cases h) framePlaces_row_tie rfl ⟨rfl, rfl⟩ (by kernel_rfl) rfl
    (fun f fn hf hfn => by
      obtain rfl : f = 7 := Option.some.inj ((show Tryd.prog.funcNamed "sojourn/sojournlaw4.FramePlaces" = some 7 by kernel_rfl).symm.trans hf) |>.symm
      obtain rfl : fn = Tryd.f7 := (Option.some.inj (Tryd.func7.symm.trans hfn)).symm
      exact ⟨by kernel_rfl, fun j t ht => by
        rw [Tryd.params7] at ht
        have hm : t ∈ [27] := by simpa using Array.mem_of_getElem? ht
        have hall : ([27].all fun u => !Tryd.prog.wantsStandIn u) = true := by kernel_rfl
        exact (show Tryd.prog.wantsStandIn t = false by simpa using List.all_eq_true.1 hall t hm)⟩)
    (by kernel_rfl)
#print axioms proved

end Go.Proofs.YthadgeihkeggfaaDoor.framePlaces
