/- Proved: what is put is put as the document says (PackWrites), for all things that come in, the package's table being as the program's text lays it. -/
import Derived.Test.YtfdgjdakaibifaaDoorLwBackM
import Derived.Test.YtfdgjdakaibifaaDoorPkR
import Derived.Test.YtfdgjdakaibifaaDoorCards
import Derived.Test.YtfdgjdakaibifaaDoorTie
namespace Go.Proofs.YtfdgjdakaibifaaDoor.packWrites
open Go.ChangeShapes Go.WideShapes Go.ChangeAt Go.WideElems Go.RowKit
open Go.ChangeMaps (open_string shut_string)
open Go.Proofs.YtfdgjdakaibifaaDoor.Pk

def WAt (w : World) (l : List OpR) (s i : Value) (wr : World) : Prop :=
  ∃ k : Nat, i = .int .i64 k ∧ k ≤ l.length ∧ s = .string (str (encAll (l.take k))) ∧ Wr wr w.heap.size (encAll (l.take k)) ∧ Below w.heap.size w wr ∧ ∀ o ∈ l.take k, o.s.length ≤ 200
theorem took {l : List OpR} {k : Nat} {o : OpR} (h : l[k]? = some o) : l.take (k + 1) = l.take k ++ [o] := by rw [List.take_add_one, h]; rfl
theorem w_next {w w2 w3 : World} {l : List OpR} {k : Nat} {o : OpR} {bs : List UInt8} (h : l[k]? = some o) (hs : o.s.length ≤ 200) (hprev : ∀ o ∈ l.take k, o.s.length ≤ 200) (he : encOp o = bs) (hw : Wr w2 w.heap.size (encAll (l.take k) ++ bs))
    (hb : Below w.heap.size w w2) (h3 : Below w2.heap.size w2 w3) : WAt w l (.string (str (encAll (l.take k) ++ bs))) (.int .i64 ((k : Int) + 1)) w3 := by
  have e : encAll (l.take (k + 1)) = encAll (l.take k) ++ bs := by rw [took h, encAll_snoc, he]
  refine ⟨k + 1, rfl, (List.getElem?_eq_some_iff.1 h).1, by rw [e], by rw [e]; exact hw.below h3, hb.trans (h3.mono hb.size), fun x hx => ?_⟩
  rw [took h] at hx
  rcases List.mem_append.1 hx with h | h
  · exact hprev x h
  · rw [List.mem_singleton.1 h]; exact hs
theorem enc_short {l : List OpR} {k : Nat} (hok : ∀ o ∈ l, OpOk o) (hprev : ∀ o ∈ l.take k, o.s.length ≤ 200) (hk : k ≤ 40) : (encAll (l.take k)).length ≤ 8400 := by
  have h := encAll_len (m := 200) (l.take k) fun o ho => ⟨hok o (List.mem_of_mem_take ho), hprev o ho⟩
  have : (l.take k).length ≤ 40 := by rw [List.length_take]; omega
  have : (10 + 200) * (l.take k).length ≤ (10 + 200) * 40 := Nat.mul_le_mul_left _ this
  omega

set_option maxHeartbeats 3200000 in
set_option maxRecDepth 100000 in
theorem walk (L : Option Addr) (n d : Nat) (l : List OpR) (w : World) (O : Ops w w.heap.size L n l) (ht : Tab w) :
    Calls Tryd.prog 3 #[.slice L n d] w fun e w' => e = .returned (.bool true) ∧ Below w.heap.size w w' := by
  replace ht := Lib.hid ht
  replace O := Lib.hid O
  by_cases h40 : 40 < n
  · have Q := Lib.hid (told_any w ht.out)
    go_enter Tryd.func3, Tryd.ntmps3
    go_wp2_with (go_at_call 11; ((with_reducible refine Q.out.mono ?_); rintro e w' ⟨rfl, hb⟩))
    go_ret
    exact ⟨rfl, hb⟩
  have hln := Lib.hid O.out.len
  have st : Hid (WAt w l (.string ⟨#[]⟩) (.int .i64 0) (w.alloc (.cells #[.pointer none, .int .i64 0] 26))) :=
    ⟨0, rfl, Nat.zero_le _, rfl, Wr.new w, (Below.refl _ _).alloc (Nat.le_refl _) _, fun o h => by simp at h⟩
  go_enter Tryd.func3, Tryd.ntmps3
  go_wp2_with fail
  go_loopw [4, 5] (fun s i wr => WAt w l s i wr) (fun _ i _ => n - (intOf i).toNat)
  case atStart => exact st.out
  case round =>
    obtain ⟨k, rfl, hk, rfl, hw, hb, hprev⟩ := hrel
    have hkn : k ≤ n := by have := hln.out; omega
    clear hk
    have hshort := enc_short O.out.ok hprev (by omega)
    obtain ⟨X, hX⟩ : ∃ X, X = encAll (l.take k) := ⟨_, rfl⟩
    rw [← hX] at hw hshort ⊢
    replace hX := Lib.hid hX
    replace hw := Lib.hid hw
    replace hb := Lib.hid hb
    replace hprev := Lib.hid hprev
    by_cases hlt : k < n
    · obtain ⟨a, hL, hab, hat⟩ := O.out.at_ (by omega)
      obtain ⟨o, ho⟩ : ∃ o, l[k]? = some o := ⟨_, List.getElem?_eq_getElem (by have := hln.out; omega)⟩
      have at1 := (hat k o ho).same (hb.out.block _ hab)
      have ok := O.out.ok o (List.mem_of_getElem? ho)
      obtain ⟨on1, on2, olen⟩ := ok
      have q0 := at1.c0
      have q1 := at1.c1
      have q2 := at1.c2
      have hsl := str_size o.s
      replace ho := Lib.hid ho
      replace hat := Lib.hid at1
      clear at1
      subst hL
      by_cases hs200 : 200 < (str o.s).size
      · have Q := Lib.hid (told_any wr (ht.out.below hb.out))
        replace hsl := Lib.hid hsl
        go_wp2_with (go_at_call 11; ((with_reducible refine Q.out.mono ?_); rintro e w' ⟨rfl, hb2⟩))
        go_ret
        exact ⟨rfl, hb.out.trans (hb2.mono hb.out.size)⟩
      · have hs2 : o.s.length ≤ 200 := by omega
        replace hsl := Lib.hid hsl
        by_cases k0 : o.kind = 0
        · have k0' := Lib.hid k0
          rw [k0] at q0
          clear k0
          have hbd := encI_len o.n on1 on2
          go_wp2_with fail
          refine (wint_any w.heap.size wr X hw.out o.n on1 on2 (by omega)).mono ?_
          rintro e w2 ⟨rfl, hw2⟩
          have at2 := hat.out.same (hw2.be.block _ hab)
          have q0b := at2.c0
          have q1b := at2.c1
          have q2b := at2.c2
          have hb2 : Hid (Below w.heap.size w w2) := hb.out.trans hw2.be
          have W2 : Hid (Wr w2 w.heap.size (X ++ encI o.n)) := hw2.wr
          clear at2 hw2
          have hcat := str_cat X (encI o.n)
          have hadd := str_add X (encI o.n) (by omega)
          have hq : ¬ (str X).size + (str (encI o.n)).size > 9223372036854775807 := by rw [str_size, str_size]; omega
          go_wp2_with fail
          refine (refint w2 o.n on1 on2).mono ?_
          rintro e w3 ⟨rfl, b3⟩
          have st3 : Hid (WAt w l (.string (str (X ++ encI o.n))) (.int .i64 ((k : Int) + 1)) w3) := by
            rw [hX.out]
            exact w_next ho.out hs2 hprev.out (by unfold encOp; rw [if_pos k0'.out]) (by rw [← hX.out]; exact W2.out) hb2.out b3
          clear b3
          go_wp2
          go_roundw
          case rel => exact st3.out
          case measure => simp [intOf]; omega
        · by_cases k1 : o.kind = 1
          · have k1' := Lib.hid k1
            have k0' := Lib.hid k0
            rw [k1] at q0
            clear k1 k0
            have hbd := encT_len o.s olen
            go_wp2_with fail
            refine (wtext_any w.heap.size wr X hw.out o.s (by omega)).mono ?_
            rintro e w2 ⟨rfl, hw2⟩
            have at2 := hat.out.same (hw2.be.block _ hab)
            have q0b := at2.c0
            have q1b := at2.c1
            have q2b := at2.c2
            have hb2 : Hid (Below w.heap.size w w2) := hb.out.trans hw2.be
            have W2 : Hid (Wr w2 w.heap.size (X ++ encT o.s)) := hw2.wr
            clear at2 hw2
            have hcat := str_cat X (encT o.s)
            have hadd := str_add X (encT o.s) (by omega)
            have hq : ¬ (str X).size + (str (encT o.s)).size > 9223372036854775807 := by rw [str_size, str_size]; omega
            go_wp2_with fail
            refine (reftext w2 o.s (by omega)).mono ?_
            rintro e w3 ⟨rfl, b3⟩
            have st3 : Hid (WAt w l (.string (str (X ++ encT o.s))) (.int .i64 ((k : Int) + 1)) w3) := by
              rw [hX.out]
              exact w_next ho.out hs2 hprev.out (by unfold encOp; rw [if_neg k0'.out, if_pos k1'.out]) (by rw [← hX.out]; exact W2.out) hb2.out b3
            clear b3
            go_wp2
            go_roundw
            case rel => exact st3.out
            case measure => simp [intOf]; omega
          · have d0 : (o.kind == 0) = false := by simpa using k0
            have d1 : (o.kind == 1) = false := by simpa using k1
            have k1' := Lib.hid k1
            have k0' := Lib.hid k0
            clear k1 k0
            go_wp2_with fail
            refine (wbyte_any w.heap.size wr X hw.out o.n (by omega)).mono ?_
            rintro e w2 ⟨rfl, hw2⟩
            have at2 := hat.out.same (hw2.be.block _ hab)
            have q0b := at2.c0
            have q1b := at2.c1
            have q2b := at2.c2
            have hb2 : Hid (Below w.heap.size w w2) := hb.out.trans hw2.be
            have W2 : Hid (Wr w2 w.heap.size (X ++ [UInt8.ofNat (o.n % 256).toNat])) := hw2.wr
            clear at2 hw2
            have hcat := str_cat X [UInt8.ofNat (o.n % 256).toNat]
            have hadd := str_add X [UInt8.ofNat (o.n % 256).toNat] (by simp; omega)
            have hq : ¬ (str X).size + (str [UInt8.ofNat (o.n % 256).toNat]).size > 9223372036854775807 := by rw [str_size, str_size]; simp; omega
            have hs3 := str_run (c := 1) (rb_one w2 _ _ (byte_any o.n))
            have st3 : Hid (WAt w l (.string (str (X ++ [UInt8.ofNat (o.n % 256).toNat]))) (.int .i64 ((k : Int) + 1)) (w2.alloc (.cells #[.int .u8 (o.n % 256)] 5))) := by
              rw [hX.out]
              exact w_next ho.out hs2 hprev.out (by unfold encOp; rw [if_neg k0'.out, if_neg k1'.out]) (by rw [← hX.out]; exact W2.out) hb2.out ((Below.refl _ _).alloc (Nat.le_refl _) _)
            go_wp2
            go_roundw
            case rel => exact st3.out
            case measure => simp [intOf]; omega
    · have hXx : Hid (X.length ≤ 140737488355328) := by show _ ≤ _; omega
      have e0 := str_toList X
      go_wp2_with fail
      refine (bytes_any w.heap.size wr X hw.out hXx.out).mono ?_
      rintro e w2 ⟨bv, rfl, h4, b4⟩
      have be2 : Hid (Below w.heap.size w w2) := hb.out.trans (b4.mono hb.out.size)
      rcases Nat.eq_zero_or_pos X.length with hz | hz
      · obtain ⟨A2, c2, rfl⟩ := own_form h4
        have W2 : Hid (Wr w2 w.heap.size X) := hw.out.below b4
        clear h4 b4 hb hw
        rw [hz]
        go_wp2_with fail
        refine (told_any w2 (ht.out.below be2.out)).mono ?_
        rintro e w3 ⟨rfl, b3⟩
        have be3 : Hid (Below w.heap.size w w3) := be2.out.trans (b3.mono be2.out.size)
        have W3 : Hid (Wr w3 w.heap.size X) := W2.out.below b3
        clear b3 be2 W2
        go_wp2_with fail
        refine (bytes_any w.heap.size w3 X W3.out hXx.out).mono ?_
        rintro e w4 ⟨bv, rfl, h5, b5⟩
        obtain ⟨A5, c5, rfl⟩ := own_form h5
        have be4 : Hid (Below w.heap.size w w4) := be3.out.trans (b5.mono be3.out.size)
        have hs5 := str_run (c := c5) (Rb.of_own h5)
        clear h5 b5 W3
        replace hz := Lib.hid hz
        go_wp2
        go_ret
        exact ⟨by rfl, be4.out⟩
      · obtain ⟨g, c2, hgv, hg1, hg2⟩ : ∃ g c, bv = .slice (some ⟨g, 0, none⟩) X.length c ∧ wr.heap.size ≤ g ∧ g < w2.heap.size := by
          rcases h4.2 with ⟨_, h0⟩ | ⟨g, cap, cur, e, hb, hh, _⟩
          · omega
          · exact ⟨g, cap, e, hb, lt_some hh⟩
        subst hgv
        obtain ⟨x, hx⟩ : ∃ x, X[0]? = some x := ⟨_, List.getElem?_eq_getElem hz⟩
        have c0 : w2.cell? ⟨g, 0, none⟩ = some (.int .u8 (x.toNat : Int)) := by rw [h4.cellAt 0 (by omega), u8s, List.getElem?_map, hx]; rfl
        have f0 : w2.frozen? ⟨g, 0, none⟩ = false := h4.frozenAt 0
        have bx : Hid (∀ u, Below wr.heap.size wr (w2.setCell ⟨g, 0, none⟩ u)) := fun u => b4.setCell hg1 u
        have WX : Hid (∀ u, Wr (w2.setCell ⟨g, 0, none⟩ u) w.heap.size X) := fun u => hw.out.below (bx.out u)
        have bX : Hid (∀ u, Below w.heap.size w (w2.setCell ⟨g, 0, none⟩ u)) := fun u => hb.out.trans ((bx.out u).mono hb.out.size)
        have hxb := x.toNat_lt
        clear h4 b4 hb hw hx be2
        go_wp2_with fail
        refine (told_any _ (ht.out.below (bX.out _))).mono ?_
        rintro e w3 ⟨rfl, b3⟩
        have be3 : Hid (Below w.heap.size w w3) := (bX.out _).trans (b3.mono (bX.out _).size)
        have W3 : Hid (Wr w3 w.heap.size X) := (WX.out _).below b3
        clear b3 bX WX bx c0 f0
        go_wp2_with fail
        refine (bytes_any w.heap.size w3 X W3.out hXx.out).mono ?_
        rintro e w4 ⟨bv, rfl, h5, b5⟩
        obtain ⟨A5, c5, rfl⟩ := own_form h5
        have be4 : Hid (Below w.heap.size w w4) := be3.out.trans (b5.mono be3.out.size)
        have hs5 := str_run (c := c5) (Rb.of_own h5)
        clear h5 b5 W3
        go_wp2
        go_ret
        exact ⟨by rfl, be4.out⟩

theorem walkd (v0 : Value) (A0 : Option Addr) (n0 c0 : Nat) (a0 : List OpR) (e0 : v0 = .slice A0 n0 c0) (_lc : n0 ≤ c0) (_uc : c0 ≤ 9223372036854775807) {W : World} (w0 : Ops W W.heap.size A0 n0 a0) (W' : World) (hW : W' = W) (ht : Tab W') :
    Calls Tryd.prog 3 #[v0] W' fun e w' => e = .returned (.bool true) ∧ Below W'.heap.size W' w' := by
  subst hW
  subst e0
  exact walk A0 n0 c0 a0 _ w0 ht

/-! The row: every input, the listed variable as the condition has it. -/
set_option linter.unusedVariables false
set_option maxRecDepth 100000 in
theorem lifted (os : Os) (started : os.Started) (H : Type) (enc : TypeId × Value → H) :
    ReturnsInHanded {} Tryd.checked os 3 .any (fun w args => (Rows.packWritesSpec.pre enc Tryd.prog Tryd.f3 [] false w args ∧ laidMetH Tryd.prog laids w) ∧ sizedMet enc Tryd.prog Tryd.f3 (OpenSpec.ofChange Rows.packWritesSpec) false w args)
      (Rows.packWritesSpec.post enc Tryd.prog Tryd.f3 false true false false) := by
  refine returnsInHanded_of_change_and (C := Tryd.checked) (X := fun w _ => laidMetH Tryd.prog laids w) (fun _ _ _ hh h => h.of_heap hh) own started (by kernel_rfl) Tryd.func3
    (ChangeSpec.witness_shaped (enc := enc) (C := Tryd.checked) (os := os) (X := fun w _ => laidMetH Tryd.prog laids w) false (World.doorLaid Tryd.prog 400 os) #[.slice none 0 0] 8 rfl (World.shaped_of_RefB (by kernel_rfl) (by kernel_rfl)) (by kernel_rfl) (by kernel_rfl) (by kernel_rfl) (door_met os _)) ?_
  intro W base args ds gs before hval0 hW _ _ hL _
  have hval : ∀ (j : Nat) t v, Tryd.f3.params[j]? = some t → args[j]? = some v → Value.okWide Tryd.prog W .any base t v := hval0
  have hW' := hW
  obtain ⟨p, q, hA0, hV, rfl, hfz, hnd⟩ := hW
  have hA : DataW.TrodAll enc Tryd.prog W 0 (fun _ => true) true Tryd.f3.params.toList args.toList ds p := hA0
  rw [Tryd.params3] at hA hval
  obtain ⟨v0, vs0, d0, ds0, p0, q0, hargs, rfl, rfl, h0, r0⟩ := trodAll_cons hA
  obtain ⟨rfl, rfl, rfl⟩ := trodAll_nil r0
  obtain rfl : args = #[v0] := by cases args; simp_all
  obtain ⟨rfl, rfl⟩ := trodVars_none hV
  obtain ⟨A0, n0, c0, a0, e0, lc0, uc0, w0⟩ := view_ops (hval 0 22 v0 rfl rfl) h0
  clear hA0 hval0
  simp only [List.append_nil] at hW'
  refine (walkd v0 A0 n0 c0 a0 e0 lc0 uc0 w0 W rfl (of_laid hL)).mono fun e W' ⟨he, hb⟩ => ?_
  subst he
  exact ⟨_, rfl, post_below (pa := p0 ++ []) (pv := []) hW' (fun _ _ _ => (trodAll_cons_mk (shut_bool Tryd.underlying4 _) trodAll_mk0)) (fun sp hsp => (trodAll_cons_mk (Trod_stays laidOut (by kernel_rfl) (of_decide_eq_true (by kernel_rfl)) h0 (fun x hx => hb.same (hW'.lt x (by simp [hx]))) (fun x hx => hsp x (by simp [hx]))) trodAll_mk0)) (fun _ _ => rfl) (by simp)
    hb (ok_one (by kernel_rfl) rfl (okWide_bool_mk Tryd.underlying4 _))⟩

theorem over : Rows.packWritesRow.holds Tryd.pinned (OpenSpec.ofChange Rows.packWritesSpec) :=
  OpenClaim.holds_of_wide 3 Tryd.f3 rfl rfl rfl rfl rfl rfl rfl ⟨rfl, rfl, rfl, rfl, rfl⟩ rfl rfl rfl rfl rfl (by kernel_rfl) Tryd.func3 (by kernel_rfl)
    (of_decide_eq_true (by kernel_rfl)) (by unfold Func.isWrapper; first | (rw [if_pos (by decide +kernel)]; kernel_rfl) | (rw [if_neg (by decide +kernel)]; exact ⟨rfl, rfl⟩))
    (fun os started H enc _ => lifted os started H enc)

/-- The tied card. -/
theorem proved : Rows.PackWritesCardSaid :=
  Claim7.holds_tied_plain_at .later [] [.data] true _ false
    over (fun _ h => by cases h) (by kernel_rfl) (fun _ h => by cases h) packWrites_row_tie rfl ⟨rfl, rfl⟩ (by kernel_rfl) rfl
    (fun f fn hf hfn => by
      obtain rfl : f = 3 := Option.some.inj ((show Tryd.prog.funcNamed "sojourn/sojournlaw1.PackWrites" = some 3 by kernel_rfl).symm.trans hf) |>.symm
      obtain rfl : fn = Tryd.f3 := (Option.some.inj (Tryd.func3.symm.trans hfn)).symm
      exact ⟨by kernel_rfl, fun j t ht => by
        rw [Tryd.params3] at ht
        have hm : t ∈ [22] := by simpa using Array.mem_of_getElem? ht
        have hall : ([22].all fun u => !Tryd.prog.wantsStandIn u) = true := by kernel_rfl
        exact (show Tryd.prog.wantsStandIn t = false by simpa using List.all_eq_true.1 hall t hm)⟩)
    (by kernel_rfl)
#print axioms proved

end Go.Proofs.YtfdgjdakaibifaaDoor.packWrites
