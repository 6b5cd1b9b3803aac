/- Proved: messages to a node that is down are lost when they come, to others they are not (NetDown), for any numbers. -/
import Derived.Test.YtenlblembdnniaaNtK
import Derived.Deep.CutBlock
import Derived.Deep.CutRange
namespace Go.Proofs.Ytenlblembdnniaa.netDown
open Go.ChangeShapes Go.WideShapes Go.ChangeAt Go.WideMaps Go.WideElems Go.RowKit
open Go.Proofs.Ytenlblembdnniaa.Pk (Rb)
open Go.Proofs.Ytenlblembdnniaa.Nt

/-- The message of the place j. -/
def msg (zs : List Int) (j : Nat) : Ms := ⟨2, (usm (zs.getD j 0) 3 : Nat), [UInt8.ofNat j]⟩
def ml (zs : List Int) (n : Nat) : List Ms := (List.range n).map (msg zs)
theorem ml_len (zs : List Int) (n : Nat) : (ml zs n).length = n := by simp [ml]
theorem ml_get (zs : List Int) {n j : Nat} (h : j < n) : (ml zs n)[j]? = some (msg zs j) := by simp [ml, h]
theorem ml_snoc (zs : List Int) (n : Nat) : ml zs (n + 1) = ml zs n ++ [msg zs n] := by simp [ml, List.range_succ]
theorem ml_send (zs : List Int) (us : List Bool) (hu : us.length = 3) {j : Nat} (hj : j < 30) : sendS us 50 (ml zs j) (msg zs j) = ml zs (j + 1) ∧ sendC us 50 (ml zs j) 2 (usm (zs.getD j 0) 3 : Nat) = 0 := by
  have h3 := usm_lt (zs.getD j 0) (n := 3) (by omega)
  have e1 : node us.length 2 = true := node_iff.2 ⟨by omega, by omega⟩
  have e2 : node us.length ((usm (zs.getD j 0) 3 : Nat) : Int) = true := node_iff.2 ⟨by omega, by omega⟩
  have e : (node us.length 2 && node us.length ((usm (zs.getD j 0) 3 : Nat) : Int)) = true := by rw [e1, e2]; rfl
  have hl : (ml zs j).length < 50 := by rw [ml_len]; omega
  unfold sendS sendC
  rw [show (msg zs j).fr = 2 from rfl, show (msg zs j).to_ = ((usm (zs.getD j 0) 3 : Nat) : Int) from rfl, if_pos e, if_pos e]
  unfold addS addC
  rw [if_pos hl, if_pos hl]
  exact ⟨(ml_snoc zs j).symm, rfl⟩
theorem u8_j {j : Nat} (h : j < 30) : (j : Int) = ((UInt8.ofNat j).toNat : Int) := by
  have : (UInt8.ofNat j).toNat = j := by simp; omega
  rw [this]
/-- Is the node k up, by the bits of a number? -/
def bz (down : Int) (k : Nat) : Bool := (down / 2 ^ k) % 2 == 0
def ups (down : Int) (k : Nat) : List Bool := [bz down 0, bz down 1, bz down 2].take k ++ List.replicate (3 - k) true
theorem ups_next (down : Int) {k : Nat} (h : k < 3) : upS (ups down k) (k : Int) (bz down k) = ups down (k + 1) ∧ upC (ups down k) (k : Int) = 0 ∧ upE (ups down (k + 1)) (k : Int) = bz down k := by
  match k, h with
  | 0, _ => exact ⟨rfl, rfl, rfl⟩
  | 1, _ => exact ⟨rfl, rfl, rfl⟩
  | 2, _ => exact ⟨rfl, rfl, rfl⟩
theorem ups_at (down : Int) {t : Nat} (h : t < 3) : upE (ups down 3) (t : Int) = bz down t := by
  match t, h with
  | 0, _ => rfl
  | 1, _ => rfl
  | 2, _ => rfl
theorem bz_one (down : Int) (t : Nat) : ((down / 2 ^ t) % 2 == 1) = !bz down t := by
  unfold bz
  have h := Int.emod_two_eq (down / 2 ^ t)
  rcases h with h | h <;> rw [h] <;> rfl
theorem ml_take (zs : List Int) {n i : Nat} (h : i < n) : ((ml zs n).drop i).length = n - i ∧ Nt.mt ((ml zs n).drop i) 0 = msg zs i ∧ outS ((ml zs n).drop i) 0 = (ml zs n).drop (i + 1) := by
  have h1 : ((ml zs n).drop i).length = n - i := by rw [List.length_drop, ml_len]
  refine ⟨h1, ?_, ?_⟩
  · unfold Nt.mt
    rw [List.getElem?_drop, Nat.add_zero, ml_get zs h]
    rfl
  · unfold outS del
    rw [h1, if_pos (node_iff.2 ⟨by omega, by omega⟩), show (0 : Int).toNat = 0 from rfl, List.take_zero, List.nil_append, List.drop_drop]
def SnAt (w : World) (q n : Nat) (zs : List Int) (i : Value) (wr : World) : Prop := ∃ j : Nat, i = .int .i64 j ∧ j ≤ n ∧ Ln w wr q 50 [true, true, true] (ml zs j) (fun g => g < w.heap.size)
def UpAt (w : World) (q n : Nat) (zs : List Int) (down : Int) (i : Value) (wr : World) : Prop := ∃ k : Nat, i = .int .i64 k ∧ k ≤ 3 ∧ Ln w wr q 50 (ups down k) (ml zs n) (fun g => g < w.heap.size)
def TkAt (w : World) (q n : Nat) (zs : List Int) (down : Int) (i : Value) (wr : World) : Prop := ∃ k : Nat, i = .int .i64 k ∧ k ≤ n ∧ Ln w wr q 50 (ups down 3) ((ml zs n).drop k) (fun g => g < w.heap.size)
set_option maxHeartbeats 6400000 in
set_option maxRecDepth 100000 in
theorem walk (w : World) (A : Option Addr) (n c : Nat) (zs : List Int) (down : Int) (R : Rr w (fun g => g < w.heap.size) A n zs) (hn : n ≤ 9223372036854775807) :
    Calls Try.prog 5 #[.slice A n c, .int .i64 down] w fun e w' => e = .returned (.bool true) ∧ Below w.heap.size w w' := by
  have TA := Lib.hid told_any
  have NW := Lib.hid (new_yes w 3 50 (by decide) (by decide) (by decide))
  by_cases hbig : 30 < n
  · have d1 : decide ((30 : Int) < (n : Int)) = true := decide_eq_true (by omega)
    clear R
    go_enter Try.func5, Try.ntmps5
    go_wp2_with fail
    refine NW.out.mono ?_
    rintro e w1 ⟨q, rfl, V1⟩
    have b1 := Lib.hid V1.be
    clear NW V1
    go_wp2_with fail
    refine (TA.out _).mono ?_
    rintro e w2 ⟨rfl, hb⟩
    have E := Lib.hid (b1.out.trans (hb.mono b1.out.size))
    clear hb b1
    go_wp2
    go_ret
    exact ⟨rfl, E.out⟩
  · have d1 : decide ((30 : Int) < (n : Int)) = false := decide_eq_false (by omega)
    have i3 : (n : Int) ≤ 30 := by omega
    replace R := Lib.hid R
    go_enter Try.func5, Try.ntmps5
    go_wp2_with fail
    refine NW.out.mono ?_
    rintro e w1 ⟨q, rfl, V1⟩
    have st : Hid (SnAt w q n zs (.int .i64 0) w1) := ⟨0, rfl, Nat.zero_le _, V1⟩
    clear NW V1
    go_wp2_with fail
    go_loopw [7] (fun i wr => SnAt w q n zs i wr) (fun i _ => n - (intOf i).toNat)
    case atStart => exact st.out
    case round =>
      clear st
      obtain ⟨j, rfl, hj, V⟩ := hrel
      by_cases hlt : j < n
      · have i1 : (j : Int) < (n : Int) := by omega
        have i2 : (0 : Int) ≤ (j : Int) := by omega
        obtain ⟨x, hx⟩ : ∃ x, zs[j]? = some x := ⟨_, List.getElem?_eq_getElem (by rw [R.out.len]; omega)⟩
        obtain ⟨a, rfl, _, _⟩ := R.out.at_ (by omega)
        have c1 := (R.out.below V.be).cell hx
        have ux : wrap64 ((IntKind.u64.wrap x).tmod 3) = (usm x 3 : Int) := usm_slot x (n := 3) (by omega) (by omega)
        have hzx : zs.getD j 0 = x := by simp [List.getD, hx]
        have ba : Below wr.heap.size wr (wr.alloc (.cells #[.int .u8 (j : Int)] 5)) := (Below.refl _ _).alloc (Nat.le_refl _) _
        have SE := ln_send (V.below ba) 2 (usm x 3 : Nat) (c := 1) (rb_one wr (j : Int) (UInt8.ofNat j) (u8_j (by omega)) (0, 0)) (by simp)
        have ms := ml_send zs [true, true, true] rfl (j := j) (by omega)
        have me : (⟨2, (usm x 3 : Nat), [UInt8.ofNat j]⟩ : Ms) = msg zs j := by unfold msg; rw [hzx]
        rw [me, ms.1] at SE
        rw [hzx] at ms
        rw [ms.2] at SE
        replace SE := Lib.hid SE
        clear V ba ms me hzx hx
        go_wp2_with fail
        rw [ux]
        clear ux
        generalize usm x 3 = t at *
        refine SE.out.mono ?_
        rintro e w2 ⟨rfl, V2⟩
        have nx : Hid (SnAt w q n zs (.int .i64 ((j : Int) + 1)) w2) := ⟨j + 1, by simp, by omega, V2.1⟩
        clear SE V2 c1
        go_wp2
        exact ⟨nx.out, by simp [intOf]; omega⟩
      · obtain rfl : j = n := by omega
        replace V := Lib.hid V
        have dJ : ((j : Int) < (j : Int)) = False := by simp
        go_wp2_with fail
        go_loopw [8] (fun i wr => UpAt w q j zs down i wr) (fun i _ => 3 - (intOf i).toNat)
        case atStart => exact ⟨0, rfl, by omega, V.out⟩
        case round =>
          clear V
          obtain ⟨k, rfl, hk, V⟩ := hrel
          by_cases hlt : k < 3
          · have i1 : (k : Int) < 3 := by omega
            have i2 : (0 : Int) ≤ (k : Int) := by omega
            have UP := ln_up V (k : Int) (bz down k)
            obtain ⟨u1, u2, u3⟩ := ups_next down hlt
            rw [u1, u2] at UP
            replace UP := Lib.hid UP
            have a1 := i64_and1 (down / 2 ^ k)
            have a2 : ((down / 2 ^ k) % 2 == 0) = bz down k := rfl
            have bb : (bz down k != bz down k) = false := by simp
            clear V u1 u2
            go_wp2_with fail
            try rw [a1]
            try rw [a2]
            refine UP.out.mono ?_
            rintro e w2 ⟨rfl, V2⟩
            have IS := ln_is V2.1 (k : Int)
            rw [u3] at IS
            replace IS := Lib.hid IS
            replace V2 := Lib.hid V2.1
            clear UP u3
            go_wp2_with fail
            refine IS.out.mono ?_
            rintro e w3 ⟨rfl, rfl⟩
            have nx : Hid (UpAt w q j zs down (.int .i64 ((k : Int) + 1)) w2) := ⟨k + 1, by simp, by omega, V2.out⟩
            clear IS V2
            go_wp2
            exact ⟨nx.out, by simp [intOf]; omega⟩
          · have dK : decide ((k : Int) < 3) = false := decide_eq_false (by omega)
            have k3 : k = 3 := by omega
            rw [k3] at V
            replace V := Lib.hid V
            clear hk hlt k3
            generalize (k : Int) = K at dK ⊢
            go_wp2_with fail
            go_loopw [9] (fun i wr => TkAt w q j zs down i wr) (fun i _ => j - (intOf i).toNat)
            case atStart => exact ⟨0, rfl, Nat.zero_le _, V.out⟩
            case round =>
              clear V
              obtain ⟨i, rfl, hi, V⟩ := hrel
              by_cases hlt : i < j
              · have i1 : (i : Int) < (j : Int) := by omega
                have i2 : (0 : Int) ≤ (i : Int) := by omega
                obtain ⟨x, hx⟩ : ∃ x, zs[i]? = some x := ⟨_, List.getElem?_eq_getElem (by rw [R.out.len]; omega)⟩
                obtain ⟨a, rfl, _, _⟩ := R.out.at_ (by omega)
                have c1 := (R.out.below V.be).cell hx
                have ux : wrap64 ((IntKind.u64.wrap x).tmod 3) = (usm x 3 : Int) := usm_slot x (n := 3) (by omega) (by omega)
                have hzx : zs.getD i 0 = x := by simp [List.getD, hx]
                obtain ⟨d1', d2', d3'⟩ := ml_take zs hlt
                have e1 : (msg zs i).to_ = (usm x 3 : Nat) := by unfold msg; rw [hzx]
                have TO := ln_to V 0
                rw [show toE ((ml zs j).drop i) 0 = (usm x 3 : Nat) from by
                  unfold toE
                  rw [d1', if_pos (node_iff.2 ⟨by omega, by omega⟩), show (0 : Int).toNat = 0 from rfl, d2', e1]] at TO
                have LN := ln_len V
                rw [d1'] at LN
                have TK := ln_take V 0
                have h3 := usm_lt x (n := 3) (by omega)
                rw [show tkR (ups down 3) ((ml zs j).drop i) 0 = (if bz down (usm x 3) = true then (msg zs i, 0) else (m0, 6)) from by
                  unfold tkR
                  rw [d1', if_pos (node_iff.2 ⟨by omega, by omega⟩), show (0 : Int).toNat = 0 from rfl, d2', e1, ups_at down h3], d3'] at TK
                have ms : msg zs i = ⟨2, (usm x 3 : Nat), [UInt8.ofNat i]⟩ := by unfold msg; rw [hzx]
                rw [ms] at TK
                have el : ((j - i : Nat) : Int) = (j : Int) - (i : Int) := by omega
                rw [el] at LN
                replace TO := Lib.hid TO
                replace LN := Lib.hid LN
                have u8 := Lib.hid (u8_j (j := i) (by omega))
                clear V d1' d2' d3' e1 ms hzx hx el
                go_upto_region 20 with fail
                rw [ux]
                clear ux c1
                generalize usm x 3 = t at *
                have i5 : (t : Int) < 3 := by omega
                have i6 : (0 : Int) ≤ (t : Int) := by omega
                have q0 : ((t : Int) != (t : Int)) = false := by simp
                go_wp2_with fail
                refine TO.out.mono ?_
                rintro e w2 ⟨rfl, rfl⟩
                clear TO
                go_wp2_with fail
                refine LN.out.mono ?_
                rintro e w2 ⟨rfl, rfl⟩
                clear LN
                have a1 := i64_and1 (down / 2 ^ t)
                have a2 := bz_one down t
                cases hb : bz down t with
                | false =>
                  rw [hb] at TK a2
                  simp only [Bool.false_eq_true, if_false] at TK
                  replace TK := Lib.hid TK
                  simp only [Bool.not_false] at a2
                  go_wp2_with fail
                  refine TK.out.mono ?_
                  rintro e w2 ⟨A2, c2, rfl, _, _, _, V2, _, _⟩
                  have z1 : m0.fr = 0 := rfl
                  have z2 : m0.to_ = 0 := rfl
                  have z3 : m0.tx.length = 0 := rfl
                  simp only [z1, z2, z3]
                  have nx : Hid (TkAt w q j zs down (.int .i64 ((i : Int) + 1)) w2) := ⟨i + 1, by simp, by omega, V2.less fun g hg => .inl hg⟩
                  clear TK V2 z1 z2 z3
                  go_wp2
                  exact ⟨nx.out, by simp [intOf]; omega⟩
                | true =>
                  rw [hb] at TK a2
                  simp only [if_true] at TK
                  replace TK := Lib.hid TK
                  simp only [Bool.not_true] at a2
                  go_wp2_with fail
                  refine TK.out.mono ?_
                  rintro e w2 ⟨A2, c2, rfl, R2, _, _, V2, _, _⟩
                  simp only [List.length_singleton] at R2 ⊢
                  obtain ⟨b, rfl, _, hc⟩ := R2.at_ (by omega)
                  have c0 := hc 0 _ rfl
                  rw [Addr.add_zero', ← u8.out] at c0
                  have nx : Hid (TkAt w q j zs down (.int .i64 ((i : Int) + 1)) w2) := ⟨i + 1, by simp, by omega, V2.less fun g hg => .inl hg⟩
                  have q1 : ((i : Int) != (i : Int)) = false := by simp
                  clear TK V2 R2 hc
                  go_wp2
                  exact ⟨nx.out, by simp [intOf]; omega⟩
              · obtain rfl : i = j := by omega
                have V0 : Ln w wr q 50 (ups down 3) [] (fun g => g < w.heap.size) := by
                  rw [List.drop_of_length_le (by rw [ml_len]; exact Nat.le_refl _)] at V
                  exact V
                replace V0 := Lib.hid V0
                clear V
                go_wp2_with fail
                refine (TA.out _).mono ?_
                rintro e w2 ⟨rfl, hb⟩
                have LN := Lib.hid (ln_len (V0.out.below hb))
                have E := Lib.hid (V0.out.below hb).be
                clear V0 hb TA
                go_wp2_with fail
                refine LN.out.mono ?_
                rintro e w2 ⟨rfl, rfl⟩
                clear LN
                go_wp2
                go_ret
                exact ⟨rfl, E.out⟩
theorem walkd (v0 : Value) (a0 : List Int) {W : World} (w0 : Src W v0 a0) (down : Int) (_hd : (Lit.int .i64 down).wf = true) (W' : World) (hW : W' = W) :
    Calls Try.prog 5 #[v0, .int .i64 down] W' fun e w' => e = .returned (.bool true) ∧ Below W'.heap.size W' w' := by
  subst hW
  obtain ⟨A, n, c, rfl, h1, h2, R, _⟩ := w0
  exact walk W' A n c a0 down R (by omega)

/-! The row: every input. -/
set_option linter.unusedVariables false
set_option maxRecDepth 100000 in
theorem lifted (os : Os) (started : os.Started) (H : Type) (enc : TypeId × Value → H) :
    ReturnsInHanded {} Try.checked os 5 .any (Rows.netDownSpec.pre6 enc Try.prog Try.f5 Rows.netDownRow.domain false) (Rows.netDownSpec.post enc Try.prog Try.f5 false true false false) := by
  refine returnsInHanded_of_change (C := Try.checked) own started (by kernel_rfl) Try.func5
    (ChangeSpec.witness6 (enc := enc) (C := Try.checked) false ⟨#[], #[.slice none 0 0, .int .i64 0], []⟩ 8 (by kernel_rfl) (by kernel_rfl) (by kernel_rfl) (by kernel_rfl)) ?_
  intro W base args ds gs before hval0 hW _ _
  have hval : ∀ (j : Nat) t v, Try.f5.params[j]? = some t → args[j]? = some v → Value.okWide Try.prog W .any base t v := hval0
  have hW' := hW
  obtain ⟨p, q, hA0, hV, rfl, hfz, hnd⟩ := hW
  have hA : DataW.TrodAll enc Try.prog W 0 (fun _ => true) true Try.f5.params.toList args.toList ds p := hA0
  rw [Try.params5] at hA hval
  obtain ⟨v0, vs0, d0, ds0, p0, q0, hargs, rfl, rfl, h0, r0⟩ := trodAll_cons hA
  obtain ⟨v1, vs1, d1, ds1, p1, q1, rfl, rfl, rfl, h1, r1⟩ := trodAll_cons r0
  obtain ⟨rfl, rfl, rfl⟩ := trodAll_nil r1
  obtain rfl : args = #[v0, v1] := by cases args; simp_all
  obtain ⟨rfl, rfl⟩ := trodVars_none hV
  obtain ⟨a0, w0⟩ := view_nums (hval 0 48 v0 rfl rfl) h0
  obtain ⟨a1, rfl, rfl, rfl, w1⟩ := open_int Try.underlying3 (hval 1 3 v1 rfl rfl) h1
  clear hA0 hval0
  simp only [List.append_nil] at hW'
  refine (walkd v0 a0 w0 a1 w1 W rfl).mono fun e W' ⟨he, hb⟩ => ?_
  subst he
  exact ⟨_, rfl, post_below (pa := p0 ++ ([] ++ [])) (pv := []) hW' (fun _ _ _ => (trodAll_cons_mk (shut_bool Try.underlying4 _) trodAll_mk0)) (fun sp hsp => (trodAll_cons_mk (Trod_stays laidOut (by kernel_rfl) (of_decide_eq_true (by kernel_rfl)) h0 (fun x hx => hb.same (hW'.lt x (by simp [hx]))) (fun x hx => hsp x (by simp [hx]))) (trodAll_cons_mk (shut_int Try.underlying3 w1) trodAll_mk0))) (fun _ _ => rfl) (by simp)
    hb (ok_one (by kernel_rfl) rfl (okWide_bool_mk Try.underlying4 _))⟩

theorem proved : Rows.NetDownSaid :=
  OpenClaim.holds_of_wide 5 Try.f5 rfl rfl rfl rfl rfl rfl rfl ⟨rfl, rfl, rfl, rfl, rfl⟩ rfl rfl rfl rfl rfl (by kernel_rfl) Try.func5 (by kernel_rfl)
    (of_decide_eq_true (by kernel_rfl)) (by unfold Func.isWrapper; first | (rw [if_pos (by decide +kernel)]; kernel_rfl) | (rw [if_neg (by decide +kernel)]; exact ⟨rfl, rfl⟩))
    (fun os started H enc _ => lifted os started H enc)
#print axioms proved

end Go.Proofs.Ytenlblembdnniaa.netDown
