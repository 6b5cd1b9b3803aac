/- Proved: what was put is read, in its order, and nothing is left; cut off anywhere it is wrong (PackBack), for all things that come in and every place, the package's table being as the program's text lays it. -/
import Derived.Test.YtfdgjdakaibifaaDoorLwBackM
import Derived.Test.YtfdgjdakaibifaaDoorCards
import Derived.Test.YtfdgjdakaibifaaDoorTie
import Derived.Deep.RegionWith
namespace Go.Proofs.YtfdgjdakaibifaaDoor.packBack
open Go.ChangeShapes Go.WideShapes Go.ChangeAt Go.WideElems Go.RowKit
open Go.ChangeMaps (open_string shut_string)
open Go.Proofs.YtfdgjdakaibifaaDoor.Pk

/-- The loop that puts. -/
def WAt (w : World) (l : List OpR) (i : Value) (wr : World) : Prop :=
  ∃ k : Nat, i = .int .i64 k ∧ k ≤ l.length ∧ Wr wr w.heap.size (encAll (l.take k)) ∧ Below w.heap.size w wr ∧ ∀ o ∈ l.take k, o.s.length ≤ 100
theorem took {l : List OpR} {k : Nat} {o : OpR} (h : l[k]? = some o) : l.take (k + 1) = l.take k ++ [o] := by rw [List.take_add_one, h]; rfl
theorem w_next {w w2 : World} {l : List OpR} {k : Nat} {o : OpR} {bs : List UInt8} (h : l[k]? = some o) (hs : o.s.length ≤ 100) (hprev : ∀ o ∈ l.take k, o.s.length ≤ 100) (he : encOp o = bs) (hw : Wr w2 w.heap.size (encAll (l.take k) ++ bs))
    (hb : Below w.heap.size w w2) : WAt w l (.int .i64 ((k : Int) + 1)) w2 := by
  have e : encAll (l.take (k + 1)) = encAll (l.take k) ++ bs := by rw [took h, encAll_snoc, he]
  refine ⟨k + 1, rfl, (List.getElem?_eq_some_iff.1 h).1, by rw [e]; exact hw, hb, fun x hx => ?_⟩
  rw [took h] at hx
  rcases List.mem_append.1 hx with h | h
  · exact hprev x h
  · rw [List.mem_singleton.1 h]; exact hs
theorem enc_short {l : List OpR} {k : Nat} (hok : ∀ o ∈ l, OpOk o) (hprev : ∀ o ∈ l.take k, o.s.length ≤ 100) (hk : k ≤ 20) : (encAll (l.take k)).length ≤ 2200 := by
  have h := encAll_len (m := 100) (l.take k) fun o ho => ⟨hok o (List.mem_of_mem_take ho), hprev o ho⟩
  have : (l.take k).length ≤ 20 := by rw [List.length_take]; omega
  have : (10 + 100) * (l.take k).length ≤ (10 + 100) * 20 := Nat.mul_le_mul_left _ this
  omega
theorem place (at_ : Int) (L : Nat) (hL : 0 < L) (hm : L ≤ 2200) : ∃ k : Nat, wrap64 ((IntKind.u64.wrap at_).tmod (L : Int)) = (k : Int) ∧ k < L := by
  have h1 := Int.emod_nonneg (IntKind.u64.wrap at_) (show (L : Int) ≠ 0 by omega)
  have h2 := Int.emod_lt_of_pos (IntKind.u64.wrap at_) (show (0 : Int) < L by omega)
  refine ⟨((IntKind.u64.wrap at_) % (L : Int)).toNat, ?_, by omega⟩
  have h0 : 0 ≤ IntKind.u64.wrap at_ := by rw [IntKind.wrap_u64]; omega
  rw [Int.tmod_eq_emod_of_nonneg h0, wrap64_small _ (by omega) (by omega)]; omega

theorem row_kept {w w' : World} {r : Nat} {s q : St} {A : Option Addr} {n : Nat} {bs : List UInt8} (h : Rb w (Row w) A n bs) (hrd : Rd w r s) (hr : RdTo w r q w') : Rb w' (Row w') A n bs := by
  obtain ⟨A', n', c, f, bs', h1, _⟩ := hrd
  exact h.row fun g hg => hr.gr.block g hg.lt fun e => hg.ne_ h1 (by decide) (by injection e)
theorem rd_drew {w : World} {r : Nat} {s : St} (h : Rd w r s) : Rd w.drew r s := h.drewN 1
theorem of_drew {w w' : World} {r : Nat} {s : St} (h : RdTo w.drew r s w') : RdTo w r s w' := ⟨h.rd, h.gr.os, h.gr.tape, h.gr.output, h.gr.size, h.gr.block⟩
/-- The loop that asks, over the state S at its start; the bytes X lie where they lay. -/
def RAt (w : World) (r : Nat) (l : List OpR) (S : St) (A : Option Addr) (L : Nat) (X : List UInt8) (i : Value) (wr : World) : Prop :=
  ∃ k : Nat, i = .int .i64 k ∧ k ≤ l.length ∧ Rd wr r (stF (l.take k) S) ∧ Below w.heap.size w wr ∧ Rb wr (Row wr) A L X
theorem r_next {w wr w2 : World} {r : Nat} {l : List OpR} {S q : St} {k : Nat} {o : OpR} {A : Option Addr} {L : Nat} {X : List UInt8} (h : l[k]? = some o) (hrd : Rd wr r (stF (l.take k) S)) (hq : rOp o (stF (l.take k) S) = q) (hr : RdTo wr.drew r q w2) (hrw : w.heap.size ≤ r)
    (hb : Below w.heap.size w wr) (hR : Rb wr (Row wr) A L X) : RAt w r l S A L X (.int .i64 ((k : Int) + 1)) w2 := by
  have hr' := of_drew hr
  refine ⟨k + 1, rfl, (List.getElem?_eq_some_iff.1 h).1, ?_, hb.trans (grown_below hr'.gr hrw hb.size), row_kept hR hrd hr'⟩
  rw [took h, stF_snoc, hq]
  exact hr'.rd
/-- The two rounds: as it was put, and cut off. -/
def TAt (w : World) (A : Option Addr) (L : Nat) (X : List UInt8) (i : Value) (wr : World) : Prop :=
  ∃ k : Nat, i = .int .i64 k ∧ k ≤ 2 ∧ Rb wr (Row wr) A L X ∧ Below w.heap.size w wr

set_option maxHeartbeats 3200000 in
set_option maxRecDepth 100000 in
theorem walk (La : Option Addr) (n d : Nat) (l : List OpR) (at_ : Int) (w : World) (O : Ops w w.heap.size La n l) (ht : Tab w) :
    Calls Tryd.prog 5 #[.slice La n d, .int .i64 at_] w fun e w' => e = .returned (.bool true) ∧ Below w.heap.size w w' := by
  replace ht := Lib.hid ht
  replace O := Lib.hid O
  by_cases h0 : n = 0
  · have Q := Lib.hid (told_any w ht.out)
    subst h0
    go_enter Tryd.func5, Tryd.ntmps5
    go_wp2_with (go_at_call 11; ((with_reducible refine Q.out.mono ?_); rintro e w' ⟨rfl, hb⟩))
    go_ret
    exact ⟨rfl, hb⟩
  have hn1 : 0 < n := by omega
  have hz0 : ((n : Int) == 0) = false := by simpa using h0
  replace h0 := Lib.hid h0
  by_cases h20 : 20 < n
  · have Q := Lib.hid (told_any w ht.out)
    go_enter Tryd.func5, Tryd.ntmps5
    go_wp2_with (go_at_call 11; ((with_reducible refine Q.out.mono ?_); rintro e w' ⟨rfl, hb⟩))
    go_ret
    exact ⟨rfl, hb⟩
  have hln := Lib.hid O.out.len
  obtain ⟨a, hLa, hab, hat0⟩ := O.out.at_ hn1
  subst hLa
  replace hat0 := Lib.hid hat0
  have st : Hid (WAt w l (.int .i64 0) (w.alloc (.cells #[.pointer none, .int .i64 0] 26))) :=
    ⟨0, rfl, Nat.zero_le _, Wr.new w, (Below.refl _ _).alloc (Nat.le_refl _) _, fun o h => by simp at h⟩
  go_enter Tryd.func5, Tryd.ntmps5
  go_wp2_with fail
  go_loopw [6] (fun i wr => WAt w l i wr) (fun i _ => n - (intOf i).toNat)
  case atStart => exact st.out
  case round =>
    obtain ⟨k, rfl, hk, hw, hb, hprev⟩ := hrel
    have hkn : k ≤ n := by have := hln.out; omega
    clear hk
    have hshort := enc_short O.out.ok hprev (by omega)
    obtain ⟨X, hX⟩ : ∃ X, X = encAll (l.take k) := ⟨_, rfl⟩
    rw [← hX] at hw hshort
    replace hX := Lib.hid hX
    replace hw := Lib.hid hw
    replace hb := Lib.hid hb
    replace hprev := Lib.hid hprev
    by_cases hlt : k < n
    · obtain ⟨o, ho⟩ : ∃ o, l[k]? = some o := ⟨_, List.getElem?_eq_getElem (by have := hln.out; omega)⟩
      have at1 := (hat0.out k o ho).same (hb.out.block _ hab)
      have ok := O.out.ok o (List.mem_of_getElem? ho)
      obtain ⟨on1, on2, olen⟩ := ok
      have q0 := at1.c0
      have q1 := at1.c1
      have q2 := at1.c2
      have hsl := str_size o.s
      replace ho := Lib.hid ho
      clear at1
      by_cases hs100 : 100 < (str o.s).size
      · have Q := Lib.hid (told_any wr (ht.out.below hb.out))
        replace hsl := Lib.hid hsl
        go_wp2_with (go_at_call 11; ((with_reducible refine Q.out.mono ?_); rintro e w' ⟨rfl, hb2⟩))
        go_ret
        exact ⟨rfl, hb.out.trans (hb2.mono hb.out.size)⟩
      · have hs2 : o.s.length ≤ 100 := by omega
        replace hsl := Lib.hid hsl
        by_cases k0 : o.kind = 0
        · have k0' := Lib.hid k0
          rw [k0] at q0
          clear k0
          have C := Lib.hid (wint_any w.heap.size wr X hw.out o.n on1 on2 (by omega))
          go_wp2_with (go_at_call 12; ((with_reducible refine C.out.mono ?_); rintro e w2 ⟨rfl, hw2⟩))
          go_roundw
          case rel => exact w_next ho.out hs2 hprev.out (by unfold encOp; rw [if_pos k0'.out]) (by rw [← hX.out]; exact hw2.wr) (hb.out.trans hw2.be)
          case measure => simp [intOf]; omega
        · by_cases k1 : o.kind = 1
          · have k1' := Lib.hid k1
            have k0' := Lib.hid k0
            rw [k1] at q0
            clear k1 k0
            have C := Lib.hid (wtext_any w.heap.size wr X hw.out o.s (by omega))
            go_wp2_with (go_at_call 14; ((with_reducible refine C.out.mono ?_); rintro e w2 ⟨rfl, hw2⟩))
            go_roundw
            case rel => exact w_next ho.out hs2 hprev.out (by unfold encOp; rw [if_neg k0'.out, if_pos k1'.out]) (by rw [← hX.out]; exact hw2.wr) (hb.out.trans hw2.be)
            case measure => simp [intOf]; omega
          · have d0 : (o.kind == 0) = false := by simpa using k0
            have d1 : (o.kind == 1) = false := by simpa using k1
            have k1' := Lib.hid k1
            have k0' := Lib.hid k0
            clear k1 k0
            have C := Lib.hid (wbyte_any w.heap.size wr X hw.out o.n (by omega))
            go_wp2_with (go_at_call 16; ((with_reducible refine C.out.mono ?_); rintro e w2 ⟨rfl, hw2⟩))
            go_roundw
            case rel => exact w_next ho.out hs2 hprev.out (by unfold encOp; rw [if_neg k0'.out, if_neg k1'.out]) (by rw [← hX.out]; exact hw2.wr) (hb.out.trans hw2.be)
            case measure => simp [intOf]; omega
    · have hkn2 : k = n := by omega
      have hXl : Hid (X = encAll l) := by
        have := hX.out
        rw [List.take_of_length_le (by have := hln.out; omega)] at this
        exact this
      have hall : Hid (∀ o ∈ l, OpOk o ∧ o.s.length ≤ 100) := fun o ho => ⟨O.out.ok o ho, hprev.out o (by rw [List.take_of_length_le (by have := hln.out; omega)]; exact ho)⟩
      have hXn : 0 < X.length := by
        rw [hXl.out]
        have hl := hln.out
        rcases l with _ | ⟨o, t⟩
        · simp at hl; omega
        · rw [encAll_cons, List.length_append]; have := encOp_ne o; omega
      clear hprev hX hkn2
      have hXx : Hid (X.length ≤ 140737488355328) := by show _ ≤ _; omega
      go_wp2_with fail
      refine (bytes_any w.heap.size wr X hw.out hXx.out).mono ?_
      rintro e w2 ⟨bv, rfl, h4, b4⟩
      obtain ⟨A, c, rfl⟩ := own_form h4
      have hcap := own_cap h4
      have hc9 : c ≤ 9223372036854775807 := by have := hcap.2; unfold maxLen at this; omega
      have hca := hcap.1
      have hA : Hid (A = none → c = 0) := fun e => by
        subst e
        rcases h4.2 with ⟨e, _⟩ | ⟨g, cap, cur, e, _⟩
        · injection e
        · injection e with e; cases e
      have be2 : Hid (Below w.heap.size w w2) := hb.out.trans (b4.mono hb.out.size)
      have st2 : Hid (TAt w A X.length X (.int .i64 0) w2) := ⟨0, rfl, by omega, (Rb.of_own h4).keep (fun _ _ => rfl) (fun g hg => hg.2), be2.out⟩
      obtain ⟨L, hL⟩ : ∃ L, L = X.length := ⟨_, rfl⟩
      rw [← hL] at hXn hshort hca st2 ⊢
      obtain ⟨cut, hK, hcut⟩ := place at_ L hXn hshort
      replace hL := Lib.hid hL
      clear h4 b4 hcap hw hb be2
      have hLz : ((L : Int) == 0) = false := by simpa using (show ¬ L = 0 by omega)
      go_wp2_with fail
      rw [hK]
      clear hK
      go_loopw [9] (fun i wr => TAt w A L X i wr) (fun i _ => 2 - (intOf i).toNat)
      case atStart => exact st2.out
      case round =>
        obtain ⟨k9, rfl, hk9, R2, be3⟩ := hrel
        replace R2 := Lib.hid R2
        replace be3 := Lib.hid be3
        by_cases e0 : k9 = 0
        · subst e0
          have N := Lib.hid (new_any wr A L c X R2.out (fun g hg => hg.lt) (by omega) hA.out)
          go_wp2_with fail
          refine N.out.mono ?_
          rintro e w5 ⟨r, rfl, hr, R3, b5⟩
          have hrw : Hid (w.heap.size ≤ r) := Nat.le_trans be3.out.size hr
          have st3 : Hid (RAt w r l (some X) A L X (.int .i64 0) w5) := ⟨0, rfl, Nat.zero_le _, R3, be3.out.trans (b5.mono be3.out.size), R2.out.row (fun g hg => b5.block g hg.lt)⟩
          clear hr R3 b5 N
          go_wp2_with fail
          go_loopw [11] (fun i wr => RAt w r l (some X) A L X i wr) (fun i _ => n - (intOf i).toNat)
          case atStart => exact st3.out
          case round =>
            obtain ⟨j, rfl, hj, R4, b4, R5⟩ := hrel
            have hjn : j ≤ n := by have := hln.out; omega
            clear hj
            obtain ⟨sj, hsj⟩ : ∃ sj, sj = stF (l.take j) (some X) := ⟨_, rfl⟩
            rw [← hsj] at R4
            have R4' := Lib.hid R4
            have b4' := Lib.hid b4
            have R5' := Lib.hid R5
            have hsj' := Lib.hid hsj
            by_cases hlt2 : j < n
            · obtain ⟨o, ho⟩ : ∃ o, l[j]? = some o := ⟨_, List.getElem?_eq_getElem (by have := hln.out; omega)⟩
              have at1 := (hat0.out j o ho).same (b4.block _ hab)
              obtain ⟨on1, on2, olen⟩ := O.out.ok o (List.mem_of_getElem? ho)
              have q0 := at1.c0
              have q1 := at1.c1
              have q2 := at1.c2
              have at1' := Lib.hid at1
              have ho' := Lib.hid ho
              have hs0 : sj = some (encOp o ++ encAll (l.drop (j + 1))) := by
                rw [hsj]
                have e1 : X = encAll (l.take j) ++ (encOp o ++ encAll (l.drop (j + 1))) := by
                  rw [hXl.out, ← encAll_cons, ← encAll_app]
                  congr 1
                  obtain ⟨hlj, rfl⟩ := List.getElem?_eq_some_iff.1 ho
                  rw [← List.drop_eq_getElem_cons hlj, List.take_append_drop]
                rw [e1]
                exact stF_all _ (fun x hx => hall.out x (List.mem_of_mem_take hx)) _
              obtain ⟨rest, hrest⟩ : ∃ rest, rest = encAll (l.drop (j + 1)) := ⟨_, rfl⟩
              rw [← hrest] at hs0
              clear hrest
              by_cases k0 : o.kind = 0
              · have hv : rInt (-9223372036854775808) 9223372036854775807 sj = (o.n, some rest) := by rw [hs0, show encOp o = encI o.n by unfold encOp; rw [if_pos k0], rInt_enc on1 on2 ⟨on1, on2⟩]
                have Q := rint_any r wr.drew sj (-9223372036854775808) 9223372036854775807 (rd_drew R4)
                rw [hv] at Q
                have hrop : Hid (rOp o sj = some rest) := by unfold Hid rOp; rw [if_pos k0, hv]
                rw [k0] at q0
                clear k0
                replace Q := Lib.hid Q
                clear hv
                clear hs0
                go_wp2_with fail
                go_region_with ((go_at_call 19; refine Q.out.mono ?_; rintro e w6 ⟨rfl, hr⟩; have at6 := at1'.out.same (hr.gr.block _ (Nat.lt_of_lt_of_le hab b4'.out.size) (fun e => by (injection e with e; have := hrw.out; omega))); have q0b := at6.c0; have q1b := at6.c1; have q2b := at6.c2; clear at6))
                all_goals
                  go_wp2
                  exact ⟨r_next ho'.out (by rw [← hsj'.out]; exact R4'.out) (by rw [← hsj'.out]; exact hrop.out) hr hrw.out b4'.out R5'.out, by simp [intOf]; omega⟩
              · by_cases k1 : o.kind = 1
                · have hv : rText 100 sj = (o.s, some rest) := by rw [hs0, show encOp o = encT o.s by unfold encOp; rw [if_neg k0, if_pos k1], rText_enc (by have := (hall.out o (List.mem_of_getElem? ho)).2; omega) (by omega)]
                  have Q := rtext_any r wr.drew sj 100 (rd_drew R4)
                  rw [hv] at Q
                  have hrop : Hid (rOp o sj = some rest) := by unfold Hid rOp; rw [if_neg k0, if_pos k1, hv]
                  rw [k1] at q0
                  clear k1 k0
                  replace Q := Lib.hid Q
                  clear hv
                  clear hs0
                  go_wp2_with fail
                  go_region_with ((go_at_call 21; refine Q.out.mono ?_; rintro e w6 ⟨rfl, hr⟩; have at6 := at1'.out.same (hr.gr.block _ (Nat.lt_of_lt_of_le hab b4'.out.size) (fun e => by (injection e with e; have := hrw.out; omega))); have q0b := at6.c0; have q1b := at6.c1; have q2b := at6.c2; clear at6))
                  all_goals
                    go_wp2
                    exact ⟨r_next ho'.out (by rw [← hsj'.out]; exact R4'.out) (by rw [← hsj'.out]; exact hrop.out) hr hrw.out b4'.out R5'.out, by simp [intOf]; omega⟩
                · have hv : rByte sj = ((o.n % 256).toNat, some rest) := by rw [hs0, show encOp o = [UInt8.ofNat (o.n % 256).toNat] by unfold encOp; rw [if_neg k0, if_neg k1], rByte_enc]
                  have hvb : (((o.n % 256).toNat : Nat) : Int) = o.n % 256 := by omega
                  have hvw : wrap64 (o.n % 256) = o.n % 256 := wrap64_small _ (by omega) (by omega)
                  have Q := rbyte_any r wr.drew sj (rd_drew R4)
                  rw [hv] at Q
                  have hrop : Hid (rOp o sj = some rest) := by unfold Hid rOp; rw [if_neg k0, if_neg k1, hv]
                  have d0 : (o.kind == 0) = false := by simpa using k0
                  have d1 : (o.kind == 1) = false := by simpa using k1
                  clear k1 k0
                  replace Q := Lib.hid Q
                  clear hv
                  clear hs0
                  go_wp2_with fail
                  go_region_with ((go_at_call 23; refine Q.out.mono ?_; rintro e w6 ⟨rfl, hr⟩; have at6 := at1'.out.same (hr.gr.block _ (Nat.lt_of_lt_of_le hab b4'.out.size) (fun e => by (injection e with e; have := hrw.out; omega))); have q0b := at6.c0; have q1b := at6.c1; have q2b := at6.c2; clear at6))
                  all_goals
                    go_wp2
                    exact ⟨r_next ho'.out (by rw [← hsj'.out]; exact R4'.out) (by rw [← hsj'.out]; exact hrop.out) hr hrw.out b4'.out R5'.out, by simp [intOf]; omega⟩
            · have hse : sj = some [] := by
                rw [hsj, List.take_of_length_le (by have := hln.out; omega), hXl.out]
                have := stF_all l hall.out []
                rwa [List.append_nil] at this
              rw [hse] at R4
              clear hse hsj b4 R5
              go_wp2_with fail
              refine (rend_any r wr _ R4).mono ?_
              rintro e w7 ⟨rfl, rfl⟩
              clear R4
              go_wp2
              go_roundw
              case rel => exact ⟨1, by go_num, by omega, R5'.out, b4'.out⟩
              case measure => simp [intOf]
        · by_cases e1 : k9 = 1
          · subst e1
            have N := Lib.hid (new_any wr A L c X R2.out (fun g hg => hg.lt) (by omega) hA.out)
            replace e0 := Lib.hid e0
            go_wp2_with fail
            refine N.out.mono ?_
            rintro e w4 ⟨r0, rfl, _, _, b4x⟩
            have R4x : Hid (Rb w4 (Row w4) A L X) := R2.out.row (fun g hg => b4x.block g hg.lt)
            have be4 : Hid (Below w.heap.size w w4) := be3.out.trans (b4x.mono be3.out.size)
            clear b4x N R2
            have N2 := Lib.hid (new_any w4 A cut c (X.take cut) (R4x.out.take (by omega)) (fun g hg => hg.lt) (by omega) hA.out)
            go_wp2_with fail
            refine N2.out.mono ?_
            rintro e w5 ⟨r, rfl, hr, R3, b5⟩
            have hrw : Hid (w.heap.size ≤ r) := Nat.le_trans be4.out.size hr
            have st3 : Hid (RAt w r l (some (X.take cut)) A L X (.int .i64 0) w5) := ⟨0, rfl, Nat.zero_le _, R3, be4.out.trans (b5.mono be4.out.size), R4x.out.row (fun g hg => b5.block g hg.lt)⟩
            clear hr R3 b5 N2
            go_wp2_with fail
            go_loopw [11] (fun i wr => RAt w r l (some (X.take cut)) A L X i wr) (fun i _ => n - (intOf i).toNat)
            case atStart => exact st3.out
            case round =>
              obtain ⟨j, rfl, hj, R4, b4, R5⟩ := hrel
              have hjn : j ≤ n := by have := hln.out; omega
              clear hj
              obtain ⟨sj, hsj⟩ : ∃ sj, sj = stF (l.take j) (some (X.take cut)) := ⟨_, rfl⟩
              rw [← hsj] at R4
              have R4' := Lib.hid R4
              have b4' := Lib.hid b4
              have R5' := Lib.hid R5
              have hsj' := Lib.hid hsj
              by_cases hlt2 : j < n
              · obtain ⟨o, ho⟩ : ∃ o, l[j]? = some o := ⟨_, List.getElem?_eq_getElem (by have := hln.out; omega)⟩
                have at1 := (hat0.out j o ho).same (b4.block _ hab)
                obtain ⟨on1, on2, olen⟩ := O.out.ok o (List.mem_of_getElem? ho)
                have q0 := at1.c0
                have q1 := at1.c1
                have q2 := at1.c2
                have at1' := Lib.hid at1
                have ho' := Lib.hid ho
                by_cases k0 : o.kind = 0
                · obtain ⟨v, s', hv⟩ : ∃ v s', rInt (-9223372036854775808) 9223372036854775807 sj = (v, s') := ⟨_, _, rfl⟩
                  have Q := rint_any r wr.drew sj (-9223372036854775808) 9223372036854775807 (rd_drew R4)
                  rw [hv] at Q
                  have hrop : Hid (rOp o sj = s') := by unfold Hid rOp; rw [if_pos k0, hv]
                  rw [k0] at q0
                  clear k0
                  replace Q := Lib.hid Q
                  clear hv
                  go_wp2_with fail
                  go_region_with ((go_at_call 19; refine Q.out.mono ?_; rintro e w6 ⟨rfl, hr⟩; have at6 := at1'.out.same (hr.gr.block _ (Nat.lt_of_lt_of_le hab b4'.out.size) (fun e => by (injection e with e; have := hrw.out; omega))); have q0b := at6.c0; have q1b := at6.c1; have q2b := at6.c2; clear at6))
                  all_goals
                    go_wp2
                    exact ⟨r_next ho'.out (by rw [← hsj'.out]; exact R4'.out) (by rw [← hsj'.out]; exact hrop.out) hr hrw.out b4'.out R5'.out, by simp [intOf]; omega⟩
                · by_cases k1 : o.kind = 1
                  · obtain ⟨v, s', hv⟩ : ∃ v s', rText 100 sj = (v, s') := ⟨_, _, rfl⟩
                    have Q := rtext_any r wr.drew sj 100 (rd_drew R4)
                    rw [hv] at Q
                    have hrop : Hid (rOp o sj = s') := by unfold Hid rOp; rw [if_neg k0, if_pos k1, hv]
                    rw [k1] at q0
                    clear k1 k0
                    replace Q := Lib.hid Q
                    clear hv
                    go_wp2_with fail
                    go_region_with ((go_at_call 21; refine Q.out.mono ?_; rintro e w6 ⟨rfl, hr⟩; have at6 := at1'.out.same (hr.gr.block _ (Nat.lt_of_lt_of_le hab b4'.out.size) (fun e => by (injection e with e; have := hrw.out; omega))); have q0b := at6.c0; have q1b := at6.c1; have q2b := at6.c2; clear at6))
                    all_goals
                      go_wp2
                      exact ⟨r_next ho'.out (by rw [← hsj'.out]; exact R4'.out) (by rw [← hsj'.out]; exact hrop.out) hr hrw.out b4'.out R5'.out, by simp [intOf]; omega⟩
                  · obtain ⟨v, s', hv⟩ : ∃ v s', rByte sj = (v, s') := ⟨_, _, rfl⟩
                    have hvw : wrap64 (o.n % 256) = o.n % 256 := wrap64_small _ (by omega) (by omega)
                    have Q := rbyte_any r wr.drew sj (rd_drew R4)
                    rw [hv] at Q
                    have hrop : Hid (rOp o sj = s') := by unfold Hid rOp; rw [if_neg k0, if_neg k1, hv]
                    have d0 : (o.kind == 0) = false := by simpa using k0
                    have d1 : (o.kind == 1) = false := by simpa using k1
                    clear k1 k0
                    replace Q := Lib.hid Q
                    clear hv
                    go_wp2_with fail
                    go_region_with ((go_at_call 23; refine Q.out.mono ?_; rintro e w6 ⟨rfl, hr⟩; have at6 := at1'.out.same (hr.gr.block _ (Nat.lt_of_lt_of_le hab b4'.out.size) (fun e => by (injection e with e; have := hrw.out; omega))); have q0b := at6.c0; have q1b := at6.c1; have q2b := at6.c2; clear at6))
                    all_goals
                      go_wp2
                      exact ⟨r_next ho'.out (by rw [← hsj'.out]; exact R4'.out) (by rw [← hsj'.out]; exact hrop.out) hr hrw.out b4'.out R5'.out, by simp [intOf]; omega⟩
              · have hse : sj = none := by
                  rw [hsj, List.take_of_length_le (by have := hln.out; omega), hXl.out]
                  exact stF_cut l hall.out cut (by rw [← hXl.out, ← hL.out]; exact hcut)
                rw [hse] at R4
                clear hse hsj b4 R5
                go_wp2_with fail
                refine (rend_any r wr _ R4).mono ?_
                rintro e w7 ⟨rfl, rfl⟩
                clear R4
                go_wp2
                go_roundw
                case rel => exact ⟨2, by go_num, by omega, R5'.out, b4'.out⟩
                case measure => simp [intOf]
          · obtain rfl : k9 = 2 := by omega
            replace e0 := Lib.hid e0
            replace e1 := Lib.hid e1
            have Q := Lib.hid (told_any wr (ht.out.below be3.out))
            go_wp2_with (go_at_call 11; ((with_reducible refine Q.out.mono ?_); rintro e w' ⟨rfl, hb2⟩))
            go_ret
            exact ⟨rfl, be3.out.trans (hb2.mono be3.out.size)⟩

theorem walkd (v0 : Value) (A0 : Option Addr) (n0 c0 : Nat) (a0 : List OpR) (e0 : v0 = .slice A0 n0 c0) (_lc : n0 ≤ c0) (_uc : c0 ≤ 9223372036854775807) {W : World} (w0 : Ops W W.heap.size A0 n0 a0) (a1 : Int) (_w1 : (Lit.int .i64 a1).wf = true) (W' : World) (hW : W' = W) (ht : Tab W') :
    Calls Tryd.prog 5 #[v0, .int .i64 a1] W' fun e w' => e = .returned (.bool true) ∧ Below W'.heap.size W' w' := by
  subst hW
  subst e0
  exact walk A0 n0 c0 a0 a1 _ w0 ht

/-! The row: every input, the listed variable as the condition has it. -/
set_option linter.unusedVariables false
set_option maxRecDepth 100000 in
theorem lifted (os : Os) (started : os.Started) (H : Type) (enc : TypeId × Value → H) :
    ReturnsInHanded {} Tryd.checked os 5 .any (fun w args => (Rows.packBackSpec.pre enc Tryd.prog Tryd.f5 [] false w args ∧ laidMetH Tryd.prog laids w) ∧ sizedMet enc Tryd.prog Tryd.f5 (OpenSpec.ofChange Rows.packBackSpec) false w args)
      (Rows.packBackSpec.post enc Tryd.prog Tryd.f5 false true false false) := by
  refine returnsInHanded_of_change_and (C := Tryd.checked) (X := fun w _ => laidMetH Tryd.prog laids w) (fun _ _ _ hh h => h.of_heap hh) own started (by kernel_rfl) Tryd.func5
    (ChangeSpec.witness_shaped (enc := enc) (C := Tryd.checked) (os := os) (X := fun w _ => laidMetH Tryd.prog laids w) false (World.doorLaid Tryd.prog 400 os) #[.slice none 0 0, .int .i64 0] 8 rfl (World.shaped_of_RefB (by kernel_rfl) (by kernel_rfl)) (by kernel_rfl) (by kernel_rfl) (by kernel_rfl) (door_met os _)) ?_
  intro W base args ds gs before hval0 hW _ _ hL _
  have hval : ∀ (j : Nat) t v, Tryd.f5.params[j]? = some t → args[j]? = some v → Value.okWide Tryd.prog W .any base t v := hval0
  have hW' := hW
  obtain ⟨p, q, hA0, hV, rfl, hfz, hnd⟩ := hW
  have hA : DataW.TrodAll enc Tryd.prog W 0 (fun _ => true) true Tryd.f5.params.toList args.toList ds p := hA0
  rw [Tryd.params5] at hA hval
  obtain ⟨v0, vs0, d0, ds0, p0, q0, hargs, rfl, rfl, h0, r0⟩ := trodAll_cons hA
  obtain ⟨v1, vs1, d1, ds1, p1, q1, rfl, rfl, rfl, h1, r1⟩ := trodAll_cons r0
  obtain ⟨rfl, rfl, rfl⟩ := trodAll_nil r1
  obtain rfl : args = #[v0, v1] := by cases args; simp_all
  obtain ⟨rfl, rfl⟩ := trodVars_none hV
  obtain ⟨A0, n0, c0, a0, e0, lc0, uc0, w0⟩ := view_ops (hval 0 22 v0 rfl rfl) h0
  obtain ⟨a1, rfl, rfl, rfl, w1⟩ := open_int Tryd.underlying3 (hval 1 3 v1 rfl rfl) h1
  clear hA0 hval0
  simp only [List.append_nil] at hW'
  refine (walkd v0 A0 n0 c0 a0 e0 lc0 uc0 w0 a1 w1 W rfl (of_laid hL)).mono fun e W' ⟨he, hb⟩ => ?_
  subst he
  exact ⟨_, rfl, post_below (pa := p0 ++ ([] ++ [])) (pv := []) hW' (fun _ _ _ => (trodAll_cons_mk (shut_bool Tryd.underlying4 _) trodAll_mk0)) (fun sp hsp => (trodAll_cons_mk (Trod_stays laidOut (by kernel_rfl) (of_decide_eq_true (by kernel_rfl)) h0 (fun x hx => hb.same (hW'.lt x (by simp [hx]))) (fun x hx => hsp x (by simp [hx]))) (trodAll_cons_mk (shut_int Tryd.underlying3 w1) trodAll_mk0))) (fun _ _ => rfl) (by simp)
    hb (ok_one (by kernel_rfl) rfl (okWide_bool_mk Tryd.underlying4 _))⟩

theorem over : Rows.packBackRow.holds Tryd.pinned (OpenSpec.ofChange Rows.packBackSpec) :=
  OpenClaim.holds_of_wide 5 Tryd.f5 rfl rfl rfl rfl rfl rfl rfl ⟨rfl, rfl, rfl, rfl, rfl⟩ rfl rfl rfl rfl rfl (by kernel_rfl) Tryd.func5 (by kernel_rfl)
    (of_decide_eq_true (by kernel_rfl)) (by unfold Func.isWrapper; first | (rw [if_pos (by decide +kernel)]; kernel_rfl) | (rw [if_neg (by decide +kernel)]; exact ⟨rfl, rfl⟩))
    (fun os started H enc _ => lifted os started H enc)

/-- The tied card. -/
theorem proved : Rows.PackBackCardSaid :=
  Claim7.holds_tied_plain_at .later [] [.data] true _ false
    over (fun _ h => by cases h) (by kernel_rfl) (fun _ h => by cases h) packBack_row_tie rfl ⟨rfl, rfl⟩ (by kernel_rfl) rfl
    (fun f fn hf hfn => by
      obtain rfl : f = 5 := Option.some.inj ((show Tryd.prog.funcNamed "sojourn/sojournlaw1.PackBack" = some 5 by kernel_rfl).symm.trans hf) |>.symm
      obtain rfl : fn = Tryd.f5 := (Option.some.inj (Tryd.func5.symm.trans hfn)).symm
      exact ⟨by kernel_rfl, fun j t ht => by
        rw [Tryd.params5] at ht
        have hm : t ∈ [22, 3] := by simpa using Array.mem_of_getElem? ht
        have hall : ([22, 3].all fun u => !Tryd.prog.wantsStandIn u) = true := by kernel_rfl
        exact (show Tryd.prog.wantsStandIn t = false by simpa using List.all_eq_true.1 hall t hm)⟩)
    (by kernel_rfl)
#print axioms proved

end Go.Proofs.YtfdgjdakaibifaaDoor.packBack
