/- Proved: a log on a full disk refuses, and what was there stays; with room again it goes on (SealFull), for any room, any records, any state, the package's table being as the program's text lays it. -/
import Derived.Test.YtbolcapgocjgcaaDoorSeQ
import Derived.Lib.QuietBelow
import Derived.Test.YtbolcapgocjgcaaDoorCards
import Derived.Test.YtbolcapgocjgcaaDoorTie
namespace Go.Proofs.YtbolcapgocjgcaaDoor.sealFull
set_option maxRecDepth 100000
open Go.ChangeShapes Go.WideShapes Go.ChangeAt Go.WideElems Go.RowKit
open Go.Proofs.YtbolcapgocjgcaaDoor.Pk Go.Proofs.YtbolcapgocjgcaaDoor.Se
open Go.Proofs.YtbolcapgocjgcaaDoor.Dk (Bs Live LTo nm used sCrash sApp sSync rb_lit below_alloc)
open Go.Proofs.YtbolcapgocjgcaaDoor.Fr (frames frame Txts view_texts)

theorem place (at_ : Int) : ∃ k : Nat, wrap64 ((IntKind.u64.wrap at_).tmod 341) = (k : Int) ∧ k < 341 := by
  have h1 := Int.emod_nonneg (IntKind.u64.wrap at_) (show (341 : Int) ≠ 0 by omega)
  have h2 := Int.emod_lt_of_pos (IntKind.u64.wrap at_) (show (0 : Int) < 341 by omega)
  refine ⟨((IntKind.u64.wrap at_) % 341).toNat, ?_, by omega⟩
  have h0 : 0 ≤ IntKind.u64.wrap at_ := by rw [IntKind.wrap_u64]; omega
  rw [Int.tmod_eq_emod_of_nonneg h0]; unfold wrap64; omega
theorem next_none (a : Ab) : Dk.look nextN a.L = none := raw_next _ _
/-- How far the second loop has come: what was put lies in 'all'. -/
def FuAt (w : World) (p r q : Nat) (l : List Bs) (v i : Value) (wr : World) : Prop :=
  ∃ (k : Nat) (done : List Bs) (X : Nat → Prop), i = .int .i64 k ∧ k ≤ l.length ∧ done.length ≤ k ∧ (∀ x ∈ done, x ∈ l) ∧ Lg w wr p r (pA done).L X q (pA done).rc.length ∧ OwnX w wr X q v done

set_option maxHeartbeats 6400000 in
theorem walk (rm : Int) (A0 : Option Addr) (n0 c0 : Nat) (l : List Bs) (A1 : Option Addr) (n1 c1 : Nat) (st : List Bs) (w : World) (T0 : Txts w w.heap.size A0 n0 l) (T1 : Txts w w.heap.size A1 n1 st) (ht : Tab w) (hc0 : n0 ≤ 9223372036854775807) (hc1 : n1 ≤ 9223372036854775807) :
    Calls Tryd.prog 5 #[.int .i64 rm, .slice A0 n0 c0, .slice A1 n1 c1] w fun e w' => e = .returned (.bool true) ∧ Below w.heap.size w w' := by
  obtain ⟨k0, hk0, hk341⟩ := place rm
  obtain ⟨r, hr⟩ : ∃ r, r = 60 + k0 := ⟨_, rfl⟩
  have hrI : (60 : Int) + (k0 : Int) = (r : Int) := by omega
  have N0 := Lib.hid (Dk.l_new w r (by omega) (Below.refl w.heap.size w))
  have TA : Hid (∀ w', Below w.heap.size w w' → Calls Tryd.prog 10 #[] w' fun e w'' => e = .returned (.bool true) ∧ Below w'.heap.size w' w'') := fun w' hb => Se.told_any w' (ht.below hb)
  have hr400 : r ≤ 400 := by omega
  replace hk0 := Lib.hid hk0
  replace hrI := Lib.hid hrI
  clear hr
  by_cases hz : n0 ≤ 40 ∧ n1 ≤ 6
  · obtain ⟨z0, z1⟩ := hz
    have q0 : decide ((40 : Int) < (n0 : Int)) = false := decide_eq_false (by omega)
    have q1 : decide ((6 : Int) < (n1 : Int)) = false := decide_eq_false (by omega)
    have y0 := T0.len
    have y1 := T1.len
    have R0 := txts_lr (c := c0) T0
    have R1 := txts_lr (c := c1) T1
    have P0 := Lib.hid (lb_of R0).at_
    have P1 := Lib.hid (lb_of R1).at_
    replace R1 := Lib.hid R1
    subst y0 y1
    replace ht := Lib.hid ht
    clear T0 T1 R0
    go_enter Tryd.func5, Tryd.ntmps5
    go_upto_region 2 with (fail)
    rw [hk0.out]
    rw [hrI.out, show wrap64 (r : Int) = (r : Int) by unfold wrap64; omega]
    clear hk0 hrI hk341
    go_wp2_with fail
    refine N0.out.mono ?_
    rintro e w1 ⟨p, rfl, V1⟩
    have C1 := Lib.hid (a_open (a := ab0) V1 ab0_ok ht.out)
    clear N0 V1
    go_wp2_with fail
    refine C1.out.mono ?_
    rintro e w2 h2
    obtain ⟨q, B1, d1, B2, d2, X2, rfl, G2, _⟩ := open_lg h2
    rw [show ab0.st.length = 0 from rfl, show ab0.rc.length = 0 from rfl]
    replace G2 : Hid (Lg w w2 p r (pA []).L X2 q (pA []).rc.length) := G2
    have b2 : Hid (Below w.heap.size w w2) := G2.out.live.be
    have P0a : Hid (∀ (k : Nat) (r : Bs), l[k]? = some r → ∃ ad Ai ci, A0 = some ad ∧ w2.cell? (ad.add k) = some (.slice Ai r.length ci)) := fun k r hk => by
      obtain ⟨ad, Ai, ci, e, h⟩ := P0.out k r hk
      exact ⟨ad, Ai, ci, e, (h w2 b2.out).1⟩
    have P1a : Hid (∀ (k : Nat) (r : Bs), st[k]? = some r → ∃ ad Ai ci, A1 = some ad ∧ w2.cell? (ad.add k) = some (.slice Ai r.length ci)) := fun k r hk => by
      obtain ⟨ad, Ai, ci, e, h⟩ := P1.out k r hk
      exact ⟨ad, Ai, ci, e, (h w2 b2.out).1⟩
    have TA2 := Lib.hid (TA.out w2 b2.out)
    obtain ⟨i0, hi, hz0, hz1, hz2⟩ := info_parts Fr.s_info
    replace hi := Lib.hid hi
    replace hz0 := Lib.hid hz0
    replace hz1 := Lib.hid hz1
    replace hz2 := Lib.hid hz2
    clear C1 h2
    go_wp2_with fail
    go_loop [15] (fun i => OkAt l st i) (fun i => l.length + st.length - (intOf i).toNat)
    case atStart => exact ⟨0, rfl, Nat.zero_le _, by simp⟩
    case round =>
      obtain ⟨k, rfl, hk, hok⟩ := hrel
      replace hok := Lib.hid hok
      by_cases hl : k < l.length
      · have hl2 : k < l.length + st.length := by omega
        obtain ⟨r, hr⟩ : ∃ r, l[k]? = some r := ⟨_, List.getElem?_eq_getElem (by omega)⟩
        obtain ⟨ad, Ai, ci, rfl, hc⟩ := P0a.out k r hr
        have hr2 : (l ++ st)[k]? = some r := by rw [List.getElem?_append_left (by omega)]; exact hr
        by_cases h1 : 1 ≤ r.length
        · have e1 : decide ((r.length : Int) < 1) = false := decide_eq_false (by omega)
          by_cases h2 : r.length ≤ 40
          · have e2 : decide ((40 : Int) < (r.length : Int)) = false := decide_eq_false (by omega)
            have nx : Hid (OkAt l st (.int .i64 (((k : Nat) : Int) + 1))) := ⟨k + 1, by simp, by omega, ok_next hok.out hr2 h1 h2⟩
            clear hr hr2 h1 h2 hok
            go_wp2
            exact ⟨by simpa using nx.out, by simp [intOf]; omega⟩
          · have e2 : decide ((40 : Int) < (r.length : Int)) = true := decide_eq_true (by omega)
            clear hr hr2 h1 h2 hok
            go_wp2_with fail
            refine TA2.out.mono ?_
            rintro e w' ⟨rfl, hb⟩
            have be : Hid (Below w.heap.size w w') := b2.out.trans (hb.mono b2.out.size)
            clear hb
            go_wp2
            go_ret
            exact ⟨rfl, be.out⟩
        · have e1 : decide ((r.length : Int) < 1) = true := decide_eq_true (by omega)
          clear hr hr2 h1 hok
          go_wp2_with fail
          refine TA2.out.mono ?_
          rintro e w' ⟨rfl, hb⟩
          have be : Hid (Below w.heap.size w w') := b2.out.trans (hb.mono b2.out.size)
          clear hb
          go_wp2
          go_ret
          exact ⟨rfl, be.out⟩
      · by_cases hlt : k < l.length + st.length
        · obtain ⟨j, rfl⟩ : ∃ j, k = l.length + j := ⟨k - l.length, by omega⟩
          have hj : j < st.length := by omega
          obtain ⟨r, hr⟩ : ∃ r, st[j]? = some r := ⟨_, List.getElem?_eq_getElem (by omega)⟩
          obtain ⟨ad, Ai, ci, rfl, hc⟩ := P1a.out j r hr
          have hr2 : (l ++ st)[l.length + j]? = some r := by rw [List.getElem?_append_right (by omega)]; simpa using hr
          by_cases h1 : 1 ≤ r.length
          · have e1 : decide ((r.length : Int) < 1) = false := decide_eq_false (by omega)
            by_cases h2 : r.length ≤ 40
            · have e2 : decide ((40 : Int) < (r.length : Int)) = false := decide_eq_false (by omega)
              have nx : Hid (OkAt l st (.int .i64 (((l.length + j : Nat) : Int) + 1))) := ⟨l.length + j + 1, by simp, by omega, ok_next hok.out hr2 h1 h2⟩
              clear hr hr2 h1 h2 hok
              go_wp2
              exact ⟨by simpa using nx.out, by simp [intOf]; omega⟩
            · have e2 : decide ((40 : Int) < (r.length : Int)) = true := decide_eq_true (by omega)
              clear hr hr2 h1 h2 hok
              go_wp2_with fail
              refine TA2.out.mono ?_
              rintro e w' ⟨rfl, hb⟩
              have be : Hid (Below w.heap.size w w') := b2.out.trans (hb.mono b2.out.size)
              clear hb
              go_wp2
              go_ret
              exact ⟨rfl, be.out⟩
          · have e1 : decide ((r.length : Int) < 1) = true := decide_eq_true (by omega)
            clear hr hr2 h1 hok
            go_wp2_with fail
            refine TA2.out.mono ?_
            rintro e w' ⟨rfl, hb⟩
            have be : Hid (Below w.heap.size w w') := b2.out.trans (hb.mono b2.out.size)
            clear hb
            go_wp2
            go_ret
            exact ⟨rfl, be.out⟩
        · obtain rfl : k = l.length + st.length := by omega
          rw [List.take_of_length_le (by simp)] at hok
          have hl0 : Hid (∀ r ∈ l, 1 ≤ r.length ∧ r.length ≤ 40) := fun r hr => hok.out r (List.mem_append_left _ hr)
          have hs0 : Hid (∀ r ∈ st, 1 ≤ r.length ∧ r.length ≤ 40) := fun r hr => hok.out r (List.mem_append_right _ hr)
          clear hok hl hlt hk P0a P1a TA2 P1
          go_wp2_with fail
          go_loopw [14, 18] (fun v i wr => FuAt w p r q l v i wr) (fun _ i _ => l.length - (intOf i).toNat)
          case atStart => exact ⟨0, [], X2, rfl, Nat.zero_le _, Nat.le_refl _, (fun x hx => by cases hx), G2.out, OwnX.nil⟩
          case round =>
            obtain ⟨k, done, X, rfl, hk, hdk, hdl, G, O⟩ := hrel
            have hd40 : ∀ x ∈ done, 1 ≤ x.length ∧ x.length ≤ 40 := fun x hx => hl0.out x (hdl x hx)
            obtain ⟨A2, c2, e2⟩ := own_form O.row
            subst e2
            by_cases hlt : k < l.length
            · obtain ⟨s, hs⟩ : ∃ r, l[k]? = some r := ⟨_, List.getElem?_eq_getElem hlt⟩
              obtain ⟨ad, Ai, ci, rfl, hc⟩ := P0.out k s hs
              obtain ⟨hcell, hR⟩ := hc wr G.live.be
              have hs40 := hl0.out s (List.mem_of_getElem? hs)
              have hsl := List.mem_of_getElem? hs
              by_cases hf : used (pA done).L + (pA done).cost s ≤ r
              · have C := a_put G (pA_ok (short_ok hd40)) ht.out Ai s.length ci s hR (fun g hg => Nat.lt_of_lt_of_le hg G.live.be.size) (by omega) (by omega) hf
                rw [pA_put] at C
                have O' := Lib.hid O
                have xs : Hid (∀ g, X g → g < wr.heap.size) := G.live.xs
                have Rs : Hid (∀ w', Below w.heap.size w w' → w'.cell? (ad.add k) = some (.slice Ai s.length ci) ∧ Rb w' (fun g => g < w.heap.size) Ai s.length s) := hc
                replace C := Lib.hid C
                replace hdl := Lib.hid hdl
                replace hsl := Lib.hid hsl
                obtain ⟨hs1, hs2⟩ := hs40
                clear hs hc hR hd40 G O hf
                go_wp2_with fail
                refine C.out.mono ?_
                rintro e w3 ⟨rfl, T3⟩
                have U := Dk.l_used T3.1.live
                have hfit := T3.1.live.fits.1
                have hus : decide (r < used (pA (done ++ [s])).L) = false := decide_eq_false (by omega)
                generalize used (pA (done ++ [s])).L = us at *
                replace U := Lib.hid U
                have O3 : Hid (OwnX w w3 X q (.slice A2 done.length c2) done) := O'.out.keep T3.2.1 (fun _ h1 h2 => ⟨h1, h2⟩)
                have G3 : Hid (Lg w w3 p r (pA (done ++ [s])).L X q (pA (done ++ [s])).rc.length) := T3.1
                obtain ⟨k3, R3⟩ := Rs.out w3 G3.out.live.be
                have s3 := str_run (c := ci) (T := fun g => g < w.heap.size) ⟨R3.len, R3.at_⟩
                have z3 : w.heap.size ≤ w3.heap.size := G3.out.live.be.size
                have nx : Hid (∀ v' w', w'.ownsRow w.heap.size 9 1 v' (done.length + 1) (Fr.strs done ++ [.string (str s)]) → (w3.alloc (.cells #[.string (str s)] 9)).grownBy w' (Value.slice A2 done.length c2).ownBlock → (v'.ownBlock = (Value.slice A2 done.length c2).ownBlock ∨ ∃ g, v'.ownBlock = some g ∧ w3.heap.size ≤ g) → FuAt w p r q l v' (.int .i64 ((k : Int) + 1)) w') := fun v' w' h1 h2 h3 => by
                  obtain ⟨g1, g2⟩ := O3.out.snoc G3.out h1 h2 h3
                  refine ⟨k + 1, done ++ [s], _, by simp, hlt, by simp; omega, fun x hx => ?_, g1, g2⟩
                  rcases List.mem_append.1 hx with hx | hx
                  · exact hdl.out x hx
                  · rw [List.mem_singleton.1 hx]; exact hsl.out
                obtain ⟨nd, hnd⟩ : ∃ z, z = done.length := ⟨_, rfl⟩
                obtain ⟨xs', hxs'⟩ : ∃ z, z = Fr.strs done := ⟨_, rfl⟩
                have O4 : Hid (w3.ownsRow w.heap.size 9 1 (.slice A2 nd c2) nd xs') := by rw [hnd, hxs']; exact O3.out.row
                rw [← hnd, ← hxs'] at nx
                rw [← hnd] at hdk ⊢
                clear hnd hxs' O3 G3 T3 O' Rs C hdl hsl R3 xs hfit
                go_wp2_with fail
                refine U.out.mono ?_
                rintro e w4 ⟨rfl, rfl⟩
                clear U
                go_wp2_with (at_builtin; go_loud (refine wpList_append_1x w3 rfl (.tmp 126) (.tmp 132) 30 rfl w.heap.size 9 i0 (.string ByteArray.empty) 16 Tryd.underlying30 hi.out hz0.out hz1.out hz2.out rfl _ nd xs' (.string (str s)) rfl O4.out rfl rfl (by unfold maxLen; omega) (by omega) z3 ?_); intro v6 w6 h6 g6 at6; have f6 : Hid _ := nx.out v6 w6 h6 g6 at6; clear h6 g6 at6)
                go_roundw
                case rel => exact f6.out
                case measure => simp [intOf]; omega
              · have C := a_full G (pA_ok (short_ok hd40)) ht.out Ai s.length ci s hR (fun g hg => Nat.lt_of_lt_of_le hg G.live.be.size) (by omega) (by omega) (by omega)
                have O' := Lib.hid O
                replace C := Lib.hid C
                replace hdl := Lib.hid hdl
                clear hs hc hR hd40 G O hf hsl hs40
                go_wp2_with fail
                refine C.out.mono ?_
                rintro e w3 ⟨rfl, T3⟩
                have U := Dk.l_used T3.1.live
                have hfit := T3.1.live.fits.1
                have hus : decide (r < used (pA done).L) = false := decide_eq_false (by omega)
                have nx : Hid (FuAt w p r q l (.slice A2 done.length c2) (.int .i64 ((k : Int) + 1)) w3) := ⟨k + 1, done, X, by simp, hlt, by omega, hdl.out, T3.1, O'.out.keep T3.2.1 (fun _ h1 h2 => ⟨h1, h2⟩)⟩
                generalize used (pA done).L = us at *
                obtain ⟨nd, hnd⟩ : ∃ z, z = done.length := ⟨_, rfl⟩
                rw [← hnd] at nx hdk ⊢
                replace U := Lib.hid U
                clear T3 O' C hdl hnd hfit
                go_wp2_with fail
                refine U.out.mono ?_
                rintro e w4 ⟨rfl, rfl⟩
                clear U
                go_wp2
                exact ⟨nx.out, by simp [intOf]; omega⟩
            · obtain rfl : k = l.length := by omega
              have okl := pA_ok (short_ok hd40)
              have C3 := Lib.hid (a_sync G)
              have O' := Lib.hid O
              have hdn : Hid (done.length ≤ 1000) := by show _ ≤ _; omega
              clear hlt hk G2 b2 P0 hd40 G O hdl
              go_wp2_with fail
              refine C3.out.mono ?_
              rintro e w3 ⟨rfl, T3⟩
              have G3 := Lib.hid T3.1
              have O3 : Hid (OwnX w w3 X q (.slice A2 done.length c2) done) := O'.out.keep T3.2.1 (fun _ h1 h2 => ⟨h1, h2⟩)
              have LE := len_any w3 q p _ T3.1.at_
              rw [sync_rc, pA_rc] at LE
              replace LE := Lib.hid LE
              have hne : (((done.length : Nat) : Int) == ((done.length : Nat) : Int)) = true := by simp
              by_cases hf : used (pA done).sync.L + (cnt ((pA done).sync.g + 1) (some st)).length ≤ r
              · have C4 := Lib.hid (a_save G3.out okl.sync ht.out (.slice A1 st.length c1) st (R1.out.below G3.out.live.be) (by omega) (short_ok hs0.out) hf)
                have oks := Ab.save_ok (a := (pA done).sync) (st := st) (short_ok hs0.out) (by show 0 + 1 ≤ _; omega)
                clear T3 C3 O' O3 G3 hf
                go_wp2_with fail
                refine LE.out.mono ?_
                rintro e w' ⟨rfl, rfl⟩
                go_wp2_with fail
                refine C4.out.mono ?_
                rintro e w4 ⟨rfl, T4⟩
                have C5 := a_open T4.1.live oks ht.out
                rw [save_rc, save_st] at C5
                replace C5 := Lib.hid C5
                clear C4 T4 LE
                go_wp2_with fail
                refine C5.out.mono ?_
                rintro e w5 h5
                obtain ⟨q2, S1, s1, S2, s2, X4, rfl, G5, _, _, U1, _, _, _⟩ := open_lg h5
                rw [show ([] : List Bs).length = 0 from rfl]
                have RS := Lib.hid ((U1.keep (w' := w5) (fun _ _ => rfl) (fun g h => (G5.live.xs g h.1 : g < w5.heap.size))).lr (fun _ h => h))
                have be : Hid (Below w.heap.size w w5) := G5.live.be
                have Ca := Lib.hid (TA.out w5 be.out)
                clear h5 G5 U1 C5
                go_wp2_with fail
                refine Ca.out.mono ?_
                rintro e wa ⟨rfl, ba⟩
                have Cb := Lib.hid (textsof_any wa (.slice A1 st.length c1) st ((R1.out.below be.out).below ba) (by omega))
                have bea : Hid (Below w5.heap.size w5 wa) := ba
                clear Ca ba
                go_wp2_with fail
                refine Cb.out.mono ?_
                rintro e wb ⟨ub, rfl, ob, bb⟩
                have beb : Hid (Below w5.heap.size w5 wb) := bea.out.trans (bb.mono bea.out.size)
                have Cc := Lib.hid (Fr.texts_any wb (.slice S1 st.length s1) ub st (RS.out.below beb.out) (Fr.sr_own ob) (by omega))
                clear Cb ob bb bea
                go_wp2_with fail
                refine Cc.out.mono ?_
                rintro e wc ⟨rfl, bc⟩
                have bec : Hid (Below w.heap.size w wc) := be.out.trans ((beb.out.trans (bc.mono beb.out.size)).mono be.out.size)
                clear Cc bc beb RS
                go_wp2
                go_ret
                exact ⟨rfl, bec.out⟩
              · have C4 := Lib.hid (a_sfull G3.out okl.sync ht.out (.slice A1 st.length c1) st (R1.out.below G3.out.live.be) (by omega) (short_ok hs0.out) (by omega))
                clear T3 C3 O' G3 hf
                go_wp2_with fail
                refine LE.out.mono ?_
                rintro e w' ⟨rfl, rfl⟩
                go_wp2_with fail
                refine C4.out.mono ?_
                rintro e w4 ⟨rfl, T4⟩
                have O4 : Hid (OwnX w w4 X q (.slice A2 done.length c2) done) := O3.out.keep T4.2.1 (fun _ h1 h2 => ⟨h1, h2⟩)
                have xq : Hid (X q) := T4.1.inx
                have C5 := a_open T4.1.live okl.sync ht.out
                rw [sync_rc, pA_rc, sync_st, show (pA done).st = [] from rfl] at C5
                replace C5 := Lib.hid C5
                have xs4 : Hid (∀ g, X g → g < w4.heap.size) := T4.1.live.xs
                clear C4 T4 LE O3
                go_wp2_with fail
                refine C5.out.mono ?_
                rintro e w5 h5
                obtain ⟨q2, S1, s1, S2, s2, X4, rfl, G5, hq2, hx4, _, U2, k5, _⟩ := open_lg h5
                rw [show ([] : List Bs).length = 0 from rfl]
                have O5 : OwnX w w5 X4 q2 (.slice A2 done.length c2) done := O4.out.keep (fun g hg _ => k5 g hg) (fun g hg _ => ⟨hx4 g hg, by have := xs4.out g hg; omega⟩)
                have RM := Lib.hid ((U2.keep (w' := w5) (fun _ _ => rfl) (fun g h => (G5.live.xs g h.1 : g < w5.heap.size))).lr (fun _ h => h))
                have SA := Lib.hid O5.sr
                have be : Hid (Below w.heap.size w w5) := G5.live.be
                have C6 := bread G5.live ⟨#[110, 101, 120, 116]⟩ (by decide)
                unfold BrTo at C6
                rw [show nm ⟨#[110, 101, 120, 116]⟩ = nextN from rfl, next_none (pA done).sync.sync, show (if (none : Option (Bs × Nat)).isSome = true then (0 : Int) else 5) = 5 from rfl] at C6
                obtain ⟨nb, hnb⟩ : ∃ z, z = (bof nextN (pA done).sync.sync.L).length := ⟨_, rfl⟩
                rw [← hnb] at C6
                replace C6 := Lib.hid C6
                clear h5 G5 U2 C5 O5 O4 hq2 hx4 k5 xq hnb xs4
                go_wp2_with fail
                refine C6.out.mono ?_
                rintro e w6 ⟨Ab', cb, rfl, _, _, _, _, b6⟩
                have be6 : Hid (Below w.heap.size w w6) := be.out.trans (b6.mono be.out.size)
                have Ca := Lib.hid (TA.out w6 be6.out)
                have RM6 := Lib.hid (RM.out.below b6)
                have SA6 := Lib.hid (SA.out.below b6)
                clear C6 b6 be RM SA
                go_wp2_with fail
                refine Ca.out.mono ?_
                rintro e wa ⟨rfl, ba⟩
                have Cc := Lib.hid (Fr.texts_any wa (.slice S2 done.length s2) (.slice A2 done.length c2) done (RM6.out.below ba) (SA6.out.below ba) (by have := hdn.out; omega))
                have bea : Hid (Below w.heap.size w wa) := be6.out.trans (ba.mono be6.out.size)
                clear Ca ba RM6 SA6 be6
                go_wp2_with fail
                refine Cc.out.mono ?_
                rintro e wc ⟨rfl, bc⟩
                have bec : Hid (Below w.heap.size w wc) := bea.out.trans (bc.mono bea.out.size)
                clear Cc bc bea
                go_wp2
                go_ret
                exact ⟨rfl, bec.out⟩
  · by_cases h0 : n0 ≤ 40
    · have q0 : decide ((40 : Int) < (n0 : Int)) = false := decide_eq_false (by omega)
      have q1 : decide ((6 : Int) < (n1 : Int)) = true := decide_eq_true (by omega)
      clear T0 T1 hz h0
      go_enter Tryd.func5, Tryd.ntmps5
      go_upto_region 2 with (fail)
      rw [hk0.out]
      rw [hrI.out, show wrap64 (r : Int) = (r : Int) by unfold wrap64; omega]
      clear hk0 hrI hk341
      go_wp2_with fail
      refine N0.out.mono ?_
      rintro e w1 ⟨p, rfl, V1⟩
      have b1 : Hid (Below w.heap.size w w1) := V1.be
      have C1 := Lib.hid (TA.out w1 b1.out)
      clear N0 V1 TA
      go_wp2_with fail
      refine C1.out.mono ?_
      rintro e w2 ⟨rfl, hb⟩
      have b2 : Hid (Below w.heap.size w w2) := b1.out.trans (hb.mono b1.out.size)
      clear hb
      go_wp2
      go_ret
      exact ⟨rfl, b2.out⟩
    · have q0 : decide ((40 : Int) < (n0 : Int)) = true := decide_eq_true (by omega)
      clear T0 T1 hz h0
      go_enter Tryd.func5, Tryd.ntmps5
      go_upto_region 2 with (fail)
      rw [hk0.out]
      rw [hrI.out, show wrap64 (r : Int) = (r : Int) by unfold wrap64; omega]
      clear hk0 hrI hk341
      go_wp2_with fail
      refine N0.out.mono ?_
      rintro e w1 ⟨p, rfl, V1⟩
      have b1 : Hid (Below w.heap.size w w1) := V1.be
      have C1 := Lib.hid (TA.out w1 b1.out)
      clear N0 V1 TA
      go_wp2_with fail
      refine C1.out.mono ?_
      rintro e w2 ⟨rfl, hb⟩
      have b2 : Hid (Below w.heap.size w w2) := b1.out.trans (hb.mono b1.out.size)
      clear hb
      go_wp2
      go_ret
      exact ⟨rfl, b2.out⟩

theorem walkd (a0 : Int) (_w0 : (Lit.int .i64 a0).wf = true) (v0 : Value) (A0 : Option Addr) (n0 c0 : Nat) (l0 : List Bs) (e0 : v0 = .slice A0 n0 c0) (lc0 : n0 ≤ c0) (uc0 : c0 ≤ 9223372036854775807) {W' : World} (w0 : Txts W' W'.heap.size A0 n0 l0) (v1 : Value) (A1 : Option Addr) (n1 c1 : Nat) (l1 : List Bs) (e1 : v1 = .slice A1 n1 c1) (lc1 : n1 ≤ c1) (uc1 : c1 ≤ 9223372036854775807) (w1 : Txts W' W'.heap.size A1 n1 l1) (W : World) (hW : W = W') (ht : Tab W) :
    Calls Tryd.prog 5 #[.int .i64 a0, v0, v1] W fun e w' => e = .returned (.bool true) ∧ Below W.heap.size W w' := by
  subst hW
  subst e0
  subst e1
  exact walk a0 A0 n0 c0 l0 A1 n1 c1 l1 _ w0 w1 ht (by omega) (by omega)

/-! The row: every input, the listed variable as the condition has it. -/
set_option linter.unusedVariables false
set_option maxRecDepth 100000 in
theorem lifted (os : Os) (started : os.Started) (H : Type) (enc : TypeId × Value → H) :
    ReturnsInHanded {} Tryd.checked os 5 .any (fun w args => (Rows.sealFullSpec.pre enc Tryd.prog Tryd.f5 [] false w args ∧ laidMetH Tryd.prog laids w) ∧ sizedMet enc Tryd.prog Tryd.f5 (OpenSpec.ofChange Rows.sealFullSpec) false w args)
      (Rows.sealFullSpec.post enc Tryd.prog Tryd.f5 false true false false) := by
  refine returnsInHanded_of_change_and (C := Tryd.checked) (X := fun w _ => laidMetH Tryd.prog laids w) (fun _ _ _ hh h => h.of_heap hh) own started (by kernel_rfl) Tryd.func5
    (ChangeSpec.witness_shaped (enc := enc) (C := Tryd.checked) (os := os) (X := fun w _ => laidMetH Tryd.prog laids w) false (World.doorLaid Tryd.prog 400 os) #[.int .i64 0, .slice none 0 0, .slice none 0 0] 8 rfl (World.shaped_of_RefB (by kernel_rfl) (by kernel_rfl)) (by kernel_rfl) (by kernel_rfl) (by kernel_rfl) (door_met os _)) ?_
  intro W base args ds gs before hval0 hW _ _ hL _
  have hval : ∀ (j : Nat) t v, Tryd.f5.params[j]? = some t → args[j]? = some v → Value.okWide Tryd.prog W .any base t v := hval0
  have hW' := hW
  obtain ⟨p, q, hA0, hV, rfl, hfz, hnd⟩ := hW
  have hA : DataW.TrodAll enc Tryd.prog W 0 (fun _ => true) true Tryd.f5.params.toList args.toList ds p := hA0
  rw [Tryd.params5] at hA hval
  obtain ⟨v0, vs0, d0, ds0, p0, q0, hargs, rfl, rfl, h0, r0⟩ := trodAll_cons hA
  obtain ⟨v1, vs1, d1, ds1, p1, q1, rfl, rfl, rfl, h1, r1⟩ := trodAll_cons r0
  obtain ⟨v2, vs2, d2, ds2, p2, q2, rfl, rfl, rfl, h2, r2⟩ := trodAll_cons r1
  obtain ⟨rfl, rfl, rfl⟩ := trodAll_nil r2
  obtain rfl : args = #[v0, v1, v2] := by cases args; simp_all
  obtain ⟨rfl, rfl⟩ := trodVars_none hV
  obtain ⟨a0, rfl, rfl, rfl, w0⟩ := open_int Tryd.underlying3 (hval 0 3 v0 rfl rfl) h0
  obtain ⟨A1, n1, c1, a1, e1, lc1, uc1, w1⟩ := view_texts (hval 1 27 v1 rfl rfl) h1
  obtain ⟨A2, n2, c2, a2, e2, lc2, uc2, w2⟩ := view_texts (hval 2 27 v2 rfl rfl) h2
  clear hA0 hval0
  simp only [List.append_nil] at hW'
  refine (walkd a0 w0 v1 A1 n1 c1 a1 e1 lc1 uc1 w1 v2 A2 n2 c2 a2 e2 lc2 uc2 w2 W rfl (of_laid hL)).mono fun e W' ⟨he, hb⟩ => ?_
  subst he
  exact ⟨_, rfl, post_below (pa := [] ++ (p1 ++ (p2 ++ []))) (pv := []) hW' (fun _ _ _ => (trodAll_cons_mk (shut_bool Tryd.underlying4 _) trodAll_mk0)) (fun sp hsp => (trodAll_cons_mk (shut_int Tryd.underlying3 w0) (trodAll_cons_mk (Trod_stays laidOut (by kernel_rfl) (of_decide_eq_true (by kernel_rfl)) h1 (fun x hx => hb.same (hW'.lt x (by simp [hx]))) (fun x hx => hsp x (by simp [hx]))) (trodAll_cons_mk (Trod_stays laidOut (by kernel_rfl) (of_decide_eq_true (by kernel_rfl)) h2 (fun x hx => hb.same (hW'.lt x (by simp [hx]))) (fun x hx => hsp x (by simp [hx]))) trodAll_mk0)))) (fun _ _ => rfl) (by simp)
    hb (ok_one (by kernel_rfl) rfl (okWide_bool_mk Tryd.underlying4 _))⟩

theorem over : Rows.sealFullRow.holds Tryd.pinned (OpenSpec.ofChange Rows.sealFullSpec) :=
  OpenClaim.holds_of_wide 5 Tryd.f5 rfl rfl rfl rfl rfl rfl rfl ⟨rfl, rfl, rfl, rfl, rfl⟩ rfl rfl rfl rfl rfl (by kernel_rfl) Tryd.func5 (by kernel_rfl)
    (of_decide_eq_true (by kernel_rfl)) (by unfold Func.isWrapper; first | (rw [if_pos (by decide +kernel)]; kernel_rfl) | (rw [if_neg (by decide +kernel)]; exact ⟨rfl, rfl⟩))
    (fun os started H enc _ => lifted os started H enc)

/-- The tied card. -/
theorem proved : Rows.SealFullCardSaid :=
  Claim7.holds_tied_plain_at .later [] [.data] true _ false
    over (fun _ h => by cases h) (by kernel_rfl) (fun _ h => by cases h) sealFull_row_tie rfl ⟨rfl, rfl⟩ (by kernel_rfl) rfl
    (fun f fn hf hfn => by
      obtain rfl : f = 5 := Option.some.inj ((show Tryd.prog.funcNamed "sojourn/sojournlaw6.SealFull" = some 5 by kernel_rfl).symm.trans hf) |>.symm
      obtain rfl : fn = Tryd.f5 := (Option.some.inj (Tryd.func5.symm.trans hfn)).symm
      exact ⟨by kernel_rfl, fun j t ht => by
        rw [Tryd.params5] at ht
        have hm : t ∈ [3, 27, 27] := by simpa using Array.mem_of_getElem? ht
        have hall : ([3, 27, 27].all fun u => !Tryd.prog.wantsStandIn u) = true := by kernel_rfl
        exact (show Tryd.prog.wantsStandIn t = false by simpa using List.all_eq_true.1 hall t hm)⟩)
    (by kernel_rfl)
#print axioms proved

end Go.Proofs.YtbolcapgocjgcaaDoor.sealFull
