/- Parts of the claim: StF, StG, StH, StJ -/
import Derived.Test.YtpkdigegkemogaaGreatDoorSnXT
import Derived.Test.YtpkdigegkemogaaGreatDoorWtXaT
namespace Go.Proofs.YtpkdigegkemogaaGreatDoor
set_option maxRecDepth 100000
open Go.RowKit
open Go.Sort (grow)
open Go.Proofs.YtpkdigegkemogaaGreatDoor.Pk (one_at one_free one_set lt_some grown_set grown_trans grown_refl u8s adr_block own_form)
namespace St

theorem below_drew {B : Nat} {w w' : World} (h : Below B w w') : Below B w w'.drew := ⟨h.os, h.tape, h.output, h.size, h.block⟩
theorem add0 (g j : Nat) : Addr.add ⟨g, 0, none⟩ j = ⟨g, j, none⟩ := by
  simp [Addr.add]
  rintro rfl
  rfl
def Nz (w : World) (A : Option Addr) (zs : List Int) : Prop := ∀ (k : Nat) (z : Int), zs[k]? = some z → ∃ ad, A = some ad ∧ ad.block < w.heap.size ∧ (∀ cs fr, w.heap[ad.block]? ≠ some (Obj.cells cs 5 fr)) ∧ w.cell? (ad.add k) = some (.int .i64 z)
section
variable {w w' : World} {A : Option Addr} {zs : List Int} {base n c : Nat}
theorem Nz.gu (h : Nz w A zs) (k : Gu base w w') : Nz w' A zs := fun j z hj => by
  obtain ⟨ad, rfl, h1, h2, h3⟩ := h j z hj
  have e := k.block _ h1 (.inr h2)
  exact ⟨ad, rfl, Nat.lt_of_lt_of_le h1 k.size, by rw [e]; exact h2, (World.cell?_of_block (by rw [adr_block]; exact e)).trans h3⟩
theorem Nz.of_row (h : RowI w base (.slice A n c) n (ivs zs)) (hl : zs.length = n) : Nz w A zs := fun j z hj => by
  have hjn : j < n := by rw [← hl]; exact (List.getElem?_eq_some_iff.1 hj).1
  rcases h.2 with ⟨e, e0⟩ | ⟨g, cap, cur, e, hb, hh, h1, h2, h3, h4⟩
  · omega
  · injection e with eA _ _
    subst eA
    refine ⟨_, rfl, lt_some hh, fun cs fr e => ?_, ?_⟩
    · rw [hh] at e
      injection e with e
      injection e with _ e _
      exact absurd e (by decide)
    · have ht : (cur.toList.take n)[j]? = some (.int .i64 z) := by
        rw [Nat.mul_one] at h4
        rw [h4]
        simp [ivs, hj]
      rw [List.getElem?_take_of_lt hjn, Array.getElem?_toList] at ht
      rw [add0, one_at hh, ht]
end
theorem rb_below {w w' : World} {base : Nat} {v : Value} {bs : Bs} (h : RowB w base v bs) (hb : Below w.heap.size w w') : RowB w' base v bs := by
  refine ⟨h.1, ?_⟩
  rcases h.2 with h0 | ⟨g, cap, cur, hv, hB, hh, h2⟩
  · exact .inl h0
  · exact .inr ⟨g, cap, cur, hv, hB, (hb.block g (lt_some hh)).trans hh, h2⟩
def ByTo (w : World) (bs : Bs) (e : Ending) (w' : World) : Prop := ∃ v, e = .returned v ∧ RowB w' w.heap.size v bs ∧ Below w.heap.size w w'
theorem one_cat (f : F) (k : Int) : one f k = cat [k, (f k).st, (f k).un, (f k).ut] := by simp [one, cat]
theorem many_take {f : F} {l : List Int} {k : Nat} {z : Int} (h : l[k]? = some z) : many f (l.take (k + 1)) = many f (l.take k) ++ one f z := by
  obtain ⟨hl, rfl⟩ := List.getElem?_eq_some_iff.1 h
  rw [List.take_succ_eq_append_getElem hl, many_snoc]
def BtAt (w w2 : World) (cap over : Int) (f : F) (l : List Int) (v i : Value) (wr : World) : Prop :=
  ∃ k : Nat, i = .int .i64 k ∧ k ≤ l.length ∧ RowB wr w.heap.size v (Pk.encI cap ++ Pk.encI over ++ many f (l.take k)) ∧ Gu w.heap.size w2 wr ∧ w.heap.size ≤ wr.heap.size
set_option maxHeartbeats 3200000 in
theorem bytes_any (w : World) (q : Nat) (cap over : Int) (f : F) (fp : Nat → Prop) (L : Led w q cap over f fp) : Calls Tryz.prog 224 #[.pointer (some ⟨q, 0, none⟩)] w (ByTo w (bts cap over f 200)) := by
  obtain ⟨k0, k1, mo, k2⟩ := L.cells
  have hql := L.lt
  have O := L.ok
  have AI : Hid (∀ W : World, Below w.heap.size w W → W.heap[w.heap.size]? = some (.cells #[.int .i64 cap, .int .i64 over] 3 (0, 0)) →
      Calls Tryz.prog 208 #[.slice none 0 0, .slice (some ⟨w.heap.size, 0, none⟩) 2 2] W (ApTo w.heap.size W (Pk.encI cap ++ Pk.encI over))) := fun W hb hc => by
    have := appendInts_any w.heap.size W (.slice none 0 0) [] (World.ownsRow_nil _ _ _ _) hb.size ⟨w.heap.size, 0, none⟩ 2 [cap, over] rfl ⟨lt_some hc, fun cs fr e => by
        rw [hc] at e
        injection e with e
        injection e with _ e _
        exact absurd e (by decide), fun j z hj => by
        have e := one_at (i := j) hc
        rw [add0, e]
        match j, hj with
        | 0, hj => simp at hj; subst hj; rfl
        | 1, hj => simp at hj; subst hj; rfl
        | j + 2, hj => simp at hj⟩ (fun z hz => by
        have := O.c0; have := O.c1; have := O.o0; have := O.o1
        simp at hz
        omega) (by simp) (by omega)
    simpa [cat] using this
  have RI : Hid (∀ W : World, Below w.heap.size w W → Calls Tryz.prog 123 #[.map mo, .func (.func 225) #[] #[]] W (RisTo W (sel pre f 200))) := fun W hb => by
    obtain ⟨mo', h1, h2, _⟩ := (L.below hb).at_
    have e := h1.c2
    rw [(hb.cell hql).trans k2] at e
    injection e with e
    injection e with e
    subst e
    exact rising_anyB W mo cap over f h2 O
  have LW : Hid (∀ W : World, Below w.heap.size w W → W.cell? ⟨q, 2, none⟩ = some (.map mo) ∧ ∀ k, Bd k → (Instr.lookup 158 (.map mo) (.int .i64 k) false).run Tryz.prog W = .ok (cell (f k)) W) := fun W hb => by
    obtain ⟨mo', h1, h2, _⟩ := (L.below hb).at_
    have e := h1.c2
    rw [(hb.cell hql).trans k2] at e
    injection e with e
    injection e with e
    subst e
    exact ⟨h1.c2, fun k hk => look_run W mo f k h2 L.zero hk⟩
  have hmem : Hid (∀ (k : Nat) (z : Int), (sel pre f 200)[k]? = some z → 1 ≤ z ∧ z ≤ 200) := fun k z h => by
    have := (mem_sel.1 (List.mem_of_getElem? h)).1
    omega
  have hlen : Hid ((sel pre f 200).length ≤ 200) := sel_len pre f 200
  have hbig : Hid (∀ k, (Pk.encI cap ++ Pk.encI over ++ many f ((sel pre f 200).take k)).length ≤ 8020) := fun k => by
    simp only [List.length_append]
    have := Pk.encI_len cap (by have := O.c0; omega) (by have := O.c1; omega)
    have := Pk.encI_len over (by have := O.o0; omega) (by have := O.o1; omega)
    have h1 := many_len O ((sel pre f 200).take k) fun x hx => by have := (mem_sel.1 (List.mem_of_mem_take hx)).1; omega
    have h2 : ((sel pre f 200).take k).length ≤ 200 := Nat.le_trans (by rw [List.length_take]; exact Nat.min_le_right _ _) hlen.out
    omega
  have hO := Lib.hid O
  have hfin : Hid (∀ k, k = (sel pre f 200).length → Pk.encI cap ++ Pk.encI over ++ many f ((sel pre f 200).take k) = bts cap over f 200) := fun k hk => by
    rw [hk, List.take_length]; rfl
  generalize sel pre f 200 = l at *
  clear L O
  have HN : Hid (Below w.heap.size w (w.alloc (.cells #[.int .i64 cap, .int .i64 over] 3)).drew ∧ (w.alloc (.cells #[.int .i64 cap, .int .i64 over] 3)).drew.heap[w.heap.size]? = some (.cells #[.int .i64 cap, .int .i64 over] 3 (0, 0))) :=
    ⟨below_drew ((Below.refl _ _).alloc (Nat.le_refl _) _), heap_alloc_new _ _⟩
  have AW := AI.out _ HN.out.1 HN.out.2
  go_enter Tryz.func224, Tryz.ntmps224
  go_wp2_with fail
  go_region_with (first
    | (go_at_call 208; refine AW.mono ?_; rintro e w1 ⟨v1, rfl, o1, g1, s1⟩; have B1 : Hid (Below w.heap.size w w1) := HN.out.1.trans (g1.below HN.out.1.size); have O1 := Lib.hid o1; clear o1 g1 s1))
  all_goals
    have c2 := (LW.out w1 B1.out).1
    have RW := RI.out w1 B1.out
    clear AW AI RI HN k0 k1 k2
    go_wp2_with fail
    refine RW.mono ?_
    rintro e w2 ⟨v2, rfl, o2, b2⟩
    obtain ⟨n, hn⟩ : ∃ n, n = l.length := ⟨_, rfl⟩
    rw [← hn] at o2
    obtain ⟨A, c, rfl, hc1, hc2, hc3⟩ := ri_form o2
    have NZ : Hid (Nz w2 A l) := Nz.of_row o2 hn.symm
    have st : Hid (BtAt w w2 cap over f l v1 (.int .i64 0) w2) := ⟨0, rfl, Nat.zero_le _, by simpa [many] using (show RowB w2 w.heap.size v1 (Pk.encI cap ++ Pk.encI over) from rb_below O1.out b2), Gu.refl _ _, Nat.le_trans B1.out.size b2.size⟩
    have B2 : Hid (Below w.heap.size w w2) := B1.out.trans (b2.mono B1.out.size)
    replace hn := Lib.hid hn
    clear o2 b2 RW c2 O1 B1
    go_wp2_with fail
    go_loopw [3, 27] (fun v i wr => BtAt w w2 cap over f l v i wr) (fun _ i _ => n - (intOf i).toNat)
    case atStart => exact st.out
    case round =>
      clear st
      obtain ⟨k, rfl, hk, hrow, hgu, hbs⟩ := hrel
      have hBr : Hid (Below w.heap.size w wr) := B2.out.trans (hgu.below B2.out.size)
      replace hrow := Lib.hid hrow
      replace hgu := Lib.hid hgu
      replace hk := Lib.hid hk
      replace hbs := Lib.hid hbs
      by_cases hlt : k < n
      · obtain ⟨z, hzk⟩ : ∃ z, l[k]? = some z := ⟨_, List.getElem?_eq_getElem (by have := hn.out; omega)⟩
        obtain ⟨ad, rfl, -, -, hcz⟩ := NZ.out.gu hgu.out k z hzk
        obtain ⟨z0, z1⟩ := hmem.out k z hzk
        obtain ⟨c2, LK⟩ := LW.out wr hBr.out
        have LK := LK z ⟨by omega, by omega⟩
        have hbd := (hO.out.shp z).bds
        obtain ⟨a, ha⟩ : ∃ a, a = (f z).st := ⟨_, rfl⟩
        obtain ⟨u, hu⟩ : ∃ a, a = (f z).un := ⟨_, rfl⟩
        obtain ⟨t, ht⟩ : ∃ a, a = (f z).ut := ⟨_, rfl⟩
        unfold cell at LK
        rw [← ha, ← hu, ← ht] at LK
        obtain ⟨W5, hW5⟩ : ∃ W, W = (wr.alloc (.cells #[.int .i64 a, .int .i64 u, .int .i64 t, .int .i64 0, .int .i64 0] 37)).alloc (.cells #[.int .i64 z, .int .i64 a, .int .i64 u, .int .i64 t] 3) := ⟨_, rfl⟩
        have g5 : Gu w.heap.size wr W5 := by rw [hW5]; exact Gu.of_below (((Below.refl _ _).alloc (Nat.le_refl _) _).alloc (by simp) _)
        have h5 : W5.heap[wr.heap.size + 1]? = some (.cells #[.int .i64 z, .int .i64 a, .int .i64 u, .int .i64 t] 3 (0, 0)) := by
          have := heap_alloc_new (wr.alloc (.cells #[.int .i64 a, .int .i64 u, .int .i64 t, .int .i64 0, .int .i64 0] 37)) (.cells #[.int .i64 z, .int .i64 a, .int .i64 u, .int .i64 t] 3)
          rw [hW5]
          simpa using this
        have o5 : RowB W5 w.heap.size u3 (Pk.encI cap ++ Pk.encI over ++ many f (l.take k)) := by
          rw [hW5]; exact (hrow.out.alloc _).alloc _
        have CA : Hid (Calls Tryz.prog 208 #[u3, .slice (some ⟨wr.heap.size + 1, 0, none⟩) 4 4] W5 fun e w' => ∃ v, e = .returned v ∧ BtAt w w2 cap over f l v (.int .i64 ((k + 1 : Nat) : Int)) w') := by
          refine (appendInts_any w.heap.size W5 u3 _ o5 (by have := g5.size; have := hbs.out; omega) ⟨wr.heap.size + 1, 0, none⟩ 4 [z, a, u, t] rfl ⟨lt_some h5, fun cs fr e => by
            rw [h5] at e
            injection e with e
            injection e with _ e _
            exact absurd e (by decide), fun j y hj => by
            rw [add0, one_at h5]
            match j, hj with
            | 0, hj => simp at hj; subst hj; rfl
            | 1, hj => simp at hj; subst hj; rfl
            | 2, hj => simp at hj; subst hj; rfl
            | 3, hj => simp at hj; subst hj; rfl
            | j + 4, hj => simp at hj⟩ (fun y hy => by simp at hy; omega) (Nat.le_trans (hbig.out k) (by omega)) (by omega)).mono ?_
          rintro e w' ⟨v, rfl, o6, g6, s6⟩
          refine ⟨v, rfl, k + 1, rfl, by have := hn.out; omega, ?_, (hgu.out.trans g5).trans g6, s6⟩
          rw [many_take hzk, one_cat, ← ha, ← hu, ← ht, ← List.append_assoc]
          exact o6
        replace hW5 := Lib.hid hW5
        clear ha hu ht hbd g5 h5 o5 hzk hrow hgu
        go_wp2_with fail
        rw [← hW5.out]
        refine CA.out.mono ?_
        rintro e w6 ⟨v6, rfl, h6⟩
        replace h6 := Lib.hid h6
        clear CA hW5 LK c2 hcz
        go_wp2
        go_roundw
        case rel => exact h6.out
        case measure => simp [intOf]; omega
      · have F : Hid (ByTo w (bts cap over f 200) (.returned u3) wr) := by
          have h1 := hrow.out
          rw [hfin.out k (by have := hk.out; have := hn.out; omega)] at h1
          exact ⟨u3, rfl, h1, hBr.out⟩
        go_wp2
        go_ret
        exact F.out
end St
end Go.Proofs.YtpkdigegkemogaaGreatDoor
namespace Go.Proofs.YtpkdigegkemogaaGreatDoor
set_option maxRecDepth 100000
open Go.RowKit
open Go.Sort (grow)
open Go.Proofs.YtpkdigegkemogaaGreatDoor.Pk (one_at one_free one_set lt_some grown_set grown_trans grown_refl u8s adr_block own_form)
namespace St

section
variable {w w' w1 w2 : World} {q : Nat} {cap over : Int} {f f' : F} {fp fp' : Nat → Prop}
theorem LTo.wide (h : LTo w q cap over fp f w') (hf : ∀ g, fp g → fp' g) (hs : ∀ g, fp' g → g < w.heap.size) : LTo w q cap over fp' f w' :=
  ⟨h.1.mono (fun g hg => by
    rcases hg with hg | hg
    · exact .inl (hf g hg)
    · exact .inr hg) fun g hg => by
    rcases hg with hg | ⟨_, hg⟩
    · exact Nat.lt_of_lt_of_le (hs g hg) h.2.size
    · exact hg, h.2.mono hf⟩
theorem LTo.after (L : Led w q cap over f fp) (hb : Below w.heap.size w w1) (h : LTo w1 q cap over fp f' w2) : LTo w q cap over fp f' w2 := by
  have h0 := LTo.of_below L hb
  refine h0.trans (h.wide (fun g hg => .inl hg) fun g hg => ?_)
  rcases hg with hg | ⟨_, hg⟩
  · exact Nat.lt_of_lt_of_le (L.size g hg) hb.size
  · exact hg
theorem Nz.kq {A : Option Addr} {zs : List Int} (h : Nz w A zs) (K : Kq fp w w') (hn : ∀ (k : Nat) (z : Int), zs[k]? = some z → ∀ ad, A = some ad → ¬ fp ad.block) : Nz w' A zs := fun j z hj => by
  obtain ⟨ad, rfl, h1, h2, h3⟩ := h j z hj
  have e := K.block _ h1 (hn j z hj ad rfl)
  exact ⟨ad, rfl, Nat.lt_of_lt_of_le h1 K.size, by rw [e]; exact h2, (World.cell?_of_block (by rw [adr_block]; exact e)).trans h3⟩
end
theorem ri_kq {w w' : World} {base n : Nat} {v : Value} {xs : List Value} {fp : Nat → Prop} (h : RowI w base v n xs) (K : Kq fp w w') (hn : ∀ g, v.ownBlock = some g → ¬ fp g) : RowI w' base v n xs := ri_same h fun g hg => K.block g (by
  obtain ⟨_, cur, hc⟩ := ri_block h hg
  exact lt_some hc) (hn g hg)
def SwTo (w : World) (q : Nat) (cap over : Int) (fp : Nat → Prop) (l : List Int) (f : F) (e : Ending) (w' : World) : Prop := ∃ v, e = .returned v ∧ RowI w' w.heap.size v l.length (ivs l) ∧ LTo w q cap over fp f w'
set_option maxHeartbeats 800000 in
theorem sweep_no (w : World) (q : Nat) (cap over : Int) (f : F) (fp : Nat → Prop) (L : Led w q cap over f fp) (now : Int) (ht : tick now = false) :
    Calls Tryz.prog 91 #[.pointer (some ⟨q, 0, none⟩), .int .i64 now] w (SwTo w q cap over fp [] f) := by
  have E : Hid (SwTo w q cap over fp [] f (.returned (.slice none 0 0)) (w.alloc (.cells #[.int .i64 now] 3))) := ⟨_, rfl, World.ownsRow_nil _ _ _ _, LTo.of_below L ((Below.refl _ _).alloc (Nat.le_refl _) _)⟩
  have MT := fun w => mayTick_any w now
  rw [ht] at MT
  clear L ht
  go_enter Tryz.func91, Tryz.ntmps91
  go_wp2_with (go_at_call 84; (with_reducible refine (MT _).mono ?_); rintro e w' ⟨rfl, rfl⟩)
  go_ret
  exact E.out
def SwAt (w2 : World) (q : Nat) (cap over : Int) (f : F) (fp : Nat → Prop) (l : List Int) (i : Value) (wr : World) : Prop :=
  ∃ k : Nat, i = .int .i64 k ∧ k ≤ l.length ∧ LTo w2 q cap over fp (swl f (l.take k)) wr
set_option maxHeartbeats 3200000 in
theorem sweep_yes (w : World) (q : Nat) (cap over : Int) (f : F) (fp : Nat → Prop) (L : Led w q cap over f fp) (now : Int) (ht : tick now = true) :
    Calls Tryz.prog 91 #[.pointer (some ⟨q, 0, none⟩), .int .i64 now] w (SwTo w q cap over fp (ovs f now) (swp f now)) := by
  have hb1 : Below w.heap.size w (w.alloc (.cells #[.int .i64 now] 3)) := (Below.refl _ _).alloc (Nat.le_refl _) _
  obtain ⟨mo, h1, h2, h3⟩ := (L.below hb1).at_
  have k2 := h1.c2
  have kn : (w.alloc (.cells #[.int .i64 now] 3)).cell? ⟨w.heap.size, 0, none⟩ = some (.int .i64 now) := one_at (i := 0) (heap_alloc_new _ _)
  have RI := Lib.hid (rising_anyS _ w.heap.size now mo cap over f h2 L.ok kn)
  have hfin : Hid (∀ k, k = (sel (ovr now) f 200).length → swl f ((sel (ovr now) f 200).take k) = swp f now) := fun k hk => by
    rw [hk, List.take_length]
    exact swl_ovs L.ok now
  have hmem : Hid (∀ (k : Nat) (z : Int), (sel (ovr now) f 200)[k]? = some z → 1 ≤ z ∧ z ≤ 200) := fun k z h => by
    have := (mem_sel.1 (List.mem_of_getElem? h)).1
    omega
  have hlen : Hid ((sel (ovr now) f 200).length ≤ 200) := sel_len _ f 200
  have MT := fun w => mayTick_any w now
  rw [ht] at MT
  unfold ovs
  generalize sel (ovr now) f 200 = l at *
  have hL := Lib.hid L
  have hB1 := Lib.hid hb1
  clear ht h1 h2 h3 kn L hb1
  go_enter Tryz.func91, Tryz.ntmps91
  go_wp2_with (go_at_call 84; (with_reducible refine (MT _).mono ?_); rintro e w' ⟨rfl, rfl⟩)
  refine RI.out.mono ?_
  rintro e w2 ⟨v2, rfl, o2, b2⟩
  obtain ⟨n, hn⟩ : ∃ n, n = l.length := ⟨_, rfl⟩
  rw [← hn] at o2
  have B2 : Hid (Below w.heap.size w w2) := hB1.out.trans (b2.mono hB1.out.size)
  have o2' : RowI w2 w.heap.size v2 n (ivs l) := ri_mono o2 hB1.out.size
  obtain ⟨A, c, rfl, hc1, hc2, hc3⟩ := ri_form o2'
  have hnf : Hid (∀ g, (Value.slice A n c).ownBlock = some g → ¬ fp g) := fun g hg hf => by
    have h1 := (ri_block o2' hg).1
    have h2 := hL.out.size g hf
    omega
  have NZ : Hid (Nz w2 A l) := Nz.of_row o2' hn.symm
  have NF : Hid (∀ (k : Nat) (z : Int), l[k]? = some z → ∀ ad, A = some ad → ¬ fp ad.block) := fun k z hk ad ha => by
    subst ha
    exact hnf.out ad.block rfl
  have L2 : Hid (Led w2 q cap over f fp) := hL.out.below B2.out
  have st : Hid (SwAt w2 q cap over f fp l (.int .i64 0) w2) := ⟨0, rfl, Nat.zero_le _, by rw [List.take_zero, swl_nil]; exact LTo.of_below L2.out (Below.refl _ _)⟩
  replace hn := Lib.hid hn
  replace o2' := Lib.hid o2'
  clear o2 b2 RI k2 hB1 MT
  go_wp2_with fail
  go_loopw [23] (fun i wr => SwAt w2 q cap over f fp l i wr) (fun i _ => n - (intOf i).toNat)
  case atStart => exact st.out
  case round =>
    clear st
    obtain ⟨k, rfl, hk, hl⟩ := hrel
    replace hl := Lib.hid hl
    replace hk := Lib.hid hk
    by_cases hlt : k < n
    · obtain ⟨z, hzk⟩ : ∃ z, l[k]? = some z := ⟨_, List.getElem?_eq_getElem (by have := hn.out; omega)⟩
      obtain ⟨ad, rfl, -, -, hcz⟩ := NZ.out.kq hl.out.2.toKq NF.out k z hzk
      obtain ⟨z0, z1⟩ := hmem.out k z hzk
      have CA : Hid (Calls Tryz.prog 87 #[.pointer (some ⟨q, 0, none⟩), .int .i64 z] wr fun e w' => e = .returned (.tuple #[]) ∧ SwAt w2 q cap over f fp l (.int .i64 ((k + 1 : Nat) : Int)) w') := by
        refine (end_any wr q cap over z _ _ hl.out.1 z0 z1).mono ?_
        rintro e w' ⟨rfl, h⟩
        refine ⟨rfl, k + 1, rfl, by have := hn.out; omega, ?_⟩
        obtain ⟨hll, hz⟩ := List.getElem?_eq_some_iff.1 hzk
        rw [List.take_succ_eq_append_getElem hll, swl_snoc, hz]
        exact hl.out.trans h
      clear hzk
      go_wp2_with fail
      refine CA.out.mono ?_
      rintro e w6 ⟨rfl, h6⟩
      replace h6 := Lib.hid h6
      clear CA hcz
      go_wp2
      go_roundw
      case rel => exact h6.out
      case measure => simp [intOf]; omega
    · have F : Hid (SwTo w q cap over fp l (swp f now) (.returned (.slice A n c)) wr) := by
        have h1 := hl.out
        rw [hfin.out k (by have := hk.out; have := hn.out; omega)] at h1
        exact ⟨_, rfl, by rw [← hn.out]; exact ri_kq o2'.out h1.2.toKq hnf.out, LTo.after hL.out B2.out h1⟩
      go_wp2
      go_ret
      exact F.out
theorem sweep_any (w : World) (q : Nat) (cap over : Int) (f : F) (fp : Nat → Prop) (L : Led w q cap over f fp) (now : Int) :
    Calls Tryz.prog 91 #[.pointer (some ⟨q, 0, none⟩), .int .i64 now] w (SwTo w q cap over fp (swL f now) (swF f now)) := by
  unfold swL swF
  cases ht : tick now with
  | true => exact sweep_yes w q cap over f fp L now ht
  | false => exact sweep_no w q cap over f fp L now ht

theorem clone_any (W : World) (mo : Option Nat) (f : F) (h : MapIs W mo f) : Calls Tryz.prog 117 #[.map mo] W fun e w' => ∃ mo', e = .returned (.map mo') ∧ MapIs w' mo' f ∧ (∀ m, mo' = some m → W.heap.size ≤ m ∧ m < w'.heap.size) ∧ Below W.heap.size W w' := by
  rcases h with ⟨rfl, rfl⟩ | ⟨m, D, rfl, ho, T⟩
  · refine (AnyW.maps_Clone_nil Tryz.stclone W).mono ?_
    rintro e w' ⟨rfl, rfl⟩
    exact ⟨none, rfl, .inl ⟨rfl, rfl⟩, fun m e => (nomatch e), Below.refl _ _⟩
  · refine (AnyW.maps_Clone_owns Tryz.stclone 3 Rdv m 200 D W ho).mono ?_
    rintro e w' ⟨rfl, h1, h2, h3⟩
    exact ⟨_, rfl, .inr ⟨_, D, rfl, h1, T⟩, fun m e => by
      injection e with e
      subst e
      exact ⟨Nat.le_refl _, h1.lt⟩, h3⟩
def CpTo (w : World) (cap over : Int) (f : F) (e : Ending) (w' : World) : Prop := ∃ q fp, e = .returned (.pointer (some ⟨q, 0, none⟩)) ∧ (∀ g, fp g → w.heap.size ≤ g) ∧ Led w' q cap over f fp ∧ Below w.heap.size w w'
set_option maxHeartbeats 1600000 in
theorem copy_any (w : World) (q : Nat) (cap over : Int) (f : F) (fp : Nat → Prop) (L : Led w q cap over f fp) : Calls Tryz.prog 83 #[.pointer (some ⟨q, 0, none⟩)] w (CpTo w cap over f) := by
  obtain ⟨mo, h1, h2, h3⟩ := L.at_
  have k0 := h1.c0
  have k1 := h1.c1
  have k2 := h1.c2
  have hql := L.lt
  have CL := clone_any w.drew mo f h2
  have O := Lib.hid L.ok
  clear h1 h2 h3 L
  go_enter Tryz.func83, Tryz.ntmps83
  go_wp2_with fail
  go_region_with (first
    | (go_at_call 117; refine CL.mono ?_; rintro e w1 ⟨mo1, rfl, hm1, hn1, hb1⟩; have B1 : Below w.heap.size w w1 := ⟨hb1.os, hb1.tape, hb1.output, hb1.size, hb1.block⟩; have j0 : w1.cell? ⟨q, 0, none⟩ = some (.int .i64 cap) := (B1.cell hql).trans k0; have j1 : w1.cell? ⟨q, 1, none⟩ = some (.int .i64 over) := (B1.cell hql).trans k1;
       have E : Hid (CpTo w cap over f (.returned (.pointer (some ⟨w1.heap.size, 0, none⟩))) (w1.alloc (.cells #[.int .i64 cap, .int .i64 over, .map mo1] 160))) := ⟨w1.heap.size, fun g => g = w1.heap.size ∨ mo1 = some g, rfl, fun g hg => by
         rcases hg with rfl | hg
         · exact B1.size
         · exact (hn1 g hg).1, ⟨O.out, .inl rfl, fun g hg => by
         rcases hg with rfl | hg
         · simp
         · have := (hn1 g hg).2; simp; omega, mo1, .of_row (l := []) (heap_alloc_new _ _), hm1.keep fun m e => heap_alloc_old _ _ (hn1 m e).2, fun m e => .inr e⟩, B1.alloc B1.size _⟩; clear hm1 hn1 hb1 B1))
  all_goals
    go_wp2
    go_ret
    exact E.out
end St
end Go.Proofs.YtpkdigegkemogaaGreatDoor
namespace Go.Proofs.YtpkdigegkemogaaGreatDoor
set_option maxRecDepth 100000
open Go.RowKit
open Go.Sort (grow)
open Go.Proofs.YtpkdigegkemogaaGreatDoor.Pk (one_at one_free one_set lt_some grown_set grown_trans grown_refl u8s adr_block own_form)
namespace St
open Wt (Opn mayOp mayop_any inR)

abbrev opv (o : Opn) : Value := .agg #[.int .i64 o.kind, .int .i64 o.book, .int .i64 o.units, .int .i64 o.cust, .int .i64 o.amount]
def dstp (cap over : Int) (f : F) (o : Opn) (now : Int) : F × Int := stp cap over f (mayOp o && tick now) o.kind o.book o.units now
def DoTo (w : World) (q : Nat) (cap over : Int) (fp : Nat → Prop) (r : F × Int) (e : Ending) (w' : World) : Prop := e = .returned (.int .i64 r.2) ∧ LTo w q cap over fp r.1 w'
set_option maxHeartbeats 3200000 in
theorem hold_any (w : World) (q : Nat) (cap over : Int) (f : F) (fp : Nat → Prop) (L : Led w q cap over f fp) (k b u c m now : Int) (b1 : 1 ≤ b) (b2 : b ≤ 200) (u1 : 1 ≤ u) (u2 : u ≤ 1000) (ht : tick now = true) :
    Calls Tryz.prog 85 #[.pointer (some ⟨q, 0, none⟩), .agg #[.int .i64 k, .int .i64 b, .int .i64 u, .int .i64 c, .int .i64 m], .int .i64 now] w (DoTo w q cap over fp (stp cap over f true 1 b u now)) := by
  obtain ⟨t0, t1⟩ := tick_iff.1 ht
  have hz := L.zero b
  have hsh := L.ok.shp b
  obtain ⟨a, ha⟩ : ∃ a, a = (f b).st := ⟨_, rfl⟩
  obtain ⟨x, hx⟩ : ∃ a, a = (f b).un := ⟨_, rfl⟩
  obtain ⟨t, htt⟩ : ∃ a, a = (f b).ut := ⟨_, rfl⟩
  obtain ⟨W, hW⟩ : ∃ W, W = ((w.alloc (.cells #[.int .i64 k, .int .i64 b, .int .i64 u, .int .i64 c, .int .i64 m] 34)).alloc (.cells #[.int .i64 a, .int .i64 x, .int .i64 t, .int .i64 0, .int .i64 0] 37)).drew := ⟨_, rfl⟩
  have HB : Below w.heap.size w W := by rw [hW]; exact below_drew (((Below.refl _ _).alloc (Nat.le_refl _) _).alloc (by simp) _)
  have LW := L.below HB
  have hO : W.heap[w.heap.size]? = some (.cells #[.int .i64 k, .int .i64 b, .int .i64 u, .int .i64 c, .int .i64 m] 34 (0, 0)) := by rw [hW]; exact heap_alloc2_old _ _ _
  have hE : W.heap[w.heap.size + 1]? = some (.cells #[.int .i64 a, .int .i64 x, .int .i64 t, .int .i64 0, .int .i64 0] 37 (0, 0)) := by
    have := heap_alloc_new (w.alloc (.cells #[.int .i64 k, .int .i64 b, .int .i64 u, .int .i64 c, .int .i64 m] 34)) (.cells #[.int .i64 a, .int .i64 x, .int .i64 t, .int .i64 0, .int .i64 0] 37)
    rw [hW]
    show ((w.alloc (.cells #[.int .i64 k, .int .i64 b, .int .i64 u, .int .i64 c, .int .i64 m] 34)).alloc (.cells #[.int .i64 a, .int .i64 x, .int .i64 t, .int .i64 0, .int .i64 0] 37)).heap[w.heap.size + 1]? = _
    simpa using this
  have b1' : Below w.heap.size w (w.alloc (.cells #[.int .i64 k, .int .i64 b, .int .i64 u, .int .i64 c, .int .i64 m] 34)) := (Below.refl _ _).alloc (Nat.le_refl _) _
  obtain ⟨mo, g1, g2, g3⟩ := (L.below b1').at_
  have k2 : w.cell? ⟨q, 2, none⟩ = some (.map mo) := (b1'.cell L.lt).symm.trans (g1.c2)
  have hql := L.lt
  have LK := look_run (w.alloc (.cells #[.int .i64 k, .int .i64 b, .int .i64 u, .int .i64 c, .int .i64 m] 34)).drew mo f b g2 L.zero ⟨by omega, by omega⟩
  unfold cell at LK
  rw [← ha, ← hx, ← htt] at LK
  have LK' : ∀ o, (Instr.lookup 158 (.map mo) (.int .i64 b) false).run Tryz.prog ((w.alloc (.cells #[.int .i64 k, .int .i64 b, .int .i64 u, .int .i64 c, .int .i64 m] 34)).alloc o).drew = .ok (.agg #[.int .i64 a, .int .i64 x, .int .i64 t, .int .i64 0, .int .i64 0]) ((w.alloc (.cells #[.int .i64 k, .int .i64 b, .int .i64 u, .int .i64 c, .int .i64 m] 34)).alloc o).drew := fun o => by
    have hbb : Below w.heap.size w ((w.alloc (.cells #[.int .i64 k, .int .i64 b, .int .i64 u, .int .i64 c, .int .i64 m] 34)).alloc o).drew := below_drew (b1'.alloc b1'.size _)
    obtain ⟨mo', e1, e2, _⟩ := (L.below hbb).at_
    have e3 := e1.c2
    rw [(hbb.cell hql).trans k2] at e3
    injection e3 with e3
    injection e3 with e3
    subst e3
    have := look_run _ mo f b e2 L.zero ⟨by omega, by omega⟩
    unfold cell at this
    rw [← ha, ← hx, ← htt] at this
    exact this
  have LK1 := LK' (.cells #[.int .i64 0, .int .i64 0, .int .i64 0, .int .i64 0, .int .i64 0] 37)
  have o1 : W.cell? ⟨w.heap.size, 1, none⟩ = some (.int .i64 b) := one_at (i := 1) hO
  have o2 : W.cell? ⟨w.heap.size, 2, none⟩ = some (.int .i64 u) := one_at (i := 2) hO
  have e0 : W.cell? ⟨w.heap.size + 1, 0, none⟩ = some (.int .i64 a) := one_at (i := 0) hE
  have e1 : W.cell? ⟨w.heap.size + 1, 1, none⟩ = some (.int .i64 x) := one_at (i := 1) hE
  have Q1 := fun d os => Calls.regrown_of (free_any _ q cap over f fp (LW.below (below_regrown W d os)))
  have z2 := cell_regrown o2
  have z3 := cell_regrown e0
  have HG : Hid (∀ W', Below W.heap.size W W' → Below w.heap.size w W' ∧ W'.cell? ⟨w.heap.size, 1, none⟩ = some (.int .i64 b) ∧ W'.cell? ⟨w.heap.size, 2, none⟩ = some (.int .i64 u) ∧ W'.cell? ⟨w.heap.size + 1, 0, none⟩ = some (.int .i64 a) ∧ W'.cell? ⟨w.heap.size + 1, 1, none⟩ = some (.int .i64 x)) := fun W' hb =>
    ⟨HB.trans (hb.mono HB.size), (hb.cell (lt_some hO)).trans o1, (hb.cell (lt_some hO)).trans o2, (hb.cell (lt_some hE)).trans e0, (hb.cell (lt_some hE)).trans e1⟩
  have EP : Hid (∀ W', Below w.heap.size w W' → u ≤ room cap over f → Calls Tryz.prog 119 #[.pointer (some ⟨q, 0, none⟩), .int .i64 b, .agg #[.int .i64 1, .int .i64 u, .int .i64 (now + 60), .int .i64 0, .int .i64 0]] W' fun r w' => r = .returned (.tuple #[]) ∧ LTo w q cap over fp (upd f b ⟨1, u, now + 60⟩) w') := fun W' hb hr => by
    refine (put_any W' q cap over b f ⟨1, u, now + 60⟩ fp (L.below hb) (ok_hold L.ok b1 b2 u1 u2 hr ht) b1 b2 (by show (1 : Int) ≠ 0; decide)).mono ?_
    rintro r w' ⟨rfl, h⟩
    exact ⟨rfl, LTo.after L hb h⟩
  have EE : Hid (∀ W', Below w.heap.size w W' → Calls Tryz.prog 87 #[.pointer (some ⟨q, 0, none⟩), .int .i64 b] W' fun r w' => r = .returned (.tuple #[]) ∧ LTo w q cap over fp (upd f b eg) w') := fun W' hb => by
    refine (end_any W' q cap over b f fp (L.below hb) b1 b2).mono ?_
    rintro r w' ⟨rfl, h⟩
    exact ⟨rfl, LTo.after L hb h⟩
  have ST : Hid (∀ W', Below w.heap.size w W' → LTo w q cap over fp f W') := fun W' hb => LTo.of_below L hb
  have hS : Hid (stp cap over f true 1 b u now = if a = 0 then (if u ≤ room cap over f then (upd f b ⟨1, u, now + 60⟩, 1) else (upd f b eg, 2)) else if a ≠ 3 ∧ x = u then (f, 1) else (f, 2)) := by rw [ha, hx]; rfl
  generalize room cap over f = rm at *
  replace hW := Lib.hid hW
  clear ha hx htt hz hsh L ht b1 b2 u1 u2 LW hO hE b1' g1 g2 g3 LK' HB
  go_enter Tryz.func85, Tryz.ntmps85
  go_wp2_with fail
  go_region
  all_goals
    rw [← hW.out]
    clear LK LK1 k2
    by_cases h0 : a = 0
    · subst h0
      rw [if_pos rfl] at hS
      by_cases hr : u ≤ rm
      · have hd : decide (u ≤ rm) = true := decide_eq_true hr
        rw [if_pos hr] at hS
        go_wp2_with fail
        refine wp_region_quiet_below (by kernel_rfl) (by kernel_rfl) ?_
        repeat (go_big_quiet_step (with_reducible exact Q1 _ _))
        refine wpQuiet_nil ?_
        intro w7 hw'
        obtain ⟨⟨dq, osq⟩, hw7⟩ := hw'
        obtain ⟨B7, y1, y2, y3, y4⟩ := HG.out w7 (by rw [hw7]; exact below_regrown W dq osq)
        have S7 := Lib.hid (ST.out w7 B7)
        have P7 := EP.out w7 B7 hr
        clear hw7 Q1 z2 z3 o1 o2 e0 e1 HG EP EE ST B7 hr
        go_wp2_with fail
        refine P7.mono ?_
        rintro e w8 ⟨rfl, h8⟩
        replace h8 := Lib.hid h8
        clear P7
        go_wp2
        go_ret
        rw [hS.out]
        exact ⟨rfl, h8.out⟩
      · have hd : decide (u ≤ rm) = false := decide_eq_false hr
        rw [if_neg hr] at hS
        go_wp2_with fail
        refine wp_region_quiet_below (by kernel_rfl) (by kernel_rfl) ?_
        repeat (go_big_quiet_step (with_reducible exact Q1 _ _))
        refine wpQuiet_nil ?_
        intro w7 hw'
        obtain ⟨⟨dq, osq⟩, hw7⟩ := hw'
        obtain ⟨B7, y1, y2, y3, y4⟩ := HG.out w7 (by rw [hw7]; exact below_regrown W dq osq)
        have S7 := Lib.hid (ST.out w7 B7)
        have P7 := EE.out w7 B7
        clear hw7 Q1 z2 z3 o1 o2 e0 e1 HG EP EE ST B7
        go_wp2_with fail
        refine P7.mono ?_
        rintro e w8 ⟨rfl, h8⟩
        replace h8 := Lib.hid h8
        clear P7
        go_wp2
        go_ret
        rw [hS.out]
        exact ⟨rfl, h8.out⟩
    · rw [if_neg h0] at hS
      have hb0 : (a == 0) = false := by simpa using h0
      go_wp2_with fail
      refine wp_region_quiet_below (by kernel_rfl) (by kernel_rfl) ?_
      repeat (go_big_quiet_step (with_reducible exact Q1 _ _))
      refine wpQuiet_nil ?_
      intro w7 hw'
      obtain ⟨⟨dq, osq⟩, hw7⟩ := hw'
      obtain ⟨B7, y1, y2, y3, y4⟩ := HG.out w7 (by rw [hw7]; exact below_regrown W dq osq)
      have S7 := Lib.hid (ST.out w7 B7)
      clear hw7 Q1 z2 z3 o1 o2 e0 e1 HG EP EE ST B7
      by_cases h3 : a = 3
      · subst h3
        rw [if_neg (by simp)] at hS
        go_wp2
        go_ret
        rw [hS.out]
        exact ⟨rfl, S7.out⟩
      · have hb3 : (a == 3) = false := by simpa using h3
        by_cases hxu : x = u
        · subst hxu
          rw [if_pos ⟨h3, rfl⟩] at hS
          go_wp2
          go_ret
          rw [hS.out]
          exact ⟨rfl, S7.out⟩
        · have hbx : (x == u) = false := by simpa using hxu
          rw [if_neg (fun h => hxu h.2)] at hS
          go_wp2
          go_ret
          rw [hS.out]
          exact ⟨rfl, S7.out⟩
end St
end Go.Proofs.YtpkdigegkemogaaGreatDoor
namespace Go.Proofs.YtpkdigegkemogaaGreatDoor
set_option maxRecDepth 100000
open Go.RowKit
open Go.Sort (grow)
open Go.Proofs.YtpkdigegkemogaaGreatDoor.Pk (one_at one_free one_set lt_some grown_set grown_trans grown_refl u8s adr_block own_form)
namespace St
open Wt (Opn mayOp mayop_any inR)

set_option maxHeartbeats 3200000 in
theorem confirm_any (w : World) (q : Nat) (cap over : Int) (f : F) (fp : Nat → Prop) (L : Led w q cap over f fp) (b u now : Int) (b1 : 1 ≤ b) (b2 : b ≤ 200) :
    Calls Tryz.prog 86 #[.pointer (some ⟨q, 0, none⟩), .int .i64 b, .int .i64 now] w (DoTo w q cap over fp (stp cap over f true 2 b u now)) := by
  have hsh := L.ok.shp b
  obtain ⟨a, ha⟩ : ∃ a, a = (f b).st := ⟨_, rfl⟩
  obtain ⟨x, hx⟩ : ∃ a, a = (f b).un := ⟨_, rfl⟩
  obtain ⟨t, htt⟩ : ∃ a, a = (f b).ut := ⟨_, rfl⟩
  obtain ⟨W, hW⟩ : ∃ W, W = w.alloc (.cells #[.int .i64 a, .int .i64 x, .int .i64 t, .int .i64 0, .int .i64 0] 37) := ⟨_, rfl⟩
  have HB : Below w.heap.size w W := by rw [hW]; exact (Below.refl _ _).alloc (Nat.le_refl _) _
  have hE : W.heap[w.heap.size]? = some (.cells #[.int .i64 a, .int .i64 x, .int .i64 t, .int .i64 0, .int .i64 0] 37 (0, 0)) := by rw [hW]; exact heap_alloc_new _ _
  obtain ⟨mo, g1, g2, g3⟩ := L.at_
  have k2 : w.cell? ⟨q, 2, none⟩ = some (.map mo) := g1.c2
  have hql := L.lt
  have LK := look_run w mo f b g2 L.zero ⟨by omega, by omega⟩
  unfold cell at LK
  rw [← ha, ← hx, ← htt] at LK
  have e0 : W.cell? ⟨w.heap.size, 0, none⟩ = some (.int .i64 a) := one_at (i := 0) hE
  have e1 : W.cell? ⟨w.heap.size, 1, none⟩ = some (.int .i64 x) := one_at (i := 1) hE
  have e2 : W.cell? ⟨w.heap.size, 2, none⟩ = some (.int .i64 t) := one_at (i := 2) hE
  have e3 : W.cell? ⟨w.heap.size, 3, none⟩ = some (.int .i64 0) := one_at (i := 3) hE
  have e4 : W.cell? ⟨w.heap.size, 4, none⟩ = some (.int .i64 0) := one_at (i := 4) hE
  have IO := Lib.hid (isOver_any W ⟨a, x, t⟩ now)
  unfold cell at IO
  simp only at IO
  have HG : Hid (∀ W', Below W.heap.size W W' → Below w.heap.size w W' ∧ W'.cell? ⟨w.heap.size, 1, none⟩ = some (.int .i64 x)) := fun W' hb =>
    ⟨HB.trans (hb.mono HB.size), (hb.cell (lt_some hE)).trans e1⟩
  have EP : Hid (∀ W', Below w.heap.size w W' → a = 1 → Calls Tryz.prog 119 #[.pointer (some ⟨q, 0, none⟩), .int .i64 b, .agg #[.int .i64 2, .int .i64 x, .int .i64 0, .int .i64 0, .int .i64 0]] W' fun r w' => r = .returned (.tuple #[]) ∧ LTo w q cap over fp (upd f b ⟨2, (f b).un, 0⟩) w') := fun W' hb h1 => by
    have := put_any W' q cap over b f ⟨2, (f b).un, 0⟩ fp (L.below hb) (ok_conf L.ok b1 b2 (ha ▸ h1)) b1 b2 (by show (2 : Int) ≠ 0; decide)
    unfold cell at this
    rw [hx]
    refine this.mono ?_
    rintro r w' ⟨rfl, h⟩
    exact ⟨rfl, LTo.after L hb h⟩
  have EE : Hid (∀ W', Below w.heap.size w W' → Calls Tryz.prog 87 #[.pointer (some ⟨q, 0, none⟩), .int .i64 b] W' fun r w' => r = .returned (.tuple #[]) ∧ LTo w q cap over fp (upd f b eg) w') := fun W' hb => by
    refine (end_any W' q cap over b f fp (L.below hb) b1 b2).mono ?_
    rintro r w' ⟨rfl, h⟩
    exact ⟨rfl, LTo.after L hb h⟩
  have ST : Hid (LTo w q cap over fp f W) := LTo.of_below L HB
  have hS : Hid (stp cap over f true 2 b u now = if a = 2 then (f, 1) else if a = 1 ∧ now < t then (upd f b ⟨2, (f b).un, 0⟩, 1) else (upd f b eg, 2)) := by rw [ha, htt]; rfl
  obtain ⟨o, ho⟩ : ∃ o, o = ovr now ⟨a, x, t⟩ := ⟨_, rfl⟩
  have hov : Hid (a = 1 → (o = true ↔ t ≤ now)) := fun h => by rw [ho]; simp [ovr, h]
  rw [← ho] at IO
  replace HB := Lib.hid HB
  replace hW := Lib.hid hW
  clear ha hx htt hsh ho L b1 b2 hE g1 g2 g3
  by_cases h2 : a = 2
  · subst h2
    rw [if_pos rfl] at hS
    go_enter Tryz.func86, Tryz.ntmps86
    go_wp2_with fail
    rw [← hW.out]
    go_ret
    rw [hS.out]
    exact ⟨rfl, ST.out⟩
  · rw [if_neg h2] at hS
    have hb2 : (a == 2) = false := by simpa using h2
    by_cases h1 : a = 1
    · subst h1
      cases o with
      | true =>
        rw [if_neg (fun h => by have := (hov.out rfl).1 rfl; omega)] at hS
        go_enter Tryz.func86, Tryz.ntmps86
        go_wp2_with fail
        rw [← hW.out]
        refine IO.out.mono ?_
        rintro e w1 ⟨rfl, hh⟩
        obtain ⟨B7, y1⟩ := HG.out w1 hh
        have P7 := EE.out w1 B7
        clear IO LK k2 e0 e1 e2 e3 e4 HG EP EE ST hh B7
        go_wp2_with fail
        refine P7.mono ?_
        rintro e w8 ⟨rfl, h8⟩
        replace h8 := Lib.hid h8
        clear P7
        go_wp2
        go_ret
        rw [hS.out]
        exact ⟨rfl, h8.out⟩
      | false =>
        rw [if_pos ⟨rfl, by have := (hov.out rfl).2; have h5 : ¬ t ≤ now := fun h => (by have := this h; cases this); omega⟩] at hS
        go_enter Tryz.func86, Tryz.ntmps86
        go_wp2_with fail
        rw [← hW.out]
        refine IO.out.mono ?_
        rintro e w1 ⟨rfl, hh⟩
        obtain ⟨B7, y1⟩ := HG.out w1 hh
        have P7 := EP.out w1 B7 (by simp)
        clear IO LK k2 e0 e1 e2 e3 e4 HG EP EE ST hh B7
        go_wp2_with fail
        refine P7.mono ?_
        rintro e w8 ⟨rfl, h8⟩
        replace h8 := Lib.hid h8
        clear P7
        go_wp2
        go_ret
        rw [hS.out]
        exact ⟨rfl, h8.out⟩
    · rw [if_neg (fun h => h1 h.1)] at hS
      have hb1 : (a == 1) = false := by simpa using h1
      have P7 := EE.out W HB.out
      clear IO HG EP EE ST
      go_enter Tryz.func86, Tryz.ntmps86
      go_wp2_with fail
      rw [← hW.out]
      refine P7.mono ?_
      rintro e w8 ⟨rfl, h8⟩
      replace h8 := Lib.hid h8
      clear P7
      go_wp2
      go_ret
      rw [hS.out]
      exact ⟨rfl, h8.out⟩

theorem mayop_book {o : Opn} (h : mayOp o = true) : (1 ≤ o.book ∧ o.book ≤ 200) ∧ (o.kind = 1 → 1 ≤ o.units ∧ o.units ≤ 1000) := by
  unfold mayOp inR at h
  rw [Bool.and_eq_true, decide_eq_true_iff] at h
  refine ⟨h.1, fun hk => ?_⟩
  have h2 := h.2
  rw [if_pos hk] at h2
  simp at h2
  exact h2.1
set_option maxHeartbeats 3200000 in
theorem do_any (w : World) (q : Nat) (cap over : Int) (f : F) (fp : Nat → Prop) (L : Led w q cap over f fp) (o : Opn) (now : Int) :
    Calls Tryz.prog 59 #[.pointer (some ⟨q, 0, none⟩), opv o, .int .i64 now] w (DoTo w q cap over fp (dstp cap over f o now)) := by
  have MO : ∀ W, Calls Tryz.prog 70 #[.agg #[.int .i64 o.kind, .int .i64 o.book, .int .i64 o.units, .int .i64 o.cust, .int .i64 o.amount]] W _ := fun W => mayop_any W o
  have MT := fun W => mayTick_any W now
  obtain ⟨W, hW⟩ : ∃ W, W = w.alloc (.cells #[.int .i64 o.kind, .int .i64 o.book, .int .i64 o.units, .int .i64 o.cust, .int .i64 o.amount] 34) := ⟨_, rfl⟩
  have HB : Hid (Below w.heap.size w W) := by rw [hW]; exact (Below.refl _ _).alloc (Nat.le_refl _) _
  have hE : Hid (W.heap[w.heap.size]? = some (.cells #[.int .i64 o.kind, .int .i64 o.book, .int .i64 o.units, .int .i64 o.cust, .int .i64 o.amount] 34 (0, 0))) := by rw [hW]; exact heap_alloc_new _ _
  have hql := L.lt
  have MW := Lib.hid (MO W)
  unfold opv dstp
  replace hW := Lib.hid hW
  cases hm : mayOp o with
  | false =>
    rw [hm] at MW
    simp only [Bool.false_and]
    have hL := Lib.hid L
    clear hm MO MT L
    go_enter Tryz.func59, Tryz.ntmps59
    go_wp2_with fail
    rw [← hW.out]
    refine MW.out.mono ?_
    rintro e w1 ⟨rfl, hh⟩
    have E : Hid (LTo w q cap over fp f w1) := LTo.of_below hL.out (HB.out.trans (hh.mono HB.out.size))
    clear MW hh hL
    go_wp2
    go_ret
    exact ⟨rfl, E.out⟩
  | true =>
    obtain ⟨⟨b1, b2⟩, hu⟩ := mayop_book hm
    rw [hm] at MW
    simp only [Bool.true_and]
    clear hm MO
    cases ht : tick now with
    | false =>
      rw [ht] at MT
      have hL := Lib.hid L
      clear L b1 b2 hu ht
      go_enter Tryz.func59, Tryz.ntmps59
      go_wp2_with fail
      rw [← hW.out]
      refine MW.out.mono ?_
      rintro e w1 ⟨rfl, hh⟩
      have E : Hid (LTo w q cap over fp f w1) := LTo.of_below hL.out (HB.out.trans (hh.mono HB.out.size))
      clear MW hh hL
      go_wp2_with (go_at_call 84; (with_reducible refine (MT _).mono ?_); rintro e w' ⟨rfl, rfl⟩)
      go_ret
      exact ⟨rfl, E.out⟩
    | true =>
      rw [ht] at MT
      have H1 : Hid (∀ W', Below w.heap.size w W' → o.kind = 1 → Calls Tryz.prog 85 #[.pointer (some ⟨q, 0, none⟩), .agg #[.int .i64 o.kind, .int .i64 o.book, .int .i64 o.units, .int .i64 o.cust, .int .i64 o.amount], .int .i64 now] W' (DoTo w q cap over fp (stp cap over f true o.kind o.book o.units now))) := fun W' hb hk => by
        refine (hold_any W' q cap over f fp (L.below hb) o.kind o.book o.units o.cust o.amount now b1 b2 (hu hk).1 (hu hk).2 ht).mono ?_
        rintro e w' ⟨rfl, h⟩
        rw [hk]
        exact ⟨rfl, LTo.after L hb h⟩
      have H2 : Hid (∀ W', Below w.heap.size w W' → o.kind = 2 → Calls Tryz.prog 86 #[.pointer (some ⟨q, 0, none⟩), .int .i64 o.book, .int .i64 now] W' (DoTo w q cap over fp (stp cap over f true o.kind o.book o.units now))) := fun W' hb hk => by
        refine (confirm_any W' q cap over f fp (L.below hb) o.book o.units now b1 b2).mono ?_
        rintro e w' ⟨rfl, h⟩
        rw [hk]
        exact ⟨rfl, LTo.after L hb h⟩
      have H3 : Hid (∀ W', Below w.heap.size w W' → o.kind = 3 → Calls Tryz.prog 87 #[.pointer (some ⟨q, 0, none⟩), .int .i64 o.book] W' fun e w' => e = .returned (.tuple #[]) ∧ DoTo w q cap over fp (stp cap over f true o.kind o.book o.units now) (.returned (.int .i64 1)) w') := fun W' hb hk => by
        refine (end_any W' q cap over o.book f fp (L.below hb) b1 b2).mono ?_
        rintro e w' ⟨rfl, h⟩
        rw [hk]
        exact ⟨rfl, rfl, LTo.after L hb h⟩
      have H4 : Hid (∀ W', Below w.heap.size w W' → ¬ o.kind = 1 → ¬ o.kind = 2 → ¬ o.kind = 3 → DoTo w q cap over fp (stp cap over f true o.kind o.book o.units now) (.returned (.int .i64 2)) W') := fun W' hb h1 h2 h3 => by
        have e : stp cap over f true o.kind o.book o.units now = (f, 2) := by unfold stp; rw [if_neg (by simp), if_neg h1, if_neg h2, if_neg h3]
        rw [e]
        exact ⟨rfl, LTo.of_below L hb⟩
      clear L b1 b2 hu ht
      obtain ⟨r, hr⟩ : ∃ r, r = stp cap over f true o.kind o.book o.units now := ⟨_, rfl⟩
      rw [← hr] at H1 H2 H3 H4 ⊢
      clear hr
      obtain ⟨k, b, u, c, m⟩ := o
      simp only at *
      go_enter Tryz.func59, Tryz.ntmps59
      go_wp2_with fail
      rw [← hW.out]
      refine MW.out.mono ?_
      rintro e w1 ⟨rfl, hh⟩
      have B1 : Hid (Below w.heap.size w w1) := HB.out.trans (hh.mono HB.out.size)
      have hE1 := (hh.block _ (lt_some hE.out)).trans hE.out
      have e0 : w1.cell? ⟨w.heap.size, 0, none⟩ = some (.int .i64 k) := one_at (i := 0) hE1
      have e1 : w1.cell? ⟨w.heap.size, 1, none⟩ = some (.int .i64 b) := one_at (i := 1) hE1
      have e2 : w1.cell? ⟨w.heap.size, 2, none⟩ = some (.int .i64 u) := one_at (i := 2) hE1
      have e3 : w1.cell? ⟨w.heap.size, 3, none⟩ = some (.int .i64 c) := one_at (i := 3) hE1
      have e4 : w1.cell? ⟨w.heap.size, 4, none⟩ = some (.int .i64 m) := one_at (i := 4) hE1
      clear MW hh hE1 hE hW
      by_cases h1 : k = 1
      · have C := H1.out w1 B1.out h1
        have hb1 : (k == 1) = true := by simpa using h1
        clear H1 H2 H3 H4 h1
        go_wp2_with (go_at_call 84; (with_reducible refine (MT _).mono ?_); rintro e w' ⟨rfl, rfl⟩)
        refine C.mono ?_
        rintro e w2 ⟨rfl, hl⟩
        replace hl := Lib.hid hl
        clear C
        go_wp2
        go_ret
        exact ⟨rfl, hl.out⟩
      · have hb1 : (k == 1) = false := by simpa using h1
        by_cases h2 : k = 2
        · have C := H2.out w1 B1.out h2
          have hb2 : (k == 2) = true := by simpa using h2
          clear H1 H2 H3 H4 h1 h2
          go_wp2_with (go_at_call 84; (with_reducible refine (MT _).mono ?_); rintro e w' ⟨rfl, rfl⟩)
          refine C.mono ?_
          rintro e w2 ⟨rfl, hl⟩
          replace hl := Lib.hid hl
          clear C
          go_wp2
          go_ret
          exact ⟨rfl, hl.out⟩
        · have hb2 : (k == 2) = false := by simpa using h2
          by_cases h3 : k = 3
          · have C := H3.out w1 B1.out h3
            have hb3 : (k == 3) = true := by simpa using h3
            clear H1 H2 H3 H4 h1 h2 h3
            go_wp2_with (go_at_call 84; (with_reducible refine (MT _).mono ?_); rintro e w' ⟨rfl, rfl⟩)
            refine C.mono ?_
            rintro e w2 ⟨rfl, hl⟩
            replace hl := Lib.hid hl
            clear C
            go_wp2
            go_ret
            exact hl.out
          · have hb3 : (k == 3) = false := by simpa using h3
            have E := Lib.hid (H4.out w1 B1.out h1 h2 h3)
            clear H1 H2 H3 H4 h1 h2 h3
            go_wp2_with (go_at_call 84; (with_reducible refine (MT _).mono ?_); rintro e w' ⟨rfl, rfl⟩)
            go_ret
            exact E.out
end St
end Go.Proofs.YtpkdigegkemogaaGreatDoor
