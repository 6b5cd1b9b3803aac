/- Bytes, Sweep, Copy of a ledger. -/
import Derived.Test.YtchlbkfkecpodaaGreatStE
namespace Go.Proofs.YtchlbkfkecpodaaGreat
set_option maxRecDepth 100000
open Go.RowKit
open Go.Sort (grow)
open Go.Proofs.YtchlbkfkecpodaaGreat.Pk (one_at one_free one_set lt_some grown_set grown_trans below_grown grown_refl u8s adr_block own_form)
namespace St

theorem below_drew {B : Nat} {w w' : World} (h : Below B w w') : Below B w w'.drew := ⟨h.os, h.tape, h.output, h.size, h.block⟩
theorem add0 (g j : Nat) : Addr.add ⟨g, 0, none⟩ j = ⟨g, j, none⟩ := by
  simp [Addr.add]
  rintro rfl
  rfl
/-- Numbers that are read through a slice, in a block that holds no bytes. -/
def Nz (w : World) (A : Option Addr) (zs : List Int) : Prop := ∀ (k : Nat) (z : Int), zs[k]? = some z → ∃ ad, A = some ad ∧ ad.block < w.heap.size ∧ (∀ cs fr, w.heap[ad.block]? ≠ some (Obj.cells cs 5 fr)) ∧ w.cell? (ad.add k) = some (.int .i64 z)
section
variable {w w' : World} {A : Option Addr} {zs : List Int} {base n c : Nat}
theorem Nz.gu (h : Nz w A zs) (k : Gu base w w') : Nz w' A zs := fun j z hj => by
  obtain ⟨ad, rfl, h1, h2, h3⟩ := h j z hj
  have e := k.block _ h1 (.inr h2)
  exact ⟨ad, rfl, Nat.lt_of_lt_of_le h1 k.size, by rw [e]; exact h2, (World.cell?_of_block (by rw [adr_block]; exact e)).trans h3⟩
theorem Nz.below (h : Nz w A zs) (k : Below w.heap.size w w') : Nz w' A zs := h.gu (Gu.of_below (base := 0) k)
theorem Nz.of_row (h : RowI w base (.slice A n c) n (ivs zs)) (hl : zs.length = n) : Nz w A zs := fun j z hj => by
  have hjn : j < n := by rw [← hl]; exact (List.getElem?_eq_some_iff.1 hj).1
  rcases h.2 with ⟨e, e0⟩ | ⟨g, cap, cur, e, hb, hh, h1, h2, h3, h4⟩
  · omega
  · injection e with eA _ _
    subst eA
    refine ⟨_, rfl, lt_some hh, fun cs fr e => ?_, ?_⟩
    · rw [hh] at e
      injection e with e
      injection e with _ e _
      exact absurd e (by decide)
    · have ht : (cur.toList.take n)[j]? = some (.int .i64 z) := by
        rw [Nat.mul_one] at h4
        rw [h4]
        simp [ivs, hj]
      rw [List.getElem?_take_of_lt hjn, Array.getElem?_toList] at ht
      rw [add0, one_at hh, ht]
end
theorem rb_below {w w' : World} {base : Nat} {v : Value} {bs : Bs} (h : RowB w base v bs) (hb : Below w.heap.size w w') : RowB w' base v bs := by
  refine ⟨h.1, ?_⟩
  rcases h.2 with h0 | ⟨g, cap, cur, hv, hB, hh, h2⟩
  · exact .inl h0
  · exact .inr ⟨g, cap, cur, hv, hB, (hb.block g (lt_some hh)).trans hh, h2⟩
/-- What Bytes answers. -/
def ByTo (w : World) (bs : Bs) (e : Ending) (w' : World) : Prop := ∃ v, e = .returned v ∧ RowB w' w.heap.size v bs ∧ Below w.heap.size w w'
theorem bytes_nil (w : World) : Calls Tryz.prog 31 #[.pointer none] w fun e w' => e = .returned (.slice none 0 0) ∧ w = w' := by
  go_enter Tryz.func31, Tryz.ntmps31
  go_wp2
  go_ret
  exact ⟨rfl, rfl⟩
theorem one_cat (f : F) (k : Int) : one f k = cat [k, (f k).st, (f k).un, (f k).ut] := by simp [one, cat]
theorem many_take {f : F} {l : List Int} {k : Nat} {z : Int} (h : l[k]? = some z) : many f (l.take (k + 1)) = many f (l.take k) ++ one f z := by
  obtain ⟨hl, rfl⟩ := List.getElem?_eq_some_iff.1 h
  rw [List.take_succ_eq_append_getElem hl, many_snoc]
def BtAt (w w2 : World) (cap over : Int) (f : F) (l : List Int) (v i : Value) (wr : World) : Prop :=
  ∃ k : Nat, i = .int .i64 k ∧ k ≤ l.length ∧ RowB wr w.heap.size v (Pk.encI cap ++ Pk.encI over ++ many f (l.take k)) ∧ Gu w.heap.size w2 wr ∧ w.heap.size ≤ wr.heap.size
set_option maxHeartbeats 3200000 in
theorem bytes_any (w : World) (q : Nat) (cap over : Int) (f : F) (fp : Nat → Prop) (L : Led w q cap over f fp) : Calls Tryz.prog 31 #[.pointer (some ⟨q, 0, none⟩)] w (ByTo w (bts cap over f 200)) := by
  obtain ⟨k0, k1, mo, k2⟩ := L.cells
  have hql := L.lt
  have O := L.ok
  have AI : Hid (∀ W : World, Below w.heap.size w W → W.heap[w.heap.size]? = some (.cells #[.int .i64 cap, .int .i64 over] 3 (0, 0)) →
      Calls Tryz.prog 53 #[.slice none 0 0, .slice (some ⟨w.heap.size, 0, none⟩) 2 2] W (ApTo w.heap.size W (Pk.encI cap ++ Pk.encI over))) := fun W hb hc => by
    have := appendInts_any w.heap.size W (.slice none 0 0) [] (World.ownsRow_nil _ _ _ _) hb.size ⟨w.heap.size, 0, none⟩ 2 [cap, over] rfl ⟨lt_some hc, fun cs fr e => by
        rw [hc] at e
        injection e with e
        injection e with _ e _
        exact absurd e (by decide), fun j z hj => by
        have e := one_at (i := j) hc
        rw [add0, e]
        match j, hj with
        | 0, hj => simp at hj; subst hj; rfl
        | 1, hj => simp at hj; subst hj; rfl
        | j + 2, hj => simp at hj⟩ (fun z hz => by
        have := O.c0; have := O.c1; have := O.o0; have := O.o1
        simp at hz
        omega) (by simp) (by omega)
    simpa [cat] using this
  have RI : Hid (∀ W : World, Below w.heap.size w W → Calls Tryz.prog 45 #[.map mo, .func (.func 54) #[] #[]] W (RisTo W (sel pre f 200))) := fun W hb => by
    obtain ⟨mo', h1, h2, _⟩ := (L.below hb).at_
    have e := h1.c2
    rw [(hb.cell hql).trans k2] at e
    injection e with e
    injection e with e
    subst e
    exact rising_anyB W mo cap over f h2 O
  have LW : Hid (∀ W : World, Below w.heap.size w W → W.cell? ⟨q, 2, none⟩ = some (.map mo) ∧ ∀ k, Bd k → (Instr.lookup 64 (.map mo) (.int .i64 k) false).run Tryz.prog W = .ok (cell (f k)) W) := fun W hb => by
    obtain ⟨mo', h1, h2, _⟩ := (L.below hb).at_
    have e := h1.c2
    rw [(hb.cell hql).trans k2] at e
    injection e with e
    injection e with e
    subst e
    exact ⟨h1.c2, fun k hk => look_run W mo f k h2 L.zero hk⟩
  have hmem : Hid (∀ (k : Nat) (z : Int), (sel pre f 200)[k]? = some z → 1 ≤ z ∧ z ≤ 200) := fun k z h => by
    have := (mem_sel.1 (List.mem_of_getElem? h)).1
    omega
  have hlen : Hid ((sel pre f 200).length ≤ 200) := sel_len pre f 200
  have hbig : Hid (∀ k, (Pk.encI cap ++ Pk.encI over ++ many f ((sel pre f 200).take k)).length ≤ 8020) := fun k => by
    simp only [List.length_append]
    have := Pk.encI_len cap (by have := O.c0; omega) (by have := O.c1; omega)
    have := Pk.encI_len over (by have := O.o0; omega) (by have := O.o1; omega)
    have h1 := many_len O ((sel pre f 200).take k) fun x hx => by have := (mem_sel.1 (List.mem_of_mem_take hx)).1; omega
    have h2 : ((sel pre f 200).take k).length ≤ 200 := Nat.le_trans (by rw [List.length_take]; exact Nat.min_le_right _ _) hlen.out
    omega
  have hO := Lib.hid O
  have hfin : Hid (∀ k, k = (sel pre f 200).length → Pk.encI cap ++ Pk.encI over ++ many f ((sel pre f 200).take k) = bts cap over f 200) := fun k hk => by
    rw [hk, List.take_length]; rfl
  generalize sel pre f 200 = l at *
  clear L O
  have HN : Hid (Below w.heap.size w (w.alloc (.cells #[.int .i64 cap, .int .i64 over] 3)).drew ∧ (w.alloc (.cells #[.int .i64 cap, .int .i64 over] 3)).drew.heap[w.heap.size]? = some (.cells #[.int .i64 cap, .int .i64 over] 3 (0, 0))) :=
    ⟨below_drew ((Below.refl _ _).alloc (Nat.le_refl _) _), heap_alloc_new _ _⟩
  have AW := AI.out _ HN.out.1 HN.out.2
  go_enter Tryz.func31, Tryz.ntmps31
  go_wp2_with fail
  go_region_with (first
    | (go_at_call 53; refine AW.mono ?_; rintro e w1 ⟨v1, rfl, o1, g1, s1⟩; have B1 : Hid (Below w.heap.size w w1) := HN.out.1.trans (g1.below HN.out.1.size); have O1 := Lib.hid o1; clear o1 g1 s1))
  all_goals
    have c2 := (LW.out w1 B1.out).1
    have RW := RI.out w1 B1.out
    clear AW AI RI HN k0 k1 k2
    go_wp2_with fail
    refine RW.mono ?_
    rintro e w2 ⟨v2, rfl, o2, b2⟩
    obtain ⟨n, hn⟩ : ∃ n, n = l.length := ⟨_, rfl⟩
    rw [← hn] at o2
    obtain ⟨A, c, rfl, hc1, hc2, hc3⟩ := ri_form o2
    have NZ : Hid (Nz w2 A l) := Nz.of_row o2 hn.symm
    have st : Hid (BtAt w w2 cap over f l v1 (.int .i64 0) w2) := ⟨0, rfl, Nat.zero_le _, by simpa [many] using (show RowB w2 w.heap.size v1 (Pk.encI cap ++ Pk.encI over) from rb_below O1.out b2), Gu.refl _ _, Nat.le_trans B1.out.size b2.size⟩
    have B2 : Hid (Below w.heap.size w w2) := B1.out.trans (b2.mono B1.out.size)
    replace hn := Lib.hid hn
    clear o2 b2 RW c2 O1 B1
    go_wp2_with fail
    go_loopw [3, 27] (fun v i wr => BtAt w w2 cap over f l v i wr) (fun _ i _ => n - (intOf i).toNat)
    case atStart => exact st.out
    case round =>
      clear st
      obtain ⟨k, rfl, hk, hrow, hgu, hbs⟩ := hrel
      have hBr : Hid (Below w.heap.size w wr) := B2.out.trans (hgu.below B2.out.size)
      replace hrow := Lib.hid hrow
      replace hgu := Lib.hid hgu
      replace hk := Lib.hid hk
      replace hbs := Lib.hid hbs
      by_cases hlt : k < n
      · obtain ⟨z, hzk⟩ : ∃ z, l[k]? = some z := ⟨_, List.getElem?_eq_getElem (by have := hn.out; omega)⟩
        obtain ⟨ad, rfl, -, -, hcz⟩ := NZ.out.gu hgu.out k z hzk
        obtain ⟨z0, z1⟩ := hmem.out k z hzk
        obtain ⟨c2, LK⟩ := LW.out wr hBr.out
        have LK := LK z ⟨by omega, by omega⟩
        have hbd := (hO.out.shp z).bds
        obtain ⟨a, ha⟩ : ∃ a, a = (f z).st := ⟨_, rfl⟩
        obtain ⟨u, hu⟩ : ∃ a, a = (f z).un := ⟨_, rfl⟩
        obtain ⟨t, ht⟩ : ∃ a, a = (f z).ut := ⟨_, rfl⟩
        unfold cell at LK
        rw [← ha, ← hu, ← ht] at LK
        obtain ⟨W5, hW5⟩ : ∃ W, W = (wr.alloc (.cells #[.int .i64 a, .int .i64 u, .int .i64 t, .int .i64 0, .int .i64 0] 32)).alloc (.cells #[.int .i64 z, .int .i64 a, .int .i64 u, .int .i64 t] 3) := ⟨_, rfl⟩
        have g5 : Gu w.heap.size wr W5 := by rw [hW5]; exact Gu.of_below (((Below.refl _ _).alloc (Nat.le_refl _) _).alloc (by simp) _)
        have h5 : W5.heap[wr.heap.size + 1]? = some (.cells #[.int .i64 z, .int .i64 a, .int .i64 u, .int .i64 t] 3 (0, 0)) := by
          have := heap_alloc_new (wr.alloc (.cells #[.int .i64 a, .int .i64 u, .int .i64 t, .int .i64 0, .int .i64 0] 32)) (.cells #[.int .i64 z, .int .i64 a, .int .i64 u, .int .i64 t] 3)
          rw [hW5]
          simpa using this
        have o5 : RowB W5 w.heap.size u3 (Pk.encI cap ++ Pk.encI over ++ many f (l.take k)) := by
          rw [hW5]; exact (hrow.out.alloc _).alloc _
        have CA : Hid (Calls Tryz.prog 53 #[u3, .slice (some ⟨wr.heap.size + 1, 0, none⟩) 4 4] W5 fun e w' => ∃ v, e = .returned v ∧ BtAt w w2 cap over f l v (.int .i64 ((k + 1 : Nat) : Int)) w') := by
          refine (appendInts_any w.heap.size W5 u3 _ o5 (by have := g5.size; have := hbs.out; omega) ⟨wr.heap.size + 1, 0, none⟩ 4 [z, a, u, t] rfl ⟨lt_some h5, fun cs fr e => by
            rw [h5] at e
            injection e with e
            injection e with _ e _
            exact absurd e (by decide), fun j y hj => by
            rw [add0, one_at h5]
            match j, hj with
            | 0, hj => simp at hj; subst hj; rfl
            | 1, hj => simp at hj; subst hj; rfl
            | 2, hj => simp at hj; subst hj; rfl
            | 3, hj => simp at hj; subst hj; rfl
            | j + 4, hj => simp at hj⟩ (fun y hy => by simp at hy; omega) (Nat.le_trans (hbig.out k) (by omega)) (by omega)).mono ?_
          rintro e w' ⟨v, rfl, o6, g6, s6⟩
          refine ⟨v, rfl, k + 1, rfl, by have := hn.out; omega, ?_, (hgu.out.trans g5).trans g6, s6⟩
          rw [many_take hzk, one_cat, ← ha, ← hu, ← ht, ← List.append_assoc]
          exact o6
        replace hW5 := Lib.hid hW5
        clear ha hu ht hbd g5 h5 o5 hzk hrow hgu
        go_wp2_with fail
        rw [← hW5.out]
        refine CA.out.mono ?_
        rintro e w6 ⟨v6, rfl, h6⟩
        replace h6 := Lib.hid h6
        clear CA hW5 LK c2 hcz
        go_wp2
        go_roundw
        case rel => exact h6.out
        case measure => simp [intOf]; omega
      · have F : Hid (ByTo w (bts cap over f 200) (.returned u3) wr) := by
          have h1 := hrow.out
          rw [hfin.out k (by have := hk.out; have := hn.out; omega)] at h1
          exact ⟨u3, rfl, h1, hBr.out⟩
        go_wp2
        go_ret
        exact F.out
end St
end Go.Proofs.YtchlbkfkecpodaaGreat
