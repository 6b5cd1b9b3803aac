/- Sweep and Copy of a ledger. -/
import Derived.Test.YtchlbkfkecpodaaGreatStF
namespace Go.Proofs.YtchlbkfkecpodaaGreat
set_option maxRecDepth 100000
open Go.RowKit
open Go.Sort (grow)
open Go.Proofs.YtchlbkfkecpodaaGreat.Pk (one_at one_free one_set lt_some grown_set grown_trans below_grown grown_refl u8s adr_block own_form)
namespace St

section
variable {w w' w1 w2 : World} {q : Nat} {cap over : Int} {f f' : F} {fp fp' : Nat → Prop}
theorem Kq.wide (h : Kq fp w w') (hf : ∀ g, fp g → fp' g) : Kq fp' w w' := h.mono hf
theorem LTo.wide (h : LTo w q cap over fp f w') (hf : ∀ g, fp g → fp' g) (hs : ∀ g, fp' g → g < w.heap.size) : LTo w q cap over fp' f w' :=
  ⟨h.1.mono (fun g hg => by
    rcases hg with hg | hg
    · exact .inl (hf g hg)
    · exact .inr hg) fun g hg => by
    rcases hg with hg | ⟨_, hg⟩
    · exact Nat.lt_of_lt_of_le (hs g hg) h.2.size
    · exact hg, h.2.mono hf⟩
theorem LTo.after (L : Led w q cap over f fp) (hb : Below w.heap.size w w1) (h : LTo w1 q cap over fp f' w2) : LTo w q cap over fp f' w2 := by
  have h0 := LTo.of_below L hb
  refine h0.trans (h.wide (fun g hg => .inl hg) fun g hg => ?_)
  rcases hg with hg | ⟨_, hg⟩
  · exact Nat.lt_of_lt_of_le (L.size g hg) hb.size
  · exact hg
theorem Led.other (L : Led w q cap over f fp) (K : Kq fp' w w') (hd : ∀ g, fp g → ¬ fp' g) : Led w' q cap over f fp := L.keep K.size fun g hg => K.block g (L.size g hg) (hd g hg)
theorem Nz.kq {A : Option Addr} {zs : List Int} (h : Nz w A zs) (K : Kq fp w w') (hn : ∀ (k : Nat) (z : Int), zs[k]? = some z → ∀ ad, A = some ad → ¬ fp ad.block) : Nz w' A zs := fun j z hj => by
  obtain ⟨ad, rfl, h1, h2, h3⟩ := h j z hj
  have e := K.block _ h1 (hn j z hj ad rfl)
  exact ⟨ad, rfl, Nat.lt_of_lt_of_le h1 K.size, by rw [e]; exact h2, (World.cell?_of_block (by rw [adr_block]; exact e)).trans h3⟩
end
theorem ri_kq {w w' : World} {base n : Nat} {v : Value} {xs : List Value} {fp : Nat → Prop} (h : RowI w base v n xs) (K : Kq fp w w') (hn : ∀ g, v.ownBlock = some g → ¬ fp g) : RowI w' base v n xs := ri_same h fun g hg => K.block g (by
  obtain ⟨_, cur, hc⟩ := ri_block h hg
  exact lt_some hc) (hn g hg)
/-- What Sweep answers, and leaves. -/
def SwTo (w : World) (q : Nat) (cap over : Int) (fp : Nat → Prop) (l : List Int) (f : F) (e : Ending) (w' : World) : Prop := ∃ v, e = .returned v ∧ RowI w' w.heap.size v l.length (ivs l) ∧ LTo w q cap over fp f w'
theorem sweep_nil (w : World) (now : Int) : Calls Tryz.prog 19 #[.pointer none, .int .i64 now] w fun e w' => e = .returned (.slice none 0 0) ∧ Below w.heap.size w w' := by
  have HB : Hid (Below w.heap.size w (w.alloc (.cells #[.int .i64 now] 3))) := (Below.refl _ _).alloc (Nat.le_refl _) _
  go_enter Tryz.func19, Tryz.ntmps19
  go_wp2
  go_ret
  exact ⟨rfl, HB.out⟩
set_option maxHeartbeats 800000 in
theorem sweep_no (w : World) (q : Nat) (cap over : Int) (f : F) (fp : Nat → Prop) (L : Led w q cap over f fp) (now : Int) (ht : tick now = false) :
    Calls Tryz.prog 19 #[.pointer (some ⟨q, 0, none⟩), .int .i64 now] w (SwTo w q cap over fp [] f) := by
  have E : Hid (SwTo w q cap over fp [] f (.returned (.slice none 0 0)) (w.alloc (.cells #[.int .i64 now] 3))) := ⟨_, rfl, World.ownsRow_nil _ _ _ _, LTo.of_below L ((Below.refl _ _).alloc (Nat.le_refl _) _)⟩
  have MT := fun w => mayTick_any w now
  rw [ht] at MT
  clear L ht
  go_enter Tryz.func19, Tryz.ntmps19
  go_wp2_with (go_at_call 40; (with_reducible refine (MT _).mono ?_); rintro e w' ⟨rfl, rfl⟩)
  go_ret
  exact E.out
def SwAt (w2 : World) (q : Nat) (cap over : Int) (f : F) (fp : Nat → Prop) (l : List Int) (i : Value) (wr : World) : Prop :=
  ∃ k : Nat, i = .int .i64 k ∧ k ≤ l.length ∧ LTo w2 q cap over fp (swl f (l.take k)) wr
set_option maxHeartbeats 3200000 in
theorem sweep_yes (w : World) (q : Nat) (cap over : Int) (f : F) (fp : Nat → Prop) (L : Led w q cap over f fp) (now : Int) (ht : tick now = true) :
    Calls Tryz.prog 19 #[.pointer (some ⟨q, 0, none⟩), .int .i64 now] w (SwTo w q cap over fp (ovs f now) (swp f now)) := by
  have hb1 : Below w.heap.size w (w.alloc (.cells #[.int .i64 now] 3)) := (Below.refl _ _).alloc (Nat.le_refl _) _
  obtain ⟨mo, h1, h2, h3⟩ := (L.below hb1).at_
  have k2 := h1.c2
  have kn : (w.alloc (.cells #[.int .i64 now] 3)).cell? ⟨w.heap.size, 0, none⟩ = some (.int .i64 now) := one_at (i := 0) (heap_alloc_new _ _)
  have RI := Lib.hid (rising_anyS _ w.heap.size now mo cap over f h2 L.ok kn)
  have hfin : Hid (∀ k, k = (sel (ovr now) f 200).length → swl f ((sel (ovr now) f 200).take k) = swp f now) := fun k hk => by
    rw [hk, List.take_length]
    exact swl_ovs L.ok now
  have hmem : Hid (∀ (k : Nat) (z : Int), (sel (ovr now) f 200)[k]? = some z → 1 ≤ z ∧ z ≤ 200) := fun k z h => by
    have := (mem_sel.1 (List.mem_of_getElem? h)).1
    omega
  have hlen : Hid ((sel (ovr now) f 200).length ≤ 200) := sel_len _ f 200
  have MT := fun w => mayTick_any w now
  rw [ht] at MT
  unfold ovs
  generalize sel (ovr now) f 200 = l at *
  have hL := Lib.hid L
  have hB1 := Lib.hid hb1
  clear ht h1 h2 h3 kn L hb1
  go_enter Tryz.func19, Tryz.ntmps19
  go_wp2_with (go_at_call 40; (with_reducible refine (MT _).mono ?_); rintro e w' ⟨rfl, rfl⟩)
  refine RI.out.mono ?_
  rintro e w2 ⟨v2, rfl, o2, b2⟩
  obtain ⟨n, hn⟩ : ∃ n, n = l.length := ⟨_, rfl⟩
  rw [← hn] at o2
  have B2 : Hid (Below w.heap.size w w2) := hB1.out.trans (b2.mono hB1.out.size)
  have o2' : RowI w2 w.heap.size v2 n (ivs l) := ri_mono o2 hB1.out.size
  obtain ⟨A, c, rfl, hc1, hc2, hc3⟩ := ri_form o2'
  have hnf : Hid (∀ g, (Value.slice A n c).ownBlock = some g → ¬ fp g) := fun g hg hf => by
    have h1 := (ri_block o2' hg).1
    have h2 := hL.out.size g hf
    omega
  have NZ : Hid (Nz w2 A l) := Nz.of_row o2' hn.symm
  have NF : Hid (∀ (k : Nat) (z : Int), l[k]? = some z → ∀ ad, A = some ad → ¬ fp ad.block) := fun k z hk ad ha => by
    subst ha
    exact hnf.out ad.block rfl
  have L2 : Hid (Led w2 q cap over f fp) := hL.out.below B2.out
  have st : Hid (SwAt w2 q cap over f fp l (.int .i64 0) w2) := ⟨0, rfl, Nat.zero_le _, by rw [List.take_zero, swl_nil]; exact LTo.of_below L2.out (Below.refl _ _)⟩
  replace hn := Lib.hid hn
  replace o2' := Lib.hid o2'
  clear o2 b2 RI k2 hB1 MT
  go_wp2_with fail
  go_loopw [23] (fun i wr => SwAt w2 q cap over f fp l i wr) (fun i _ => n - (intOf i).toNat)
  case atStart => exact st.out
  case round =>
    clear st
    obtain ⟨k, rfl, hk, hl⟩ := hrel
    replace hl := Lib.hid hl
    replace hk := Lib.hid hk
    by_cases hlt : k < n
    · obtain ⟨z, hzk⟩ : ∃ z, l[k]? = some z := ⟨_, List.getElem?_eq_getElem (by have := hn.out; omega)⟩
      obtain ⟨ad, rfl, -, -, hcz⟩ := NZ.out.kq hl.out.2.toKq NF.out k z hzk
      obtain ⟨z0, z1⟩ := hmem.out k z hzk
      have CA : Hid (Calls Tryz.prog 43 #[.pointer (some ⟨q, 0, none⟩), .int .i64 z] wr fun e w' => e = .returned (.tuple #[]) ∧ SwAt w2 q cap over f fp l (.int .i64 ((k + 1 : Nat) : Int)) w') := by
        refine (end_any wr q cap over z _ _ hl.out.1 z0 z1).mono ?_
        rintro e w' ⟨rfl, h⟩
        refine ⟨rfl, k + 1, rfl, by have := hn.out; omega, ?_⟩
        obtain ⟨hll, hz⟩ := List.getElem?_eq_some_iff.1 hzk
        rw [List.take_succ_eq_append_getElem hll, swl_snoc, hz]
        exact hl.out.trans h
      clear hzk
      go_wp2_with fail
      refine CA.out.mono ?_
      rintro e w6 ⟨rfl, h6⟩
      replace h6 := Lib.hid h6
      clear CA hcz
      go_wp2
      go_roundw
      case rel => exact h6.out
      case measure => simp [intOf]; omega
    · have F : Hid (SwTo w q cap over fp l (swp f now) (.returned (.slice A n c)) wr) := by
        have h1 := hl.out
        rw [hfin.out k (by have := hk.out; have := hn.out; omega)] at h1
        exact ⟨_, rfl, by rw [← hn.out]; exact ri_kq o2'.out h1.2.toKq hnf.out, LTo.after hL.out B2.out h1⟩
      go_wp2
      go_ret
      exact F.out
theorem sweep_any (w : World) (q : Nat) (cap over : Int) (f : F) (fp : Nat → Prop) (L : Led w q cap over f fp) (now : Int) :
    Calls Tryz.prog 19 #[.pointer (some ⟨q, 0, none⟩), .int .i64 now] w (SwTo w q cap over fp (swL f now) (swF f now)) := by
  unfold swL swF
  cases ht : tick now with
  | true => exact sweep_yes w q cap over f fp L now ht
  | false => exact sweep_no w q cap over f fp L now ht

/-! ### Copy -/
theorem copy_nil (w : World) : Calls Tryz.prog 29 #[.pointer none] w fun e w' => e = .returned (.pointer none) ∧ w = w' := by
  go_enter Tryz.func29, Tryz.ntmps29
  go_wp2
  go_ret
  exact ⟨rfl, rfl⟩
theorem clone_any (W : World) (mo : Option Nat) (f : F) (h : MapIs W mo f) : Calls Tryz.prog 51 #[.map mo] W fun e w' => ∃ mo', e = .returned (.map mo') ∧ MapIs w' mo' f ∧ (∀ m, mo' = some m → W.heap.size ≤ m ∧ m < w'.heap.size) ∧ Below W.heap.size W w' := by
  rcases h with ⟨rfl, rfl⟩ | ⟨m, D, rfl, ho, T⟩
  · refine (AnyW.maps_Clone_nil Tryz.stclone W).mono ?_
    rintro e w' ⟨rfl, rfl⟩
    exact ⟨none, rfl, .inl ⟨rfl, rfl⟩, fun m e => (nomatch e), Below.refl _ _⟩
  · refine (AnyW.maps_Clone_owns Tryz.stclone 3 Rdv m 200 D W ho).mono ?_
    rintro e w' ⟨rfl, h1, h2, h3⟩
    exact ⟨_, rfl, .inr ⟨_, D, rfl, h1, T⟩, fun m e => by
      injection e with e
      subst e
      exact ⟨Nat.le_refl _, h1.lt⟩, h3⟩
/-- What Copy answers. -/
def CpTo (w : World) (cap over : Int) (f : F) (e : Ending) (w' : World) : Prop := ∃ q fp, e = .returned (.pointer (some ⟨q, 0, none⟩)) ∧ (∀ g, fp g → w.heap.size ≤ g) ∧ Led w' q cap over f fp ∧ Below w.heap.size w w'
set_option maxHeartbeats 1600000 in
theorem copy_any (w : World) (q : Nat) (cap over : Int) (f : F) (fp : Nat → Prop) (L : Led w q cap over f fp) : Calls Tryz.prog 29 #[.pointer (some ⟨q, 0, none⟩)] w (CpTo w cap over f) := by
  obtain ⟨mo, h1, h2, h3⟩ := L.at_
  have k0 := h1.c0
  have k1 := h1.c1
  have k2 := h1.c2
  have hql := L.lt
  have CL := clone_any w.drew mo f h2
  have O := Lib.hid L.ok
  clear h1 h2 h3 L
  go_enter Tryz.func29, Tryz.ntmps29
  go_wp2_with fail
  go_region_with (first
    | (go_at_call 51; refine CL.mono ?_; rintro e w1 ⟨mo1, rfl, hm1, hn1, hb1⟩; have B1 : Below w.heap.size w w1 := ⟨hb1.os, hb1.tape, hb1.output, hb1.size, hb1.block⟩; have j0 : w1.cell? ⟨q, 0, none⟩ = some (.int .i64 cap) := (B1.cell hql).trans k0; have j1 : w1.cell? ⟨q, 1, none⟩ = some (.int .i64 over) := (B1.cell hql).trans k1;
       have E : Hid (CpTo w cap over f (.returned (.pointer (some ⟨w1.heap.size, 0, none⟩))) (w1.alloc (.cells #[.int .i64 cap, .int .i64 over, .map mo1] 66))) := ⟨w1.heap.size, fun g => g = w1.heap.size ∨ mo1 = some g, rfl, fun g hg => by
         rcases hg with rfl | hg
         · exact B1.size
         · exact (hn1 g hg).1, ⟨O.out, .inl rfl, fun g hg => by
         rcases hg with rfl | hg
         · simp
         · have := (hn1 g hg).2; simp; omega, mo1, .of_row (l := []) (heap_alloc_new _ _), hm1.keep fun m e => heap_alloc_old _ _ (hn1 m e).2, fun m e => .inr e⟩, B1.alloc B1.size _⟩; clear hm1 hn1 hb1 B1))
  all_goals
    go_wp2
    go_ret
    exact E.out
end St
end Go.Proofs.YtchlbkfkecpodaaGreat
