/- Parts of the claim: NoE, NoF -/
import Derived.Test.YtpkdigegkemogaaGreatDoorSnXT
import Derived.Test.YtpkdigegkemogaaGreatDoorSoXT
import Derived.Test.YtpkdigegkemogaaGreatDoorTbXcT
namespace Go.Proofs.YtpkdigegkemogaaGreatDoor
set_option maxRecDepth 100000
open Go.RowKit
open Go.Sort (grow)
open Go.Proofs.YtpkdigegkemogaaGreatDoor.Pk (one_at one_free one_set lt_some grown_set grown_trans grown_refl u8s enc zz zz_lt zz_pos enc_lo enc_hi enc_ne encI_len rb_one byte_hi byte_lo own_form wpList_append_b adr_block Rb)
namespace St


theorem nappend_any (base : Nat) (w : World) (v : Value) (bs : Bs) (ho : RowB w base v bs) (hB : base ≤ w.heap.size) (ad : Addr) (n : Nat) (zs : List Int) (hl : zs.length = n) (hs : Ns w ad zs) (hz : ∀ z ∈ zs, 0 ≤ z ∧ z ≤ 4000000000000000000) (hn : bs.length ≤ 100000) (hm : n ≤ 100) :
    Calls Tryz.prog 208 #[v, .slice (some ad) n n] w (ApTo base w (bs ++ cat zs)) :=
  (In.append_any base w v bs ho hB ad n zs hl ⟨hs.lt, .inr hs.blk, hs.at_⟩ hz hn hm).mono fun _ _ ⟨x, he, hr, hg, hb⟩ => ⟨x, he, hr, ⟨hg.os, hg.tape, hg.output, hg.size, hg.block⟩, hb⟩
end St
end Go.Proofs.YtpkdigegkemogaaGreatDoor
namespace Go.Proofs.YtpkdigegkemogaaGreatDoor
set_option maxRecDepth 100000
open Go.RowKit
open Go.Sort (grow)
open Go.Proofs.YtpkdigegkemogaaGreatDoor.Pk (one_at one_free one_set lt_some grown_set grown_trans grown_refl encI_len)
namespace Nd
open St (Bs cat RowB Gu ApTo add0 nappend_any)
open Tb (Tab ne0 cnt keys RowP rp_form rp_at rp_below rp_same rp_block rp_lt KT)

def kb (g : Tb.F) (l : List (Int × Int)) : Bs := l.flatMap fun p => cat [p.1, p.2, g p.1 p.2]
theorem kb_take {g : Tb.F} {l : List (Int × Int)} {k : Nat} {p : Int × Int} (h : l[k]? = some p) : kb g (l.take (k + 1)) = kb g (l.take k) ++ cat [p.1, p.2, g p.1 p.2] := by
  obtain ⟨hl, rfl⟩ := List.getElem?_eq_some_iff.1 h
  unfold kb
  rw [List.take_succ_eq_append_getElem hl, List.flatMap_append]
  simp only [List.flatMap_cons, List.flatMap_nil, List.append_nil]
theorem kb_len (g : Tb.F) (O : Tb.Ok g) (l : List (Int × Int)) (hl : ∀ p ∈ l, g p.1 p.2 ≠ 0) : (kb g l).length ≤ 30 * l.length := by
  induction l with
  | nil => simp [kb]
  | cons p l ih =>
    have e : kb g (p :: l) = cat [p.1, p.2, g p.1 p.2] ++ kb g l := by simp [kb]
    rw [e, List.length_append, List.length_cons]
    have h1 := ih fun q hq => hl q (by simp [hq])
    have h2 := O.inn _ _ (hl p (by simp))
    have h3 := St.cat_len [p.1, p.2, g p.1 p.2] (fun z hz => by simp at hz; omega)
    simp at h3
    omega
theorem rp_gu {w w' : World} {base B n : Nat} {v : Value} {l : List (Int × Int)} (h : RowP w base v n l) (k : Gu B w w') : RowP w' base v n l :=
  rp_same h fun g hg => by
    obtain ⟨_, cur, hc⟩ := rp_block h hg
    refine k.block g (rp_lt h hg) (.inr fun cs fr e => ?_)
    rw [hc] at e
    injection e with e
    injection e with _ e _
    exact absurd e (by decide)
def BtAt (B : Nat) (w2 : World) (pre : Bs) (g : Tb.F) (l : List (Int × Int)) (v i : Value) (wr : World) : Prop :=
  ∃ k : Nat, i = .int .i64 k ∧ k ≤ l.length ∧ RowB wr B v (pre ++ kb g (l.take k)) ∧ Gu B w2 wr ∧ B ≤ wr.heap.size
set_option maxHeartbeats 6400000 in
theorem append_any (w : World) (B h z : Nat) (g : Tb.F) (ft : Nat → Prop) (T : Tab w h z g ft) (hT : ∀ x, ft x → x < B) (v : Value) (b0 : Bs) (r0 : RowB w B v b0) (hB : B ≤ w.heap.size) (hl0 : b0.length ≤ 20000) :
    Calls Tryz.prog 235 #[.pointer (some ⟨h, z, none⟩), v] w (ApTo B w (b0 ++ Pk.encI (cnt g : Nat) ++ kb g (keys g))) := by
  have KY : Hid (Calls Tryz.prog 236 #[.pointer (some ⟨h, z, none⟩)] w (Tb.RisTo w (keys g))) := Tb.keys_any w h z g ft T
  have FD : Hid (∀ w1 (p : Int × Int), Gu B w w1 → g p.1 p.2 ≠ 0 → Calls Tryz.prog 121 #[.pointer (some ⟨h, z, none⟩), .agg #[.int .i64 p.2, .int .i64 p.1, .int .i64 0, .int .i64 0, .int .i64 0]] w1 fun e w' => e = .returned (.tuple #[.int .i64 (g p.1 p.2), .bool true]) ∧ Below w1.heap.size w1 w') := fun w1 p hb hp => by
    have := Tb.find_any w1 h z g ft (T.keep hb.size fun x hx => hb.block x (T.size x hx) (.inl (hT x hx))) ⟨p.2, p.1, 0, 0, 0⟩ (T.ok.bp hp)
    rw [Tb.ne0_iff.2 hp] at this
    exact this
  have O := T.ok
  have hlen : Hid ((keys g).length ≤ 1200) := Tb.cnt_le g
  have hmem : Hid (∀ (k : Nat) (p : Int × Int), (keys g)[k]? = some p → g p.1 p.2 ≠ 0 ∧ (1 ≤ p.1 ∧ p.1 ≤ 200) ∧ (1 ≤ p.2 ∧ p.2 ≤ 6) ∧ (g p.1 p.2 = 1 ∨ g p.1 p.2 = 2)) := fun k p hk => by
    obtain ⟨x, y⟩ := p
    have h1 := Tb.mem_keys.1 (List.mem_of_getElem? hk)
    have h2 := O.inn _ _ h1.2.2
    exact ⟨h1.2.2, h2⟩
  obtain ⟨pre, hpre⟩ : ∃ b, b = b0 ++ Pk.encI (cnt g : Nat) := ⟨_, rfl⟩
  have hpl : Hid (pre.length ≤ 20010 ∧ b0.length ≤ 20000) := by
    have h2 := encI_len (cnt g : Nat) (by omega) (by have := Tb.cnt_le g; omega)
    refine ⟨?_, hl0⟩
    rw [hpre, List.length_append]
    omega
  have hbig : Hid (∀ k, (pre ++ kb g ((keys g).take k)).length ≤ 60000) := fun k => by
    rw [List.length_append]
    have h1 := kb_len g O ((keys g).take k) (fun p hp => by
      obtain ⟨x, y⟩ := p
      exact (Tb.mem_keys.1 (List.mem_of_mem_take hp)).2.2)
    have h2 : ((keys g).take k).length ≤ 1200 := Nat.le_trans (by rw [List.length_take]; exact Nat.min_le_right _ _) hlen.out
    have := hpl.out
    omega
  have hfin : Hid (∀ k, k = (keys g).length → pre ++ kb g ((keys g).take k) = b0 ++ Pk.encI (cnt g : Nat) ++ kb g (keys g)) := fun k hk => by
    rw [hk, List.take_length, hpre]
  have hpe : Hid (pre = b0 ++ Pk.encI ((keys g).length : Nat)) := hpre
  generalize b0 ++ Pk.encI (cnt g : Nat) ++ kb g (keys g) = bf at *
  generalize keys g = l at *
  replace r0 := Lib.hid r0
  replace hB := Lib.hid hB
  clear T hT O hpre hl0
  go_enter Tryz.func235, Tryz.ntmps235
  go_wp2_with fail
  refine KY.out.mono ?_
  rintro e w1 ⟨v1, rfl, r1, b1⟩
  obtain ⟨n, hn⟩ : ∃ n, n = l.length := ⟨_, rfl⟩
  rw [← hn] at r1 hpe
  obtain ⟨A, c, rfl, hc1, hc2, hc3⟩ := rp_form r1
  obtain ⟨W3, hW3⟩ : ∃ W, W = w1.alloc (.cells #[.int .i64 (n : Int)] 3) := ⟨_, rfl⟩
  have h3 : W3.heap[w1.heap.size]? = some (.cells #[.int .i64 (n : Int)] 3 (0, 0)) := by rw [hW3]; exact heap_alloc_new _ _
  have g3 : Below w1.heap.size w1 W3 := by rw [hW3]; exact (Below.refl _ _).alloc (Nat.le_refl _) _
  have B3 : Below w.heap.size w W3 := b1.trans (g3.mono b1.size)
  have n1200 : n ≤ 1200 := by have := hlen.out; have := hn; omega
  have AI : Hid (Calls Tryz.prog 208 #[v, .slice (some ⟨w1.heap.size, 0, none⟩) 1 1] W3 (ApTo B W3 pre)) := by
    have r3 : RowB W3 B v b0 := St.rb_below r0.out B3
    have := nappend_any B W3 v b0 r3 (Nat.le_trans hB.out B3.size) ⟨w1.heap.size, 0, none⟩ 1 [(n : Int)] rfl ⟨lt_some h3, fun cs fr e => by
        rw [h3] at e
        injection e with e
        injection e with _ e _
        exact absurd e (by decide), fun j y hj => by
        rw [add0, one_at h3]
        match j, hj with
        | 0, hj => simp at hj; subst hj; rfl
        | j + 1, hj => simp at hj⟩ (fun y hy => by
        simp at hy
        omega) (by have := hpl.out; omega) (by omega)
    unfold Hid
    rw [hpe.out]
    simpa [cat] using this
  have G3 : Hid (Gu B w W3) := Gu.of_below B3
  have R3 : Hid (RowP W3 w.heap.size (.slice A n c) n l) := rp_below r1 g3
  replace hW3 := Lib.hid hW3
  replace n1200 := Lib.hid n1200
  replace hn := Lib.hid hn
  clear KY b1 h3 g3 r1 B3 r0
  go_wp2_with fail
  rw [← hW3.out]
  refine AI.out.mono ?_
  rintro e w4 ⟨v4, rfl, r4, g4, s4⟩
  have G4 : Hid (Gu B w w4) := G3.out.trans g4
  have R4 : Hid (RowP w4 w.heap.size (.slice A n c) n l) := rp_gu R3.out g4
  have st : Hid (BtAt B w4 pre g l v4 (.int .i64 0) w4) := ⟨0, rfl, Nat.zero_le _, by simpa [kb] using r4, Gu.refl _ _, s4⟩
  clear AI hW3 G3 R3 r4 g4 s4
  go_wp2_with fail
  go_loopw [1, 23] (fun v i wr => BtAt B w4 pre g l v i wr) (fun _ i _ => n - (intOf i).toNat)
  case atStart => exact st.out
  case round =>
    clear st
    obtain ⟨k, rfl, hk, hrow, hgu, hbs⟩ := hrel
    have GK : Hid (Gu B w wr) := G4.out.trans hgu
    replace hrow := Lib.hid hrow
    replace hgu := Lib.hid hgu
    replace hk := Lib.hid hk
    replace hbs := Lib.hid hbs
    by_cases hlt : k < n
    · obtain ⟨⟨x, y⟩, hxk⟩ : ∃ p, l[k]? = some p := ⟨_, List.getElem?_eq_getElem (by have := hn.out; omega)⟩
      have RP := rp_gu R4.out hgu.out
      obtain ⟨ga, rfl, -, -⟩ := Tb.rp_cell RP hxk
      obtain ⟨k0, k1⟩ := rp_at RP hxk
      obtain ⟨m0, m1, m2, m3⟩ := hmem.out k (x, y) hxk
      obtain ⟨W5, hW5⟩ : ∃ W, W = wr.alloc (.cells #[.int .i64 x, .int .i64 y] 215) := ⟨_, rfl⟩
      have h5 : Hid (W5.heap[wr.heap.size]? = some (.cells #[.int .i64 x, .int .i64 y] 215 (0, 0))) := by rw [hW5]; exact heap_alloc_new _ _
      have b5 : Below wr.heap.size wr W5 := by rw [hW5]; exact (Below.refl _ _).alloc (Nat.le_refl _) _
      have G5 : Hid (Gu B wr W5) := Gu.of_below b5
      have B5 : Gu B w W5 := GK.out.trans G5.out
      have FW : Hid (Calls Tryz.prog 121 #[.pointer (some ⟨h, z, none⟩), .agg #[.int .i64 y, .int .i64 x, .int .i64 0, .int .i64 0, .int .i64 0]] W5.drew fun e w' => e = .returned (.tuple #[.int .i64 (g x y), .bool true]) ∧ Below W5.heap.size W5 w') :=
        (FD.out W5.drew (x, y) ⟨B5.os, B5.tape, B5.output, B5.size, B5.block⟩ m0).mono fun e w' q => ⟨q.1, ⟨q.2.os, q.2.tape, q.2.output, q.2.size, q.2.block⟩⟩
      have R5 : Hid (RowB W5 B u1 (pre ++ kb g (l.take k))) := by unfold Hid; rw [hW5]; exact hrow.out.alloc _
      have S5 : Hid (B ≤ W5.heap.size) := Nat.le_trans hbs.out b5.size
      have CA : Hid (∀ w6, Below W5.heap.size W5 w6 → Calls Tryz.prog 208 #[u1, .slice (some ⟨w6.heap.size, 0, none⟩) 3 3] (w6.alloc (.cells #[.int .i64 x, .int .i64 y, .int .i64 (g x y)] 3)) fun e w' => ∃ v, e = .returned v ∧ BtAt B w4 pre g l v (.int .i64 ((k + 1 : Nat) : Int)) w') := fun w6 hb6 => by
        have h7 : (w6.alloc (.cells #[.int .i64 x, .int .i64 y, .int .i64 (g x y)] 3)).heap[w6.heap.size]? = some (.cells #[.int .i64 x, .int .i64 y, .int .i64 (g x y)] 3 (0, 0)) := heap_alloc_new _ _
        have b7 : Below W5.heap.size W5 (w6.alloc (.cells #[.int .i64 x, .int .i64 y, .int .i64 (g x y)] 3)) := hb6.alloc hb6.size _
        refine (nappend_any B _ u1 _ (St.rb_below R5.out b7) (Nat.le_trans S5.out b7.size) ⟨w6.heap.size, 0, none⟩ 3 [x, y, g x y] rfl ⟨lt_some h7, fun cs fr e => by
          rw [h7] at e
          injection e with e
          injection e with _ e _
          exact absurd e (by decide), fun j q hj => by
          rw [add0, one_at h7]
          match j, hj with
          | 0, hj => simp at hj; subst hj; rfl
          | 1, hj => simp at hj; subst hj; rfl
          | 2, hj => simp at hj; subst hj; rfl
          | j + 3, hj => simp at hj⟩ (fun q hq => by simp at hq m1 m2 m3; omega) (Nat.le_trans (hbig.out k) (by omega)) (by omega)).mono ?_
        rintro e w' ⟨v, rfl, o6, g6, s6⟩
        refine ⟨v, rfl, k + 1, rfl, by have := hn.out; omega, ?_, ((hgu.out.trans G5.out).trans (Gu.of_below b7)).trans g6, s6⟩
        rw [kb_take hxk, ← List.append_assoc]
        exact o6
      have j0 := one_at (i := 0) h5.out
      have j1 := one_at (i := 1) h5.out
      generalize g x y = a at *
      replace hW5 := Lib.hid hW5
      clear hxk hrow hgu R5 S5 G5 B5 b5 h5 m0 m1 m2 m3 RP GK FD
      go_wp2_with fail
      rw [← hW5.out]
      go_region
      go_wp2_with fail
      refine FW.out.mono ?_
      rintro e w6 ⟨rfl, h6⟩
      have C6 := Lib.hid (CA.out w6 h6)
      clear FW CA h6 hW5 j0 j1 k0 k1
      go_wp2_with fail
      refine C6.out.mono ?_
      rintro e w7 ⟨v7, rfl, h7⟩
      replace h7 := Lib.hid h7
      clear C6
      go_wp2
      go_roundw
      case rel => exact h7.out
      case measure => simp [intOf]; omega
    · have F : Hid (ApTo B w bf (.returned u1) wr) := by
        have h1 := hrow.out
        rw [hfin.out k (by have := hk.out; have := hn.out; omega)] at h1
        exact ⟨u1, rfl, h1, GK.out, hbs.out⟩
      go_wp2
      go_ret
      exact F.out
end Nd
end Go.Proofs.YtpkdigegkemogaaGreatDoor
