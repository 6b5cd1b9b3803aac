/- Bytes of a host. -/
import Derived.Test.YtmhpcopghnddeaaHoD
import Derived.Test.YtmhpcopghnddeaaHoE
import Derived.Test.YtmhpcopghnddeaaStF
import Derived.Test.YtmhpcopghnddeaaTbG
namespace Go.Proofs.Ytmhpcopghnddeaa
set_option maxRecDepth 100000
open Go.RowKit
open Go.Sort (grow)
open Go.Proofs.Ytmhpcopghnddeaa.Pk (one_at one_free one_set lt_some grown_set grown_trans below_grown grown_refl encI_len)
namespace Ho
open Wt (Opn mayOp)
open St (Kq grq Led dstp tick Bs cat RowB Gu ByTo add0 happend_any)
open Tb (Tab ne0 cnt keys RowP rp_form rp_at rp_below KT)

/-- Answers as bytes. -/
def kb (g : Tb.F) (l : List (Int × Int)) : Bs := l.flatMap fun p => cat [p.1, p.2, g p.1 p.2]
def hbts (cap over : Int) (s : S) : Bs := St.bts cap over s.f 200 ++ Pk.encI (cnt s.g : Nat) ++ kb s.g (keys s.g)
theorem kb_take {g : Tb.F} {l : List (Int × Int)} {k : Nat} {p : Int × Int} (h : l[k]? = some p) : kb g (l.take (k + 1)) = kb g (l.take k) ++ cat [p.1, p.2, g p.1 p.2] := by
  obtain ⟨hl, rfl⟩ := List.getElem?_eq_some_iff.1 h
  unfold kb
  rw [List.take_succ_eq_append_getElem hl, List.flatMap_append]
  simp only [List.flatMap_cons, List.flatMap_nil, List.append_nil]
theorem kb_len (g : Tb.F) (O : Tb.Ok g) (l : List (Int × Int)) (hl : ∀ p ∈ l, g p.1 p.2 ≠ 0) : (kb g l).length ≤ 30 * l.length := by
  induction l with
  | nil => simp [kb]
  | cons p l ih =>
    have e : kb g (p :: l) = cat [p.1, p.2, g p.1 p.2] ++ kb g l := by simp [kb]
    rw [e, List.length_append, List.length_cons]
    have h1 := ih fun q hq => hl q (by simp [hq])
    have h2 := O.inn _ _ (hl p (by simp))
    have h3 := St.cat_len [p.1, p.2, g p.1 p.2] (fun z hz => by simp at hz; omega)
    simp at h3
    omega
theorem rb_mono {w : World} {base base' : Nat} {v : Value} {bs : Bs} (h : RowB w base v bs) (hb : base' ≤ base) : RowB w base' v bs := by
  refine ⟨h.1, ?_⟩
  rcases h.2 with h0 | ⟨g, cap, cur, hv, hB, hh, h2⟩
  · exact .inl h0
  · exact .inr ⟨g, cap, cur, hv, by omega, hh, h2⟩
def BtAt (B : Nat) (w2 : World) (pre : Bs) (g : Tb.F) (l : List (Int × Int)) (v i : Value) (wr : World) : Prop :=
  ∃ k : Nat, i = .int .i64 k ∧ k ≤ l.length ∧ RowB wr B v (pre ++ kb g (l.take k)) ∧ Gu B w2 wr ∧ B ≤ wr.heap.size
set_option maxHeartbeats 6400000 in
theorem bytes_any (w : World) (h : Nat) (cap over : Int) (s : S) (fp : Nat → Prop) (H : Hst w h cap over s fp) :
    Calls Try.prog 16 #[.pointer (some ⟨h, 0, none⟩)] w (ByTo w (hbts cap over s)) := by
  have KY : Hid (Calls Try.prog 34 #[.pointer (some ⟨h, 3, none⟩)] w (Tb.RisTo w (keys s.g))) := by
    obtain ⟨ft, T, _, _⟩ := H.table
    exact Tb.keys_any w h 3 s.g ft T
  have LB : Hid (∀ w1, Below w.heap.size w w1 → Calls Try.prog 36 #[.pointer (some ⟨h, 0, none⟩)] w1 (ByTo w1 (St.bts cap over s.f 200))) := fun w1 hb => by
    obtain ⟨fl, L, _, _⟩ := (H.below hb).ledger
    exact St.bytes_any w1 h cap over s.f fl L
  have FD : Hid (∀ w1 (p : Int × Int), Below w.heap.size w w1 → s.g p.1 p.2 ≠ 0 → Calls Try.prog 37 #[.pointer (some ⟨h, 3, none⟩), .agg #[.int .i64 p.2, .int .i64 p.1, .int .i64 0, .int .i64 0, .int .i64 0]] w1 fun e w' => e = .returned (.tuple #[.int .i64 (s.g p.1 p.2), .bool true]) ∧ Below w1.heap.size w1 w') := fun w1 p hb hp => by
    obtain ⟨ft, T, _, _⟩ := (H.below hb).table
    have := Tb.find_any w1 h 3 s.g ft T ⟨p.2, p.1, 0, 0, 0⟩ (T.ok.bp hp)
    rw [Tb.ne0_iff.2 hp] at this
    exact this
  have O := H.ok
  have hlen : Hid ((keys s.g).length ≤ 1200) := Tb.cnt_le s.g
  have hmem : Hid (∀ (k : Nat) (p : Int × Int), (keys s.g)[k]? = some p → s.g p.1 p.2 ≠ 0 ∧ (1 ≤ p.1 ∧ p.1 ≤ 200) ∧ (1 ≤ p.2 ∧ p.2 ≤ 6) ∧ (s.g p.1 p.2 = 1 ∨ s.g p.1 p.2 = 2)) := fun k p hk => by
    obtain ⟨x, y⟩ := p
    have h1 := Tb.mem_keys.1 (List.mem_of_getElem? hk)
    have h2 := O.g.inn _ _ h1.2.2
    exact ⟨h1.2.2, h2⟩
  obtain ⟨pre, hpre⟩ : ∃ b, b = St.bts cap over s.f 200 ++ Pk.encI (cnt s.g : Nat) := ⟨_, rfl⟩
  have hpl : Hid (pre.length ≤ 8030 ∧ (St.bts cap over s.f 200).length ≤ 8020) := by
    have h1 := St.bts_len O.f (n := 200) (Nat.le_refl _)
    have h2 := encI_len (cnt s.g : Nat) (by omega) (by have := Tb.cnt_le s.g; omega)
    refine ⟨?_, h1⟩
    rw [hpre, List.length_append]
    omega
  have hbig : Hid (∀ k, (pre ++ kb s.g ((keys s.g).take k)).length ≤ 50000) := fun k => by
    rw [List.length_append]
    have h1 := kb_len s.g O.g ((keys s.g).take k) (fun p hp => by
      obtain ⟨x, y⟩ := p
      exact (Tb.mem_keys.1 (List.mem_of_mem_take hp)).2.2)
    have h2 : ((keys s.g).take k).length ≤ 1200 := Nat.le_trans (by rw [List.length_take]; exact Nat.min_le_right _ _) hlen.out
    have := hpl.out
    omega
  have hfin : Hid (∀ k, k = (keys s.g).length → pre ++ kb s.g ((keys s.g).take k) = hbts cap over s) := fun k hk => by
    rw [hk, List.take_length, hpre]; rfl
  have hcn : Hid ((cnt s.g : Nat) = (keys s.g).length) := rfl
  have hpe : Hid (pre = St.bts cap over s.f 200 ++ Pk.encI ((keys s.g).length : Nat)) := hpre
  generalize St.bts cap over s.f 200 = b0 at *
  generalize hbts cap over s = bf at *
  generalize keys s.g = l at *
  generalize s.g = g at *
  clear H O hpre hcn
  go_enter Try.func16, Try.ntmps16
  go_wp2_with fail
  refine KY.out.mono ?_
  rintro e w1 ⟨v1, rfl, r1, b1⟩
  obtain ⟨n, hn⟩ : ∃ n, n = l.length := ⟨_, rfl⟩
  rw [← hn] at r1 hpe
  obtain ⟨A, c, rfl, hc1, hc2, hc3⟩ := rp_form r1
  have LW := Lib.hid (LB.out w1 b1)
  replace b1 := Lib.hid b1
  replace r1 := Lib.hid r1
  replace hn := Lib.hid hn
  clear KY LB
  go_wp2_with fail
  refine LW.out.mono ?_
  rintro e w2 ⟨v2, rfl, r2, b2⟩
  obtain ⟨W3, hW3⟩ : ∃ W, W = w2.alloc (.cells #[.int .i64 (n : Int)] 3) := ⟨_, rfl⟩
  have h3 : W3.heap[w2.heap.size]? = some (.cells #[.int .i64 (n : Int)] 3 (0, 0)) := by rw [hW3]; exact heap_alloc_new _ _
  have g3 : Below w1.heap.size w1 W3 := by rw [hW3]; exact b2.alloc b2.size _
  have n1200 : n ≤ 1200 := by have := hlen.out; have := hn.out; omega
  have AI : Hid (Calls Try.prog 35 #[v2, .slice (some ⟨w2.heap.size, 0, none⟩) 1 1] W3 (St.ApTo w1.heap.size W3 pre)) := by
    have r3 : RowB W3 w1.heap.size v2 b0 := by rw [hW3]; exact r2.alloc _
    have := happend_any w1.heap.size W3 v2 b0 r3 g3.size ⟨w2.heap.size, 0, none⟩ 1 [(n : Int)] rfl ⟨lt_some h3, fun cs fr e => by
        rw [h3] at e
        injection e with e
        injection e with _ e _
        exact absurd e (by decide), fun j z hj => by
        rw [add0, one_at h3]
        match j, hj with
        | 0, hj => simp at hj; subst hj; rfl
        | j + 1, hj => simp at hj⟩ (fun z hz => by
        simp at hz
        omega) (by have := hpl.out; omega) (by omega)
    unfold Hid
    rw [hpe.out]
    simpa [cat] using this
  have B3 : Hid (Below w.heap.size w W3) := b1.out.trans (g3.mono b1.out.size)
  have G3 := Lib.hid g3
  replace hW3 := Lib.hid hW3
  replace n1200 := Lib.hid n1200
  clear LW r2 b2 h3 g3
  go_wp2_with fail
  rw [← hW3.out]
  refine AI.out.mono ?_
  rintro e w4 ⟨v4, rfl, r4, g4, s4⟩
  have B4 : Hid (Below w1.heap.size w1 w4) := G3.out.trans (g4.below G3.out.size)
  have st : Hid (BtAt w1.heap.size w4 pre g l v4 (.int .i64 0) w4) := ⟨0, rfl, Nat.zero_le _, by simpa [kb] using r4, Gu.refl _ _, s4⟩
  clear AI hW3 G3 B3 r4 g4 s4
  go_wp2_with fail
  go_loopw [4, 27] (fun v i wr => BtAt w1.heap.size w4 pre g l v i wr) (fun _ i _ => n - (intOf i).toNat)
  case atStart => exact st.out
  case round =>
    clear st
    obtain ⟨k, rfl, hk, hrow, hgu, hbs⟩ := hrel
    have BK : Hid (Below w1.heap.size w1 wr) := B4.out.trans (hgu.below B4.out.size)
    replace hrow := Lib.hid hrow
    replace hgu := Lib.hid hgu
    replace hk := Lib.hid hk
    replace hbs := Lib.hid hbs
    by_cases hlt : k < n
    · obtain ⟨⟨x, y⟩, hxk⟩ : ∃ p, l[k]? = some p := ⟨_, List.getElem?_eq_getElem (by have := hn.out; omega)⟩
      have RP := rp_below r1.out BK.out
      obtain ⟨ga, rfl, -, -⟩ := Tb.rp_cell RP hxk
      obtain ⟨k0, k1⟩ := rp_at RP hxk
      obtain ⟨m0, m1, m2, m3⟩ := hmem.out k (x, y) hxk
      obtain ⟨W5, hW5⟩ : ∃ W, W = wr.alloc (.cells #[.int .i64 x, .int .i64 y] 87) := ⟨_, rfl⟩
      have h5 : Hid (W5.heap[wr.heap.size]? = some (.cells #[.int .i64 x, .int .i64 y] 87 (0, 0))) := by rw [hW5]; exact heap_alloc_new _ _
      have b5 : Below wr.heap.size wr W5 := by rw [hW5]; exact (Below.refl _ _).alloc (Nat.le_refl _) _
      have B5 : Hid (Below w.heap.size w W5) := (b1.out.trans (BK.out.mono b1.out.size)).trans (b5.mono (Nat.le_trans b1.out.size BK.out.size))
      have FW : Hid (Calls Try.prog 37 #[.pointer (some ⟨h, 3, none⟩), .agg #[.int .i64 y, .int .i64 x, .int .i64 0, .int .i64 0, .int .i64 0]] W5.drew fun e w' => e = .returned (.tuple #[.int .i64 (g x y), .bool true]) ∧ Below W5.heap.size W5 w') :=
        (FD.out W5.drew (x, y) ⟨B5.out.os, B5.out.tape, B5.out.output, B5.out.size, B5.out.block⟩ m0).mono fun e w' q => ⟨q.1, ⟨q.2.os, q.2.tape, q.2.output, q.2.size, q.2.block⟩⟩
      have G5 : Hid (Gu w1.heap.size wr W5) := Gu.of_below b5
      have R5 : Hid (RowB W5 w1.heap.size u4 (pre ++ kb g (l.take k))) := by unfold Hid; rw [hW5]; exact hrow.out.alloc _
      have S5 : Hid (w1.heap.size ≤ W5.heap.size) := Nat.le_trans hbs.out b5.size
      have CA : Hid (∀ w6, Below W5.heap.size W5 w6 → Calls Try.prog 35 #[u4, .slice (some ⟨w6.heap.size, 0, none⟩) 3 3] (w6.alloc (.cells #[.int .i64 x, .int .i64 y, .int .i64 (g x y)] 3)) fun e w' => ∃ v, e = .returned v ∧ BtAt w1.heap.size w4 pre g l v (.int .i64 ((k + 1 : Nat) : Int)) w') := fun w6 hb6 => by
        have h7 : (w6.alloc (.cells #[.int .i64 x, .int .i64 y, .int .i64 (g x y)] 3)).heap[w6.heap.size]? = some (.cells #[.int .i64 x, .int .i64 y, .int .i64 (g x y)] 3 (0, 0)) := heap_alloc_new _ _
        have b7 : Below W5.heap.size W5 (w6.alloc (.cells #[.int .i64 x, .int .i64 y, .int .i64 (g x y)] 3)) := hb6.alloc hb6.size _
        refine (happend_any w1.heap.size _ u4 _ (St.rb_below R5.out b7) (Nat.le_trans S5.out b7.size) ⟨w6.heap.size, 0, none⟩ 3 [x, y, g x y] rfl ⟨lt_some h7, fun cs fr e => by
          rw [h7] at e
          injection e with e
          injection e with _ e _
          exact absurd e (by decide), fun j z hj => by
          rw [add0, one_at h7]
          match j, hj with
          | 0, hj => simp at hj; subst hj; rfl
          | 1, hj => simp at hj; subst hj; rfl
          | 2, hj => simp at hj; subst hj; rfl
          | j + 3, hj => simp at hj⟩ (fun z hz => by simp at hz m1 m2 m3; omega) (Nat.le_trans (hbig.out k) (by omega)) (by omega)).mono ?_
        rintro e w' ⟨v, rfl, o6, g6, s6⟩
        refine ⟨v, rfl, k + 1, rfl, by have := hn.out; omega, ?_, ((hgu.out.trans G5.out).trans (Gu.of_below b7)).trans g6, s6⟩
        rw [kb_take hxk, ← List.append_assoc]
        exact o6
      have j0 := one_at (i := 0) h5.out
      have j1 := one_at (i := 1) h5.out
      generalize g x y = a at *
      replace hW5 := Lib.hid hW5
      clear hxk hrow hgu R5 S5 G5 B5 b5 h5 m0 m1 m2 m3 RP BK FD
      go_wp2_with fail
      rw [← hW5.out]
      go_region
      go_wp2_with fail
      refine FW.out.mono ?_
      rintro e w6 ⟨rfl, h6⟩
      have C6 := Lib.hid (CA.out w6 h6)
      clear FW CA h6 hW5 j0 j1 k0 k1
      go_wp2_with fail
      refine C6.out.mono ?_
      rintro e w7 ⟨v7, rfl, h7⟩
      replace h7 := Lib.hid h7
      clear C6
      go_wp2
      go_roundw
      case rel => exact h7.out
      case measure => simp [intOf]; omega
    · have F : Hid (ByTo w bf (.returned u4) wr) := by
        have h1 := hrow.out
        rw [hfin.out k (by have := hk.out; have := hn.out; omega)] at h1
        exact ⟨u4, rfl, rb_mono h1 b1.out.size, b1.out.trans (BK.out.mono b1.out.size)⟩
      go_wp2
      go_ret
      exact F.out
end Ho
end Go.Proofs.Ytmhpcopghnddeaa
