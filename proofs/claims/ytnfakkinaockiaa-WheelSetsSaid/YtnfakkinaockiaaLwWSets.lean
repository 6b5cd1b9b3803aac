/- Proved: a timer that is set again is due when it was set last; one that is off is not due (WheelSets), for any numbers. -/
import Derived.Test.YtnfakkinaockiaaLsA
import Derived.Deep.CutBlock
import Derived.Deep.CutRange
namespace Go.Proofs.Ytnfakkinaockiaa.wheelSets
open Go.ChangeShapes Go.WideShapes Go.ChangeAt Go.WideMaps Go.WideElems Go.RowKit
open Go.Proofs.Ytnfakkinaockiaa.Pk (one_at one_free one_set lt_some grown_set)
open Go.Proofs.Ytnfakkinaockiaa.Wh

def arr (zs : List Int) : Array Value := (nums zs).toArray
theorem arr_at {zs : List Int} {k : Nat} {z : Int} (h : zs[k]? = some z) : (arr zs)[k]? = some (.int .i64 z) := by simp [arr, nums, h]
theorem arr_set (zs : List Int) (k : Nat) (z : Int) : (arr zs).setIfInBounds k (.int .i64 z) = arr (zs.set k z) := by
  apply Array.ext'
  simp [arr, nums, List.map_set]
/-- The wheel, and what is due, at d. -/
structure St (B : World) (q d : Nat) (S : List Tm) (zs : List Int) (W : World) : Prop where
  lw : Lw B W q 0 S (fun g => g = d ∨ g < B.heap.size)
  at_ : W.heap[d]? = some (.cells (arr zs) 49 (0, 0))
  ge : B.heap.size ≤ d
section
variable {B W W' : World} {q d : Nat} {S S' : List Tm} {zs : List Int}
theorem St.below (s : St B q d S zs W) (hb : Below W.heap.size W W') : St B q d S zs W' := ⟨s.lw.below hb, (hb.block d (lt_some s.at_)).trans s.at_, s.ge⟩
theorem St.of (s : St B q d S zs W) (t : LwTo B W q 0 S' (fun g => g = d ∨ g < B.heap.size) W') : St B q d S' zs W' := ⟨t.1, (t.2.1 d (.inl rfl)).trans s.at_, s.ge⟩
theorem St.set (s : St B q d S zs W) (k : Nat) (z : Int) : St B q d S (zs.set k z) (W.setCell ⟨d, k, none⟩ (.int .i64 z)) :=
  ⟨s.lw.side (grown_set _ _ _ _) (.inl rfl) s.ge, by rw [one_set s.at_, arr_set], s.ge⟩
theorem St.cell (s : St B q d S zs W) {k : Nat} {z : Int} (h : zs[k]? = some z) : W.cell? ⟨d, k, none⟩ = some (.int .i64 z) ∧ W.frozen? ⟨d, k, none⟩ = false := ⟨(one_at s.at_).trans (arr_at h), one_free s.at_⟩
end
def InAt (B : World) (q d : Nat) (i : Value) (wr : World) : Prop := ∃ k : Nat, i = .int .i64 k ∧ k ≤ 10 ∧ St B q d [] (List.replicate k (-1) ++ List.replicate (10 - k) 0) wr
def SeAt (B : World) (q d n : Nat) (i : Value) (wr : World) : Prop := ∃ (k : Nat) (S : List Tm), i = .int .i64 k ∧ k ≤ n ∧ S.length ≤ k ∧ Ten S ∧ St B q d S (dueOf S) wr
def CoAt (B : World) (q d : Nat) (S : List Tm) (vn vf i : Value) (wr : World) : Prop := ∃ k : Nat, i = .int .i64 k ∧ k ≤ 10 ∧ vn = .int .i64 (cF S k : Nat) ∧ vf = .int .i64 (mF S k) ∧ St B q d S (dueOf S) wr
set_option maxHeartbeats 12800000 in
set_option maxRecDepth 100000 in
theorem walk (w : World) (A1 A2 : Option Addr) (n c m e : Nat) (xs ys : List Int) (R1 : Rr w (fun g => g < w.heap.size) A1 n xs) (R2 : Rr w (fun g => g < w.heap.size) A2 m ys) (hn : n ≤ 9223372036854775807) (hm : m ≤ 9223372036854775807) :
    Calls Try.prog 7 #[.slice A1 n c, .slice A2 m e] w fun e w' => e = .returned (.bool true) ∧ Below w.heap.size w w' := by
  have TA := Lib.hid told_any
  have NW := Lib.hid (lw_new (B := w) 0 (by decide) (Below.refl _ w))
  by_cases hbig : 60 < n ∨ m < n
  · clear R1 R2
    by_cases h1 : 60 < n
    · have d1 : decide ((60 : Int) < (n : Int)) = true := decide_eq_true (by omega)
      clear hbig h1
      go_enter Try.func7, Try.ntmps7
      go_wp2_with fail
      refine NW.out.mono ?_
      rintro e w1 ⟨q, rfl, L1, _⟩
      replace L1 := Lib.hid L1.be
      clear NW
      go_wp2_with fail
      refine (TA.out _).mono ?_
      rintro e w2 ⟨rfl, hb⟩
      have E := Lib.hid (L1.out.trans (hb.mono L1.out.size))
      clear hb L1
      go_wp2
      go_ret
      exact ⟨rfl, E.out⟩
    · have d1 : decide ((60 : Int) < (n : Int)) = false := decide_eq_false (by omega)
      have d2 : decide (m < n) = true := decide_eq_true (by omega)
      clear hbig h1
      go_enter Try.func7, Try.ntmps7
      go_wp2_with fail
      refine NW.out.mono ?_
      rintro e w1 ⟨q, rfl, L1, _⟩
      replace L1 := Lib.hid L1.be
      clear NW
      go_wp2_with fail
      refine (TA.out _).mono ?_
      rintro e w2 ⟨rfl, hb⟩
      have E := Lib.hid (L1.out.trans (hb.mono L1.out.size))
      clear hb L1
      go_wp2
      go_ret
      exact ⟨rfl, E.out⟩
  · have hn6 : n ≤ 60 := by omega
    have hnm : n ≤ m := by omega
    have d1 : decide ((60 : Int) < (n : Int)) = false := decide_eq_false (by omega)
    have d2 : decide (m < n) = false := decide_eq_false (by omega)
    replace R1 := Lib.hid R1
    replace R2 := Lib.hid R2
    have i3 : (n : Int) ≤ 60 := by omega
    have i4 : (n : Int) ≤ (m : Int) := by omega
    clear hbig
    go_enter Try.func7, Try.ntmps7
    go_wp2_with fail
    refine NW.out.mono ?_
    rintro e w1 ⟨q, rfl, L1, _⟩
    obtain ⟨d, hd⟩ : ∃ d, d = w1.heap.size := ⟨_, rfl⟩
    obtain ⟨w2, hw2⟩ : ∃ z, z = w1.alloc (.cells (arr (List.replicate 10 0)) 49) := ⟨_, rfl⟩
    have b2 : Below w1.heap.size w1 w2 := by rw [hw2]; exact (Below.refl _ _).alloc (Nat.le_refl _) _
    have s2 : Hid (InAt w q d (.int .i64 0) w2) := ⟨0, rfl, by omega, (L1.more b2).old.less fun g hg => by
        rcases hg with hg | hg
        · exact .inl (.inr ⟨by omega, by rw [hw2, hg, hd]; simp⟩)
        · exact .inr hg, by rw [hw2, hd]; exact heap_alloc_new _ _, by rw [hd]; exact L1.be.size⟩
    replace hw2 := Lib.hid hw2
    replace hd := Lib.hid hd
    have aE : Hid (arr (List.replicate 10 0) = #[.int .i64 0, .int .i64 0, .int .i64 0, .int .i64 0, .int .i64 0, .int .i64 0, .int .i64 0, .int .i64 0, .int .i64 0, .int .i64 0]) := rfl
    rw [aE.out] at hw2
    clear NW L1 b2 aE
    go_upto_region 7 with fail
    rw [← hw2.out, ← hd.out]
    clear hw2 hd d1 d2
    go_wp2_with fail
    go_loopw [8] (fun i wr => InAt w q d i wr) (fun i _ => 10 - (intOf i).toNat)
    case atStart => exact s2.out
    case round =>
      clear s2
      obtain ⟨j, rfl, hj, st⟩ := hrel
      by_cases hlt : j < 10
      · have i1 : (j : Int) < 10 := by omega
        have i2 : (0 : Int) ≤ (j : Int) := by omega
        have e0 : (List.replicate j (-1 : Int) ++ List.replicate (10 - j) 0)[j]? = some 0 := by
          rw [List.getElem?_append_right (by simp), List.length_replicate, Nat.sub_self, List.getElem?_replicate, if_pos (by omega)]
        obtain ⟨c1, f1⟩ := st.cell e0
        have nx : Hid (InAt w q d (.int .i64 ((j : Int) + 1)) (wr.setCell ⟨d, j, none⟩ (.int .i64 (-1)))) := by
          refine ⟨j + 1, by simp, by omega, ?_⟩
          have := st.set j (-1)
          have e1 : (List.replicate j (-1 : Int) ++ List.replicate (10 - j) 0).set j (-1) = List.replicate (j + 1) (-1) ++ List.replicate (10 - (j + 1)) 0 := by
            obtain ⟨r, hr⟩ : ∃ r, 10 - j = r + 1 := ⟨10 - j - 1, by omega⟩
            rw [hr, List.replicate_succ (n := r), List.set_append_right _ _ (by simp), show 10 - (j + 1) = r by omega, List.replicate_succ' (n := j)]
            simp
          rw [e1] at this
          exact this
        clear st e0
        go_wp2
        exact ⟨nx.out, by simp [intOf]; omega⟩
      · have st2 : Hid (SeAt w q d n (.int .i64 0) wr) := by
          obtain rfl : j = 10 := by omega
          exact ⟨0, [], rfl, Nat.zero_le _, Nat.zero_le _, fun t ht => (nomatch ht), by rw [dueOf_nil]; exact st⟩
        have dJ : decide ((j : Int) < 10) = false := decide_eq_false (by omega)
        clear st hlt hj
        generalize (j : Int) = J at dJ ⊢
        go_wp2_with fail
        go_loopw [9] (fun i wr => SeAt w q d n i wr) (fun i _ => n - (intOf i).toNat)
        case atStart => exact st2.out
        case round =>
          clear st2
          obtain ⟨k, S, rfl, hk, hl, ten, st⟩ := hrel
          by_cases hlt : k < n
          · have i1 : (k : Int) < (n : Int) := by omega
            have i2 : (0 : Int) ≤ (k : Int) := by omega
            have i5 : (k : Int) < (m : Int) := by omega
            obtain ⟨a1, rfl, _, _⟩ := R1.out.at_ (by omega)
            obtain ⟨a2, rfl, _, _⟩ := R2.out.at_ (by omega)
            obtain ⟨x, hx⟩ : ∃ x, xs[k]? = some x := ⟨_, List.getElem?_eq_getElem (by rw [R1.out.len]; omega)⟩
            obtain ⟨y, hy⟩ : ∃ y, ys[k]? = some y := ⟨_, List.getElem?_eq_getElem (by rw [R2.out.len]; omega)⟩
            have c1 := (R1.out.below st.lw.be).cell hx
            have c2 := (R2.out.below st.lw.be).cell hy
            go_wp2_with fail
            go_quiet (fail)
            have ux : wrap64 ((IntKind.u64.wrap x).tmod 10) = (usm x 10 : Int) := usm_slot x (n := 10) (by omega) (by omega)
            have uy : wrap64 ((IntKind.u64.wrap y).tmod 501) = (usm y 501 : Int) := usm_slot y (n := 501) (by omega) (by omega)
            rw [ux, uy]
            clear ux uy
            have hkx := usm_lt x (n := 10) (by omega)
            have hty := usm_lt y (n := 501) (by omega)
            replace st := Lib.hid (st.below (Wh.below_drewN wr nq))
            generalize wr.drewN nq = w3 at *
            generalize usm x 10 = kx at *
            generalize usm y 501 = ty at *
            clear c1 c2 hx hy
            by_cases h54 : ty % 5 = 4
            · have q1 : (((ty : Int) % 5) == 4) = true := by simp; omega
              have OF : Hid (∀ W, St w q d S (dueOf S) W → Calls Try.prog 15 #[.pointer (some ⟨q, 0, none⟩), .int .i64 kx] W fun e W' => e = .returned (.bool (fnd (kx : Int) S).isSome) ∧ St w q d (without (kx : Int) S) (dueOf S) W') := fun W s => (lw_off s.lw (kx : Int) (by omega)).mono fun e W' h => ⟨h.1, s.of h.2⟩
              have CE : Hid (∀ S' W, St w q d S' (dueOf S) W → W.cell? ⟨d, kx, none⟩ = some (.int .i64 (duk S kx)) ∧ W.frozen? ⟨d, kx, none⟩ = false) := fun S' W s => s.cell (dueOf_at hkx)
              have NX : Hid (∀ W, St w q d (without (kx : Int) S) (dueOf S) W → SeAt w q d n (.int .i64 ((k : Int) + 1)) (W.setCell ⟨d, kx, none⟩ (.int .i64 (-1)))) := fun W s => ⟨k + 1, without (kx : Int) S, by simp, by omega, by have := without_len (kx : Int) S; omega, ten_without ten _, by rw [dueOf_without hkx]; exact s.set kx (-1)⟩
              have b0 : decide (0 ≤ duk S kx) = (fnd (kx : Int) S).isSome := (duk_some ten).symm
              have j1 : (kx : Int) < 10 := by omega
              have j2 : (0 : Int) ≤ (kx : Int) := by omega
              have sd : Hid (St w q d S (dueOf S) w3.drew) := st.out.below ⟨rfl, rfl, rfl, Nat.le_refl _, fun _ _ => rfl⟩
              have s0 := (CE.out _ _ sd.out).1
              generalize duk S kx = dz at *
              generalize (fnd (kx : Int) S).isSome = bz at *
              clear ten hl hkx hty h54 st
              go_wp2_with fail
              go_region_held3 (fun w' => w'.cell? ⟨d, kx, none⟩ = some (.int .i64 dz)) (first | assumption | exact s0 | go_keep)
                ((first
                  | (go_at_call 15; refine (OF.out _ sd.out).mono ?_; rintro e w5 ⟨rfl, s5⟩; have s6 := CE.out _ _ s5; obtain ⟨s7, s8⟩ := s6)))
              all_goals
                have nx := Lib.hid (NX.out w5 s5)
                clear s5 s0 sd OF CE NX
                go_wp2
                exact ⟨nx.out, by simp [intOf]; omega⟩
            · have q1 : (((ty : Int) % 5) == 4) = false := by simp; omega
              have SE := Lib.hid (lw_set st.out.lw (kx : Int) (ty : Int) (by omega) (by omega))
              have tk : tick (ty : Int) = true := tick_iff.2 (by omega)
              unfold setE setS at SE
              rw [tk, if_pos rfl, if_pos rfl] at SE
              have CE : Hid (∀ S' W, St w q d S' (dueOf S) W → W.cell? ⟨d, kx, none⟩ = some (.int .i64 (duk S kx)) ∧ W.frozen? ⟨d, kx, none⟩ = false) := fun S' W s => s.cell (dueOf_at hkx)
              have NX : Hid (∀ W, LwTo w w3 q 0 (sSet ((kx : Int), (ty : Int)) S) (fun g => g = d ∨ g < w.heap.size) W → St w q d (sSet ((kx : Int), (ty : Int)) S) (dueOf S) W ∧ SeAt w q d n (.int .i64 ((k : Int) + 1)) (W.setCell ⟨d, kx, none⟩ (.int .i64 ty))) := fun W t => by
                have s := st.out.of t
                exact ⟨s, k + 1, sSet ((kx : Int), (ty : Int)) S, by simp, by omega, by have := sSet_len ((kx : Int), (ty : Int)) S; omega, ten_sSet ten hkx (by omega) (by omega), by rw [dueOf_sSet st.out.lw.nd hkx]; exact s.set kx ty⟩
              have j1 : (kx : Int) < 10 := by omega
              have j2 : (0 : Int) ≤ (kx : Int) := by omega
              clear ten hl hkx hty h54 tk
              go_wp2_with fail
              refine SE.out.mono ?_
              rintro e w5 ⟨rfl, t5⟩
              obtain ⟨s5, nx⟩ := NX.out w5 t5
              obtain ⟨s7, s8⟩ := CE.out _ _ s5
              replace nx := Lib.hid nx
              clear t5 s5 SE NX CE st
              go_wp2
              exact ⟨nx.out, by simp [intOf]; omega⟩
          · have dn : decide ((k : Int) < (n : Int)) = false := decide_eq_false (by omega)
            have st2 : Hid (CoAt w q d S (.int .i64 0) (.int .i64 1000) (.int .i64 0) wr) := ⟨0, rfl, Nat.zero_le _, rfl, rfl, st⟩
            have nd := Lib.hid st.lw.nd
            have sr := Lib.hid st.lw.srt
            have hl60 : Hid (S.length ≤ 60) := by show _ ≤ _; omega
            replace ten := Lib.hid ten
            clear st hlt hk hl dJ
            generalize (k : Int) = K at dn ⊢
            go_wp2_with fail
            clear dn
            go_loopw [12, 13, 14] (fun vn vf i wr => CoAt w q d S vn vf i wr) (fun _ _ i _ => 10 - (intOf i).toNat)
            case atStart => exact st2.out
            case round =>
              clear st2
              obtain ⟨j, rfl, hj, rfl, rfl, st⟩ := hrel
              by_cases hlt : j < 10
              · have j1 : (j : Int) < 10 := by omega
                have j2 : (0 : Int) ≤ (j : Int) := by omega
                have AT := lw_at st.lw (j : Int) (by omega)
                obtain ⟨c0, _⟩ := st.cell (dueOf_at hlt)
                have b0 : decide (0 ≤ duk S j) = (fnd (j : Int) S).isSome := (duk_some ten.out).symm
                have hc := cF_le S j
                have hm := mF_bound ten.out j
                cases hf : fnd (j : Int) S with
                | none =>
                  rw [hf] at AT b0
                  have nx : Hid (∀ W, Below wr.heap.size wr W → CoAt w q d S (.int .i64 (cF S j : Nat)) (.int .i64 (mF S j)) (.int .i64 ((j : Int) + 1)) W ∧ W.cell? ⟨d, j, none⟩ = some (.int .i64 (duk S j))) := fun W hb => ⟨⟨j + 1, by simp, by omega, by simp [cF, hf], by simp [mF, hf], st.below hb⟩, ((st.below hb).cell (dueOf_at hlt)).1⟩
                  have z1 : tm2 (none : Option Tm) = 0 := rfl
                  rw [z1] at AT
                  simp only [Option.isSome] at AT b0
                  replace AT := Lib.hid AT
                  generalize cF S j = cn at *
                  generalize mF S j = mf at *
                  generalize duk S j = dz at *
                  clear st c0 hf z1 hc hm
                  go_wp2_with fail
                  refine AT.out.mono ?_
                  rintro e w5 ⟨rfl, hb⟩
                  obtain ⟨nx2, c5⟩ := nx.out w5 hb
                  replace nx2 := Lib.hid nx2
                  clear AT nx hb
                  go_wp2
                  exact ⟨nx2.out, by simp [intOf]; omega⟩
                | some t =>
                  have dk : duk S j = t.2 := by unfold duk; rw [hf]; rfl
                  have ht := ten.out t (fnd_mem hf).1
                  rw [hf, dk] at b0
                  rw [hf] at AT
                  have z1 : tm2 (some t) = t.2 := rfl
                  rw [z1] at AT
                  simp only [Option.isSome] at AT b0
                  have hmin : min (mF S j) t.2 = if t.2 < mF S j then t.2 else mF S j := by split <;> omega
                  have nx : Hid (∀ W, Below wr.heap.size wr W → CoAt w q d S (.int .i64 ((cF S j : Nat) + 1 : Int)) (.int .i64 (if t.2 < mF S j then t.2 else mF S j)) (.int .i64 ((j : Int) + 1)) W ∧ W.cell? ⟨d, j, none⟩ = some (.int .i64 t.2)) := fun W hb => ⟨⟨j + 1, by simp, by omega, by simp [cF, hf], by rw [← hmin]; simp [mF, hf], st.below hb⟩, by rw [← dk]; exact ((st.below hb).cell (dueOf_at hlt)).1⟩
                  replace AT := Lib.hid AT
                  obtain ⟨cn, hcn⟩ : ∃ z, z = cF S j := ⟨_, rfl⟩
                  obtain ⟨mf, hmf⟩ : ∃ z, z = mF S j := ⟨_, rfl⟩
                  obtain ⟨dz, hdz⟩ : ∃ z, z = t.2 := ⟨_, rfl⟩
                  rw [← hcn, ← hmf, ← hdz] at nx
                  rw [← hdz] at AT b0
                  rw [← hcn, ← hmf]
                  have k1 : (cn : Int) ≤ 10 := by omega
                  clear st c0 hf z1 dk ht hc hm hcn hmf hdz hmin
                  go_wp2_with fail
                  refine AT.out.mono ?_
                  rintro e w5 ⟨rfl, hb⟩
                  obtain ⟨nx2, c5⟩ := nx.out w5 hb
                  replace nx2 := Lib.hid nx2
                  clear AT nx hb
                  have qq : (dz != dz) = false := by simp
                  go_wp2
                  exact ⟨nx2.out, by simp [intOf]; omega⟩
              · obtain ⟨J, hJ⟩ : ∃ z : Int, z = (j : Int) := ⟨_, rfl⟩
                have dJ : decide (J < 10) = false := decide_eq_false (by omega)
                obtain rfl : j = 10 := by omega
                rw [← hJ]
                have hcS := cF_ten st.lw.nd ten.out
                rw [hcS]
                have NX := lw_next st.lw
                have hof := Lib.hid (offs_all (S := S) (n := 500) fun t ht => by have := ten.out t ht; omega)
                have L := Lib.hid st.lw
                cases hS : S.head? with
                | none =>
                  have e0 : S = [] := by simpa using hS
                  subst e0
                  have z1 : tm2 (none : Option Tm) = 0 := rfl
                  have z2 : ((([] : List Tm).length : Nat) : Int) = 0 := rfl
                  rw [hS, z1] at NX
                  rw [z2]
                  simp only [Option.isSome] at NX
                  replace NX := Lib.hid NX
                  clear hS z1 z2 st hcS hJ hlt hj
                  generalize mF [] 10 = mf at *
                  go_wp2_with fail
                  refine NX.out.mono ?_
                  rintro e w5 ⟨rfl, b5⟩
                  have L5 := L.out.below b5
                  have LE := Lib.hid (lw_len L5)
                  clear NX b5 L
                  go_wp2_with fail
                  refine LE.out.mono ?_
                  rintro e w6 ⟨rfl, b6⟩
                  have L6 := L5.below b6
                  have TU := Lib.hid (lw_turn L6 500 (by decide) (by decide))
                  clear LE L5 b6
                  go_wp2_with fail
                  refine TU.out.mono ?_
                  rintro e w7 ⟨A, n7, c7, rfl, hn7, _, L7, _⟩
                  rw [hof.out.1] at hn7
                  rw [hof.out.2] at L7
                  rw [hn7]
                  replace L7 := Lib.hid L7
                  clear TU L6 hn7
                  go_wp2_with fail
                  refine (TA.out _).mono ?_
                  rintro e w8 ⟨rfl, b8⟩
                  have L8 := L7.out.below b8
                  have LE := Lib.hid (lw_len L8)
                  clear L7 b8
                  go_wp2_with fail
                  refine LE.out.mono ?_
                  rintro e w9 ⟨rfl, b9⟩
                  have L9 := L8.below b9
                  have NO := Lib.hid (lw_now L9)
                  have T1 := Lib.hid (lw_turn_no L9 499 (.inl (by decide)))
                  have T2 := Lib.hid (lw_turn_no L9 1099511627777 (.inr (by decide)))
                  have be := Lib.hid L9.be
                  have z0 : ((([] : List Tm).length : Nat) : Int) = 0 := rfl
                  rw [z0]
                  clear LE L8 b9 z0 L9
                  go_wp2_with fail
                  refine NO.out.mono ?_
                  rintro e w10 ⟨rfl, rfl⟩
                  go_wp2_with fail
                  refine T1.out.mono ?_
                  rintro e w10 ⟨rfl, rfl⟩
                  go_wp2_with fail
                  refine NO.out.mono ?_
                  rintro e w10 ⟨rfl, rfl⟩
                  go_wp2_with fail
                  refine T2.out.mono ?_
                  rintro e w10 ⟨rfl, rfl⟩
                  clear T1 T2 NO
                  go_wp2
                  go_ret
                  exact ⟨rfl, be.out⟩
                | some s =>
                  have hm := mF_ten st.lw.nd ten.out st.lw.srt hS
                  have z1 : tm2 (some s) = s.2 := rfl
                  rw [hS, z1] at NX
                  rw [hm]
                  simp only [Option.isSome] at NX
                  have hpos : 0 < S.length := by
                    cases S with
                    | nil => cases hS
                    | cons a r => simp
                  replace NX := Lib.hid NX
                  have qq : (s.2 != s.2) = false := by simp
                  obtain ⟨N, hN⟩ : ∃ z, z = S.length := ⟨_, rfl⟩
                  rw [← hN]
                  have k0 : (0 : Int) < (N : Int) := by omega
                  have qN : ((N : Int) != (N : Int)) = false := by simp
                  have qE : ((N : Int) == (N : Int)) = true := by simp
                  replace hN := Lib.hid hN
                  clear hS z1 st hcS hJ hlt hj hm hpos
                  go_wp2_with fail
                  refine NX.out.mono ?_
                  rintro e w5 ⟨rfl, b5⟩
                  have L5 := L.out.below b5
                  have LE := Lib.hid (lw_len L5)
                  clear NX b5 L
                  go_wp2_with fail
                  refine LE.out.mono ?_
                  rintro e w6 ⟨rfl, b6⟩
                  rw [← hN.out]
                  have L6 := L5.below b6
                  have TU := Lib.hid (lw_turn L6 500 (by decide) (by decide))
                  clear LE L5 b6
                  go_wp2_with fail
                  refine TU.out.mono ?_
                  rintro e w7 ⟨A, n7, c7, rfl, hn7, _, L7, _⟩
                  rw [hof.out.1] at hn7
                  rw [hof.out.2] at L7
                  rw [hn7, ← hN.out]
                  replace L7 := Lib.hid L7
                  clear TU L6 hn7
                  go_wp2_with fail
                  refine (TA.out _).mono ?_
                  rintro e w8 ⟨rfl, b8⟩
                  have L8 := L7.out.below b8
                  have LE := Lib.hid (lw_len L8)
                  clear L7 b8
                  go_wp2_with fail
                  refine LE.out.mono ?_
                  rintro e w9 ⟨rfl, b9⟩
                  have L9 := L8.below b9
                  have NO := Lib.hid (lw_now L9)
                  have T1 := Lib.hid (lw_turn_no L9 499 (.inl (by decide)))
                  have T2 := Lib.hid (lw_turn_no L9 1099511627777 (.inr (by decide)))
                  have be := Lib.hid L9.be
                  have z0 : ((([] : List Tm).length : Nat) : Int) = 0 := rfl
                  rw [z0]
                  clear LE L8 b9 z0 L9
                  go_wp2_with fail
                  refine NO.out.mono ?_
                  rintro e w10 ⟨rfl, rfl⟩
                  go_wp2_with fail
                  refine T1.out.mono ?_
                  rintro e w10 ⟨rfl, rfl⟩
                  go_wp2_with fail
                  refine NO.out.mono ?_
                  rintro e w10 ⟨rfl, rfl⟩
                  go_wp2_with fail
                  refine T2.out.mono ?_
                  rintro e w10 ⟨rfl, rfl⟩
                  clear T1 T2 NO
                  go_wp2
                  go_ret
                  exact ⟨rfl, be.out⟩
theorem walkd (v0 : Value) (a0 : List Int) {W : World} (w0 : Src W v0 a0) (v1 : Value) (a1 : List Int) (w1 : Src W v1 a1) (W' : World) (hW : W' = W) :
    Calls Try.prog 7 #[v0, v1] W' fun e w' => e = .returned (.bool true) ∧ Below W'.heap.size W' w' := by
  subst hW
  obtain ⟨A, n, c, rfl, h1, h2, R, _⟩ := w0
  obtain ⟨B, m, d, rfl, h3, h4, R', _⟩ := w1
  exact walk _ A B n c m d a0 a1 R R' (by omega) (by omega)

/-! The row: every input. -/
set_option linter.unusedVariables false
set_option maxRecDepth 100000 in
theorem lifted (os : Os) (started : os.Started) (H : Type) (enc : TypeId × Value → H) :
    ReturnsInHanded {} Try.checked os 7 .any (Rows.wheelSetsSpec.pre6 enc Try.prog Try.f7 Rows.wheelSetsRow.domain false) (Rows.wheelSetsSpec.post enc Try.prog Try.f7 false true false false) := by
  refine returnsInHanded_of_change (C := Try.checked) own started (by kernel_rfl) Try.func7
    (ChangeSpec.witness6 (enc := enc) (C := Try.checked) false ⟨#[], #[.slice none 0 0, .slice none 0 0], []⟩ 8 (by kernel_rfl) (by kernel_rfl) (by kernel_rfl) (by kernel_rfl)) ?_
  intro W base args ds gs before hval0 hW _ _
  have hval : ∀ (j : Nat) t v, Try.f7.params[j]? = some t → args[j]? = some v → Value.okWide Try.prog W .any base t v := hval0
  have hW' := hW
  obtain ⟨p, q, hA0, hV, rfl, hfz, hnd⟩ := hW
  have hA : DataW.TrodAll enc Try.prog W 0 (fun _ => true) true Try.f7.params.toList args.toList ds p := hA0
  rw [Try.params7] at hA hval
  obtain ⟨v0, vs0, d0, ds0, p0, q0, hargs, rfl, rfl, h0, r0⟩ := trodAll_cons hA
  obtain ⟨v1, vs1, d1, ds1, p1, q1, rfl, rfl, rfl, h1, r1⟩ := trodAll_cons r0
  obtain ⟨rfl, rfl, rfl⟩ := trodAll_nil r1
  obtain rfl : args = #[v0, v1] := by cases args; simp_all
  obtain ⟨rfl, rfl⟩ := trodVars_none hV
  obtain ⟨a0, w0⟩ := view_nums (hval 0 22 v0 rfl rfl) h0
  obtain ⟨a1, w1⟩ := view_nums (hval 1 22 v1 rfl rfl) h1
  clear hA0 hval0
  simp only [List.append_nil] at hW'
  refine (walkd v0 a0 w0 v1 a1 w1 W rfl).mono fun e W' ⟨he, hb⟩ => ?_
  subst he
  exact ⟨_, rfl, post_below (pa := p0 ++ (p1 ++ [])) (pv := []) hW' (fun _ _ _ => (trodAll_cons_mk (shut_bool Try.underlying4 _) trodAll_mk0)) (fun sp hsp => (trodAll_cons_mk (Trod_stays laidOut (by kernel_rfl) (of_decide_eq_true (by kernel_rfl)) h0 (fun x hx => hb.same (hW'.lt x (by simp [hx]))) (fun x hx => hsp x (by simp [hx]))) (trodAll_cons_mk (Trod_stays laidOut (by kernel_rfl) (of_decide_eq_true (by kernel_rfl)) h1 (fun x hx => hb.same (hW'.lt x (by simp [hx]))) (fun x hx => hsp x (by simp [hx]))) trodAll_mk0))) (fun _ _ => rfl) (by simp)
    hb (ok_one (by kernel_rfl) rfl (okWide_bool_mk Try.underlying4 _))⟩

theorem proved : Rows.WheelSetsSaid :=
  OpenClaim.holds_of_wide 7 Try.f7 rfl rfl rfl rfl rfl rfl rfl ⟨rfl, rfl, rfl, rfl, rfl⟩ rfl rfl rfl rfl rfl (by kernel_rfl) Try.func7 (by kernel_rfl)
    (of_decide_eq_true (by kernel_rfl)) (by unfold Func.isWrapper; first | (rw [if_pos (by decide +kernel)]; kernel_rfl) | (rw [if_neg (by decide +kernel)]; exact ⟨rfl, rfl⟩))
    (fun os started H enc _ => lifted os started H enc)
#print axioms proved

end Go.Proofs.Ytnfakkinaockiaa.wheelSets
