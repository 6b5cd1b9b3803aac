/- The document's own Share, where it may be. -/
import Derived.Test.YtddlcfefeclioaaCsR
namespace Go.Proofs.Ytddlcfefeclioaa
open Go.RowKit
namespace Cs

def S2At (w : World) (n : Nat) (all : Int) (ps : List Int) (v l i : Value) (wr : World) : Prop :=
  ∃ k : Nat, i = .int .i64 k ∧ k ≤ n ∧ l = .int .i64 (left all (ttl ps) ps k) ∧ wr.ownsRow w.heap.size 2 1 v k (i64s (lst k (base all (ttl ps) ps))) ∧ Below w.heap.size w wr
theorem upto_rest {L : Int} {ps : List Int} {f : Nat → Int} {k n : Nat} (_hk : k ≤ n) (h : ¬ 0 < lf L ps k) : lst n (upto L ps f k) = lst n (upto L ps f n) := by
  apply lst_congr
  intro i hi
  unfold upto
  rw [if_pos hi]
  by_cases e : i < k
  · rw [if_pos e]
  · rw [if_neg e]
    have h1 : ¬ (cnt ps k : Int) < L := fun x => h (lf_pos.2 x)
    have h2 := cnt_le (ps := ps) (show k ≤ i by omega)
    have : bon L ps i = 0 := if_neg fun x => by have := x.2; omega
    omega

set_option maxHeartbeats 6000000 in
set_option maxRecDepth 100000 in
theorem rshare_yes (all : Int) (A : Option Addr) (n c : Nat) (zs : List Int) (w : World) (R : Ri w w.heap.size A n zs) (h : May all zs) :
    Calls Try.prog 19 #[.int .i64 all, .slice A n c] w (ShareTo all zs w) := by
  have hl := Lib.hid R.len
  have hn1 : 1 ≤ n := by have := h.n0; have := hl.out; omega
  have hn2 : n ≤ 100 := by have := h.n1; have := hl.out; omega
  have a0 := h.a0
  have a1 := h.a1
  have ht := h.ttl
  obtain ⟨i0, hi, hz0, hz1, hz2⟩ := info_parts i64_info
  replace hi := Lib.hid hi
  replace hz0 := Lib.hid hz0
  replace hz1 := Lib.hid hz1
  replace hz2 := Lib.hid hz2
  obtain ⟨ad, rfl⟩ := ri_bound R (by omega)
  obtain ⟨ad', e, hB, hc⟩ := R.at_ (by omega)
  injection e with e
  subst e
  replace hc := Lib.hid hc
  have hin := Lib.hid R.in_
  replace R := Lib.hid R
  replace h := Lib.hid h
  obtain ⟨T, hT⟩ : ∃ T, T = ttl zs := ⟨_, rfl⟩
  rw [← hT] at ht
  replace hT := Lib.hid hT
  have st : Hid (S1At n zs (.int .i64 0) (.int .i64 0)) := ⟨0, rfl, Nat.zero_le _, rfl, fun j h => absurd h (by omega)⟩
  go_enter Try.func19, Try.ntmps19
  go_wp2_with fail
  go_loop [6, 7] (fun t i => S1At n zs t i) (fun _ i => n - (intOf i).toNat)
  case atStart => exact st.out
  case round =>
    obtain ⟨k, rfl, hk, rfl, hp⟩ := hrel
    have hb := sm_first hp
    replace hp := Lib.hid hp
    by_cases hlt : k < n
    · have hz := get_at0 (ps := zs) (show k < zs.length by have := hl.out; omega)
      have q0 := hc.out k _ hz
      have pI := at0_in h.out.pp k
      have nx : Hid (S1At n zs (.int .i64 (sm (at0 zs) k + at0 zs k)) (.int .i64 ((k : Int) + 1))) :=
        ⟨k + 1, rfl, hlt, rfl, fun j hj => at0_in h.out.pp j⟩
      clear hz
      obtain ⟨s, hs⟩ : ∃ s, s = sm (at0 zs) k := ⟨_, rfl⟩
      obtain ⟨p, hpk⟩ : ∃ p, p = at0 zs k := ⟨_, rfl⟩
      rw [← hpk] at q0 pI nx
      rw [← hs] at nx hb ⊢
      clear hpk hs
      have hs2 : s ≤ 1000000 := by omega
      go_wp2
      exact ⟨nx.out, by simp [intOf]; omega⟩
    · obtain rfl : k = n := by omega
      have eT : sm (at0 zs) k = T := by rw [hT.out]; unfold ttl; rw [hl.out]
      rw [eT]
      have st2 : Hid (S2At w k all zs (.slice none 0 0) (.int .i64 all) (.int .i64 0) w) := ⟨0, rfl, Nat.zero_le _, by unfold left; simp [sm], World.ownsRow_nil _ _ _ _, Below.refl _ _⟩
      clear hb hp eT hlt hk st
      have hTz : (T == 0) = false := by simpa using (show T ≠ 0 by omega)
      go_wp2_with fail
      go_loopw [8, 9, 10] (fun v l i wr => S2At w k all zs v l i wr) (fun _ _ i _ => k - (intOf i).toNat)
      case atStart => exact st2.out
      case round =>
        obtain ⟨j, rfl, hj, rfl, ho, hb⟩ := hrel
        replace hb := Lib.hid hb
        by_cases hlt : j < k
        · have hz := get_at0 (ps := zs) (show j < zs.length by have := hl.out; omega)
          obtain ⟨ad', e, _, hc2⟩ := (R.out.below hb.out).at_ (by omega)
          injection e with e
          subst e
          have q0 := hc2 j _ hz
          have pI := at0_in h.out.pp j
          have pB := prod_bound a0 a1 pI
          have bB := base_bound h.out j
          have lB := left_bound h.out j (by have := hl.out; omega)
          have e1 : all * at0 zs j / T = base all (ttl zs) zs j := by rw [hT.out]; rfl
          have nx : Hid (∀ v' w1, w1.ownsRow w.heap.size 2 1 v' (j + 1) (i64s (lst j (base all (ttl zs) zs)) ++ [.int .i64 (base all (ttl zs) zs j)]) → Below w.heap.size w w1 → S2At w k all zs v' (.int .i64 (left all (ttl zs) zs j - base all (ttl zs) zs j)) (.int .i64 ((j : Int) + 1)) w1) := fun v' w1 h1 h2 =>
            ⟨j + 1, rfl, hlt, by rw [left_succ], by rw [lst_snoc, i64s_app]; exact h1, h2⟩
          clear hc2 hz
          obtain ⟨pk, hpk⟩ : ∃ x, x = at0 zs j := ⟨_, rfl⟩
          obtain ⟨bk, hbk⟩ : ∃ x, x = base all (ttl zs) zs j := ⟨_, rfl⟩
          obtain ⟨lk, hlk⟩ : ∃ x, x = left all (ttl zs) zs j := ⟨_, rfl⟩
          obtain ⟨xs, hxs⟩ : ∃ x, x = i64s (lst j (base all (ttl zs) zs)) := ⟨_, rfl⟩
          rw [← hpk] at q0 pI pB e1
          rw [← hbk] at e1 bB nx
          rw [← hlk] at nx lB ⊢
          rw [← hxs] at nx ho
          obtain ⟨y, hy⟩ : ∃ y, y = all * pk := ⟨_, rfl⟩
          have hy2 := hy.symm
          rw [hy2] at e1 pB
          clear hpk hbk hlk hy hxs
          go_wp2_with (at_builtin; go_loud (refine wpList_append_own _ rfl (.tmp 72) (.tmp 74) 22 rfl w.heap.size 2 i0 (.int .i64 0) 1 8 Try.underlying22 hi.out hz0.out hz1.out hz2.out rfl (by decide) _ j xs rfl (ho.alloc _) ⟨wr.heap.size, 0, none⟩ 1 1 [.int .i64 bk] rfl rfl ?c1 ?c2 ?c3 ?c4 ?c5 ?_))
          case c1 =>
            intro j u hj
            match j, hj with
            | 0, hj => simp at hj; subst hj; simp [Addr.add]
          case c2 => intro u hu; simp at hu; subst hu; rfl
          case c3 => unfold maxLen; omega
          case c4 => omega
          case c5 => have := hb.out.size; simp; omega
          intro v' w1 ho1 hg1 _
          have nx2 : Hid (S2At w k all zs v' (.int .i64 (lk - bk)) (.int .i64 ((j : Int) + 1)) w1) := by
            refine nx.out v' w1 ho1 ((hb.out.alloc hb.out.size _).grown hg1 (by have := hb.out.size; simp; omega) (fun g hg => ?_))
            rcases ho.2 with ⟨rfl, _⟩ | ⟨g2, cap, cur, rfl, hB, _⟩
            · cases hg
            · simp [Value.ownBlock] at hg; omega
          clear ho1 hg1 ho nx
          go_wp2
          exact ⟨nx2.out, by simp [intOf]; omega⟩
        · obtain rfl : j = k := by omega
          obtain ⟨w3, hw3⟩ : ∃ x, x = wr := ⟨_, rfl⟩
          subst hw3
          obtain ⟨g, d, rfl, hgB, hgs⟩ := own_some ho (by omega)
          have er : left all (ttl zs) zs j = rest all zs := by unfold rest; rw [hl.out]
          have rB := rest_bound h.out
          have rB2 : rest all zs ≤ all := by rw [← er]; exact (left_bound h.out j (by have := hl.out; omega)).2
          rw [er]
          have st3 : Hid (HoAt w3 w.heap.size g j d (rest all zs) zs (base all (ttl zs) zs) (.int .i64 (rest all zs)) (.int .i64 0) w3) := ⟨0, rfl, Nat.zero_le _, by rw [lf_zero rB.1], by rw [upto_zero]; exact ho, grown_refl _ _⟩
          have R2 : Hid (Ri w3 w.heap.size (some ad) j zs) := R.out.below hb.out
          have bB : Hid (∀ i, 0 ≤ base all (ttl zs) zs i ∧ base all (ttl zs) zs i ≤ 1099511627776000) := base_bound h.out
          have shu : Hid (lst j (upto (rest all zs) zs (base all (ttl zs) zs) j) = lst j (share all zs)) := by have := share_upto all zs; rwa [hl.out] at this
          clear er ho st2
          obtain ⟨r, hr⟩ : ∃ r, r = rest all zs := ⟨_, rfl⟩
          rw [← hr] at st3 shu rB rB2 ⊢
          obtain ⟨f, hf⟩ : ∃ f, f = base all (ttl zs) zs := ⟨_, rfl⟩
          rw [← hf] at st3 bB shu
          clear hr hf rB
          go_wp2_with fail
          go_loopw [9, 12] (fun l i wr => HoAt w3 w.heap.size g j d r zs f l i wr) (fun _ i _ => j - (intOf i).toNat)
          case atStart => exact st3.out
          case round =>
            obtain ⟨k, rfl, hk, rfl, ho, hg⟩ := hrel
            replace ho := Lib.hid ho
            replace hg := Lib.hid hg
            have fin : Hid ((k < j → ¬ 0 < lf r zs k) → ShareTo all zs w (.returned (.tuple #[.slice (some ⟨g, 0, none⟩) j d, .int .i64 0])) wr) := fun hh => by
              have e1 : lst j (upto r zs f k) = lst j (share all zs) := by
                rw [← shu.out]
                by_cases e : k < j
                · exact upto_rest hk (hh e)
                · rw [show k = j by omega]
              refine ⟨g, d, by rw [hl.out], ?_, hb.out.trans (grown_below hg.out hgB hb.out.size)⟩
              rw [hl.out, ← e1]
              exact ho.out
            have h5 := lf_nn (L := r) (ps := zs) (k := k)
            by_cases hlt2 : k < j
            · by_cases hp1 : 0 < lf r zs k
              · have hz := get_at0 (ps := zs) (show k < zs.length by have := hl.out; omega)
                have R1 := R2.out.grown hg.out hgB hb.out.size
                obtain ⟨ad', e, _, hc2⟩ := R1.at_ (by omega)
                injection e with e
                subst e
                have q0 := hc2 k _ hz
                have pI := at0_in h.out.pp k
                clear hc2 R1 hz
                have h1 := upto_none (L := r) (ps := zs) (f := f) (k := k) (n := j)
                have h2 := fun a b => upto_take (L := r) (ps := zs) (f := f) (k := k) (n := j) hlt2 a b
                have h3 := lf_take (L := r) (ps := zs) (k := k)
                have h4 := lf_none (L := r) (ps := zs) (k := k)
                have stay : Hid (¬ (0 < lf r zs k ∧ 0 < at0 zs k) → HoAt w3 w.heap.size g j d r zs f (.int .i64 (lf r zs k)) (.int .i64 ((k : Int) + 1)) wr) := fun h => ⟨k + 1, rfl, hlt2, by rw [h4 h], by rw [h1 h]; exact ho.out, hg.out⟩
                have take : Hid (0 < lf r zs k → 0 < at0 zs k → HoAt w3 w.heap.size g j d r zs f (.int .i64 (lf r zs k - 1)) (.int .i64 ((k : Int) + 1)) (wr.setCell ⟨g, k, none⟩ (.int .i64 (f k + 1)))) := fun a b => by
                  refine ⟨k + 1, rfl, hlt2, by rw [h3 b a], ?_, grown_trans hg.out (grown_set _ _ _ _)⟩
                  rw [← h2 b a, ← i64s_set]
                  exact (ho.out.stored k _).1
                have q1 : wr.cell? ⟨g, k, none⟩ = some (.int .i64 (f k)) := own_cell ho.out hlt2 (by rw [lst_get hlt2, upto_at])
                have q2 : wr.frozen? ⟨g, k, none⟩ = false := ho.out.frozenAt k
                have hcap : k < d := by
                  rcases ho.out.2 with ⟨e, _⟩ | ⟨g2, cap, cur, e, _, _, h1, _⟩
                  · cases e
                  · injection e with _ _ e; omega
                have f1 := bB.out k
                clear h1 h2 h3 h4 fin
                obtain ⟨lk, hlk⟩ : ∃ x, x = lf r zs k := ⟨_, rfl⟩
                obtain ⟨pk, hpk⟩ : ∃ x, x = at0 zs k := ⟨_, rfl⟩
                obtain ⟨fk, hfk⟩ : ∃ x, x = f k := ⟨_, rfl⟩
                rw [← hlk] at stay take h5 hp1 ⊢
                rw [← hpk] at stay take q0 pI
                rw [← hfk] at take q1 f1
                clear hlk hpk hfk
                have hlk2 : lk ≤ 1099511627776 := by omega
                clear h5
                by_cases p2 : 0 < pk
                · replace take := Lib.hid (take.out hp1 p2)
                  clear stay
                  go_wp2
                  exact ⟨take.out, by simp [intOf]; omega⟩
                · replace stay := Lib.hid (stay.out (by omega))
                  clear take
                  go_wp2
                  exact ⟨stay.out, by simp [intOf]; omega⟩
              · replace fin := Lib.hid (fin.out fun _ => hp1)
                have h6 : lf r zs k ≤ 0 := by omega
                clear hp1 h5
                obtain ⟨lk, hlk⟩ : ∃ x, x = lf r zs k := ⟨_, rfl⟩
                rw [← hlk] at h6 ⊢
                clear hlk
                go_wp2
                go_ret2
                exact fin.out
            · replace fin := Lib.hid (fin.out fun e => absurd e hlt2)
              clear h5
              obtain ⟨lk, hlk⟩ : ∃ x, x = lf r zs k := ⟨_, rfl⟩
              rw [← hlk]
              clear hlk
              go_wp2
              go_ret2
              exact fin.out
end Cs
end Go.Proofs.Ytddlcfefeclioaa
