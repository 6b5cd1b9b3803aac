/- The program's Share, whole. -/
import Derived.Test.YtddlcfefeclioaaCsS
namespace Go.Proofs.Ytddlcfefeclioaa
open Go.RowKit
namespace Cs

theorem i64_info : (Try.prog.info? 2).map (fun i => (i.zero, i.size, i.bytes)) = some (some (.int .i64 0), 1, 8) := by kernel_rfl
/-- What a division that may be leaves: its shares, in memory of their own. -/
def ShareTo (all : Int) (ps : List Int) (w : World) (e : Ending) (w' : World) : Prop :=
  ∃ g c, e = .returned (.tuple #[.slice (some ⟨g, 0, none⟩) ps.length c, .int .i64 0]) ∧ w'.ownsRow w.heap.size 2 1 (.slice (some ⟨g, 0, none⟩) ps.length c) ps.length (i64s (lst ps.length (share all ps))) ∧ Below w.heap.size w w'
def ShareNo (w : World) (e : Ending) (w' : World) : Prop := e = .returned (.tuple #[.slice none 0 0, .int .i64 1]) ∧ w = w'
/-- The shares' first k, rounded down. -/
def down (all : Int) (ps : List Int) (k i : Nat) : Int := if i < k then base all (ttl ps) ps i else 0
theorem down_zero (all : Int) (ps : List Int) (n : Nat) : i64s (lst n (down all ps 0)) = List.replicate n (.int .i64 0) := by
  unfold i64s lst
  rw [List.map_map, List.eq_replicate_iff]
  exact ⟨by simp, fun b hb => by simp [down] at hb; exact hb.2.symm⟩
theorem down_set {all : Int} {ps : List Int} {k n : Nat} (hk : k < n) : (lst n (down all ps k)).set k (base all (ttl ps) ps k) = lst n (down all ps (k + 1)) := by
  apply lst_set hk
  · exact if_pos (by omega)
  · intro i _ e
    unfold down
    by_cases h : i < k
    · rw [if_pos (by omega), if_pos h]
    · rw [if_neg (by omega), if_neg h]
theorem down_all (all : Int) (ps : List Int) : lst ps.length (down all ps ps.length) = lst ps.length (base all (ttl ps) ps) := lst_congr fun _ hi => if_pos hi
theorem share_upto (all : Int) (ps : List Int) : lst ps.length (upto (rest all ps) ps (base all (ttl ps) ps) ps.length) = lst ps.length (share all ps) := lst_congr fun _ hi => if_pos hi
def ShAt (w1 : World) (base g n : Nat) (all : Int) (ps : List Int) (l i : Value) (wr : World) : Prop :=
  ∃ k : Nat, i = .int .i64 k ∧ k ≤ n ∧ l = .int .i64 (left all (ttl ps) ps k) ∧ wr.ownsRow base 2 1 (.slice (some ⟨g, 0, none⟩) n n) n (i64s (lst n (down all ps k))) ∧ w1.grownBy wr (some g)

set_option maxHeartbeats 1600000 in
theorem share_no (all : Int) (A : Option Addr) (n c : Nat) (zs : List Int) (w : World) (R : Ri w w.heap.size A n zs) (hn : n ≤ 9223372036854775807) (h : ¬ May all zs) :
    Calls Try.prog 18 #[.int .i64 all, .slice A n c] w (ShareNo w) := by
  have C := Lib.hid (may_any all A n c zs w R hn false (by simpa using h))
  clear R h
  go_enter Try.func18, Try.ntmps18
  go_wp2_with fail
  refine C.out.mono ?_
  rintro e w' ⟨rfl, rfl⟩
  go_wp2
  go_ret2
  exact ⟨rfl, rfl⟩

set_option maxHeartbeats 4000000 in
set_option maxRecDepth 100000 in
theorem share_yes (all : Int) (A : Option Addr) (n c : Nat) (zs : List Int) (w : World) (R : Ri w w.heap.size A n zs) (h : May all zs) :
    Calls Try.prog 18 #[.int .i64 all, .slice A n c] w (ShareTo all zs w) := by
  have hl := Lib.hid R.len
  have hn1 : 1 ≤ n := by have := h.n0; have := hl.out; omega
  have hn2 : n ≤ 100 := by have := h.n1; have := hl.out; omega
  have a0 := h.a0
  have a1 := h.a1
  obtain ⟨i0, hi, hz0, hz1, hz2⟩ := info_parts i64_info
  obtain ⟨ad, rfl⟩ := ri_bound R (by omega)
  have C := Lib.hid (may_any all (some ad) n c zs w R (by omega) true (by simpa using h))
  have C2 := Lib.hid (total_any (some ad) n c zs w R (by omega))
  have ht := h.ttl
  have et : totv zs = ttl zs := totv_of (tot_all h.pp (by have := h.n1; omega))
  have ee : tote zs = 0 := tote_of (tot_all h.pp (by have := h.n1; omega))
  unfold TotTo at C2
  rw [et, ee] at C2
  clear et ee
  replace h := Lib.hid h
  replace R := Lib.hid R
  obtain ⟨T, hT⟩ : ∃ T, T = ttl zs := ⟨_, rfl⟩
  rw [← hT] at C2 ht
  replace hT := Lib.hid hT
  have hz0' := Lib.hid hz0
  have hz1' := Lib.hid hz1
  have hz2' := Lib.hid hz2
  have hi' := Lib.hid hi
  clear hz0 hz1 hz2 hi
  go_enter Try.func18, Try.ntmps18
  go_wp2_with fail
  refine C.out.mono ?_
  rintro e w' ⟨rfl, rfl⟩
  go_wp2_with fail
  refine C2.out.mono ?_
  rintro e w1 ⟨rfl, b1⟩
  have be1 := Lib.hid b1
  clear b1 C C2
  go_wp2_with (at_make; go_loud (refine wpList_make_full _ rfl _ _ 22 rfl w.heap.size 2 i0 (.int .i64 0) 1 Try.underlying22 hi'.out hz0'.out hz1'.out .i64 .i64 _ _ n rfl rfl rfl rfl ?c1 ?c2 ?c3 ?_))
  case c1 => rw [hz2'.out]; omega
  case c2 => unfold maxLen; omega
  case c3 => exact be1.out.size
  intro w2 hown2 hg2
  have hsz2 : w1.heap.size < w2.heap.size := by
    rcases hown2.2 with ⟨e, _⟩ | ⟨g, cap, cur, e, hb, hh, _⟩
    · cases e
    · have := lt_some hh
      injection e with e _ _
      injection e with e
      injection e with e
      omega
  have O2 : Hid (w2.ownsRow w.heap.size 2 1 (.slice (some ⟨w1.heap.size, 0, none⟩) n n) n (i64s (lst n (down all zs 0)))) := by
    have e : (madeCells #[Value.int .i64 0] n).toList = i64s (lst n (down all zs 0)) := by
      rw [down_zero]
      exact toList_madeCells_one _ _
    rw [e] at hown2
    exact hown2
  have be2 : Hid (Below w.heap.size w w2) := be1.out.grown hg2 be1.out.size (fun k hk => by cases hk)
  obtain ⟨g, hge⟩ : ∃ g, g = w1.heap.size := ⟨_, rfl⟩
  have hgB : w.heap.size ≤ g := by rw [hge]; exact be1.out.size
  rw [← hge] at O2 hsz2 ⊢
  have st : Hid (ShAt w2 w.heap.size g n all zs (.int .i64 all) (.int .i64 0) w2) := ⟨0, rfl, Nat.zero_le _, by unfold left; simp [sm], O2.out, grown_refl _ _⟩
  clear hown2 hg2 hge O2 be1
  have R2 : Hid (Ri w2 w.heap.size (some ad) n zs) := R.out.below be2.out
  clear hz0' hz1' hz2' hi' R
  go_wp2_with fail
  go_loopw [9, 27] (fun l i wr => ShAt w2 w.heap.size g n all zs l i wr) (fun _ i _ => n - (intOf i).toNat)
  case atStart => exact st.out
  case round =>
    obtain ⟨k, rfl, hk, rfl, ho, hg⟩ := hrel
    replace ho := Lib.hid ho
    replace hg := Lib.hid hg
    by_cases hlt : k < n
    · have hz := get_at0 (ps := zs) (show k < zs.length by have := hl.out; omega)
      have R1 := R2.out.grown hg.out hgB be2.out.size
      obtain ⟨ad', e, _, hc⟩ := R1.at_ (by omega)
      injection e with e
      subst e
      have q0 := hc k _ hz
      have pI := at0_in h.out.pp k
      have pB := prod_bound a0 a1 pI
      have bB := base_bound h.out k
      have lB := left_bound h.out k (by have := hl.out; omega)
      have e1 : all * at0 zs k / T = base all (ttl zs) zs k := by rw [hT.out]; rfl
      have nx : Hid (∀ wx, wx = wr.setCell ⟨g, k, none⟩ (.int .i64 (base all (ttl zs) zs k)) → ShAt w2 w.heap.size g n all zs (.int .i64 (left all (ttl zs) zs k - base all (ttl zs) zs k)) (.int .i64 ((k : Int) + 1)) wx) := fun wx e => by
        subst e
        refine ⟨k + 1, rfl, hlt, by rw [left_succ], ?_, grown_trans hg.out (grown_set _ _ _ _)⟩
        rw [← down_set hlt, ← i64s_set]
        exact (ho.out.stored k _).1
      have q1 : ∃ v0, wr.cell? ⟨g, k, none⟩ = some v0 := ⟨_, own_cell ho.out hlt (lst_get hlt)⟩
      obtain ⟨v0, q1⟩ := q1
      have q2 : wr.frozen? ⟨g, k, none⟩ = false := ho.out.frozenAt k
      clear hc R1 hz
      obtain ⟨pk, hpk⟩ : ∃ x, x = at0 zs k := ⟨_, rfl⟩
      obtain ⟨bk, hbk⟩ : ∃ x, x = base all (ttl zs) zs k := ⟨_, rfl⟩
      obtain ⟨lk, hlk⟩ : ∃ x, x = left all (ttl zs) zs k := ⟨_, rfl⟩
      rw [← hpk] at q0 pI pB e1
      rw [← hbk] at e1 bB nx
      rw [← hlk] at nx lB ⊢
      obtain ⟨y, hy⟩ : ∃ y, y = all * pk := ⟨_, rfl⟩
      have hy2 := hy.symm
      rw [hy2] at e1 pB
      clear hpk hbk hlk hy
      go_wp2
      exact ⟨nx.out _ rfl, by simp [intOf]; omega⟩
    · obtain rfl : k = n := by omega
      have er : left all (ttl zs) zs k = rest all zs := by unfold rest; rw [hl.out]
      have rB := rest_bound h.out
      have rB2 : rest all zs ≤ all := by rw [← er]; exact (left_bound h.out k (by have := hl.out; omega)).2
      have eo : lst k (down all zs k) = lst k (base all (ttl zs) zs) := by have := down_all all zs; rwa [hl.out] at this
      rw [er]
      have ho2 : wr.ownsRow w.heap.size 2 1 (.slice (some ⟨g, 0, none⟩) k k) k (i64s (lst k (base all (ttl zs) zs))) := by have := ho.out; rwa [eo] at this
      have be3 : Hid (Below w.heap.size w wr) := be2.out.trans (grown_below hg.out hgB be2.out.size)
      have H := Lib.hid (hand_any (rest all zs) ad k c w.heap.size g k zs (base all (ttl zs) zs) wr (R2.out.grown hg.out hgB be2.out.size) ho2 hgB be3.out.size (by omega) rB.1 (by omega) (fun i _ => base_bound h.out i))
      clear er eo ho2 rB rB2
      obtain ⟨r, hr⟩ : ∃ r, r = rest all zs := ⟨_, rfl⟩
      rw [← hr] at H ⊢
      replace hr := Lib.hid hr
      go_wp2_with fail
      with_reducible refine H.out.mono ?_
      rintro e w4 ⟨rfl, ho4, hg4⟩
      have Q : Hid (ShareTo all zs w (.returned (.tuple #[.slice (some ⟨g, 0, none⟩) k k, .int .i64 0])) w4) := by
        have e1 := share_upto all zs
        have hl2 := hl.out
        refine ⟨g, k, by rw [hl2], ?_, be3.out.trans (grown_below hg4 hgB be3.out.size)⟩
        rw [← e1, hl2, ← hr.out]
        exact ho4
      clear ho4 hg4
      go_wp2
      go_ret2
      exact Q.out
end Cs
end Go.Proofs.Ytddlcfefeclioaa
