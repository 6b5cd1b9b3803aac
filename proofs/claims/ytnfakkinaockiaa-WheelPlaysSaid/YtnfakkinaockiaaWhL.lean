/- New, Now, Set of a wheel. -/
import Derived.Test.YtnfakkinaockiaaWhK
namespace Go.Proofs.Ytnfakkinaockiaa
set_option maxRecDepth 100000
open Go.RowKit
open Go.Sort (grow)
open Go.Proofs.Ytnfakkinaockiaa.Pk (one_at one_free one_set lt_some grown_set grown_trans below_grown grown_refl)
namespace Wh

def tick (n : Int) : Bool := decide (0 ≤ n) && decide (n ≤ 1099511627776)
theorem tick_iff {n : Int} : tick n = true ↔ 0 ≤ n ∧ n ≤ 1099511627776 := by simp [tick]
theorem tick_any (w : World) (n : Int) : Calls Try.prog 22 #[.int .i64 n] w fun e w' => e = .returned (.bool (tick n)) ∧ w = w' := maytick_any w n
set_option maxHeartbeats 800000 in
theorem new_no (w : World) (n : Int) (hn : tick n = false) : Calls Try.prog 9 #[.int .i64 n] w fun e w' => e = .returned (.tuple #[.pointer none, .int .i64 1]) ∧ w = w' := by
  have T := tick_any w n
  rw [hn] at T
  replace T := Lib.hid T
  clear hn
  go_enter Try.func9, Try.ntmps9
  go_wp2_with fail
  refine T.out.mono ?_
  rintro e w1 ⟨rfl, rfl⟩
  clear T
  go_wp2
  go_ret2
  exact ⟨rfl, rfl⟩
set_option maxHeartbeats 800000 in
theorem new_yes (w : World) (n : Int) (hn : tick n = true) : Calls Try.prog 9 #[.int .i64 n] w fun e w' => ∃ q, e = .returned (.tuple #[.pointer (some ⟨q, 0, none⟩), .int .i64 0]) ∧ w.heap.size ≤ q ∧ WhO w' q n [] (fun g => g = q) ∧ Below w.heap.size w w' := by
  have T := tick_any w n
  rw [hn] at T
  replace T := Lib.hid T
  have E : Hid (WhO (w.alloc (.cells #[.int .i64 n, .nilIface] 53)) w.heap.size n [] (fun g => g = w.heap.size)) :=
    ⟨List.Pairwise.nil, List.nodup_nil, fun t ht => (nomatch ht), Nat.zero_le _, rfl, fun g hg => by subst hg; simp, .inl ⟨heap_alloc_new _ _, rfl⟩⟩
  have B : Hid (Below w.heap.size w (w.alloc (.cells #[.int .i64 n, .nilIface] 53))) := (Below.refl _ _).alloc (Nat.le_refl _) _
  clear hn
  go_enter Try.func9, Try.ntmps9
  go_wp2_with fail
  refine T.out.mono ?_
  rintro e w1 ⟨rfl, rfl⟩
  clear T
  go_wp2
  go_ret2
  exact ⟨_, rfl, Nat.le_refl _, E.out, B.out⟩
set_option maxHeartbeats 800000 in
theorem now_any (w : World) (q : Nat) (now : Int) (S : List Tm) (fp : Nat → Prop) (W : WhO w q now S fp) : Calls Try.prog 21 #[.pointer (some ⟨q, 0, none⟩)] w fun e w' => e = .returned (.int .i64 now) ∧ w = w' := by
  have c0 : w.cell? ⟨q, 0, none⟩ = some (.int .i64 now) := by
    rcases W.at_ with ⟨h1, _⟩ | ⟨h, v, mo, h1, _⟩
    · exact one_at (i := 0) h1
    · exact one_at (i := 0) h1
  clear W
  go_enter Try.func21, Try.ntmps21
  go_wp2
  go_ret
  exact ⟨rfl, rfl⟩
theorem now_nil (w : World) : Calls Try.prog 21 #[.pointer none] w fun e w' => e = .returned (.int .i64 0) ∧ w = w' := by
  go_enter Try.func21, Try.ntmps21
  go_wp2
  go_ret
  exact ⟨rfl, rfl⟩
theorem set_nil (w : World) (id at_ : Int) : Calls Try.prog 10 #[.pointer none, .int .i64 id, .int .i64 at_] w fun e w' => e = .returned (.int .i64 1) ∧ w = w' := by
  go_enter Try.func10, Try.ntmps10
  go_wp2
  go_ret
  exact ⟨rfl, rfl⟩
/-- What Set answers, and leaves. -/
def setE (at_ : Int) : Int := if tick at_ = true then 0 else 1
def setS (id at_ : Int) (S : List Tm) : List Tm := if tick at_ = true then sSet (id, at_) S else S
set_option maxHeartbeats 1600000 in
theorem set_any (w : World) (q : Nat) (now : Int) (S : List Tm) (fp : Nat → Prop) (W : WhO w q now S fp) (id at_ : Int) (hw : -9223372036854775808 ≤ id ∧ id ≤ 9223372036854775807) (few : S.length + 1 ≤ 100000) :
    Calls Try.prog 10 #[.pointer (some ⟨q, 0, none⟩), .int .i64 id, .int .i64 at_] w fun e w' => e = .returned (.int .i64 (setE at_)) ∧ WTo w q now (setS id at_ S) fp w' := by
  have T := tick_any w at_
  unfold setE setS
  cases ht : tick at_ with
  | false =>
    rw [ht] at T
    replace T := Lib.hid T
    have E : Hid (WTo w q now S fp w) := WTo.of_below W (Below.refl _ _)
    simp only [Bool.false_eq_true, if_false]
    clear ht W
    go_enter Try.func10, Try.ntmps10
    go_wp2_with fail
    refine T.out.mono ?_
    rintro e w1 ⟨rfl, rfl⟩
    clear T
    go_wp2
    go_ret
    exact ⟨rfl, E.out⟩
  | true =>
    rw [ht] at T
    replace T := Lib.hid T
    simp only [if_true]
    have TM := Lib.hid (timers_any w q now S fp W)
    have wt : Hid (wfT (id, at_)) := ⟨hw, tick_iff.1 ht⟩
    replace W := Lib.hid W
    replace few := Lib.hid few
    obtain ⟨c, hc⟩ : ∃ c, w.heap[q]? = some (.cells #[.int .i64 now, c] 53 (0, 0)) := by
      rcases W.out.at_ with ⟨h1, _⟩ | ⟨h, v, mo, h1, _⟩
      · exact ⟨_, h1⟩
      · exact ⟨_, h1⟩
    replace hc := Lib.hid hc
    have mp := m_put
    clear ht hw
    go_enter Try.func10, Try.ntmps10
    go_wp2_with fail
    refine T.out.mono ?_
    rintro e w1 ⟨rfl, rfl⟩
    clear T
    go_wp2_with fail
    refine TM.out.mono ?_
    rintro e w1 ⟨h, v, mo, l, rfl, H, hh, hp, hb, hi⟩
    have hq1 : w1.heap[q]? = some (.cells #[.int .i64 now, c] 53 (0, 0)) := (hb.block q (lt_some hc.out)).trans hc.out
    have k1 : w1.cell? ⟨q, 1, none⟩ = some c := one_at (i := 1) hq1
    have f1 : w1.frozen? ⟨q, 1, none⟩ = false := one_free hq1
    obtain ⟨w2, hw2⟩ : ∃ z, z = w1.setCell ⟨q, 1, none⟩ (ifh h) := ⟨_, rfl⟩
    have g2 : w1.grownBy w2 (some q) := by rw [hw2]; exact grown_set _ _ _ _
    have hq2 : Hid (w2.heap[q]? = some (.cells #[.int .i64 now, ifh h] 53 (0, 0))) := by rw [hw2]; exact one_set hq1 (ifh h)
    have H2 : Hid (Hpo w2 h l v mo) := H.keep fun g hg => g2.block g (H.lt g hg) (fun e => H.not_wheel hq1 (by injection e with e; rw [← e]; exact hg))
    have K2 : Hid (Kq fp w w2) := (Kq.of_below hb).trans' (.of_grown g2 fun g hg => by injection hg with hg; rw [← hg]; exact W.out.pin)
    have fl : Hid (l.length + 1 ≤ 1000000) := by show _ ≤ _; rw [hp.length_eq]; have := few.out; omega
    have PU := Lib.hid (put_any w2 h l v mo H2.out hh (id, at_) wt.out fl.out)
    have c2 : w2.cell? ⟨q, 1, none⟩ = some (ifh h) := one_at (i := 1) hq2.out
    replace hw2 := Lib.hid hw2
    have hp' := Lib.hid hp
    have hi' := Lib.hid hi
    unfold ifh at hw2 c2 ⊢
    clear H hh hp hb hi hq1 g2 TM
    go_wp2_with fail
    rw [← hw2.out]
    clear k1 f1 hw2
    refine PU.out.mono ?_
    rintro e w3 ⟨rfl, k⟩
    have E : Hid (WTo w q now (sSet (id, at_) S) fp w3) := he_over hq2.out W.out.pin W.out.size K2.out H2.out hi'.out k (sSet_srt W.out.srt) (sSet_nd W.out.nd) (fun t ht => by
        rcases mem_sSet.1 ht with rfl | ⟨ht, _⟩
        · exact wt.out
        · exact W.out.wf t ht) (Nat.le_trans (sSet_len _ _) few.out) (((hp'.out.filter _).cons _).trans (sSet_perm _ _).symm)
    clear k PU c2 W H2 K2
    go_wp2
    go_ret
    exact ⟨rfl, E.out⟩
end Wh
end Go.Proofs.Ytnfakkinaockiaa
