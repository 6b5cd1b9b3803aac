/- Turn of a wheel, walked. -/
import Derived.Test.YtnfakkinaockiaaWhT
namespace Go.Proofs.Ytnfakkinaockiaa
set_option maxRecDepth 100000
open Go.RowKit
open Go.Sort (grow)
open Go.Proofs.Ytnfakkinaockiaa.Pk (one_at one_free one_set lt_some grown_set grown_trans below_grown grown_refl)
namespace Wh

theorem head_told {l S : List Tm} (hh : Heap l.length l) (hp : l.Perm S) (sr : Srt S) : ∃ x y : Int, agz (if l.length = 0 then none else some (gt l 0)) = .agg #[.int .i64 x, .int .i64 y] ∧ (!decide (l.length = 0)) = S.head?.isSome ∧ ∀ s, S.head? = some s → x = s.1 ∧ y = s.2 := by
  cases S with
  | nil =>
    have : l = [] := hp.eq_nil
    subst this
    exact ⟨0, 0, rfl, rfl, fun s hs => by cases hs⟩
  | cons s r =>
    have h0 : l.length ≠ 0 := by rw [hp.length_eq]; simp
    have e := head_of hh hp sr
    rw [if_neg h0, e]
    exact ⟨s.1, s.2, rfl, by simp [h0], fun s' hs' => by injection hs' with hs'; subst hs'; exact ⟨rfl, rfl⟩⟩
/-- The heap, once the time was set. -/
theorem turn_timers {w : World} {q : Nat} {n0 now : Int} {S : List Tm} {fp : Nat → Prop} (W : WhO w q n0 S fp) : ∃ c, (w.setCell ⟨q, 0, none⟩ (.int .i64 now)).heap[q]? = some (.cells #[.int .i64 now, c] 53 (0, 0)) ∧ Kq fp w (w.setCell ⟨q, 0, none⟩ (.int .i64 now)) ∧
    Calls Try.prog 23 #[.pointer (some ⟨q, 0, none⟩)] (w.setCell ⟨q, 0, none⟩ (.int .i64 now)) (TmTo fun h v mo l w' => ((c = .nilIface ∧ S = []) ∨ c = ifh h) ∧ Tms (w.setCell ⟨q, 0, none⟩ (.int .i64 now)) S fp h v mo l w') := by
  have g := grown_set w q 0 (.int .i64 now)
  have K : Kq fp w (w.setCell ⟨q, 0, none⟩ (.int .i64 now)) := .of_grown g fun k hk => by injection hk with hk; rw [← hk]; exact W.pin
  rcases W.at_ with ⟨h1, h2⟩ | ⟨h, v, mo, h1, ⟨l, h2, h3, h4⟩, h5⟩
  · have hq := one_set (i := 0) h1 (.int .i64 now)
    refine ⟨.nilIface, hq, K, ?_⟩
    subst h2
    refine (timers_none _ q now fp hq).mono ?_
    rintro e w' ⟨h, v, mo, l, rfl, E⟩
    exact ⟨h, v, mo, l, rfl, .inl ⟨rfl, rfl⟩, E⟩
  · have hq := one_set (i := 0) h1 (.int .i64 now)
    have H2 : Hpo (w.setCell ⟨q, 0, none⟩ (.int .i64 now)) h l v mo := h2.keep fun k hk => g.block k (h2.lt k hk) (fun e => h2.not_wheel h1 (by injection e with e; rw [← e]; exact hk))
    refine ⟨ifh h, hq, K, ?_⟩
    refine (timers_some _ q h now v mo l S fp hq H2 h3 h4 h5).mono ?_
    rintro e w' ⟨h', v', mo', l', rfl, rfl, rfl, rfl, rfl, rfl, E⟩
    exact ⟨_, _, _, _, rfl, .inr rfl, E⟩
theorem turn_start {w w1 w2 w3 W : World} {q h : Nat} {fp : Nat → Prop} {now x y : Int} {c v : Value} {mo : Option Nat} {S l : List Tm} (_ : ∀ g, fp g → g < w.heap.size) (hq : w1.heap[q]? = some (.cells #[.int .i64 now, c] 53 (0, 0))) (K : Kq fp w w1) (T : Tms w1 S fp h v mo l w2) (hb : Below w2.heap.size w2 w3)
    (hx : ∀ s, S.head? = some s → x = s.1 ∧ y = s.2) (hW : W = w3.alloc (.cells #[.int .i64 x, .int .i64 y] 57)) : TrAt w q fp now c h S (.slice none 0 0) (.pointer (some ⟨w3.heap.size, 0, none⟩)) (.bool S.head?.isSome) W := by
  obtain ⟨H, hh, hp, hb1, hi⟩ := T
  have b1 : Below w1.heap.size w1 w3 := hb1.trans (hb.mono hb1.size)
  have b2 : Below w3.heap.size w3 W := by rw [hW]; exact (Below.refl _ _).alloc (Nat.le_refl _) _
  have H3 := H.below hb
  have T0 : TrH w q fp now c h S v mo w3 := ⟨⟨l, H3, hh, hp⟩, fun g hg => by
      rcases hi g hg with h1 | h1
      · exact .inl h1
      · exact .inr (Nat.le_trans K.size h1), K.trans' (.of_below b1), (b1.block q (lt_some hq)).trans hq⟩
  exact ⟨[], S, v, mo, w3.heap.size, x, y, 0, rfl, fun t ht => (nomatch ht), T0.below b2, rfl, World.ownsRow_nil _ _ _ _, rfl, by rw [hW]; exact heap_alloc_new _ _, hx, rfl, fun e => by have := T0.lt _ e; omega, Nat.le_trans K.size b1.size⟩
theorem TrAt.step {w W W2 W3 W4 W5 : World} {q h : Nat} {fp : Nat → Prop} {now x y : Int} {c v v5 v5' : Value} {mo : Option Nat} {S done r l : List Tm} {s : Tm} (eS : S = done ++ s :: r) (hd : ∀ t ∈ done, t.2 ≤ now) (hs : s.2 ≤ now) (nd : Nd (s :: r)) (T : TrH w q fp now c h (s :: r) v mo W)
    (R : RowI W w.heap.size v5 done.length (iv done)) (H : Hpo W h l v mo) (hp : l.Perm (s :: r)) (k : HeTo W h v mo (without s.1 l) W2) (R3 : ∀ (_ : RowI W2 w.heap.size v5 done.length (iv done)), RowI W3 w.heap.size v5' (done.length + 1) (iv done ++ [.int .i64 s.1])) (g3 : (W2.alloc (.cells #[.int .i64 s.1] 3)).grownBy W3 v5.ownBlock)
    (hW4 : W4 = W3.alloc (.cells #[.int .i64 s.1, .int .i64 s.2] 57)) (h5 : Below W4.heap.size W4 W5) (hx : ∀ s, r.head? = some s → x = s.1 ∧ y = s.2) : TrAt w q fp now c h S v5' (.pointer (some ⟨W3.heap.size, 0, none⟩)) (.bool r.head?.isSome) (W5.setRow W3.heap.size #[.int .i64 x, .int .i64 y]) := by
  obtain ⟨v', mo', T2, i2, o2, z2⟩ := T.drop nd H hp k
  have R2 : RowI W2 w.heap.size v5 done.length (iv done) := ri_same R fun g hg => o2 g (lt_some (ri_block R hg).2.choose_spec) (H.not_ints R hg)
  have R3' := R3 R2
  have ga : ∀ g, g < W2.heap.size → v5.ownBlock ≠ some g → W3.heap[g]? = W2.heap[g]? := fun g hg hne => (g3.block g (by simp; omega) (fun e => hne e.symm)).trans (heap_alloc_old _ _ hg)
  have z3 : W2.heap.size + 1 ≤ W3.heap.size := by have := g3.size; simpa using this
  obtain ⟨l2, H2, hh2, hp2⟩ := T2.he
  have bw : w.heap.size ≤ W2.heap.size := T2.kq.size
  have K3 : Kq fp w W3 := T2.kq.trans (S' := fun g => w.heap.size ≤ g) ⟨g3.os, g3.tape, g3.output, by omega, fun g hg hn => ga g hg (fun e => hn (ri_block R2 e).1)⟩ fun g hg => .inr hg
  have T3 : TrH w q fp now c h r v' mo' W3 := T2.keep (fun g hg hgi => ga g hg (fun e => by
      rcases hgi with hgi | rfl
      · exact H2.not_ints R2 e hgi
      · obtain ⟨_, cur, hc⟩ := ri_block R2 e
        have := T2.at_
        rw [hc] at this
        injection this with this
        injection this with _ e
        exact absurd e (by decide))) K3
  have b4 : Below W3.heap.size W3 W4 := by rw [hW4]; exact (Below.refl _ _).alloc (Nat.le_refl _) _
  have z4 : W4.heap.size = W3.heap.size + 1 := by rw [hW4]; simp
  have b5 : Below W3.heap.size W3 W5 := b4.trans (h5.mono b4.size)
  have tb5 : W5.heap[W3.heap.size]? = some (.cells #[.int .i64 s.1, .int .i64 s.2] 57 (0, 0)) := (h5.block _ (by omega)).trans (by rw [hW4]; exact heap_alloc_new _ _)
  have b6 : Below W3.heap.size W3 (W5.setRow W3.heap.size #[.int .i64 x, .int .i64 y]) := b5.trans ⟨rfl, rfl, rfl, by simp [World.setRow], fun k hk => setRow_other _ _ k _ (by omega)⟩
  refine ⟨done ++ [s], r, v', mo', W3.heap.size, x, y, done.length + 1, by rw [eS]; simp, fun t ht => ?_, T3.below b6, by simp, ?_, rfl, setRow_heap _ _ _ _ _ _ tb5, hx, rfl, fun e => by have := T3.lt _ e; omega, by omega⟩
  · rcases List.mem_append.1 ht with ht | ht
    · exact hd t ht
    · rw [List.mem_singleton] at ht
      rw [ht]
      exact hs
  · rw [iv_snoc]
    exact ri_same R3' fun g hg => b6.block g (lt_some (ri_block R3' hg).2.choose_spec)
theorem HeTo.keeps {W W2 : World} {h : Nat} {v : Value} {mo : Option Nat} {S : List Tm} (k : HeTo W h v mo S W2) : ∀ g, g < W.heap.size → ¬ inn h v mo g → W2.heap[g]? = W.heap[g]? := by
  obtain ⟨l', ⟨v', mo', H2, K2, s2⟩, _⟩ := k
  exact K2.block
theorem TrH.app {w W2 W3 : World} {q h n : Nat} {fp : Nat → Prop} {now : Int} {c v v5 u : Value} {mo : Option Nat} {r : List Tm} {xs : List Value} (T2 : TrH w q fp now c h r v mo W2) (R2 : RowI W2 w.heap.size v5 n xs) (g3 : (W2.alloc (.cells #[u] 3)).grownBy W3 v5.ownBlock) :
    TrH w q fp now c h r v mo W3 ∧ ∀ g, g < W2.heap.size → v5.ownBlock ≠ some g → W3.heap[g]? = W2.heap[g]? := by
  have ga : ∀ g, g < W2.heap.size → v5.ownBlock ≠ some g → W3.heap[g]? = W2.heap[g]? := fun g hg hne => (g3.block g (by simp; omega) (fun e => hne e.symm)).trans (heap_alloc_old _ _ hg)
  have z3 : W2.heap.size + 1 ≤ W3.heap.size := by have := g3.size; simpa using this
  obtain ⟨l2, H2, hh2, hp2⟩ := T2.he
  have bw : w.heap.size ≤ W2.heap.size := T2.kq.size
  have K3 : Kq fp w W3 := T2.kq.trans (S' := fun g => w.heap.size ≤ g) ⟨g3.os, g3.tape, g3.output, by omega, fun g hg hn => ga g hg (fun e => hn (ri_block R2 e).1)⟩ fun g hg => .inr hg
  exact ⟨T2.keep (fun g hg hgi => ga g hg (fun e => by
      rcases hgi with hgi | rfl
      · exact H2.not_ints R2 e hgi
      · obtain ⟨_, cur, hc⟩ := ri_block R2 e
        have := T2.at_
        rw [hc] at this
        injection this with this
        injection this with _ e
        exact absurd e (by decide))) K3, ga⟩
theorem ri_not_tm {w : World} {v : Value} {n base g : Nat} {xs : List Value} {cs : Array Value} (h : RowI w base v n xs) (hg : w.heap[g]? = some (.cells cs 57 (0, 0))) : v.ownBlock ≠ some g := fun e => by
  obtain ⟨_, cur, hc⟩ := ri_block h e
  rw [hc] at hg
  injection hg with hg
  injection hg with _ e
  exact absurd e (by decide)
set_option maxHeartbeats 6400000 in
theorem turn_yes (w : World) (q : Nat) (n0 now : Int) (S : List Tm) (fp : Nat → Prop) (W : WhO w q n0 S fp) (hn : n0 ≤ now) (ht : tick now = true) :
    Calls Try.prog 11 #[.pointer (some ⟨q, 0, none⟩), .int .i64 now] w (TurnTo w q fp now S) := by
  have T := tick_any w now
  rw [ht] at T
  obtain ⟨c, hq, K, TM⟩ := turn_timers (now := now) W
  have c0 : w.cell? ⟨q, 0, none⟩ = some (.int .i64 n0) ∧ w.frozen? ⟨q, 0, none⟩ = false := by
    rcases W.at_ with ⟨h1, _⟩ | ⟨h, v, mo, h1, _⟩
    · exact ⟨one_at (i := 0) h1, one_free h1⟩
    · exact ⟨one_at (i := 0) h1, one_free h1⟩
  obtain ⟨c0, f0⟩ := c0
  have d1 : decide (now < n0) = false := decide_eq_false (by omega)
  obtain ⟨w1, hw1⟩ : ∃ z, z = w.setCell ⟨q, 0, none⟩ (.int .i64 now) := ⟨_, rfl⟩
  rw [← hw1] at hq K TM
  have sr : Hid (Srt S) := W.srt
  have nd : Hid (Nd S) := W.nd
  have wf : Hid (∀ t ∈ S, wfT t) := W.wf
  have hfew : Hid (S.length ≤ 100000) := W.few
  have hsz : Hid (∀ g, fp g → g < w.heap.size) := W.size
  have W0 : Hid (∃ n0, WhO w q n0 S fp) := ⟨n0, W⟩
  replace T := Lib.hid T
  replace TM := Lib.hid TM
  replace hq := Lib.hid hq
  replace K := Lib.hid K
  replace hw1 := Lib.hid hw1
  have m1 := m_first
  have m2 := m_drop
  obtain ⟨i0, hi, hz0, hz1, hz2⟩ := info_parts int_info
  replace hi := Lib.hid hi
  replace hz0 := Lib.hid hz0
  replace hz1 := Lib.hid hz1
  replace hz2 := Lib.hid hz2
  clear W hn ht
  go_enter Try.func11, Try.ntmps11
  go_wp2_with fail
  refine T.out.mono ?_
  rintro e w0 ⟨rfl, rfl⟩
  clear T
  go_wp2_with fail
  rw [← hw1.out]
  clear c0 f0 d1 hw1
  refine TM.out.mono ?_
  rintro e w2 ⟨h, v, mo, l, rfl, hc, TS⟩
  have F := first_any w2 h l v mo TS.1
  obtain ⟨x, y, e1, e2, e3⟩ := head_told TS.2.1 TS.2.2.1 sr.out
  rw [e1, e2] at F
  have st : Hid (∀ w3 W, Below w2.heap.size w2 w3 → W = w3.alloc (.cells #[.int .i64 x, .int .i64 y] 57) → TrAt w q fp now c h S (.slice none 0 0) (.pointer (some ⟨w3.heap.size, 0, none⟩)) (.bool S.head?.isSome) W) := fun w3 W hb hW => turn_start hsz.out hq.out K.out TS hb e3 hW
  obtain ⟨b0, hb0⟩ : ∃ b, b = S.head?.isSome := ⟨_, rfl⟩
  rw [← hb0] at F st
  replace F := Lib.hid F
  replace hc := Lib.hid hc
  unfold ifh
  clear TM TS e1 e2 e3 hq K hb0
  go_wp2_with fail
  refine F.out.mono ?_
  rintro e w3 ⟨rfl, hb3⟩
  have st2 := Lib.hid (st.out w3 _ hb3 rfl)
  clear F hb3 st
  go_wp2_with fail
  generalize w3.alloc (.cells #[.int .i64 x, .int .i64 y] 57) = w4 at *
  generalize w3.heap.size = tb0 at *
  go_loopw [5, 7, 8] (fun v5 v7 v8 wr => TrAt w q fp now c h S v5 v7 v8 wr) (fun v5 _ _ _ => S.length + 1 - lenOf v5)
  case atStart => exact st2.out
  case round =>
    clear st2
    obtain ⟨done, S', v, mo, tb, x, y, n, eS, hd, T, hn, R, rfl, ht, hx, rfl, htb, hwb⟩ := hrel
    have t0 : wr.cell? ⟨tb, 0, none⟩ = some (.int .i64 x) := one_at (i := 0) ht
    have t1 : wr.cell? ⟨tb, 1, none⟩ = some (.int .i64 y) := one_at (i := 1) ht
    have E : Hid ((∀ s, S'.head? = some s → ¬ s.2 ≤ now) → ∃ v, u5 = v ∧ TurnTo w q fp now S (.returned v) wr) := fun hs => ⟨u5, rfl, turn_end W0.out hc.out T eS hd hs (by rw [← hn]; exact R)⟩
    obtain ⟨A, cc, rfl, hc1, hc2, _⟩ := ri_form R
    cases S' with
    | nil =>
      have E2 : Hid (TurnTo w q fp now S (.returned (.slice A n cc)) wr) := by
        obtain ⟨v, rfl, E⟩ := E.out (fun s hs => by cases hs)
        exact E
      simp only [List.head?_nil, Option.isSome]
      clear E hd T R ht hx htb eS hn hwb
      go_wp2
      go_ret
      exact E2.out
    | cons s r =>
      obtain ⟨rfl, rfl⟩ := hx s rfl
      simp only [List.head?_cons, Option.isSome]
      by_cases hle : s.2 ≤ now
      · have d1 : decide (s.2 ≤ now) = true := decide_eq_true hle
        obtain ⟨l, H, hh, hp⟩ := T.he
        have hnd : Nd (s :: r) := by
          have := nd.out
          rw [eS] at this
          unfold Nd at this ⊢
          exact this.sublist ((List.sublist_append_right _ _).map _)
        have hsr : Hid (Srt r) := by
          have := sr.out
          rw [eS] at this
          exact (List.pairwise_cons.1 (List.pairwise_append.1 this).2.1).2
        have hws : wfT s := wf.out s (by rw [eS]; simp)
        have hnS : Hid (n + 1 ≤ S.length) := by show _ ≤ _; rw [eS, hn]; simp
        have D := Lib.hid (drop_any wr h l v mo H hh s.1 hws.1)
        have htl := lt_some ht
        have k2 : Hid (∀ W2, HeTo wr h v mo (without s.1 l) W2 → RowI W2 w.heap.size (.slice A n cc) n (iv done) ∧ W2.heap[tb]? = some (.cells #[.int .i64 s.1, .int .i64 s.2] 57 (0, 0)) ∧ w.heap.size ≤ W2.heap.size ∧ ∃ v' mo', TrH w q fp now c h r v' mo' W2) := fun W2 k => by
          obtain ⟨v', mo', T2, _, _, z2⟩ := T.drop hnd H hp k
          exact ⟨ri_same R fun g hg => k.keeps g (lt_some (ri_block R hg).2.choose_spec) (H.not_ints R hg), (k.keeps tb htl htb).trans ht, T2.kq.size, v', mo', T2⟩
        have SP : Hid (∀ W2 W3 W5 v5' x y, HeTo wr h v mo (without s.1 l) W2 → RowI W3 w.heap.size v5' (n + 1) (iv done ++ [.int .i64 s.1]) → (W2.alloc (.cells #[.int .i64 s.1] 3)).grownBy W3 (Value.slice A n cc).ownBlock → Below (W3.alloc (.cells #[.int .i64 s.1, .int .i64 s.2] 57)).heap.size (W3.alloc (.cells #[.int .i64 s.1, .int .i64 s.2] 57)) W5 → (∀ s, r.head? = some s → x = s.1 ∧ y = s.2) →
            TrAt w q fp now c h S v5' (.pointer (some ⟨W3.heap.size, 0, none⟩)) (.bool r.head?.isSome) (W5.setRow W3.heap.size #[.int .i64 x, .int .i64 y])) := fun W2 W3 W5 v5' x y k R3 g3 h5 hx => by
          subst hn
          exact TrAt.step eS hd hle hnd T R H hp k (fun _ => R3) g3 rfl h5 hx
        obtain ⟨a, ha⟩ : ∃ z, z = s.1 := ⟨_, rfl⟩
        obtain ⟨b, hb⟩ : ∃ z, z = s.2 := ⟨_, rfl⟩
        rw [← ha] at D k2 SP t0
        rw [← hb] at k2 SP d1 t1
        have hfw := hfew.out
        have hn1 : Hid (n ≤ 100000) := by have := hnS.out; show _ ≤ _; omega
        obtain ⟨dn, hdn⟩ : ∃ z, z = iv done := ⟨_, rfl⟩
        rw [← hdn] at k2 SP
        rw [← ha] at ht
        replace hwb := Lib.hid hwb
        clear E T R ht hx htb eS hn hd hle hh hp hnd hws htl hfw H ha hb hdn
        go_wp2_with fail
        refine D.out.mono ?_
        rintro e w2 ⟨rfl, k⟩
        obtain ⟨R2, tb2, z2, v', mo', T2⟩ := k2.out w2 k
        have t0' : w2.cell? ⟨tb, 0, none⟩ = some (.int .i64 a) := one_at (i := 0) tb2
        replace R2 := Lib.hid R2
        replace k := Lib.hid k
        replace T2 := Lib.hid T2
        replace tb2 := Lib.hid tb2
        clear D k2 t0 t1
        go_upto_region 11 with (at_builtin; go_loud (refine wpList_app1 w2 rfl (.tmp 51) (.tmp 54) 22 rfl w.heap.size 3 i0 (.int .i64 0) 8 Try.underlying22 hi.out hz0.out hz1.out hz2.out rfl _ n dn (.int .i64 a) rfl R2.out rfl rfl (by have := hn1.out; unfold maxLen; omega) (by have := hn1.out; omega) z2 ?_); intro v6 w6 hown6 hg6; have o6 := Lib.hid hown6; have g6 := Lib.hid hg6; clear hown6 hg6)
        obtain ⟨T3, ga⟩ := T2.out.app R2.out g6.out
        have tb3 := (ga tb (lt_some tb2.out) (ri_not_tm R2.out tb2.out)).trans tb2.out
        have t0 : w6.cell? ⟨tb, 0, none⟩ = some (.int .i64 a) := one_at (i := 0) tb3
        have t1 : w6.cell? ⟨tb, 1, none⟩ = some (.int .i64 b) := one_at (i := 1) tb3
        obtain ⟨w7, hw7⟩ : ∃ z, z = w6.alloc (.cells #[.int .i64 a, .int .i64 b] 57) := ⟨_, rfl⟩
        have b7 : Below w6.heap.size w6 w7 := by rw [hw7]; exact (Below.refl _ _).alloc (Nat.le_refl _) _
        have n7 : Hid (w7.heap[w6.heap.size]? = some (.cells #[.int .i64 a, .int .i64 b] 57 (0, 0))) := by rw [hw7]; exact heap_alloc_new _ _
        obtain ⟨l2, H7, hh7, hp7⟩ := (T3.below b7).he
        have F := first_any w7 h l2 v' mo' H7
        obtain ⟨x, y, e1, e2, e3⟩ := head_told hh7 hp7 hsr.out
        rw [e1, e2] at F
        have SQ : Hid (∀ W5, Below w7.heap.size w7 W5 → TrAt w q fp now c h S v6 (.pointer (some ⟨w6.heap.size, 0, none⟩)) (.bool r.head?.isSome) (W5.setRow w6.heap.size #[.int .i64 x, .int .i64 y])) := fun W5 h5 => SP.out w2 w6 W5 v6 x y k.out o6.out g6.out (by rw [← hw7]; exact h5) e3
        obtain ⟨A6, c6, rfl, hc61, hc62, _⟩ := ri_form o6.out
        obtain ⟨b0, hb0⟩ : ∃ b, b = r.head?.isSome := ⟨_, rfl⟩
        rw [← hb0] at F SQ
        replace F := Lib.hid F
        replace hw7 := Lib.hid hw7
        clear SP T2 T3 ga tb2 tb3 b7 H7 hh7 hp7 e1 e2 e3 R2 k hb0 o6 g6 t0'
        obtain ⟨tq, htq⟩ : ∃ z, z = w6.heap.size := ⟨_, rfl⟩
        rw [← htq] at n7 SQ
        replace htq := Lib.hid htq
        go_upto_region 8 with fail
        rw [← hw7.out, ← htq.out]
        clear t0 t1 hw7
        go_wp2_with fail
        refine F.out.mono ?_
        rintro e w8 ⟨rfl, hb8⟩
        have n8 : Hid (w8.heap[tq]? = some (.cells #[.int .i64 a, .int .i64 b] 57 (0, 0))) := (hb8.block tq (lt_some n7.out)).trans n7.out
        have nx := Lib.hid (SQ.out w8 hb8)
        clear F hb8 n7 SQ
        go_wp2_with (refine tm_store rfl 57 (.tmp 7) (.tmp 45) rfl tq #[.int .i64 x, .int .i64 y] rfl rfl 57 #[.int .i64 a, .int .i64 b] n8.out tm_info rfl (by simp [Value.oneCell']) ?_)
        exact ⟨nx.out, by have := hnS.out; simp [lenOf]; omega⟩
      · have d1 : decide (s.2 ≤ now) = false := decide_eq_false hle
        have E2 : Hid (TurnTo w q fp now S (.returned (.slice A n cc)) wr) := by
          obtain ⟨v, rfl, E⟩ := E.out (fun s' hs => by injection hs with hs; subst hs; exact hle)
          exact E
        obtain ⟨b, hb⟩ : ∃ z, z = s.2 := ⟨_, rfl⟩
        rw [← hb] at d1 t1
        clear E hd T R ht hx htb eS hn hwb hle hb
        go_wp2
        go_ret
        exact E2.out
end Wh
end Go.Proofs.Ytnfakkinaockiaa
