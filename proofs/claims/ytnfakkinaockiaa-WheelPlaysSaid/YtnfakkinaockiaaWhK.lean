/- A wheel in memory: New, timers, Len, Now, At, Next, Off. -/
import Derived.Test.YtnfakkinaockiaaWhJ
namespace Go.Proofs.Ytnfakkinaockiaa
set_option maxRecDepth 100000
open Go.RowKit
open Go.Sort (grow)
open Go.Proofs.Ytnfakkinaockiaa.Pk (one_at one_free one_set lt_some grown_set grown_trans below_grown grown_refl)
namespace Wh

def grq (S : Nat → Prop) (w w' : World) : Nat → Prop := fun g => S g ∨ (w.heap.size ≤ g ∧ g < w'.heap.size)
abbrev ifh (h : Nat) : Value := .iface 61 (.pointer (some ⟨h, 0, none⟩))
/-- The heap h holds S, in what lies in fp. -/
structure HoS (w : World) (h : Nat) (v : Value) (mo : Option Nat) (S : List Tm) (fp : Nat → Prop) : Prop where
  he : ∃ l, Hpo w h l v mo ∧ Heap l.length l ∧ l.Perm S
  in_ : ∀ g, inn h v mo g → fp g
/-- The wheel at q: what time it is, its timers S, rising, in what lies in fp. -/
structure WhO (w : World) (q : Nat) (now : Int) (S : List Tm) (fp : Nat → Prop) : Prop where
  srt : Srt S
  nd : Nd S
  wf : ∀ t ∈ S, wfT t
  few : S.length ≤ 100000
  pin : fp q
  size : ∀ g, fp g → g < w.heap.size
  at_ : (w.heap[q]? = some (.cells #[.int .i64 now, .nilIface] 53 (0, 0)) ∧ S = []) ∨ ∃ h v mo, w.heap[q]? = some (.cells #[.int .i64 now, ifh h] 53 (0, 0)) ∧ HoS w h v mo S fp
def WTo (w : World) (q : Nat) (now : Int) (S : List Tm) (fp : Nat → Prop) (w' : World) : Prop := WhO w' q now S (grq fp w w') ∧ Kq fp w w'
section
variable {w w' w1 w2 : World} {q h : Nat} {now : Int} {v : Value} {mo : Option Nat} {S : List Tm} {fp fp' : Nat → Prop}
theorem HoS.keep (H : HoS w h v mo S fp) (hk : ∀ g, fp g → w'.heap[g]? = w.heap[g]?) : HoS w' h v mo S fp := by
  obtain ⟨l, h1, h2, h3⟩ := H.he
  exact ⟨⟨l, h1.keep fun g hg => hk g (H.in_ g hg), h2, h3⟩, H.in_⟩
theorem HoS.mono (H : HoS w h v mo S fp) (hf : ∀ g, fp g → fp' g) : HoS w h v mo S fp' := ⟨H.he, fun g hg => hf g (H.in_ g hg)⟩
theorem WhO.keep (W : WhO w q now S fp) (hs : w.heap.size ≤ w'.heap.size) (hk : ∀ g, fp g → w'.heap[g]? = w.heap[g]?) : WhO w' q now S fp := by
  refine ⟨W.srt, W.nd, W.wf, W.few, W.pin, fun g hg => Nat.lt_of_lt_of_le (W.size g hg) hs, ?_⟩
  rcases W.at_ with ⟨h1, h2⟩ | ⟨h, v, mo, h1, h2⟩
  · exact .inl ⟨(hk q W.pin).trans h1, h2⟩
  · exact .inr ⟨h, v, mo, (hk q W.pin).trans h1, h2.keep hk⟩
theorem WhO.below (W : WhO w q now S fp) (hb : Below w.heap.size w w') : WhO w' q now S fp := W.keep hb.size fun g hg => hb.block g (W.size g hg)
theorem WhO.mono (W : WhO w q now S fp) (hf : ∀ g, fp g → fp' g) (hs : ∀ g, fp' g → g < w.heap.size) : WhO w q now S fp' := by
  refine ⟨W.srt, W.nd, W.wf, W.few, hf q W.pin, hs, ?_⟩
  rcases W.at_ with ⟨h1, h2⟩ | ⟨h, v, mo, h1, h2⟩
  · exact .inl ⟨h1, h2⟩
  · exact .inr ⟨h, v, mo, h1, h2.mono hf⟩
theorem WTo.of_below (W : WhO w q now S fp) (hb : Below w.heap.size w w') : WTo w q now S fp w' :=
  ⟨(W.below hb).mono (fun _ h => .inl h) fun g hg => by
    rcases hg with hg | ⟨_, hg⟩
    · exact Nat.lt_of_lt_of_le (W.size g hg) hb.size
    · exact hg, .of_below hb⟩
theorem Hpo.not_wheel {l : List Tm} {cs : Array Value} (H : Hpo w h l v mo) (hq : w.heap[q]? = some (.cells cs 53 (0, 0))) : ¬ inn h v mo q := by
  rintro (rfl | hg | rfl)
  · have := H.cells
    rw [hq] at this
    injection this with this
    injection this with _ e
    exact absurd e (by decide)
  · obtain ⟨_, cur, hc⟩ := rw_block H.row hg
    rw [hq] at hc
    injection hc with hc
    injection hc with _ e
    exact absurd e (by decide)
  · obtain ⟨es, clock, hb⟩ := map_at H.map
    rw [hq] at hb
    injection hb with hb
    cases hb
/-- Behind a call on the heap. -/
theorem he_over {l S' S2 : List Tm} (hq : w1.heap[q]? = some (.cells #[.int .i64 now, ifh h] 53 (0, 0))) (fq : fp q) (hs : ∀ g, fp g → g < w.heap.size) (K : Kq fp w w1) (H1 : Hpo w1 h l v mo) (hi : ∀ g, inn h v mo g → fp g ∨ w.heap.size ≤ g)
    (T : HeTo w1 h v mo S' w2) (sr : Srt S2) (nd : Nd S2) (wf : ∀ t ∈ S2, wfT t) (few : S2.length ≤ 100000) (pm : S'.Perm S2) : WTo w q now S2 fp w2 := by
  obtain ⟨l', ⟨v', mo', H2, K2, s2⟩, hh, hp⟩ := T
  have hq2 := (K2.block q (lt_some hq) (H1.not_wheel hq)).trans hq
  have hsz := Nat.le_trans K.size K2.size
  refine ⟨⟨sr, nd, wf, few, .inl fq, fun g hg => ?_, .inr ⟨h, v', mo', hq2, ⟨l', H2, hh, hp.trans pm⟩, fun g hg => ?_⟩⟩, K.trans K2 hi⟩
  · rcases hg with hg | ⟨_, hg⟩
    · exact Nat.lt_of_lt_of_le (hs g hg) hsz
    · exact hg
  · rcases s2 g hg with h1 | h1
    · rcases hi g h1 with h2 | h2
      · exact .inl h2
      · exact .inr ⟨h2, H2.lt g hg⟩
    · exact .inr ⟨Nat.le_trans K.size h1, H2.lt g hg⟩
end

/-! ### timers -/
def TmTo (P : Nat → Value → Option Nat → List Tm → World → Prop) (e : Ending) (w' : World) : Prop := ∃ h v mo l, e = .returned (ifh h) ∧ P h v mo l w'
/-- What timers answers: the heap of these. -/
def Tms (w : World) (S : List Tm) (fp : Nat → Prop) (h : Nat) (v : Value) (mo : Option Nat) (l : List Tm) (w' : World) : Prop := Hpo w' h l v mo ∧ Heap l.length l ∧ l.Perm S ∧ Below w.heap.size w w' ∧ ∀ g, inn h v mo g → fp g ∨ w.heap.size ≤ g
theorem new_hpo (w : World) : Hpo (w.alloc (.cells #[.slice none 0 0, .map none] 65)) w.heap.size [] (.slice none 0 0) none :=
  ⟨heap_alloc_new _ _, World.ownsRow_nil _ _ _ _, .inl ⟨rfl, rfl⟩, List.nodup_nil, fun _ ht => (nomatch ht), Nat.zero_le _⟩
theorem new_tms (w : World) (fp : Nat → Prop) : Tms w [] fp w.heap.size (.slice none 0 0) none [] (w.alloc (.cells #[.slice none 0 0, .map none] 65)) :=
  ⟨new_hpo w, fun k _ hk => by simp at hk, List.Perm.refl _, (Below.refl _ _).alloc (Nat.le_refl _) _, fun g hg => by
    rcases hg with hg | hg | hg
    · exact .inr (by omega)
    · simp [Value.ownBlock] at hg
    · cases hg⟩
theorem if_eq1 (a : Addr) (w : World) : (binOp .eql 51 (.iface 61 (.pointer (some a))) .nilIface).run Try.prog w = .ok (.bool false) w := by kernel_rfl
theorem if_eq2 (w : World) : (binOp .eql 51 .nilIface .nilIface).run Try.prog w = .ok (.bool true) w := by kernel_rfl
set_option maxHeartbeats 800000 in
theorem timers_nil (w : World) (fp : Nat → Prop) : Calls Try.prog 23 #[.pointer none] w (TmTo (Tms w [] fp)) := by
  have E := Lib.hid (new_tms w fp)
  go_enter Try.func23, Try.ntmps23
  go_wp2
  go_ret
  exact ⟨_, _, _, _, rfl, E.out⟩
set_option maxHeartbeats 800000 in
/-- Where no timer has been set. -/
theorem timers_none (w : World) (q : Nat) (now : Int) (fp : Nat → Prop) (hq : w.heap[q]? = some (.cells #[.int .i64 now, .nilIface] 53 (0, 0))) : Calls Try.prog 23 #[.pointer (some ⟨q, 0, none⟩)] w (TmTo (Tms w [] fp)) := by
  have E := Lib.hid (new_tms w fp)
  have c1 : w.cell? ⟨q, 1, none⟩ = some .nilIface := one_at (i := 1) hq
  have e2 := if_eq2
  clear hq
  go_enter Try.func23, Try.ntmps23
  go_wp2
  go_ret
  exact ⟨_, _, _, _, rfl, E.out⟩
set_option maxHeartbeats 800000 in
theorem timers_some (w : World) (q h : Nat) (now : Int) (v : Value) (mo : Option Nat) (l S : List Tm) (fp : Nat → Prop) (hq : w.heap[q]? = some (.cells #[.int .i64 now, ifh h] 53 (0, 0))) (H : Hpo w h l v mo) (hh : Heap l.length l) (hp : l.Perm S) (hi : ∀ g, inn h v mo g → fp g) :
    Calls Try.prog 23 #[.pointer (some ⟨q, 0, none⟩)] w (TmTo fun h' v' mo' l' w' => h' = h ∧ v' = v ∧ mo' = mo ∧ l' = l ∧ w' = w ∧ Tms w S fp h v mo l w) := by
  have E : Hid (Tms w S fp h v mo l w) := ⟨H, hh, hp, Below.refl _ _, fun g hg => .inl (hi g hg)⟩
  have c1 : w.cell? ⟨q, 1, none⟩ = some (ifh h) := one_at (i := 1) hq
  unfold ifh at c1
  have e2 := if_eq1 ⟨h, 0, none⟩
  clear hq H hh hp hi
  go_enter Try.func23, Try.ntmps23
  go_wp2
  go_ret
  exact ⟨_, _, _, _, rfl, rfl, rfl, rfl, rfl, rfl, E.out⟩
/-- .. of any wheel. -/
theorem timers_any (w : World) (q : Nat) (now : Int) (S : List Tm) (fp : Nat → Prop) (W : WhO w q now S fp) : Calls Try.prog 23 #[.pointer (some ⟨q, 0, none⟩)] w (TmTo (Tms w S fp)) := by
  rcases W.at_ with ⟨h1, h2⟩ | ⟨h, v, mo, h1, ⟨l, h2, h3, h4⟩, h5⟩
  · rw [h2]
    exact timers_none w q now fp h1
  · refine (timers_some w q h now v mo l S fp h1 h2 h3 h4 h5).mono ?_
    rintro e w' ⟨h', v', mo', l', rfl, rfl, rfl, rfl, rfl, rfl, E⟩
    exact ⟨_, _, _, _, rfl, E⟩

/-! ### what is asked -/
def tm2 (o : Option Tm) : Int := o.elim 0 (·.2)
theorem agz_is (o : Option Tm) : ∃ x, agz o = .agg #[.int .i64 x, .int .i64 (tm2 o)] := ⟨_, rfl⟩
set_option maxHeartbeats 800000 in
theorem wlen_of (w : World) (rv : Value) (S : List Tm) (fp : Nat → Prop) (T : Calls Try.prog 23 #[rv] w (TmTo (Tms w S fp))) : Calls Try.prog 13 #[rv] w fun e w' => e = .returned (.int .i64 (S.length : Nat)) ∧ Below w.heap.size w w' := by
  have ml := m_Len
  replace T := Lib.hid T
  go_enter Try.func13, Try.ntmps13
  go_wp2_with fail
  refine T.out.mono ?_
  rintro e w1 ⟨h, v, mo, l, rfl, H, hh, hp, hb, hi⟩
  have LN := len_any w1 h l v mo H
  rw [hp.length_eq] at LN
  replace LN := Lib.hid LN
  replace hb := Lib.hid hb
  clear H hh hp hi T
  unfold ifh
  go_wp2_with fail
  refine LN.out.mono ?_
  rintro e w2 ⟨rfl, rfl⟩
  clear LN
  go_wp2
  go_ret
  exact ⟨rfl, hb.out⟩
set_option maxHeartbeats 800000 in
theorem at_of (w : World) (rv : Value) (S : List Tm) (fp : Nat → Prop) (T : Calls Try.prog 23 #[rv] w (TmTo (Tms w S fp))) (nd : Nd S) (id : Int) (hw : -9223372036854775808 ≤ id ∧ id ≤ 9223372036854775807) :
    Calls Try.prog 18 #[rv, .int .i64 id] w fun e w' => e = .returned (.tuple #[.int .i64 (tm2 (fnd id S)), .bool (fnd id S).isSome]) ∧ Below w.heap.size w w' := by
  obtain ⟨y, hy⟩ : ∃ x, x = tm2 (fnd id S) := ⟨_, rfl⟩
  obtain ⟨z, hz⟩ : ∃ x, x = (fnd id S).isSome := ⟨_, rfl⟩
  rw [← hy, ← hz]
  replace hy := Lib.hid hy
  replace hz := Lib.hid hz
  have ml := m_find
  replace T := Lib.hid T
  replace hw := Lib.hid hw
  replace nd := Lib.hid nd
  go_enter Try.func18, Try.ntmps18
  go_wp2_with fail
  refine T.out.mono ?_
  rintro e w1 ⟨h, v, mo, l, rfl, H, hh, hp, hb, hi⟩
  have F := find_any w1 h l v mo H id hw.out
  rw [fnd_perm nd.out hp] at F
  obtain ⟨x, hx⟩ := agz_is (fnd id S)
  rw [hx, ← hy.out, ← hz.out] at F
  clear hx
  replace F  := Lib.hid F
  replace hb := Lib.hid hb
  clear H hh hp hi T
  unfold ifh
  go_wp2_with fail
  refine F.out.mono ?_
  rintro e w2 ⟨rfl, hb2⟩
  have E : Hid (∀ o, Below w.heap.size w (w2.alloc o)) := fun o => (hb.out.trans (hb2.mono hb.out.size)).alloc (Nat.le_trans hb.out.size hb2.size) _
  clear F hb hb2
  go_wp2
  go_ret2
  exact ⟨rfl, E.out _⟩
set_option maxHeartbeats 800000 in
theorem next_of (w : World) (rv : Value) (S : List Tm) (fp : Nat → Prop) (T : Calls Try.prog 23 #[rv] w (TmTo (Tms w S fp))) (sr : Srt S) :
    Calls Try.prog 20 #[rv] w fun e w' => e = .returned (.tuple #[.int .i64 (tm2 S.head?), .bool S.head?.isSome]) ∧ Below w.heap.size w w' := by
  obtain ⟨y, hy⟩ : ∃ x, x = tm2 S.head? := ⟨_, rfl⟩
  obtain ⟨z, hz⟩ : ∃ x, x = S.head?.isSome := ⟨_, rfl⟩
  rw [← hy, ← hz]
  replace hy := Lib.hid hy
  replace hz := Lib.hid hz
  have ml := m_first
  replace T := Lib.hid T
  replace sr := Lib.hid sr
  go_enter Try.func20, Try.ntmps20
  go_wp2_with fail
  refine T.out.mono ?_
  rintro e w1 ⟨h, v, mo, l, rfl, H, hh, hp, hb, hi⟩
  have F := first_any w1 h l v mo H
  have e1 : (if l.length = 0 then none else some (gt l 0)) = S.head? ∧ (!decide (l.length = 0)) = S.head?.isSome := by
    cases hS : S with
    | nil =>
      rw [hS] at hp
      have : l = [] := hp.eq_nil
      subst this
      exact ⟨rfl, rfl⟩
    | cons s r =>
      rw [hS] at hp
      have h0 : l.length ≠ 0 := by rw [hp.length_eq]; simp
      have := head_of hh hp (hS ▸ sr.out)
      rw [if_neg h0, this]
      exact ⟨rfl, by simp [h0]⟩
  rw [e1.1, e1.2] at F
  obtain ⟨x, hx⟩ := agz_is (S.head?)
  rw [hx, ← hy.out, ← hz.out] at F
  clear hx
  replace F  := Lib.hid F
  replace hb := Lib.hid hb
  clear H hh hp hi T e1
  unfold ifh
  go_wp2_with fail
  refine F.out.mono ?_
  rintro e w2 ⟨rfl, hb2⟩
  have E : Hid (∀ o, Below w.heap.size w (w2.alloc o)) := fun o => (hb.out.trans (hb2.mono hb.out.size)).alloc (Nat.le_trans hb.out.size hb2.size) _
  clear F hb hb2
  go_wp2
  go_ret2
  exact ⟨rfl, E.out _⟩
/-- What Off leaves of the heap. -/
def OffTo (P : Nat → Value → Option Nat → List Tm → World → Prop) (id : Int) (e : Ending) (w' : World) : Prop := ∃ h v mo l w1, P h v mo l w1 ∧ e = .returned (.bool (fnd id l).isSome) ∧ HeTo w1 h v mo (without id l) w'
set_option maxHeartbeats 800000 in
theorem off_of (w : World) (rv : Value) (P : Nat → Value → Option Nat → List Tm → World → Prop) (hP : ∀ h v mo l w', P h v mo l w' → Hpo w' h l v mo ∧ Heap l.length l) (T : Calls Try.prog 23 #[rv] w (TmTo P)) (id : Int) (hw : -9223372036854775808 ≤ id ∧ id ≤ 9223372036854775807) :
    Calls Try.prog 15 #[rv, .int .i64 id] w (OffTo P id) := by
  have ml := m_drop
  replace T := Lib.hid T
  replace hw := Lib.hid hw
  replace hP := Lib.hid hP
  go_enter Try.func15, Try.ntmps15
  go_wp2_with fail
  refine T.out.mono ?_
  rintro e w1 ⟨h, v, mo, l, rfl, p⟩
  obtain ⟨H, hh⟩ := hP.out _ _ _ _ _ p
  have F := Lib.hid (drop_any w1 h l v mo H hh id hw.out)
  replace p := Lib.hid p
  clear H hh T hP
  unfold ifh
  go_wp2_with fail
  refine F.out.mono ?_
  rintro e w2 ⟨rfl, k⟩
  have E : Hid (OffTo P id (.returned (.bool (fnd id l).isSome)) w2) := ⟨h, v, mo, l, w1, p.out, rfl, k⟩
  clear F k p
  go_wp2
  go_ret
  exact E.out
theorem off_any (w : World) (q : Nat) (now : Int) (S : List Tm) (fp : Nat → Prop) (W : WhO w q now S fp) (id : Int) (hw : -9223372036854775808 ≤ id ∧ id ≤ 9223372036854775807) :
    Calls Try.prog 15 #[.pointer (some ⟨q, 0, none⟩), .int .i64 id] w fun e w' => e = .returned (.bool (fnd id S).isSome) ∧ WTo w q now (without id S) fp w' := by
  rcases W.at_ with ⟨h1, h2⟩ | ⟨h, v, mo, h1, ⟨l, h2, h3, h4⟩, h5⟩
  · subst h2
    refine (off_of w _ _ (fun h v mo l w' p => ⟨p.1, p.2.1⟩) (timers_none w q now (fun _ => False) h1) id hw).mono ?_
    rintro e w' ⟨h, v, mo, l, w1, ⟨H, hh, hp, hb, hi⟩, rfl, l', ⟨v', mo', H2, K2, s2⟩, _⟩
    have : l = [] := hp.eq_nil
    subst this
    exact ⟨rfl, WTo.of_below W (hb.trans (K2.below (B := w.heap.size) (fun g hg => by
      rcases hi g hg with h | h
      · exact h.elim
      · exact h) hb.size))⟩
  · refine (off_of w _ _ (fun h v mo l w' p => by
        obtain ⟨rfl, rfl, rfl, rfl, rfl, p⟩ := p
        exact ⟨p.1, p.2.1⟩) (timers_some w q h now v mo l S fp h1 h2 h3 h4 h5) id hw).mono ?_
    rintro e w' ⟨h', v', mo', l', w1, ⟨rfl, rfl, rfl, rfl, rfl, p⟩, rfl, k⟩
    refine ⟨by rw [fnd_perm W.nd h4], he_over h1 W.pin W.size (Kq.refl _ _) h2 (fun g hg => .inl (h5 g hg)) k (without_srt W.srt id) (without_nd W.nd id) (fun t ht => W.wf t (mem_without.1 ht).1) (Nat.le_trans (without_len _ _) W.few) (h4.filter _)⟩
theorem off_nil (w : World) (id : Int) (hw : -9223372036854775808 ≤ id ∧ id ≤ 9223372036854775807) : Calls Try.prog 15 #[.pointer none, .int .i64 id] w fun e w' => e = .returned (.bool false) ∧ Below w.heap.size w w' := by
  refine (off_of w _ _ (fun h v mo l w' p => ⟨p.1, p.2.1⟩) (timers_nil w (fun _ => False)) id hw).mono ?_
  rintro e w' ⟨h, v, mo, l, w1, ⟨H, hh, hp, hb, hi⟩, rfl, l', ⟨v', mo', H2, K2, s2⟩, _⟩
  have : l = [] := hp.eq_nil
  subst this
  exact ⟨rfl, hb.trans (K2.below (B := w.heap.size) (fun g hg => by
      rcases hi g hg with h | h
      · exact h.elim
      · exact h) hb.size)⟩

/-! ### New, mayTick, Now -/
theorem maytick_any (w : World) (n : Int) : Calls Try.prog 22 #[.int .i64 n] w fun e w' => e = .returned (.bool (decide (0 ≤ n) && decide (n ≤ 1099511627776))) ∧ w = w' := by
  go_enter Try.func22, Try.ntmps22
  by_cases h1 : 0 ≤ n
  · by_cases h2 : n ≤ 1099511627776
    · have e1 : decide (0 ≤ n) = true := decide_eq_true h1
      have e2 : decide (n ≤ 1099511627776) = true := decide_eq_true h2
      rw [e1, e2]
      clear e1 e2
      go_wp2
      go_ret
      exact ⟨rfl, rfl⟩
    · have e1 : decide (0 ≤ n) = true := decide_eq_true h1
      have e2 : decide (n ≤ 1099511627776) = false := decide_eq_false h2
      rw [e1, e2]
      clear e1 e2
      go_wp2
      go_ret
      exact ⟨rfl, rfl⟩
  · have e1 : decide (0 ≤ n) = false := decide_eq_false h1
    rw [e1]
    clear e1
    go_wp2
    go_ret
    exact ⟨by simp, rfl⟩
end Wh
end Go.Proofs.Ytnfakkinaockiaa
