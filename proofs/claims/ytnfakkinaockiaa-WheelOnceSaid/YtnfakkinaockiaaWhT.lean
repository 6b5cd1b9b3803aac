/- Turn of a wheel. -/
import Derived.Test.YtnfakkinaockiaaWhL
import Derived.LoopTactic
namespace Go.Proofs.Ytnfakkinaockiaa
set_option maxRecDepth 100000
open Go.RowKit
open Go.Sort (grow)
open Go.Proofs.Ytnfakkinaockiaa.Pk (one_at one_free one_set lt_some grown_set grown_trans below_grown grown_refl)
namespace Wh

def iv (l : List Tm) : List Value := l.map fun t => .int .i64 t.1
theorem iv_len (l : List Tm) : (iv l).length = l.length := by simp [iv]
theorem iv_snoc (l : List Tm) (t : Tm) : iv (l ++ [t]) = iv l ++ [.int .i64 t.1] := by simp [iv]
/-- A row of numbers of the call's own. -/
abbrev RowI (w : World) (base : Nat) (v : Value) (n : Nat) (xs : List Value) : Prop := w.ownsRow base 3 1 v n xs
section
variable {w w' : World} {v v' : Value} {n base : Nat} {xs : List Value}
theorem ri_same (h : RowI w base v n xs) (hk : ∀ g, v.ownBlock = some g → w'.heap[g]? = w.heap[g]?) : RowI w' base v n xs := by
  refine ⟨h.1, ?_⟩
  rcases h.2 with h0 | ⟨g, cap, cur, hv, hb, hh, h2⟩
  · exact .inl h0
  · exact .inr ⟨g, cap, cur, hv, hb, (hk g (by rw [hv]; rfl)).trans hh, h2⟩
theorem ri_block {g : Nat} (h : RowI w base v n xs) (hg : v.ownBlock = some g) : base ≤ g ∧ ∃ cur, w.heap[g]? = some (.cells cur 3 (0, 0)) := by
  rcases h.2 with ⟨rfl, _⟩ | ⟨g', cap, cur, rfl, hb, hh, _⟩
  · simp [Value.ownBlock] at hg
  · have : g' = g := by simpa [Value.ownBlock] using hg
    subst this
    exact ⟨hb, cur, hh⟩
theorem ri_form (h : RowI w base v n xs) : ∃ A c, v = .slice A n c ∧ n ≤ c ∧ c ≤ 9223372036854775807 ∧ (A = none → c = 0) := by
  rcases h.2 with ⟨rfl, rfl⟩ | ⟨g, cap, cur, rfl, hb, hh, h1, h2, _⟩
  · exact ⟨_, _, rfl, Nat.le_refl _, by omega, fun _ => rfl⟩
  · unfold maxLen at h2
    exact ⟨_, _, rfl, h1, h2, fun h => by cases h⟩
theorem ri_mono {base' : Nat} (h : RowI w base v n xs) (hb : base' ≤ base) : RowI w base' v n xs := by
  refine ⟨h.1, ?_⟩
  rcases h.2 with h0 | ⟨g, cap, cur, hv, hB, hh, h2⟩
  · exact .inl h0
  · exact .inr ⟨g, cap, cur, hv, by omega, hh, h2⟩
/-- Such a row lies in no block of a heap of timers. -/
theorem Hpo.not_ints {h : Nat} {mo : Option Nat} {l : List Tm} {g : Nat} (H : Hpo w h l v mo) (hr : RowI w base v' n xs) (hg : v'.ownBlock = some g) : ¬ inn h v mo g := by
  obtain ⟨_, cur, hc⟩ := ri_block hr hg
  rintro (rfl | hg' | rfl)
  · have := H.cells
    rw [hc] at this
    injection this with this
    injection this with _ e
    exact absurd e (by decide)
  · obtain ⟨_, cur', hc'⟩ := rw_block H.row hg'
    rw [hc] at hc'
    injection hc' with hc'
    injection hc' with _ e
    exact absurd e (by decide)
  · obtain ⟨es, clock, hb⟩ := map_at H.map
    rw [hb] at hc
    injection hc with hc
    cases hc
end
theorem int_info : (Try.prog.info? 3).map (fun i => (i.zero, i.size, i.bytes)) = some (some (.int .i64 0), 1, 8) := by kernel_rfl
/-- append of one thing more that lies in a new block of its own. -/
theorem wpList_app1 {P : Program} (wr : World) {ops : Array Oper} {rest : List Oper} {o : Oper} {a : Act} {Q : Exit → Act → World → Prop} (hgd : o.guard = none) (s x : Operand) (t : TypeId)
    (ho : o.op = .call { callee := .builtin .append, args := #[s, x], argTypes := #[t, t] })
    (base : Nat) (e : TypeId) (i : TypeInfo) (z : Value) (bytes : Nat) (ht : P.underlying t = some (.slice e)) (hi : P.info? e = some i) (hz : i.zero = some z) (hsize : i.size = 1) (hby : i.bytes = bytes) (hzs : z.cells.size = 1)
    (v : Value) (n : Nat) (xs : List Value) (u : Value) (hs : a.eval s = v) (hown : wr.ownsRow base e 1 v n xs) (hx : a.eval x = .slice (some ⟨wr.heap.size, 0, none⟩) 1 1) (hu : u.oneCell' = true)
    (h63 : n + 1 ≤ maxLen) (hb : (n + 1) * bytes ≤ 140737488355328) (hbase : base ≤ wr.heap.size)
    (h : ∀ v' w', w'.ownsRow base e 1 v' (n + 1) (xs ++ [u]) → (wr.alloc (.cells #[u] e)).grownBy w' v.ownBlock → wpList P ops Q rest (a.put o.dst v') w') : wpList P ops Q (o :: rest) a (wr.alloc (.cells #[u] e)) :=
  wpList_append_own _ hgd s x t ho base e i z 1 bytes ht hi hz hsize hby hzs (by decide) v n xs hs (hown.alloc _) ⟨wr.heap.size, 0, none⟩ 1 1 [u] hx rfl
    (by
      intro j y hj
      match j, hj with
      | 0, hj => simp at hj; subst hj; rw [Addr.add_zero', World.cell?_alloc_mark]; rfl
      | j + 1, hj => simp at hj)
    (by intro y hy; simp at hy; subst hy; exact hu) h63 hb (by simp; omega) (fun v' w' h1 h2 _ => h v' w' h1 h2)

/-- The heap under way. -/
structure TrH (w : World) (q : Nat) (fp : Nat → Prop) (now : Int) (c : Value) (h : Nat) (S' : List Tm) (v : Value) (mo : Option Nat) (W : World) : Prop where
  he : ∃ l, Hpo W h l v mo ∧ Heap l.length l ∧ l.Perm S'
  in_ : ∀ g, inn h v mo g → fp g ∨ w.heap.size ≤ g
  kq : Kq fp w W
  at_ : W.heap[q]? = some (.cells #[.int .i64 now, c] 53 (0, 0))
section
variable {w W W' : World} {q h : Nat} {fp : Nat → Prop} {now : Int} {c v : Value} {mo : Option Nat} {S' r : List Tm} {s : Tm}
theorem TrH.lt (T : TrH w q fp now c h S' v mo W) : ∀ g, inn h v mo g → g < W.heap.size := by
  obtain ⟨l, H, _⟩ := T.he
  exact H.lt
theorem TrH.not_q (T : TrH w q fp now c h S' v mo W) : ¬ inn h v mo q := by
  obtain ⟨l, H, _⟩ := T.he
  exact H.not_wheel T.at_
theorem TrH.keep (T : TrH w q fp now c h S' v mo W) (hk : ∀ g, g < W.heap.size → inn h v mo g ∨ g = q → W'.heap[g]? = W.heap[g]?) (kq : Kq fp w W') : TrH w q fp now c h S' v mo W' := by
  obtain ⟨l, H, h2, h3⟩ := T.he
  exact ⟨⟨l, H.keep fun g hg => hk g (H.lt g hg) (.inl hg), h2, h3⟩, T.in_, kq, (hk q (lt_some T.at_) (.inr rfl)).trans T.at_⟩
theorem TrH.below (T : TrH w q fp now c h S' v mo W) (hb : Below W.heap.size W W') : TrH w q fp now c h S' v mo W' := T.keep (fun g hg _ => hb.block g hg) (T.kq.trans' (.of_below hb))
theorem TrH.drop {l : List Tm} (T : TrH w q fp now c h (s :: r) v mo W) (nd : Nd (s :: r)) (_ : Hpo W h l v mo) (hp : l.Perm (s :: r)) (k : HeTo W h v mo (without s.1 l) W') :
    ∃ v' mo', TrH w q fp now c h r v' mo' W' ∧ (∀ g, inn h v' mo' g → inn h v mo g ∨ W.heap.size ≤ g) ∧ (∀ g, g < W.heap.size → ¬ inn h v mo g → W'.heap[g]? = W.heap[g]?) ∧ W.heap.size ≤ W'.heap.size := by
  obtain ⟨l', ⟨v', mo', H2, K2, s2⟩, hh, hp2⟩ := k
  refine ⟨v', mo', ⟨⟨l', H2, hh, ?_⟩, fun g hg => ?_, T.kq.trans K2 T.in_, (K2.block q (lt_some T.at_) T.not_q).trans T.at_⟩, s2, K2.block, K2.size⟩
  · have := hp.filter (fun t => !(t.1 == s.1))
    have e : (s :: r).filter (fun t => !(t.1 == s.1)) = r := without_head nd
    rw [e] at this
    exact hp2.trans this
  · rcases s2 g hg with h1 | h1
    · exact T.in_ g h1
    · exact .inr (Nat.le_trans T.kq.size h1)
end
/-- What Turn has in its hands between two rounds. -/
def lenOf : Value → Nat | .slice _ n _ => n | _ => 0
def TrAt (w : World) (q : Nat) (fp : Nat → Prop) (now : Int) (c : Value) (h : Nat) (S : List Tm) (v5 v7 v8 : Value) (wr : World) : Prop :=
  ∃ done S' v mo tb x y n, S = done ++ S' ∧ (∀ t ∈ done, t.2 ≤ now) ∧ TrH w q fp now c h S' v mo wr ∧ n = done.length ∧ RowI wr w.heap.size v5 n (iv done) ∧ v7 = .pointer (some ⟨tb, 0, none⟩) ∧ wr.heap[tb]? = some (.cells #[.int .i64 x, .int .i64 y] 57 (0, 0)) ∧
    (∀ s, S'.head? = some s → x = s.1 ∧ y = s.2) ∧ v8 = .bool S'.head?.isSome ∧ ¬ inn h v mo tb ∧ w.heap.size ≤ tb
/-- What Turn answers. -/
def TurnTo (w : World) (q : Nat) (fp : Nat → Prop) (now : Int) (S : List Tm) (e : Ending) (w' : World) : Prop :=
  ∃ v, e = .returned v ∧ RowI w' w.heap.size v (offs now S).length (iv (offs now S)) ∧ WTo w q now (left now S) fp w'
theorem turn_split {S done S' : List Tm} {now : Int} (e : S = done ++ S') (hd : ∀ t ∈ done, t.2 ≤ now) (hs : ∀ s, S'.head? = some s → ¬ s.2 ≤ now) : offs now S = done ∧ left now S = S' := by
  subst e
  have h2 : S'.takeWhile (fun t => decide (t.2 ≤ now)) = [] := by
    cases S' with
    | nil => rfl
    | cons s r => rw [List.takeWhile_cons, if_neg (by simpa using hs s rfl)]
  have e1 : offs now (done ++ S') = done := by
    unfold offs
    rw [List.takeWhile_append_of_pos (fun t ht => decide_eq_true (hd t ht)), h2, List.append_nil]
  refine ⟨e1, ?_⟩
  have := offs_left now (done ++ S')
  rw [e1] at this
  exact List.append_cancel_left this
theorem turn_end {w W : World} {q h : Nat} {fp : Nat → Prop} {now : Int} {c v v5 : Value} {mo : Option Nat} {S done S' : List Tm} (hw : ∃ n0, WhO w q n0 S fp) (hc : (c = .nilIface ∧ S = []) ∨ c = ifh h) (T : TrH w q fp now c h S' v mo W) (e : S = done ++ S') (hd : ∀ t ∈ done, t.2 ≤ now) (hs : ∀ s, S'.head? = some s → ¬ s.2 ≤ now)
    (R : RowI W w.heap.size v5 done.length (iv done)) : TurnTo w q fp now S (.returned v5) W := by
  obtain ⟨n0, W0⟩ := hw
  obtain ⟨e1, e2⟩ := turn_split e hd hs
  refine ⟨v5, rfl, by rw [e1]; exact R, ⟨left_srt W0.srt, left_nd W0.nd, fun t ht => W0.wf t ((List.dropWhile_sublist _).subset ht), Nat.le_trans (left_len _ _) W0.few, .inl W0.pin, fun g hg => ?_, ?_⟩, T.kq⟩
  · rcases hg with hg | ⟨_, hg⟩
    · exact Nat.lt_of_lt_of_le (W0.size g hg) T.kq.size
    · exact hg
  · rcases hc with ⟨rfl, rfl⟩ | rfl
    · exact .inl ⟨T.at_, rfl⟩
    · refine .inr ⟨h, v, mo, T.at_, by rw [e2]; exact T.he, fun g hg => ?_⟩
      rcases T.in_ g hg with h1 | h1
      · exact .inl h1
      · exact .inr ⟨h1, T.lt g hg⟩
set_option maxHeartbeats 800000 in
theorem turn_no (w : World) (q : Nat) (n0 now : Int) (S : List Tm) (fp : Nat → Prop) (W : WhO w q n0 S fp) (hn : now < n0 ∨ tick now = false) : Calls Try.prog 11 #[.pointer (some ⟨q, 0, none⟩), .int .i64 now] w fun e w' => e = .returned (.slice none 0 0) ∧ w = w' := by
  have T := tick_any w now
  have c0 : w.cell? ⟨q, 0, none⟩ = some (.int .i64 n0) := by
    rcases W.at_ with ⟨h1, _⟩ | ⟨h, v, mo, h1, _⟩
    · exact one_at (i := 0) h1
    · exact one_at (i := 0) h1
  by_cases h1 : now < n0
  · have d1 : decide (now < n0) = true := decide_eq_true h1
    clear h1 hn W
    go_enter Try.func11, Try.ntmps11
    go_wp2
    go_ret
    exact ⟨rfl, rfl⟩
  · have d1 : decide (now < n0) = false := decide_eq_false h1
    have h2 : tick now = false := by
      rcases hn with h | h
      · exact absurd h h1
      · exact h
    rw [h2] at T
    replace T := Lib.hid T
    clear h1 h2 hn W
    go_enter Try.func11, Try.ntmps11
    go_wp2_with fail
    refine T.out.mono ?_
    rintro e w1 ⟨rfl, rfl⟩
    clear T
    go_wp2
    go_ret
    exact ⟨rfl, rfl⟩
theorem turn_nil (w : World) (now : Int) : Calls Try.prog 11 #[.pointer none, .int .i64 now] w fun e w' => e = .returned (.slice none 0 0) ∧ w = w' := by
  go_enter Try.func11, Try.ntmps11
  go_wp2
  go_ret
  exact ⟨rfl, rfl⟩
end Wh
end Go.Proofs.Ytnfakkinaockiaa
