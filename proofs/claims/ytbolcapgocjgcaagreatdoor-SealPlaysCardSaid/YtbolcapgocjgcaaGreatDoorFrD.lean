/- Read: the frames gone over by a closure, the records one behind the other. -/
import Derived.Test.YtbolcapgocjgcaaGreatDoorFrC
namespace Go.Proofs.YtbolcapgocjgcaaGreatDoor
set_option maxRecDepth 100000
open Go.RowKit
open Go.Proofs.YtbolcapgocjgcaaGreatDoor.Pk
namespace Fr

theorem own_keep {w w' : World} {base n : Nat} {e : TypeId} {v : Value} {xs : List Value} (h : w.ownsRow base e 1 v n xs) (hk : ∀ g, v.ownBlock = some g → w'.heap[g]? = w.heap[g]?) : w'.ownsRow base e 1 v n xs := by
  refine ⟨h.1, ?_⟩
  rcases h.2 with h0 | ⟨g, cap, cur, hv, hb, hh, h2⟩
  · exact .inl h0
  · exact .inr ⟨g, cap, cur, hv, hb, (hk g (by rw [hv]; rfl)).trans hh, h2⟩
theorem own_apart {w : World} {base n g : Nat} {e t : TypeId} {cs : Array Value} {v : Value} {xs : List Value} (h : w.ownsRow base e 1 v n xs) (hg : w.heap[g]? = some (.cells cs t (0, 0))) (ht : t ≠ e) : v.ownBlock ≠ some g := by
  rcases h.2 with ⟨rfl, _⟩ | ⟨g', cap, cur, rfl, _, hh, _⟩
  · simp [Value.ownBlock]
  · intro he
    have e1 : g' = g := by simpa [Value.ownBlock] using he
    subst e1
    rw [hh] at hg
    injection hg with hg
    injection hg with _ e2
    exact ht e2.symm
/-- append of one thing more that lies in a new block of its own. -/
theorem wpList_append_1 {P : Program} (wr : World) {ops : Array Oper} {rest : List Oper} {o : Oper} {a : Act} {Q : Exit → Act → World → Prop} (hgd : o.guard = none) (s x : Operand) (t : TypeId)
    (ho : o.op = .call { callee := .builtin .append, args := #[s, x], argTypes := #[t, t] })
    (base : Nat) (e : TypeId) (i : TypeInfo) (z : Value) (bytes : Nat) (ht : P.underlying t = some (.slice e)) (hi : P.info? e = some i) (hz : i.zero = some z) (hsize : i.size = 1) (hby : i.bytes = bytes) (hzs : z.cells.size = 1)
    (v : Value) (n : Nat) (xs : List Value) (u : Value) (hs : a.eval s = v) (hown : wr.ownsRow base e 1 v n xs) (hx : a.eval x = .slice (some ⟨wr.heap.size, 0, none⟩) 1 1) (hu : u.oneCell' = true)
    (h63 : n + 1 ≤ maxLen) (hb : (n + 1) * bytes ≤ 140737488355328) (hbase : base ≤ wr.heap.size)
    (h : ∀ v' w', w'.ownsRow base e 1 v' (n + 1) (xs ++ [u]) → (wr.alloc (.cells #[u] e)).grownBy w' v.ownBlock → wpList P ops Q rest (a.put o.dst v') w') : wpList P ops Q (o :: rest) a (wr.alloc (.cells #[u] e)) :=
  wpList_append_own _ hgd s x t ho base e i z 1 bytes ht hi hz hsize hby hzs (by decide) v n xs hs (hown.alloc _) ⟨wr.heap.size, 0, none⟩ 1 1 [u] hx rfl
    (by
      intro j y hj
      match j, hj with
      | 0, hj => simp at hj; subst hj; rw [Addr.add_zero', World.cell?_alloc_mark]; rfl
      | j + 1, hj => simp at hj)
    (by intro y hy; simp at hy; subst hy; exact hu) h63 hb (by simp; omega) (fun v' w' h1 h2 _ => h v' w' h1 h2)

/-- A slice of the call's own, of slices of bytes. -/
def El (w : World) (base : Nat) (r : List UInt8) (u : Value) : Prop := ∃ A c, u = .slice A r.length c ∧ r.length ≤ c ∧ c ≤ 9223372036854775807 ∧ Rb w (fun g => base ≤ g ∧ Row w g) A r.length r
def Lst (w : World) (base : Nat) (v : Value) (l : List (List UInt8)) : Prop :=
  ∃ xs, w.ownsRow base 39 1 v l.length xs ∧ ∀ (i : Nat) (r : List UInt8), l[i]? = some r → ∃ u, xs[i]? = some u ∧ El w base r u
theorem El.keep {w w' : World} {base : Nat} {r : List UInt8} {u : Value} (h : El w base r u) (hk : ∀ g, base ≤ g → Row w g → w'.heap[g]? = w.heap[g]?) : El w' base r u := by
  obtain ⟨A, c, h1, h2, h3, h4⟩ := h
  exact ⟨A, c, h1, h2, h3, h4.keep (fun g hg => hk g hg.1 hg.2) (fun g hg => ⟨hg.1, hg.2.same (hk g hg.1 hg.2)⟩)⟩
theorem Lst.nil (w : World) (base : Nat) : Lst w base (.slice none 0 0) [] := ⟨[], World.ownsRow_nil _ _ _ _, fun i r h => by simp at h⟩
theorem Lst.keep {w w' : World} {base : Nat} {v : Value} {l : List (List UInt8)} (h : Lst w base v l) (hk : ∀ g, base ≤ g → (Row w g ∨ v.ownBlock = some g) → w'.heap[g]? = w.heap[g]?) : Lst w' base v l := by
  obtain ⟨xs, h1, h2⟩ := h
  exact ⟨xs, own_keep h1 (fun g hg => hk g (h1.lt g hg).1 (.inr hg)), fun i r hi => by
    obtain ⟨u, hu, hE⟩ := h2 i r hi
    exact ⟨u, hu, hE.keep fun g hg hr => hk g hg (.inl hr)⟩⟩
theorem Lst.below {w w' : World} {base : Nat} {v : Value} {l : List (List UInt8)} (h : Lst w base v l) (hb : Below w.heap.size w w') : Lst w' base v l :=
  h.keep fun g _ hg => hb.block g (by
    rcases hg with hg | hg
    · exact hg.lt
    · obtain ⟨xs, h1, _⟩ := h
      exact (h1.lt g hg).2)
theorem Lst.grown {w w' : World} {base p : Nat} {v : Value} {l : List (List UInt8)} {cs : Array Value} {t : TypeId} (h : Lst w base v l) (hg : w.grownBy w' (some p)) (hp : w.heap[p]? = some (.cells cs t (0, 0))) (h1 : t ≠ 5) (h2 : t ≠ 39) : Lst w' base v l :=
  h.keep fun g _ hq => by
    obtain ⟨xs, ho, _⟩ := h
    rcases hq with hq | hq
    · exact hg.block g hq.lt (fun e => hq.ne_ hp h1 (by injection e))
    · exact hg.block g (ho.lt g hq).2 (fun e => own_apart ho hp h2 (by rw [hq, e]))
theorem Lst.snoc {w w' : World} {base : Nat} {v v' u : Value} {l : List (List UInt8)} {r : List UInt8} {xs : List Value} (ho : w.ownsRow base 39 1 v l.length xs) (hE : ∀ (i : Nat) (r : List UInt8), l[i]? = some r → ∃ u, xs[i]? = some u ∧ El w base r u) (hu : El w base r u)
    (h' : w'.ownsRow base 39 1 v' (l.length + 1) (xs ++ [u])) (hg : (w.alloc (.cells #[u] 39)).grownBy w' v.ownBlock) : Lst w' base v' (l ++ [r]) := by
  have hk : ∀ g, base ≤ g → Row w g → w'.heap[g]? = w.heap[g]? := fun g _ hr => by
    have hl := hr.lt
    refine (hg.block g (by simp; omega) (fun e => ?_)).trans (heap_alloc_old w _ hl)
    obtain ⟨cur, hc⟩ := hr
    exact own_apart ho hc (by decide) e.symm
  have hlen : xs.length = l.length := by have := ho.1; omega
  refine ⟨xs ++ [u], by rw [List.length_append]; exact h', fun i r' hi => ?_⟩
  rw [List.getElem?_append] at hi ⊢
  split at hi
  · obtain ⟨y, hy, hy2⟩ := hE i r' hi
    rw [if_pos (by omega)]
    exact ⟨y, hy, hy2.keep hk⟩
  · rename_i hge
    have hi0 : i - l.length = 0 := by
      rcases Nat.eq_zero_or_pos (i - l.length) with e | e
      · exact e
      · rw [List.getElem?_eq_none (by simp; omega)] at hi; cases hi
    rw [hi0] at hi
    simp only [List.getElem?_cons_zero, Option.some.injEq] at hi
    subst hi
    rw [if_neg (by omega), hlen, hi0]
    exact ⟨u, rfl, hu.keep hk⟩

/-- What the closure does. -/
def CloTo (w : World) (pat : Nat) (bs : List UInt8) (p : Nat) (e : Ending) (w' : World) : Prop :=
  (one (bs.drop p) = none ∧ e = .returned (.tuple #[.slice none 0 0, .int .i64 (-1)]) ∧ w = w') ∨
  (∃ r A c, one (bs.drop p) = some r ∧ e = .returned (.tuple #[.slice A r.length c, .int .i64 ((p + (6 + r.length) : Nat) : Int)]) ∧ r.length ≤ c ∧ c ≤ 9223372036854775807 ∧ Rb w' (fun g => w.heap.size ≤ g ∧ Row w' g) A r.length r ∧
    w'.heap[pat]? = some (.cells #[.int .i64 ((p + (6 + r.length) : Nat) : Int)] 3 (0, 0)) ∧ w.grownBy w' (some pat))
set_option maxHeartbeats 800000 in
theorem clo_any (w : World) (pb pat : Nat) {T : Nat → Prop} (A : Option Addr) (n c p : Nat) (bs : List UInt8) (h : Rb w T A n bs) (hT : ∀ g, T g → g < w.heap.size) (ht : Tab w) (hnc : n ≤ c) (hc : c ≤ 9223372036854775807) (hp : p ≤ n) (hn : n ≤ 1000000)
    (h1 : w.heap[pb]? = some (.cells #[.slice A n c] 39 (0, 0))) (h2 : w.heap[pat]? = some (.cells #[.int .i64 p] 3 (0, 0))) :
    Calls Tryz.prog 80 #[.pointer (some ⟨pb, 0, none⟩), .pointer (some ⟨pat, 0, none⟩)] w (CloTo w pat bs p) := by
  have c1 : w.cell? ⟨pb, 0, none⟩ = some (.slice A n c) := one_at h1
  have c2 : w.cell? ⟨pat, 0, none⟩ = some (.int .i64 p) := one_at h2
  have O := Lib.hid (one_any w A n c (p : Int) bs h hT ht hnc hc (by omega))
  have e1 := oneAt_nat (bs := bs) (p := p) (by have := h.len; omega)
  replace e1 := Lib.hid e1
  replace h2 := Lib.hid h2
  clear h hT ht h1
  go_enter Tryz.func80, Tryz.ntmps80
  go_wp2_with fail
  refine O.out.mono ?_
  rintro e w' (⟨q1, rfl, rfl⟩ | ⟨r, v, q1, rfl, q3, q4⟩)
  · have F : Hid (CloTo w pat bs p (.returned (.tuple #[.slice none 0 0, .int .i64 (-1)])) w) := .inl ⟨e1.out.symm.trans q1, rfl, rfl⟩
    clear q1
    go_wp2
    go_ret2
    exact F.out
  · obtain ⟨A', c', rfl⟩ := own_form q3
    have k2 : w'.heap[pat]? = _ := (q4.block pat (lt_some h2.out)).trans h2.out
    have f2 : w'.frozen? ⟨pat, 0, none⟩ = false := one_free k2
    have l2 := one_at (i := 0) k2
    obtain ⟨q, hq⟩ : ∃ q, q = p + (6 + r.length) := ⟨_, rfl⟩
    have hq2 : (p : Int) + (6 + (r.length : Int)) = (q : Int) := by omega
    rw [hq2]
    have F : Hid (CloTo w pat bs p (.returned (.tuple #[.slice A' r.length c', .int .i64 (q : Int)])) (w'.setCell ⟨pat, 0, none⟩ (.int .i64 (q : Int)))) := by
      obtain ⟨hc1, hc2⟩ := own_cap q3
      unfold maxLen at hc2
      refine .inr ⟨r, A', c', e1.out.symm.trans q1, by rw [hq], hc1, by omega, ?_, ?_, grown_trans (below_grown q4 _) (grown_set _ _ _ _)⟩
      · have R := Rb.of_own q3
        exact R.keep (fun g hg => Below.heap_setCell _ _ _ _ (hg.2.ne_ k2 (by decide))) (fun g hg => ⟨hg.1, hg.2.same (Below.heap_setCell _ _ _ _ (hg.2.ne_ k2 (by decide)))⟩)
      · rw [one_set k2, hq]; rfl
    have hq0 : 0 ≤ (q : Int) := by omega
    clear q1 q3 q4 k2 hq hq2
    go_wp2
    go_ret2
    exact F.out

/-- What stands in Read's hands between two rounds. -/
def Cur (w : World) (pat base : Nat) (bs : List UInt8) (q : Nat) (vr vb : Value) : Prop :=
  (one (bs.drop q) = none ∧ vr = .slice none 0 0 ∧ vb = .int .i64 (-1)) ∨
  (∃ r A c, one (bs.drop q) = some r ∧ vr = .slice A r.length c ∧ r.length ≤ c ∧ c ≤ 9223372036854775807 ∧ Rb w (fun g => base ≤ g ∧ Row w g) A r.length r ∧ vb = .int .i64 ((q + (6 + r.length) : Nat) : Int) ∧
    w.heap[pat]? = some (.cells #[.int .i64 ((q + (6 + r.length) : Nat) : Int)] 3 (0, 0)))
def ReadAt (w : World) (A : Option Addr) (n c : Nat) (bs : List UInt8) (vl ve vr vb : Value) (wr : World) : Prop :=
  ∃ l q, ve = .int .i64 (q : Nat) ∧ Goes bs 0 l q ∧ q ≤ n ∧ Lst wr (w.heap.size + 2) vl l ∧ Below w.heap.size w wr ∧ w.heap.size + 2 ≤ wr.heap.size ∧ wr.heap[w.heap.size]? = some (.cells #[.slice A n c] 39 (0, 0)) ∧ Cur wr (w.heap.size + 1) (w.heap.size + 2) bs q vr vb
/-- What Read answers. -/
def ReadTo (w : World) (bs : List UInt8) (e : Ending) (w' : World) : Prop :=
  ∃ v l q, e = .returned (.tuple #[v, .int .i64 (q : Nat)]) ∧ Got bs l q ∧ Lst w' w.heap.size v l ∧ Below w.heap.size w w'
theorem Lst.mono {w : World} {base base' : Nat} {v : Value} {l : List (List UInt8)} (h : Lst w base v l) (hb : base' ≤ base) : Lst w base' v l := by
  obtain ⟨xs, h1, h2⟩ := h
  refine ⟨xs, ⟨h1.1, ?_⟩, fun i r hi => ?_⟩
  · rcases h1.2 with h0 | ⟨g, cap, cur, hv, hB, hq⟩
    · exact .inl h0
    · exact .inr ⟨g, cap, cur, hv, by omega, hq⟩
  · obtain ⟨u, hu, A, c, e1, e2, e3, e4⟩ := h2 i r hi
    exact ⟨u, hu, A, c, e1, e2, e3, e4.keep (fun _ _ => rfl) (fun g hg => ⟨by have := hg.1; omega, hg.2⟩)⟩

theorem sl_info : (Tryz.prog.info? 39).map (fun i => (i.zero, i.size, i.bytes)) = some (some (.slice none 0 0), 1, 24) := by kernel_rfl
end Fr
end Go.Proofs.YtbolcapgocjgcaaGreatDoor
