/- want: Put and PutOp. -/
import Derived.Test.YtidfpbnepdjagaaDoorWtD
import Derived.Test.YtidfpbnepdjagaaDoorWtC
namespace Go.Proofs.YtidfpbnepdjagaaDoor
open Go.RowKit Go.Proofs.YtidfpbnepdjagaaDoor.Pk
namespace Wt

def wz (x : Wan) : List Int := [x.book, x.cust, x.dead, x.u0, x.u1, x.u2, x.price]
def raw (x : Wan) : List UInt8 := cat (wz x)
def oz (o : Opn) : List Int := [o.kind, o.book, o.units, o.cust, o.amount]
def rawOp (o : Opn) : List UInt8 := cat (oz o)
theorem may_I {x : Wan} (h : may x = true) : ∀ z ∈ wz x, I z := by
  unfold may inR mayU at h
  simp only [Bool.and_eq_true, decide_eq_true_iff] at h
  intro z hz
  simp only [wz, List.mem_cons, List.not_mem_nil, or_false] at hz
  unfold I
  rcases hz with rfl | rfl | rfl | rfl | rfl | rfl | rfl <;> omega
theorem mayop_I {o : Opn} (h : mayOp o = true) : ∀ z ∈ oz o, I z := by
  have hk : 1 ≤ o.kind ∧ o.kind ≤ 6 ∧ 1 ≤ o.book ∧ o.book ≤ 200 := by
    apply Classical.byContradiction
    intro hn
    rw [mayop_out (by omega)] at h
    cases h
  rw [mayop_in hk.1 hk.2.1 hk.2.2.1 hk.2.2.2] at h
  unfold inR at h
  intro z hz
  simp only [oz, List.mem_cons, List.not_mem_nil, or_false] at hz
  unfold I
  split at h <;> split at h <;> simp only [Bool.and_eq_true, decide_eq_true_iff, beq_iff_eq] at h <;> rcases hz with rfl | rfl | rfl | rfl | rfl <;> omega

/-- What Put leaves: bytes of its own, or none. -/
structure PutTo (w : World) (ok : Bool) (bs : List UInt8) (e : Ending) (w' : World) : Prop where
  be : Below w.heap.size w w'
  yes : ok = true → ∃ v, e = .returned (.tuple #[v, .int .i64 0]) ∧ w'.ownsRow w.heap.size 5 1 v bs.length (u8s bs)
  no : ok = false → e = .returned (.tuple #[.slice none 0 0, .int .i64 1])
theorem own_mono {w : World} {b b' n : Nat} {e : TypeId} {v : Value} {xs : List Value} (h : w.ownsRow b e 1 v n xs) (hb : b' ≤ b) : w.ownsRow b' e 1 v n xs := by
  refine ⟨h.1, ?_⟩
  rcases h.2 with hn | ⟨g, cap, cur, rfl, hg, rest⟩
  · exact .inl hn
  · exact .inr ⟨g, cap, cur, rfl, Nat.le_trans hb hg, rest⟩

theorem ns_new (w : World) (g : Nat) (cs : Array Value) (t : TypeId) (zs : List Int) (hg : g = w.heap.size) (hc : cs = (zs.map (Value.int .i64)).toArray) (t1 : t ≠ 49) (t2 : t ≠ 31) (t3 : t ≠ 5) : Ns (w.alloc (.cells cs t)) ⟨g, 0, none⟩ zs := by
  subst hg
  have hb : (w.alloc (.cells cs t)).heap[w.heap.size]? = some (.cells cs t (0, 0)) := heap_alloc_new _ _
  refine ⟨⟨cs, t, hb, t1, t2, t3⟩, fun j z hj => ?_⟩
  rw [Addr.add_lit, Nat.zero_add, one_at hb, hc]
  simp [hj]
set_option maxHeartbeats 1600000 in
theorem put_any (w : World) (x : Wan) :
    Calls Tryd.prog 49 #[.agg #[.int .i64 x.book, .int .i64 x.cust, .int .i64 x.dead, .int .i64 x.u0, .int .i64 x.u1, .int .i64 x.u2, .int .i64 x.price]] w (PutTo w (may x) (raw x)) := by
  obtain ⟨w1, e1⟩ : ∃ z, z = w.alloc (.cells #[.int .i64 x.book, .int .i64 x.cust, .int .i64 x.dead, .int .i64 x.u0, .int .i64 x.u1, .int .i64 x.u2, .int .i64 x.price] 26) := ⟨_, rfl⟩
  have be1 : Hid (Below w.heap.size w w1) := by rw [e1]; exact (Below.refl _ w).alloc (Nat.le_refl _) _
  have h1 : Hid (w1.heap[w.heap.size]? = some (.cells #[.int .i64 x.book, .int .i64 x.cust, .int .i64 x.dead, .int .i64 x.u0, .int .i64 x.u1, .int .i64 x.u2, .int .i64 x.price] 26 (0, 0))) := by rw [e1]; exact heap_alloc_new _ _
  have M := Lib.hid (may_any w1 x)
  by_cases hm : may x = true
  case neg =>
    replace hm : may x = false := by simpa using hm
    rw [hm] at M ⊢
    rw [e1] at M
    go_enter Tryd.func49, Tryd.ntmps49
    go_wp2_with fail
    refine M.out.mono ?_
    rintro e w2 ⟨rfl, b2⟩
    rw [← e1] at b2
    have be2 : Hid (Below w.heap.size w w2) := be1.out.trans (b2.mono be1.out.size)
    clear b2 be1 M h1
    go_wp2
    go_ret2
    exact ⟨be2.out, fun h => (by cases h), fun _ => rfl⟩
  case pos =>
    have hI := Lib.hid (may_I hm)
    rw [hm] at M ⊢
    clear hm
    rw [e1] at M
    go_enter Tryd.func49, Tryd.ntmps49
    go_wp2_with fail
    refine M.out.mono ?_
    rintro e w2 ⟨rfl, b2⟩
    rw [← e1] at b2
    have be2 : Hid (Below w.heap.size w w2) := be1.out.trans (b2.mono be1.out.size)
    have h2 : Hid (w2.heap[w.heap.size]? = _) := (b2.block _ (lt_some h1.out)).trans h1.out
    have hp : w.heap.size < w2.heap.size := lt_some h2.out
    have c0 : w2.cell? ⟨w.heap.size, 0, none⟩ = some (.int .i64 x.book) := one_at h2.out
    have c1 : w2.cell? ⟨w.heap.size, 1, none⟩ = some (.int .i64 x.cust) := one_at h2.out
    have c2 : w2.cell? ⟨w.heap.size, 2, none⟩ = some (.int .i64 x.dead) := one_at h2.out
    have c3 : w2.cell? ⟨w.heap.size, 3, none⟩ = some (.int .i64 x.u0) := one_at h2.out
    have c4 : w2.cell? ⟨w.heap.size, 4, none⟩ = some (.int .i64 x.u1) := one_at h2.out
    have c5 : w2.cell? ⟨w.heap.size, 5, none⟩ = some (.int .i64 x.u2) := one_at h2.out
    clear b2 be1 M h1 e1
    go_wp2_with fail
    refine (puti w2.heap.size _ [] ((Wr.new w2).alloc _) ⟨w2.heap.size + 1, 0, none⟩ 6 [x.book, x.cust, x.dead, x.u0, x.u1, x.u2] rfl (ns_new _ _ _ _ _ (by simp) rfl (by decide) (by decide) (by decide)) (fun z hz => hI.out z (by simp only [wz, List.mem_cons, List.not_mem_nil, or_false] at hz ⊢; omega)) (by simp) (by omega)).mono ?_
    rintro e w3 ⟨rfl, h3⟩
    have be3 : Hid (Below w2.heap.size w2 w3) := (((Below.refl _ w2).alloc (Nat.le_refl _) _).alloc (by simp) _).trans h3.be
    have h4 : Hid (w3.heap[w.heap.size]? = _) := (be3.out.block _ hp).trans h2.out
    have wr3 : Hid (Wr w3 w2.heap.size _) := h3.wr
    have c6 : w3.cell? ⟨w.heap.size, 6, none⟩ = some (.int .i64 x.price) := one_at h4.out
    have hp3 : Hid (w2.heap.size < w3.heap.size) := wr3.out.lt
    clear h3 c0 c1 c2 c3 c4 c5 h2
    go_wp2_with fail
    refine (puti64 w2.heap.size _ _ (wr3.out.alloc _) ⟨w3.heap.size, 0, none⟩ 1 [x.price] rfl (ns_new _ _ _ _ _ (by simp) rfl (by decide) (by decide) (by decide)) (fun z hz => hI.out z (by simp only [wz, List.mem_cons, List.not_mem_nil, or_false] at hz ⊢; omega)) ?hlen (by omega)).mono ?_
    case hlen =>
      have := cat_len [x.book, x.cust, x.dead, x.u0, x.u1, x.u2] (fun z hz => hI.out z (by simp only [wz, List.mem_cons, List.not_mem_nil, or_false] at hz ⊢; omega))
      simp at this ⊢
      omega
    rintro e w4 ⟨rfl, h5⟩
    have be4 : Hid (Below w2.heap.size w2 w4) := (be3.out.alloc (Nat.le_of_lt hp3.out) _).trans h5.be
    have wr4 : Hid (Wr w4 w2.heap.size (raw x)) := by
      have := h5.wr
      rw [List.nil_append, ← cat_app] at this
      exact this
    have hl : (raw x).length ≤ 140737488355328 := by
      have := cat_len _ hI.out
      unfold raw
      simp [wz] at this ⊢
      omega
    have B := Lib.hid (bytes_any w2.heap.size w4 _ wr4.out hl)
    clear h5 hl c6
    go_wp2_with fail
    refine B.out.mono ?_
    rintro e w5 ⟨v, rfl, ho, b5⟩
    have be5 : Hid (Below w.heap.size w w5) := be2.out.trans ((be4.out.trans (b5.mono be4.out.size)).mono (Nat.le_of_lt hp))
    have ho' : Hid (w5.ownsRow w.heap.size 5 1 v (raw x).length (u8s (raw x))) := own_mono ho (Nat.le_trans be2.out.size be4.out.size)
    clear ho b5
    go_wp2
    go_ret2
    exact ⟨be5.out, fun _ => ⟨v, rfl, ho'.out⟩, fun h => (by cases h)⟩
set_option maxHeartbeats 1600000 in
theorem putop_any (w : World) (o : Opn) :
    Calls Tryd.prog 18 #[.agg #[.int .i64 o.kind, .int .i64 o.book, .int .i64 o.units, .int .i64 o.cust, .int .i64 o.amount]] w (PutTo w (mayOp o) (rawOp o)) := by
  obtain ⟨w1, e1⟩ : ∃ z, z = w.alloc (.cells #[.int .i64 o.kind, .int .i64 o.book, .int .i64 o.units, .int .i64 o.cust, .int .i64 o.amount] 23) := ⟨_, rfl⟩
  have be1 : Hid (Below w.heap.size w w1) := by rw [e1]; exact (Below.refl _ w).alloc (Nat.le_refl _) _
  have h1 : Hid (w1.heap[w.heap.size]? = some (.cells #[.int .i64 o.kind, .int .i64 o.book, .int .i64 o.units, .int .i64 o.cust, .int .i64 o.amount] 23 (0, 0))) := by rw [e1]; exact heap_alloc_new _ _
  have M := Lib.hid (mayop_any w1 o)
  by_cases hm : mayOp o = true
  case neg =>
    replace hm : mayOp o = false := by simpa using hm
    rw [hm] at M ⊢
    rw [e1] at M
    go_enter Tryd.func18, Tryd.ntmps18
    go_wp2_with fail
    refine M.out.mono ?_
    rintro e w2 ⟨rfl, b2⟩
    rw [← e1] at b2
    have be2 : Hid (Below w.heap.size w w2) := be1.out.trans (b2.mono be1.out.size)
    clear b2 be1 M h1
    go_wp2
    go_ret2
    exact ⟨be2.out, fun h => (by cases h), fun _ => rfl⟩
  case pos =>
    have hI := Lib.hid (mayop_I hm)
    rw [hm] at M ⊢
    clear hm
    rw [e1] at M
    go_enter Tryd.func18, Tryd.ntmps18
    go_wp2_with fail
    refine M.out.mono ?_
    rintro e w2 ⟨rfl, b2⟩
    rw [← e1] at b2
    have be2 : Hid (Below w.heap.size w w2) := be1.out.trans (b2.mono be1.out.size)
    have h2 : Hid (w2.heap[w.heap.size]? = _) := (b2.block _ (lt_some h1.out)).trans h1.out
    have hp : w.heap.size < w2.heap.size := lt_some h2.out
    have c0 : w2.cell? ⟨w.heap.size, 0, none⟩ = some (.int .i64 o.kind) := one_at h2.out
    have c1 : w2.cell? ⟨w.heap.size, 1, none⟩ = some (.int .i64 o.book) := one_at h2.out
    have c2 : w2.cell? ⟨w.heap.size, 2, none⟩ = some (.int .i64 o.units) := one_at h2.out
    have c3 : w2.cell? ⟨w.heap.size, 3, none⟩ = some (.int .i64 o.cust) := one_at h2.out
    clear b2 be1 M h1 e1
    go_wp2_with fail
    refine (puti w2.heap.size _ [] ((Wr.new w2).alloc _) ⟨w2.heap.size + 1, 0, none⟩ 4 [o.kind, o.book, o.units, o.cust] rfl (ns_new _ _ _ _ _ (by simp) rfl (by decide) (by decide) (by decide)) (fun z hz => hI.out z (by simp only [oz, List.mem_cons, List.not_mem_nil, or_false] at hz ⊢; omega)) (by simp) (by omega)).mono ?_
    rintro e w3 ⟨rfl, h3⟩
    have be3 : Hid (Below w2.heap.size w2 w3) := (((Below.refl _ w2).alloc (Nat.le_refl _) _).alloc (by simp) _).trans h3.be
    have h4 : Hid (w3.heap[w.heap.size]? = _) := (be3.out.block _ hp).trans h2.out
    have wr3 : Hid (Wr w3 w2.heap.size _) := h3.wr
    have c6 : w3.cell? ⟨w.heap.size, 4, none⟩ = some (.int .i64 o.amount) := one_at h4.out
    have hp3 : Hid (w2.heap.size < w3.heap.size) := wr3.out.lt
    clear h3 c0 c1 c2 c3 h2
    go_wp2_with fail
    refine (puti64 w2.heap.size _ _ (wr3.out.alloc _) ⟨w3.heap.size, 0, none⟩ 1 [o.amount] rfl (ns_new _ _ _ _ _ (by simp) rfl (by decide) (by decide) (by decide)) (fun z hz => hI.out z (by simp only [oz, List.mem_cons, List.not_mem_nil, or_false] at hz ⊢; omega)) ?hlen (by omega)).mono ?_
    case hlen =>
      have := cat_len [o.kind, o.book, o.units, o.cust] (fun z hz => hI.out z (by simp only [oz, List.mem_cons, List.not_mem_nil, or_false] at hz ⊢; omega))
      simp at this ⊢
      omega
    rintro e w4 ⟨rfl, h5⟩
    have be4 : Hid (Below w2.heap.size w2 w4) := (be3.out.alloc (Nat.le_of_lt hp3.out) _).trans h5.be
    have wr4 : Hid (Wr w4 w2.heap.size (rawOp o)) := by
      have := h5.wr
      rw [List.nil_append, ← cat_app] at this
      exact this
    have hl : (rawOp o).length ≤ 140737488355328 := by
      have := cat_len _ hI.out
      unfold rawOp
      simp [oz] at this ⊢
      omega
    have B := Lib.hid (bytes_any w2.heap.size w4 _ wr4.out hl)
    clear h5 hl c6
    go_wp2_with fail
    refine B.out.mono ?_
    rintro e w5 ⟨v, rfl, ho, b5⟩
    have be5 : Hid (Below w.heap.size w w5) := be2.out.trans ((be4.out.trans (b5.mono be4.out.size)).mono (Nat.le_of_lt hp))
    have ho' : Hid (w5.ownsRow w.heap.size 5 1 v (rawOp o).length (u8s (rawOp o))) := own_mono ho (Nat.le_trans be2.out.size be4.out.size)
    clear ho b5
    go_wp2
    go_ret2
    exact ⟨be5.out, fun _ => ⟨v, rfl, ho'.out⟩, fun h => (by cases h)⟩
end Wt
end Go.Proofs.YtidfpbnepdjagaaDoor
