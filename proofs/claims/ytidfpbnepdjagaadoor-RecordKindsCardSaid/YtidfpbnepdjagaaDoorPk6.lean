/- The Writer's calls, each by a contract: what it has (chapter 1, promise 1.1). -/
import Derived.Test.YtidfpbnepdjagaaDoorPk5
import Derived.StillTailTactics
import Derived.Deep.RegionLaw
namespace Go.Proofs.YtidfpbnepdjagaaDoor
open Go.RowKit
namespace Pk

/-- The Writer in block p has the bytes bs; all that it has lies behind p. -/
def Wr (w : World) (p : Nat) (bs : List UInt8) : Prop :=
  (w.heap[p]? = some (.cells #[.pointer none, .int .i64 0] 49 (0, 0)) ∧ bs = []) ∨
  ∃ q v, w.heap[p]? = some (.cells #[.pointer (some ⟨q, 0, none⟩), .int .i64 (bs.length : Int)] 49 (0, 0)) ∧ p < q ∧ w.heap[q]? = some (.cells #[v] 31 (0, 0)) ∧ w.ownsRow (p + 1) 5 1 v bs.length (u8s bs)
theorem Wr.lt {w : World} {p : Nat} {bs : List UInt8} (h : Wr w p bs) : p < w.heap.size := by
  rcases h with ⟨h, _⟩ | ⟨q, v, h, _⟩ <;> exact lt_some h
theorem own_below {w w' : World} {base n : Nat} {e : TypeId} {v : Value} {xs : List Value} (h : w.ownsRow base e 1 v n xs) (hb : Below w.heap.size w w') : w'.ownsRow base e 1 v n xs := by
  refine ⟨h.1, ?_⟩
  rcases h.2 with hn | ⟨g, cap, cur, rfl, hg, hgg, rest⟩
  · exact .inl hn
  · exact .inr ⟨g, cap, cur, rfl, hg, (hb.block g (lt_some hgg)).trans hgg, rest⟩
theorem Wr.below {w w' : World} {p : Nat} {bs : List UInt8} (h : Wr w p bs) (hb : Below w.heap.size w w') : Wr w' p bs := by
  rcases h with ⟨h, e⟩ | ⟨q, v, h, hq, h2, h3⟩
  · exact .inl ⟨(hb.block p (lt_some h)).trans h, e⟩
  · exact .inr ⟨q, v, (hb.block p (lt_some h)).trans h, hq, (hb.block q (lt_some h2)).trans h2, own_below h3 hb⟩
theorem Wr.new (w : World) : Wr (w.alloc (.cells #[.pointer none, .int .i64 0] 49)) w.heap.size [] := .inl ⟨heap_alloc_new _ _, rfl⟩

set_option maxRecDepth 100000 in
set_option maxHeartbeats 400000 in
theorem bytes_any (p : Nat) (w : World) (bs : List UInt8) (h : Wr w p bs) (hn : bs.length ≤ 140737488355328) :
    Calls Tryd.prog 21 #[.pointer (some ⟨p, 0, none⟩)] w (Copied w bs.length bs) := by
  rcases h with ⟨h1, rfl⟩ | ⟨q, v, h1, hq, h2, h3⟩
  · have c0 : w.cell? ⟨p, 0, none⟩ = some (.pointer none) := one_at h1
    have H : Hid (Copied w 0 [] (.returned (.slice none 0 0)) w) := ⟨_, rfl, World.ownsRow_nil _ _ _ _, Below.refl _ _⟩
    clear h1
    go_enter Tryd.func21, Tryd.ntmps21
    go_wp2
    go_ret
    exact H.out
  · obtain ⟨A, c, rfl⟩ := own_form h3
    have hl := Lib.hid (h3.1)
    have hc := own_cap h3
    have hc2 : c ≤ 9223372036854775807 := by have := hc.2; unfold maxLen at this; omega
    have c0 : w.cell? ⟨p, 0, none⟩ = some (.pointer (some ⟨q, 0, none⟩)) := one_at h1
    have c1 : w.cell? ⟨p, 1, none⟩ = some (.int .i64 (bs.length : Int)) := one_at h1
    have c2 : w.cell? ⟨q, 0, none⟩ = some (.slice A bs.length c) := one_at h2
    have R := Rb.of_own h3
    have hn1 := hc.1
    have hA : A = none → c = 0 := by
      rintro rfl
      rcases h3.2 with ⟨e, _⟩ | ⟨g, cap, cur, e, _⟩
      · injection e
      · injection e with e; cases e
    have C := Lib.hid (clone_any w.drew A bs.length c bs (R.keep (w' := w.drew) (T' := fun g => g < w.heap.size) (fun _ _ => rfl) (fun g hg => hg.2.lt)) (fun g hg => hg) hn hA)
    clear h1 h2 h3 hc R hA
    go_enter Tryd.func21, Tryd.ntmps21
    go_wp2
    go_still_tail 11, (by kernel_rfl)
    change wpList _ _ _ _ _ w.drew
    go_wp2_with fail
    refine C.out.mono ?_
    rintro e w1 ⟨v, rfl, hown, hb⟩
    have HH : Hid (Copied w bs.length bs (.returned v) w1) := ⟨v, rfl, hown, ⟨hb.os, hb.tape, hb.output, hb.size, hb.block⟩⟩
    clear hown hb
    go_wp2
    go_ret
    exact HH.out

set_option maxHeartbeats 400000 in
theorem bytes_zero (p : Nat) (w : World) (c0 : w.cell? ⟨p, 0, none⟩ = some (.pointer none)) :
    Calls Tryd.prog 21 #[.pointer (some ⟨p, 0, none⟩)] w fun e w' => e = .returned (.slice none 0 0) ∧ w = w' := by
  go_enter Tryd.func21, Tryd.ntmps21
  go_wp2
  go_ret
  exact ⟨rfl, rfl⟩

/-- In the midst of 'add': the bytes bs lie in the row v, which block q holds; how many, p tells not yet. -/
def Mid (w : World) (p q : Nat) (v : Value) (bs : List UInt8) (k : Int) : Prop :=
  w.heap[p]? = some (.cells #[.pointer (some ⟨q, 0, none⟩), .int .i64 k] 49 (0, 0)) ∧ p < q ∧ w.heap[q]? = some (.cells #[v] 31 (0, 0)) ∧ w.ownsRow (p + 1) 5 1 v bs.length (u8s bs)

theorem own_far {w : World} {base n g : Nat} {t : TypeId} {cs : Array Value} {v : Value} {xs : List Value} (h : w.ownsRow base 5 1 v n xs) (hg : w.heap[g]? = some (.cells cs t (0, 0))) (ht : t ≠ 5) : v.ownBlock ≠ some g := by
  rcases h.2 with ⟨rfl, _⟩ | ⟨g', cap, cur, rfl, _, hh, _⟩
  · simp [Value.ownBlock]
  · intro he
    have e : g' = g := by simpa [Value.ownBlock] using he
    subst e
    rw [hh] at hg
    injection hg with hg
    injection hg with _ e
    exact ht e.symm

/-- What a Writer's call leaves alone: each block that is of another kind. -/
def Oth (w w' : World) : Prop := ∀ (g : Nat) (cs : Array Value) (t : TypeId), w.heap[g]? = some (Obj.cells cs t (0, 0)) → t ≠ 49 → t ≠ 31 → t ≠ 5 → w'.heap[g]? = w.heap[g]?
theorem Oth.refl (w : World) : Oth w w := fun _ _ _ _ _ _ _ => rfl
theorem Oth.trans {a b c : World} (h : Oth a b) (k : Oth b c) : Oth a c := fun g cs t hg h1 h2 h3 => (k g cs t ((h g cs t hg h1 h2 h3).trans hg) h1 h2 h3).trans (h g cs t hg h1 h2 h3)
theorem Oth.below {a b : World} (h : Below a.heap.size a b) : Oth a b := fun g _ _ hg _ _ _ => h.block g (lt_some hg)

theorem mid_end (W w5 : World) (p q : Nat) (bs ys : List UInt8) (A0 A5 : Option Addr) (c0 c5 m : Nat) (k : Int) (h : Mid W p q (.slice A0 bs.length c0) bs k)
    (ho : w5.ownsRow (p + 1) 5 1 (.slice A5 (bs.length + m) c5) (bs.length + m) (u8s (bs ++ ys))) (hg : W.drew.grownBy w5 (Value.slice A0 bs.length c0).ownBlock) (hm : ys.length = m) :
    w5.cell? ⟨p, 0, none⟩ = some (.pointer (some ⟨q, 0, none⟩)) ∧ w5.cell? ⟨q, 0, none⟩ = some (.slice A0 bs.length c0) ∧ w5.frozen? ⟨q, 0, none⟩ = false ∧ w5.frozen? ⟨p, 1, none⟩ = false ∧ w5.cell? ⟨p, 1, none⟩ = some (.int .i64 k) ∧
      (Wr ((w5.setCell ⟨q, 0, none⟩ (.slice A5 (bs.length + m) c5)).setCell ⟨p, 1, none⟩ (.int .i64 ((bs.length : Int) + (m : Int)))) p (bs ++ ys) ∧
        Below p W ((w5.setCell ⟨q, 0, none⟩ (.slice A5 (bs.length + m) c5)).setCell ⟨p, 1, none⟩ (.int .i64 ((bs.length : Int) + (m : Int)))) ∧
        Oth W ((w5.setCell ⟨q, 0, none⟩ (.slice A5 (bs.length + m) c5)).setCell ⟨p, 1, none⟩ (.int .i64 ((bs.length : Int) + (m : Int))))) := by
  obtain ⟨h1, hpq, h2, h3⟩ := h
  have p5 : w5.heap[p]? = _ := (hg.block p (lt_some h1) (fun e => own_far h3 h1 (by decide) e.symm)).trans h1
  have q5 : w5.heap[q]? = _ := (hg.block q (lt_some h2) (fun e => own_far h3 h2 (by decide) e.symm)).trans h2
  refine ⟨one_at p5, one_at q5, one_free q5, one_free p5, one_at p5, ?_, ?_, ?_⟩
  · have p6 := (Below.heap_setCell w5 ⟨q, 0, none⟩ (.slice A5 (bs.length + m) c5) p (by show p ≠ q; omega)).trans p5
    have p7 := one_set (i := 1) p6 (.int .i64 ((bs.length : Int) + (m : Int)))
    have q6 := one_set (i := 0) q5 (.slice A5 (bs.length + m) c5)
    have q7 := (Below.heap_setCell (w5.setCell ⟨q, 0, none⟩ (.slice A5 (bs.length + m) c5)) ⟨p, 1, none⟩ (.int .i64 ((bs.length : Int) + (m : Int))) q (by show q ≠ p; omega)).trans q6
    have hl : (bs ++ ys).length = bs.length + m := by rw [List.length_append, hm]
    refine .inr ⟨q, .slice A5 (bs.length + m) c5, ?_, hpq, q7, ?_⟩
    · rw [p7, hl]; simp
    · rw [hl]
      have o6 := ownsRow_setCell_other (a := ⟨q, 0, none⟩) ho (own_far ho q5 (by decide)) (.slice A5 (bs.length + m) c5)
      exact ownsRow_setCell_other (a := ⟨p, 1, none⟩) o6 (own_far o6 p6 (by decide)) _
  · have hl := h3.lt
    have b1 : Below p W w5 := ⟨hg.os, hg.tape, hg.output, hg.size, fun i hi => hg.block i (by have := lt_some h1; show i < W.heap.size; omega) (fun e => by
      have := hl i (by rw [← e])
      omega)⟩
    exact (b1.setCell (by show p ≤ q; omega) _).setCell (Nat.le_refl _) _
  · intro g cs t hgg t1 t2 t3
    have e1 : w5.heap[g]? = W.heap[g]? := hg.block g (lt_some hgg) (fun e => own_far h3 hgg t3 e.symm)
    have nq : g ≠ q := by rintro rfl; rw [hgg] at h2; injection h2 with h2; injection h2 with _ e; exact t2 e
    have np : g ≠ p := by rintro rfl; rw [hgg] at h1; injection h1 with h1; injection h1 with _ e; exact t1 e
    exact ((Below.heap_setCell _ ⟨p, 1, none⟩ _ g (by show g ≠ p; exact np)).trans (Below.heap_setCell _ ⟨q, 0, none⟩ _ g (by show g ≠ q; exact nq))).trans e1

theorem mid_end0 (W w5 : World) (p q : Nat) (ys : List UInt8) (A5 : Option Addr) (c5 m : Nat) (k : Int) (h : Mid W p q (.slice none 0 0) [] k)
    (ho : w5.ownsRow (p + 1) 5 1 (.slice A5 m c5) m (u8s ys)) (hg : W.drew.grownBy w5 (Value.slice none 0 0).ownBlock) (hm : ys.length = m) :
    w5.cell? ⟨p, 0, none⟩ = some (.pointer (some ⟨q, 0, none⟩)) ∧ w5.cell? ⟨q, 0, none⟩ = some (.slice none 0 0) ∧ w5.frozen? ⟨q, 0, none⟩ = false ∧ w5.frozen? ⟨p, 1, none⟩ = false ∧ w5.cell? ⟨p, 1, none⟩ = some (.int .i64 k) ∧
      (Wr ((w5.setCell ⟨q, 0, none⟩ (.slice A5 m c5)).setCell ⟨p, 1, none⟩ (.int .i64 (m : Int))) p ys ∧
        Below p W ((w5.setCell ⟨q, 0, none⟩ (.slice A5 m c5)).setCell ⟨p, 1, none⟩ (.int .i64 (m : Int))) ∧
        Oth W ((w5.setCell ⟨q, 0, none⟩ (.slice A5 m c5)).setCell ⟨p, 1, none⟩ (.int .i64 (m : Int)))) := by
  have H := mid_end W w5 p q [] ys none A5 0 c5 m k h (by simpa using ho) hg hm
  simpa using H

set_option maxHeartbeats 800000 in
theorem add_first (p : Nat) (w : World) (h1 : w.heap[p]? = some (.cells #[.pointer none, .int .i64 0] 49 (0, 0))) {T : Nat → Prop} (A : Option Addr) (m c : Nat) (ys : List UInt8) (hr : Rb w T A m ys) (hT : ∀ g, T g → g ≠ p ∧ g < w.heap.size) (hn : m ≤ 140737488355328) :
    Calls Tryd.prog 45 #[.pointer (some ⟨p, 0, none⟩), .slice A m c] w fun e w' => e = .returned (.tuple #[]) ∧ Wr w' p ys ∧ Below p w w' ∧ Oth w w' := by
  have c0 : w.cell? ⟨p, 0, none⟩ = some (.pointer none) := one_at h1
  have c1 : w.cell? ⟨p, 1, none⟩ = some (.int .i64 0) := one_at h1
  have f0 : w.frozen? ⟨p, 0, none⟩ = false := one_free h1
  have f1 : w.frozen? ⟨p, 1, none⟩ = false := one_free h1
  have hp := lt_some h1
  have B := Lib.hid (fun k => bytes_zero p (w.drewN k) c0)
  have h1' := Lib.hid h1
  clear h1
  go_enter Tryd.func45, Tryd.ntmps45
  go_wp2
  go_quiet (fail)
  have k0 : (w.drewN nq).cell? ⟨p, 0, none⟩ = some (.pointer none) := c0
  have k1 : (w.drewN nq).cell? ⟨p, 1, none⟩ = some (.int .i64 0) := c1
  have g0 : (w.drewN nq).frozen? ⟨p, 0, none⟩ = false := f0
  have g1 : (w.drewN nq).frozen? ⟨p, 1, none⟩ = false := f1
  have kp : p < (w.drewN nq).heap.size := hp
  have kh : Hid ((w.drewN nq).heap[p]? = some (.cells #[.pointer none, .int .i64 0] 49 (0, 0))) := h1'
  have kb : Hid (Below p w (w.drewN nq)) := ⟨rfl, rfl, rfl, Nat.le_refl _, fun _ _ => rfl⟩
  have kx : Hid (∀ g, g < w.heap.size → (w.drewN nq).heap[g]? = w.heap[g]?) := fun _ _ => rfl
  have kr : Hid (Rb (w.drewN nq) T A m ys) := ⟨hr.len, hr.at_⟩
  have kT : Hid (∀ g, T g → g ≠ p ∧ g < (w.drewN nq).heap.size) := hT
  replace B := Lib.hid (B.out nq)
  clear c0 c1 f0 f1 hp hr hT h1'
  generalize w.drewN nq = w1 at *
  go_wp2_with (go_at_call 21; ((with_reducible refine B.out.mono ?_); rintro e w' ⟨rfl, rfl⟩))
  have s0 := kh.out
  have s1 : (w1.setCell ⟨p, 0, none⟩ (.pointer (some ⟨w1.heap.size, 0, none⟩))).heap[p]? = some (.cells #[.pointer (some ⟨w1.heap.size, 0, none⟩), .int .i64 0] 49 (0, 0)) := by
    have := one_set (i := 0) s0 (.pointer (some ⟨w1.heap.size, 0, none⟩))
    simpa using this
  have sz : (w1.setCell ⟨p, 0, none⟩ (.pointer (some ⟨w1.heap.size, 0, none⟩))).heap.size = w1.heap.size := by simp [World.setCell]
  have mid : Mid ((w1.setCell ⟨p, 0, none⟩ (.pointer (some ⟨w1.heap.size, 0, none⟩))).alloc (.cells #[.slice none 0 0] 31)) p w1.heap.size (.slice none 0 0) [] 0 := by
    refine ⟨(heap_alloc_old _ _ (lt_some s1)).trans s1, kp, ?_, World.ownsRow_nil _ _ _ _⟩
    have := heap_alloc_new (w1.setCell ⟨p, 0, none⟩ (.pointer (some ⟨w1.heap.size, 0, none⟩))) (.cells #[.slice none 0 0] 31)
    rw [sz] at this
    exact this
  have kr2 : Hid (Rb ((w1.setCell ⟨p, 0, none⟩ (.pointer (some ⟨w1.heap.size, 0, none⟩))).alloc (.cells #[.slice none 0 0] 31)) T A m ys) :=
    kr.out.keep (fun g hg => (heap_alloc_old _ _ (by rw [sz]; exact (kT.out g hg).2)).trans (Below.heap_setCell _ _ _ _ (kT.out g hg).1)) (fun _ h => h)
  have kb2 : Hid (Below p w ((w1.setCell ⟨p, 0, none⟩ (.pointer (some ⟨w1.heap.size, 0, none⟩))).alloc (.cells #[.slice none 0 0] 31))) :=
    (kb.out.setCell (Nat.le_refl _) _).alloc (by rw [sz]; omega) _
  have kx2 : Hid (Oth w ((w1.setCell ⟨p, 0, none⟩ (.pointer (some ⟨w1.heap.size, 0, none⟩))).alloc (.cells #[.slice none 0 0] 31))) := by
    intro g cs t hgg t1 _ _
    have hg1 := (kx.out g (lt_some hgg)).trans hgg
    have np : g ≠ p := by
      rintro rfl
      have h1 := kh.out
      rw [hg1] at h1; injection h1 with h1; injection h1 with _ e; exact t1 e
    exact ((heap_alloc_old _ _ (by rw [sz]; exact lt_some hg1)).trans (Below.heap_setCell _ ⟨p, 0, none⟩ _ g (by show g ≠ p; exact np))).trans (kx.out g (lt_some hgg))
  clear s0 s1 sz kh kb kx kr kT k0 k1 g0 g1 B kp
  generalize (w1.setCell ⟨p, 0, none⟩ (.pointer (some ⟨w1.heap.size, 0, none⟩))).alloc (.cells #[.slice none 0 0] 31) = W at *
  generalize w1.heap.size = q at *
  have hn : 0 + m ≤ 140737488355328 := by omega
  have d0 : W.cell? ⟨p, 0, none⟩ = some (.pointer (some ⟨q, 0, none⟩)) := one_at mid.1
  have d1 : W.cell? ⟨q, 0, none⟩ = some (.slice none 0 0) := one_at mid.2.2.1
  have dq : q < W.heap.size := lt_some mid.2.2.1
  have dp : p < q := mid.2.1
  have ko2 : Hid (W.drew.ownsRow (p + 1) 5 1 (.slice none 0 0) 0 (u8s [])) := World.ownsRow_nil _ _ _ _
  have kr3 : Hid (Rb W.drew T A m ys) := kr2.out.keep (fun _ _ => rfl) (fun _ h => h)
  have kp3 : p + 1 ≤ W.drew.heap.size := by show p + 1 ≤ W.heap.size; omega
  have E := Lib.hid (fun w5 A5 c5 => mid_end0 W w5 p q ys A5 c5 m 0 mid)
  clear mid kr2
  go_region_law ((refine step_append_b W.drew rfl (.tmp 40) (.tmp 41) rfl (p + 1) (.slice none 0 0) 0 [] (by simp [Act.eval]) ko2.out (T := T) (A := A) (m := m) (c := c) (ys := ys) (by simp [Act.eval]) kr3.out hn kp3 ?_); intro v' w5 hown5 hg5 hat5; simp only [Nat.zero_add, List.nil_append] at hown5; obtain ⟨A5, c5, rfl⟩ := own_form hown5; obtain ⟨e50, e5q, f5q, f51, e51, hfin⟩ := E.out w5 A5 c5 hown5 hg5 kr3.out.len; have hfin' := Lib.hid hfin; have hcap := own_cap hown5; clear hown5 hg5 hat5 hfin)
  all_goals
    go_wp2
    go_end0
    exact ⟨rfl, hfin'.out.1, kb2.out.trans hfin'.out.2.1, kx2.out.trans hfin'.out.2.2⟩

set_option maxHeartbeats 800000 in
theorem add_more (p q : Nat) (w : World) (bs : List UInt8) (v : Value) (h : Mid w p q v bs (bs.length : Int)) {T : Nat → Prop} (A : Option Addr) (m c : Nat) (ys : List UInt8) (hr : Rb w T A m ys) (hn : bs.length + m ≤ 140737488355328) :
    Calls Tryd.prog 45 #[.pointer (some ⟨p, 0, none⟩), .slice A m c] w fun e w' => e = .returned (.tuple #[]) ∧ Wr w' p (bs ++ ys) ∧ Below p w w' ∧ Oth w w' := by
  obtain ⟨A0, c0, rfl⟩ := own_form h.2.2.2
  have k0 : w.cell? ⟨p, 0, none⟩ = some (.pointer (some ⟨q, 0, none⟩)) := one_at h.1
  have k1 : w.cell? ⟨p, 1, none⟩ = some (.int .i64 (bs.length : Int)) := one_at h.1
  have k2 : w.cell? ⟨q, 0, none⟩ = some (.slice A0 bs.length c0) := one_at h.2.2.1
  have hh := Lib.hid h
  clear h
  go_enter Tryd.func45, Tryd.ntmps45
  go_wp2
  go_quiet (fail)
  have mid : Mid (w.drewN nq) p q (.slice A0 bs.length c0) bs (bs.length : Int) := ⟨hh.out.1, hh.out.2.1, hh.out.2.2.1, own_below hh.out.2.2.2 ⟨rfl, rfl, rfl, Nat.le_refl _, fun _ _ => rfl⟩⟩
  have kr2 : Hid (Rb (w.drewN nq) T A m ys) := ⟨hr.len, hr.at_⟩
  have kb2 : Hid (Below p w (w.drewN nq)) := ⟨rfl, rfl, rfl, Nat.le_refl _, fun _ _ => rfl⟩
  have kx2 : Hid (Oth w (w.drewN nq)) := fun _ _ _ _ _ _ _ => rfl
  clear k0 k1 k2 hr hh
  generalize w.drewN nq = W at *
  go_wp2_with fail
  have d0 : W.cell? ⟨p, 0, none⟩ = some (.pointer (some ⟨q, 0, none⟩)) := one_at mid.1
  have d1 : W.cell? ⟨q, 0, none⟩ = some (.slice A0 bs.length c0) := one_at mid.2.2.1
  have dq : q < W.heap.size := lt_some mid.2.2.1
  have dp : p < q := mid.2.1
  have km := Lib.hid mid
  have ko := Lib.hid mid.2.2.2
  clear mid
  have ko2 : Hid (W.drew.ownsRow (p + 1) 5 1 (.slice A0 bs.length c0) bs.length (u8s bs)) := own_below ko.out ⟨rfl, rfl, rfl, Nat.le_refl _, fun _ _ => rfl⟩
  have kr3 : Hid (Rb W.drew T A m ys) := kr2.out.keep (fun _ _ => rfl) (fun _ h => h)
  have kp3 : p + 1 ≤ W.drew.heap.size := by show p + 1 ≤ W.heap.size; omega
  have E := Lib.hid (fun w5 A5 c5 => mid_end W w5 p q bs ys A0 A5 c0 c5 m bs.length km.out)
  clear ko kr2 km
  go_region_law ((refine step_append_b W.drew rfl (.tmp 40) (.tmp 41) rfl (p + 1) (.slice A0 bs.length c0) bs.length bs (by simp [Act.eval]) ko2.out (T := T) (A := A) (m := m) (c := c) (ys := ys) (by simp [Act.eval]) kr3.out hn kp3 ?_); intro v' w5 hown5 hg5 hat5; obtain ⟨A5, c5, rfl⟩ := own_form hown5; obtain ⟨e50, e5q, f5q, f51, e51, hfin⟩ := E.out w5 A5 c5 hown5 hg5 kr3.out.len; have hfin' := Lib.hid hfin; have hcap := own_cap hown5; clear hown5 hg5 hat5 hfin)
  all_goals
    go_wp2
    go_end0
    exact ⟨rfl, hfin'.out.1, kb2.out.trans hfin'.out.2.1, kx2.out.trans hfin'.out.2.2⟩

/-- What 'add' does: the bytes ys are put behind bs. -/
theorem add_any (p : Nat) (w : World) (bs : List UInt8) (h : Wr w p bs) {T : Nat → Prop} (A : Option Addr) (m c : Nat) (ys : List UInt8) (hr : Rb w T A m ys) (hT : ∀ g, T g → g ≠ p ∧ g < w.heap.size) (hn : bs.length + m ≤ 140737488355328) :
    Calls Tryd.prog 45 #[.pointer (some ⟨p, 0, none⟩), .slice A m c] w fun e w' => e = .returned (.tuple #[]) ∧ Wr w' p (bs ++ ys) ∧ Below p w w' ∧ Oth w w' := by
  rcases h with ⟨h1, rfl⟩ | ⟨q, v, h1, hq, h2, h3⟩
  · exact add_first p w h1 A m c ys hr hT (by simpa using hn)
  · exact add_more p q w bs v ⟨h1, hq, h2, h3⟩ A m c ys hr hn
end Pk
end Go.Proofs.YtidfpbnepdjagaaDoor
