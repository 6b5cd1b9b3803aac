/- A log while the call's own rows grow; a log without a state. -/
import Derived.Test.YtbolcapgocjgcaaDoorSeP
namespace Go.Proofs.YtbolcapgocjgcaaDoor
set_option maxRecDepth 100000
open Go.RowKit
open Go.Proofs.YtbolcapgocjgcaaDoor.Pk
namespace Se
open Dk (Bs Live LTo used)
open Fr (frames frame Txts)

section
variable {B w w' : World} {p room q n : Nat} {L : Dk.St} {X : Nat → Prop}
theorem live_grown {o : Option Nat} (h : Live B w p room L X) (hg : w.grownBy w' o) (ho : ∀ g, o = some g → X g ∧ B.heap.size ≤ g) : Live B w' p room L (fun g => X g ∨ (w.heap.size ≤ g ∧ g < w'.heap.size)) := by
  obtain ⟨fp, D, hf⟩ := h.dk
  have hs : ∀ g, fp g → g < w.heap.size := by
    obtain ⟨mo, l, d, _⟩ := D
    exact d.size
  refine ⟨⟨fp, D.keep hg.size (fun g hq => hg.block g (hs g hq) (fun e => (hf g hq).2 (ho g e.symm).1)), fun g hq => ⟨(hf g hq).1, fun e => ?_⟩⟩, ⟨hg.os.trans h.be.os, hg.tape.trans h.be.tape, hg.output.trans h.be.output, Nat.le_trans h.be.size hg.size, fun g hq => (hg.block g (Nat.lt_of_lt_of_le hq h.be.size) (fun e => by have := (ho g e.symm).2; omega)).trans (h.be.block g hq)⟩, fun g hq => ?_⟩
  · rcases e with e | ⟨e, _⟩
    · exact (hf g hq).2 e
    · have := hs g hq; omega
  · rcases hq with hq | ⟨_, hq⟩
    · exact Nat.lt_of_lt_of_le (h.xs g hq) hg.size
    · exact hq
/-- An append to a row of the call's own. -/
theorem Lg.grown {o : Option Nat} (h : Lg B w p room L X q n) (hg : w.grownBy w' o) (ho : ∀ g, o = some g → X g ∧ g ≠ q ∧ B.heap.size ≤ g) : Lg B w' p room L (fun g => X g ∨ (w.heap.size ≤ g ∧ g < w'.heap.size)) q n :=
  ⟨live_grown h.live hg (fun g e => ⟨(ho g e).1, (ho g e).2.2⟩), (hg.block q (lt_some h.at_) (fun e => (ho q e.symm).2.1 rfl)).trans h.at_, .inl h.inx, h.base⟩
/-- A row of the call's own, beside the disk. -/
structure OwnX (B w : World) (X : Nat → Prop) (q : Nat) (v : Value) (l : List Bs) : Prop where
  row : w.ownsRow B.heap.size 9 1 v l.length (Fr.strs l)
  inx : ∀ g, v.ownBlock = some g → X g ∧ g ≠ q ∧ B.heap.size ≤ g
theorem OwnX.keep {w2 : World} {X2 : Nat → Prop} {q2 : Nat} {v : Value} {l : List Bs} (h : OwnX B w X q v l) (hk : ∀ g, X g → g ≠ q → w2.heap[g]? = w.heap[g]?) (hx : ∀ g, X g → g ≠ q → X2 g ∧ g ≠ q2) : OwnX B w2 X2 q2 v l :=
  ⟨Dk.own_same h.row fun g hg => hk g (h.inx g hg).1 (h.inx g hg).2.1, fun g hg => ⟨(hx g (h.inx g hg).1 (h.inx g hg).2.1).1, (hx g (h.inx g hg).1 (h.inx g hg).2.1).2, (h.inx g hg).2.2⟩⟩
theorem OwnX.nil : OwnX B w X q (.slice none 0 0) [] := ⟨World.ownsRow_nil _ _ _ _, fun g hg => by simp [Value.ownBlock] at hg⟩
theorem OwnX.sr {v : Value} {l : List Bs} (h : OwnX B w X q v l) : Fr.Sr w v l := Fr.sr_own h.row
/-- One more behind it: what lies so behind the append. -/
theorem OwnX.snoc {v v' : Value} {l : List Bs} {r : Bs} {o : Obj} (h : OwnX B w X q v l) (G : Lg B w p room L X q n) (h' : w'.ownsRow B.heap.size 9 1 v' (l.length + 1) (Fr.strs l ++ [.string (str r)])) (hg : (w.alloc o).grownBy w' v.ownBlock) (hat : v'.ownBlock = v.ownBlock ∨ ∃ g, v'.ownBlock = some g ∧ w.heap.size ≤ g) :
    Lg B w' p room L (fun g => X g ∨ (w.heap.size ≤ g ∧ g < w'.heap.size)) q n ∧ OwnX B w' (fun g => X g ∨ (w.heap.size ≤ g ∧ g < w'.heap.size)) q v' (l ++ [r]) := by
  have hq := lt_some G.at_
  have g1 : w.grownBy w' v.ownBlock := grown_trans (below_grown ((Below.refl _ w).alloc (Nat.le_refl _) o) _) hg
  refine ⟨G.grown g1 (fun g e => h.inx g e), ?_, fun g e => ?_⟩
  · rw [Fr.strs_app, List.length_append]; exact h'
  · rcases hat with hat | ⟨g2, e2, h2⟩
    · have := h.inx g (by rw [← hat]; exact e)
      exact ⟨.inl this.1, this.2⟩
    · rw [e2] at e
      injection e with e
      subst e
      have hl := (h'.lt g2 e2).2
      exact ⟨.inr ⟨h2, hl⟩, by omega, by have := G.live.be.size; omega⟩
end

theorem wpList_append_1x {P : Program} (wr : World) {ops : Array Oper} {rest : List Oper} {o : Oper} {a : Act} {Q : Exit → Act → World → Prop} (hgd : o.guard = none) (s x : Operand) (t : TypeId)
    (ho : o.op = .call { callee := .builtin .append, args := #[s, x], argTypes := #[t, t] })
    (base : Nat) (e : TypeId) (i : TypeInfo) (z : Value) (bytes : Nat) (ht : P.underlying t = some (.slice e)) (hi : P.info? e = some i) (hz : i.zero = some z) (hsize : i.size = 1) (hby : i.bytes = bytes) (hzs : z.cells.size = 1)
    (v : Value) (n : Nat) (xs : List Value) (u : Value) (hs : a.eval s = v) (hown : wr.ownsRow base e 1 v n xs) (hx : a.eval x = .slice (some ⟨wr.heap.size, 0, none⟩) 1 1) (hu : u.oneCell' = true)
    (h63 : n + 1 ≤ maxLen) (hb : (n + 1) * bytes ≤ 140737488355328) (hbase : base ≤ wr.heap.size)
    (h : ∀ v' w', w'.ownsRow base e 1 v' (n + 1) (xs ++ [u]) → (wr.alloc (.cells #[u] e)).grownBy w' v.ownBlock → (v'.ownBlock = v.ownBlock ∨ ∃ g, v'.ownBlock = some g ∧ wr.heap.size ≤ g) → wpList P ops Q rest (a.put o.dst v') w') : wpList P ops Q (o :: rest) a (wr.alloc (.cells #[u] e)) :=
  wpList_append_own_at _ hgd s x t ho base e i z 1 bytes ht hi hz hsize hby hzs (by decide) v n xs hs (hown.alloc _) ⟨wr.heap.size, 0, none⟩ 1 1 [u] hx rfl
    (by
      intro j y hj
      match j, hj with
      | 0, hj => simp at hj; subst hj; rw [Addr.add_zero', World.cell?_alloc_mark]; rfl
      | j + 1, hj => simp at hj)
    (by intro y hy; simp at hy; subst hy; exact hu) h63 hb (by simp; omega) (fun v' w' h1 h2 _ h3 => h v' w' h1 h2 (by
      rcases h3 with h3 | h3
      · exact .inl h3
      · exact .inr ⟨_, h3, by simp⟩))

/-- A log without a state, with the records l, none synced. -/
def pA (l : List Bs) : Ab := ⟨0, none, if l = [] then none else some (some l, 0)⟩
theorem pA_rc (l : List Bs) : (pA l).rc = l := by
  unfold pA Ab.rc Ab.con
  by_cases h : l = []
  · subst h; rfl
  · rw [if_neg h]; rfl
theorem pA_put (l : List Bs) (b : Bs) : (pA l).put b = pA (l ++ [b]) := by
  have h : (pA l).sy = 0 := by unfold pA Ab.sy; by_cases h : l = [] <;> simp [h]
  unfold Ab.put
  rw [pA_rc, h]
  show (⟨0, none, some (some (l ++ [b]), 0)⟩ : Ab) = pA (l ++ [b])
  simp [pA]
theorem pA_con (l : List Bs) : (pA l).con = if l = [] then none else some l := by
  unfold pA Ab.con
  by_cases h : l = [] <;> simp [h]
theorem pA_ok {l : List Bs} (h : Fr.Ok l) : (pA l).Ok := by
  refine ⟨fun _ => rfl, by show 0 ≤ _; omega, (fun r hr => by cases hr), by rw [pA_rc]; exact h, ?_⟩
  have h0 : (pA l).sy = 0 := by unfold pA Ab.sy; by_cases h : l = [] <;> simp [h]
  omega
theorem short_ok {l : List Bs} (h : ∀ r ∈ l, 1 ≤ r.length ∧ r.length ≤ 40) : Fr.Ok l := fun r hr => by have := h r hr; omega
theorem save_rc (a : Ab) (st : List Bs) : (a.save st).rc = [] := by unfold Ab.save Ab.rc Ab.con; cases a.lg <;> rfl
theorem save_st (a : Ab) (st : List Bs) : (a.save st).st = st := rfl
theorem sync_st (a : Ab) : a.sync.st = a.st := rfl
theorem txts_lr {W : World} {A : Option Addr} {n c : Nat} {l : List Bs} (h : Txts W W.heap.size A n l) : Fr.Lr W (.slice A l.length c) l := by
  refine ⟨A, c, rfl, fun hn => ?_⟩
  obtain ⟨a, ha, hab, h2⟩ := h.at_ (by have := h.len; omega)
  refine ⟨a, ha, hab, fun i r hi => ?_⟩
  obtain ⟨u, hu, Ai, ci, e, _, _, _, hR⟩ := h2 i r hi
  exact ⟨Ai, ci, by rw [hu, e], hR⟩
/-- How far a loop over two lists has come. -/
def OkAt (l m : List Bs) (i : Value) : Prop := ∃ k : Nat, i = .int .i64 k ∧ k ≤ l.length + m.length ∧ ∀ r ∈ (l ++ m).take k, 1 ≤ r.length ∧ r.length ≤ 40
theorem ok_next {l m : List Bs} {k : Nat} {r : Bs} (h : ∀ r ∈ (l ++ m).take k, 1 ≤ r.length ∧ r.length ≤ 40) (hr : (l ++ m)[k]? = some r) (h1 : 1 ≤ r.length) (h2 : r.length ≤ 40) : ∀ r ∈ (l ++ m).take (k + 1), 1 ≤ r.length ∧ r.length ≤ 40 := by
  intro x hx
  rw [List.take_add_one, hr] at hx
  rcases List.mem_append.1 hx with hx | hx
  · exact h x hx
  · have : x = r := by simpa using hx
    subst this
    exact ⟨h1, h2⟩
end Se
end Go.Proofs.YtbolcapgocjgcaaDoor
