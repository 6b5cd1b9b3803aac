/- A disk and the document's side by side, and a step that stands beside them. -/
import Derived.Test.YtpkjeplhdnbihaaDpO
namespace Go.Proofs.Ytpkjeplhdnbihaa
open Go.RowKit
open Go.Proofs.Ytpkjeplhdnbihaa.Pk
namespace Dk

def XS (B : World) (q : Nat) (v : Value) (ob : Nat) : Nat → Prop := fun g => g = q ∨ v.ownBlock = some g ∨ g = ob ∨ g < B.heap.size
/-- The disk at p has the files Ld, the document's at q the files Lx; the step o stands at ob. -/
structure Mi (B : World) (p q room ob : Nat) (o : Stp) (Ld Lx : St) (v : Value) (w : World) : Prop where
  live : Live B w p room Ld (XS B q v ob)
  ref : Rf w q room Lx v
  qb : B.heap.size ≤ q
  vb : ∀ g, v.ownBlock = some g → B.heap.size ≤ g
  cells : w.heap[ob]? = some (.cells o.cells 33 (0, 0))
/-- Between two steps. -/
structure Bo (B : World) (p q room : Nat) (L : St) (v : Value) (w : World) : Prop where
  live : Live B w p room L (fun g => g = q ∨ v.ownBlock = some g)
  ref : Rf w q room L v
  qb : B.heap.size ≤ q
  vb : ∀ g, v.ownBlock = some g → B.heap.size ≤ g

section
variable {B w w' : World} {p p' q room ob : Nat} {o : Stp} {Ld Ld' Lx Lx' L : St} {v : Value}
theorem Bo.enter (h : Bo B p q room L v w) (o : Stp) : Mi B p q room w.heap.size o L L v (w.alloc (.cells o.cells 33 (0, 0))) := by
  have hb := below_alloc w (.cells o.cells 33 (0, 0))
  refine ⟨((h.live.more hb).old).less fun g hg => ?_, h.ref.below hb, h.qb, h.vb, heap_alloc_new _ _⟩
  rcases hg with hg | hg | hg | hg
  · exact .inl (.inl (.inl hg))
  · exact .inl (.inl (.inr hg))
  · exact .inl (.inr ⟨by omega, by simp; omega⟩)
  · exact .inr hg
theorem Mi.leave (h : Mi B p q room ob o L L v w) : Bo B p q room L v w :=
  ⟨h.live.less fun _ hg => hg.elim (fun e => .inl e) fun e => .inr (.inl e), h.ref, h.qb, h.vb⟩
theorem Mi.obn (h : Mi B p q room ob o Ld Lx v w) : ob ≠ q ∧ v.ownBlock ≠ some ob := by
  constructor
  · rintro rfl
    have := h.ref.cells
    rw [h.cells] at this
    injection this with this
    injection this with _ e
    exact absurd e (by decide)
  · intro e
    obtain ⟨_, cur, hc⟩ := row_block h.ref.row e
    rw [h.cells] at hc
    injection hc with this
    injection this with _ e
    exact absurd e (by decide)
/-- The program's disk goes on. -/
theorem Mi.dd (h : Mi B p q room ob o Ld Lx v w) (k : LTo B w p room Ld' (XS B q v ob) w') : Mi B p q room ob o Ld' Lx v w' :=
  ⟨k.1, h.ref.keep fun g hg => k.2.1 g (hg.elim .inl fun e => .inr (.inl e)), h.qb, h.vb, (k.2.1 ob (.inr (.inr (.inl rfl)))).trans h.cells⟩
/-- The document's goes on. -/
theorem Mi.xx (h : Mi B p q room ob o Ld Lx v w) (k : RTo w q room Lx' v w') : ∃ v', Mi B p q room ob o Ld Lx' v' w' := by
  obtain ⟨v', hR, hv', hk⟩ := k
  have hob := h.obn
  obtain ⟨fp, D, hf⟩ := h.live.dk
  have hfs : ∀ g, fp g → g < w.heap.size := by
    obtain ⟨mo, l, d, _⟩ := D
    exact d.size
  have hcl : ob < w.heap.size := lt_some h.cells
  have hvv : ∀ g, v'.ownBlock = some g → B.heap.size ≤ g := fun g hg => by
    rcases hv' g hg with e | e
    · exact h.vb g e
    · exact Nat.le_trans h.live.be.size e
  refine ⟨v', ⟨⟨fp, D.keep hk.size fun g hg => hk.block g (hfs g hg) fun e => (hf g hg).2 (e.elim .inl fun e => .inr (.inl e)), fun g hg => ⟨(hf g hg).1, fun e => ?_⟩⟩, h.live.be.trans (hk.below (fun g hg => hg.elim (fun e => by rw [e]; exact h.qb) fun e => h.vb g e) h.live.be.size), fun g hg => ?_⟩, hR, h.qb, hvv, ?_⟩
  · rcases e with e | e | e | e
    · exact (hf g hg).2 (.inl e)
    · rcases hv' g e with e | e
      · exact (hf g hg).2 (.inr (.inl e))
      · have := hfs g hg
        omega
    · exact (hf g hg).2 (.inr (.inr (.inl e)))
    · exact (hf g hg).2 (.inr (.inr (.inr e)))
  · rcases hg with e | e | e | e
    · exact hR.lt g (.inl e)
    · exact hR.lt g (.inr e)
    · subst e
      exact Nat.lt_of_lt_of_le hcl hk.size
    · exact Nat.lt_of_lt_of_le e (Nat.le_trans h.live.be.size hk.size)
  · exact (hk.block ob hcl fun e => e.elim hob.1 hob.2).trans h.cells
theorem Mi.below (h : Mi B p q room ob o Ld Lx v w) (hb : Below w.heap.size w w') : Mi B p q room ob o Ld Lx v w' :=
  h.dd (h.live.lto hb)
theorem Mi.drewN (h : Mi B p q room ob o Ld Lx v w) (n : Nat) : Mi B p q room ob o Ld Lx v (w.drewN n) := h.below ⟨rfl, rfl, rfl, Nat.le_refl _, fun _ _ => rfl⟩
theorem Mi.at1 (h : Mi B p q room ob o Ld Lx v w) : w.cell? ⟨ob, 1, none⟩ = some (.int .i64 o.n) := one_at (i := 1) h.cells
theorem Mi.at2 (h : Mi B p q room ob o Ld Lx v w) : w.cell? ⟨ob, 2, none⟩ = some (.string o.name) := one_at (i := 2) h.cells
theorem Mi.at3 (h : Mi B p q room ob o Ld Lx v w) : w.cell? ⟨ob, 3, none⟩ = some (.string o.to) := one_at (i := 3) h.cells
theorem Mi.at4 (h : Mi B p q room ob o Ld Lx v w) : w.cell? ⟨ob, 4, none⟩ = some (.slice o.A o.m o.c) := one_at (i := 4) h.cells
theorem Mi.src (h : Mi B p q room ob o Ld Lx v w) (hr : Rb B (fun g => g < B.heap.size) o.A o.m o.bs) : (convert 31 9 (.slice o.A o.m o.c)).run Try.prog w = .ok (.string (str o.bs)) w := str_run (h.live.rb hr)
/-- The copy goes on: the first disk is left. -/
theorem Mi.copied {w1 w2 : World} (h : Mi B p q room ob o L L v w) (hb : Below w.heap.size w w1) (D : Disk w1 p' room L (fun g => w.heap.size ≤ g ∧ g < w1.heap.size)) (k : Live B w2 p room Ld' (fun g => XS B q v ob g ∨ (w.heap.size ≤ g ∧ g < w1.heap.size)))
    (hk : ∀ g, (XS B q v ob g ∨ (w.heap.size ≤ g ∧ g < w1.heap.size)) → w2.heap[g]? = w1.heap[g]?) (hs : w1.heap.size ≤ w2.heap.size) : Mi B p' q room ob o L L v w2 := by
  have h1 := h.below hb
  refine ⟨⟨⟨_, D.keep hs fun g hg => hk g (.inr hg), fun g hg => ⟨Nat.le_trans h.live.be.size hg.1, fun e => ?_⟩⟩, k.be, fun g hg => k.xs g (.inl hg)⟩, h1.ref.keep fun g hg => hk g (.inl (hg.elim .inl fun e => .inr (.inl e))), h.qb, h.vb, (hk ob (.inl (.inr (.inr (.inl rfl))))).trans h1.cells⟩
  have := h.live.xs g e
  omega
end

/-! ### how many files there are -/
section
variable {room : Nat} {L : St} {n m b : Bs} {k : Int}
theorem len_app : (sApp room L n b).2.length ≤ L.length + 1 := by
  unfold sApp
  split
  · simp
  · split
    · simp
    · exact len_put_le _ _ _
theorem len_put_some {a a' : Bs × Nat} (h : Rise L) (e : look n L = some a) : (put n a' L).length = L.length := by
  have := len_put (n := n) (a := a') h
  rw [e] at this
  simpa using this
theorem len_sync (h : Rise L) : (sSync L n).2.length ≤ L.length + 1 := by
  unfold sSync
  cases e : look n L with
  | none => simp [Option.elim]
  | some a =>
    simp only [Option.elim]
    rw [len_put_some h e]
    omega
theorem len_cut (h : Rise L) : (sCut L n k).2.length ≤ L.length + 1 := by
  unfold sCut
  cases e : look n L with
  | none => simp [Option.elim]
  | some a =>
    simp only [Option.elim]
    split
    · simp
    · rw [len_put_some h e]
      omega
theorem len_ren : (sRen L n m).2.length ≤ L.length + 1 := by
  unfold sRen
  cases e : look n L with
  | none => simp [Option.elim]
  | some a =>
    simp only [Option.elim]
    split
    · simp
    · exact Nat.le_trans (len_put_le _ _ _) (by have := len_del_le n L; omega)
theorem len_rem : (sRem L n).2.length ≤ L.length + 1 := by
  unfold sRem
  cases e : look n L with
  | none => simp [Option.elim]
  | some a =>
    simp only [Option.elim]
    have := len_del_le n L
    omega
theorem len_crash : (sCrash k L).length ≤ L.length + 1 := by
  have : (sCrash k L).length = L.length := len_vals _ _
  omega
end
end Dk
end Go.Proofs.Ytpkjeplhdnbihaa
