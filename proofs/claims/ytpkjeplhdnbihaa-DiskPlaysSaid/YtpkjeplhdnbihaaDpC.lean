/- A copy goes on, while the disk that it was made of is written. -/
import Derived.Test.YtpkjeplhdnbihaaDpB
namespace Go.Proofs.Ytpkjeplhdnbihaa
open Go.RowKit
open Go.Proofs.Ytpkjeplhdnbihaa.Pk
namespace Dk

/-- The disk at p has the files Lp; its copy, at p', has L. -/
def Cp (B : World) (p p' q room ob : Nat) (o : Stp) (L Lp : St) (w : World) : Prop :=
  ∃ v w0 w1, Mi B p q room ob o L L v w0 ∧ Below w0.heap.size w0 w1 ∧ Disk w1 p' room L (fun g => w0.heap.size ≤ g ∧ g < w1.heap.size) ∧ Live B w p room Lp (fun g => XS B q v ob g ∨ (w0.heap.size ≤ g ∧ g < w1.heap.size)) ∧
    (∀ g, (XS B q v ob g ∨ (w0.heap.size ≤ g ∧ g < w1.heap.size)) → w.heap[g]? = w1.heap[g]?) ∧ w1.heap.size ≤ w.heap.size
section
variable {B w w' : World} {p p' q room ob : Nat} {o : Stp} {L Lp Lp' : St}
theorem Cp.below (h : Cp B p p' q room ob o L Lp w) (hb : Below w.heap.size w w') : Cp B p p' q room ob o L Lp w' := by
  obtain ⟨v, w0, w1, h1, h2, h3, h4, h5, h6⟩ := h
  have k := h4.lto hb
  exact ⟨v, w0, w1, h1, h2, h3, k.1, fun g hg => (k.2.1 g hg).trans (h5 g hg), Nat.le_trans h6 k.2.2⟩
theorem d_copy (F : Fit room L) (h : Mx B p q room ob o L L w) :
    Calls Try.prog 23 #[.pointer (some ⟨p, 0, none⟩)] w fun e w' => ∃ p', e = .returned (.pointer (some ⟨p', 0, none⟩)) ∧ Cp B p p' q room ob o L L w' := by
  obtain ⟨v, h⟩ := h
  exact (l_copy h.live (by have := F.len; omega)).mono fun e w' ⟨p', k1, k2, k3, k4⟩ => ⟨p', k1, v, w, w', h, k4, k3, k2, fun _ _ => rfl, Nat.le_refl _⟩
theorem c_app (F : Fit room L) (s : ByteArray) (bs : Bs) (n c : Nat) (fr : Nat × Nat) (hn : bs.length = n) (hs : n ≤ 60) (h : Cp B p p' q room ob o L L w) :
    Calls Try.prog 11 #[.pointer (some ⟨p, 0, none⟩), .string s, .slice (some ⟨w.heap.size, 0, none⟩) n c] (w.alloc (.cells (u8s bs).toArray 5 fr)) fun e w' => (∃ k, e = .returned (.int .i64 k)) ∧ ∃ Lp, Lp.length ≤ 101 ∧ Cp B p p' q room ob o L Lp w' := by
  subst hn
  obtain ⟨v, w0, w1, h1, h2, h3, h4, h5, h6⟩ := h.below (below_alloc w (.cells (u8s bs).toArray 5 fr))
  exact (l_append h4 s _ bs.length c bs (rb_lit w bs fr) (fun g hg => by subst hg; simp) (by omega) (by have := F.len; omega)).mono fun e w' k =>
    ⟨⟨_, k.1⟩, _, by have := F.len; have := len_app (room := room) (L := L) (n := nm s) (b := bs); omega, v, w0, w1, h1, h2, h3, k.2.1, fun g hg => (k.2.2.1 g hg).trans (h5 g hg), Nat.le_trans h6 k.2.2.2⟩
theorem c_crash (hl : Lp.length ≤ 101) (h : Cp B p p' q room ob o L Lp w) :
    Calls Try.prog 21 #[.pointer (some ⟨p, 0, none⟩), .int .i64 0] w fun e w' => e = .returned (.tuple #[]) ∧ Mx B p' q room ob o L L w' := by
  obtain ⟨v, w0, w1, h1, h2, h3, h4, h5, h6⟩ := h
  exact (l_crash h4 0 (by omega) (by omega) (by omega)).mono fun e w' k => ⟨k.1, v, h1.copied h2 h3 k.2.1 (fun g hg => (k.2.2.1 g hg).trans (h5 g hg)) (Nat.le_trans h6 k.2.2.2)⟩
end
end Dk
end Go.Proofs.Ytpkjeplhdnbihaa
