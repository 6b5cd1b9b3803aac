/- For TablePlays: a table and the document's, side by side. -/
import Derived.Test.YtiplhdeomlmpkaaDtC
namespace Go.Proofs.Ytiplhdeomlmpkaa
set_option maxRecDepth 100000
open Go.RowKit
open Go.Sort (grow)
open Go.Proofs.Ytiplhdeomlmpkaa.Pk (one_at one_free one_set lt_some grown_set grown_trans below_grown grown_refl)
namespace Tb
open Wt (Opn mayOp)

/-- The program's table at q, the document's at d. -/
structure Md (B : World) (q d : Nat) (f1 f2 : F) (W : World) : Prop where
  ow : Ow B.heap.size (fun g => g = d) B W q f1
  dm : Dm W d f2 (cnt f2 : Nat)
  low : B.heap.size ≤ d
section
variable {B W W' : World} {q d : Nat} {f f1 f2 : F}
theorem Md.below (M : Md B q d f1 f2 W) (hb : Below W.heap.size W W') : Md B q d f1 f2 W' := ⟨M.ow.below hb, M.dm.below hb, M.low⟩
theorem Md.drew (M : Md B q d f1 f2 W) : Md B q d f1 f2 W.drew := M.below ⟨rfl, rfl, rfl, Nat.le_refl _, fun _ _ => rfl⟩
theorem Md.be (M : Md B q d f1 f2 W) : Below B.heap.size B W := M.ow.be
theorem md_start {X : Nat → Prop} (O : Ow B.heap.size X B W q f) (hb : Below W.heap.size W W') (hd : W.heap.size ≤ d) (D : Dm W' d fz 0) : Md B q d f fz W' :=
  ⟨(O.beside hb).less fun g hg => .inr ⟨by rw [hg]; exact hd, by rw [hg]; exact D.lt⟩, by rw [cnt_z]; exact D, Nat.le_trans O.bs hd⟩
theorem md_put (M : Md B q d f1 f2 W) (o : Opn) (a : Int) : Calls Try.prog 7 #[.pointer (some ⟨q, 0, none⟩), opv o, .int .i64 a] W fun e w' => e = .returned (.bool (put? f1 o a)) ∧ Md B q d (putF f1 o a) f2 w' := by
  refine (ow_put M.ow o a).mono ?_
  rintro e w' ⟨rfl, h1, h2⟩
  exact ⟨rfl, h1, M.dm.keep (h2.2 d rfl), M.low⟩
theorem mx_put (M : Md B q d f1 f2 W) (o : Opn) (a : Int) : Calls Try.prog 8 #[.pointer (some ⟨d, 0, none⟩), opv o, .int .i64 a] W fun e w' => e = .returned (.bool (put? f2 o a)) ∧ Md B q d f1 (putF f2 o a) w' := by
  refine (refput_any W d f2 M.dm o a).mono ?_
  rintro e w' ⟨rfl, h1, K⟩
  refine ⟨rfl, ?_, h1, M.low⟩
  obtain ⟨fp, L, hf⟩ := M.ow.ex
  exact ⟨⟨fp, L.keep K.size fun g hg => K.block g (L.size g hg) fun e => (hf g hg).2 e, hf⟩, M.ow.be.trans (K.below (fun g hg => by rw [hg]; exact M.low) M.ow.bs), Nat.le_trans M.ow.bs K.size, fun g hg => Nat.lt_of_lt_of_le (M.ow.xs g hg) K.size⟩
theorem md_find (M : Md B q d f1 f2 W) (o : Opn) (hb : Bp (o.book, o.kind)) : Calls Try.prog 10 #[.pointer (some ⟨q, 0, none⟩), opv o] W fun e w' => e = .returned (.tuple #[.int .i64 (f1 o.book o.kind), .bool (ne0 (f1 o.book o.kind))]) ∧ Below W.heap.size W w' := ow_find M.ow o hb
theorem mx_find (M : Md B q d f1 f2 W) (O : Ok f2) (o : Opn) : Calls Try.prog 11 #[.pointer (some ⟨d, 0, none⟩), opv o] W fun e w' => e = .returned (.tuple #[.int .i64 (f2 o.book o.kind), .bool (ne0 (f2 o.book o.kind))]) ∧ Below W.heap.size W w' := reffind_any W d f2 _ M.dm O o
end
end Tb
end Go.Proofs.Ytiplhdeomlmpkaa
