/- want: take reads numbers one behind the other. -/
import Derived.Test.YtidfpbnepdjagaaDoorWtE
import Derived.Test.YtidfpbnepdjagaaDoorPk3
namespace Go.Proofs.YtidfpbnepdjagaaDoor
open Go.RowKit Go.Proofs.YtidfpbnepdjagaaDoor.Pk
namespace Wt

/-- So many numbers, read. -/
def rdk : Nat → St → List Int × St
  | 0, s => ([], s)
  | k + 1, s => ((rdk k s).1 ++ [(rInt (-9223372036854775808) 9223372036854775807 (rdk k s).2).1], (rInt (-9223372036854775808) 9223372036854775807 (rdk k s).2).2)
theorem rdk_len (k : Nat) (s : St) : (rdk k s).1.length = k := by induction k with | zero => rfl | succ k ih => simp [rdk, ih]
def setL (cs : Array Value) (o : Nat) : List Int → Array Value
  | [] => cs
  | v :: vs => setL (cs.setIfInBounds o (.int .i64 v)) (o + 1) vs
theorem setL_snoc (vs : List Int) (v : Int) : ∀ cs o, setL cs o (vs ++ [v]) = (setL cs o vs).setIfInBounds (o + vs.length) (.int .i64 v) := by
  induction vs with
  | nil => intro cs o; rfl
  | cons u vs ih =>
    intro cs o
    show setL _ _ (vs ++ [v]) = _
    rw [ih]
    simp only [setL, List.length_cons]
    congr 1
    omega
theorem setL_size (vs : List Int) : ∀ cs o, (setL cs o vs).size = cs.size := by
  induction vs with
  | nil => intro cs o; rfl
  | cons u vs ih => intro cs o; show (setL _ _ vs).size = _; rw [ih]; simp

/-- All but the blocks p and b is as it was. -/
structure Gr2 (w : World) (p b : Nat) (w' : World) : Prop where
  os : w'.os = w.os
  tape : w'.tape = w.tape
  output : w'.output = w.output
  size : w.heap.size ≤ w'.heap.size
  block : ∀ i, i < w.heap.size → i ≠ p → i ≠ b → w'.heap[i]? = w.heap[i]?
theorem Gr2.refl (w : World) (p b : Nat) : Gr2 w p b w := ⟨rfl, rfl, rfl, Nat.le_refl _, fun _ _ _ _ => rfl⟩
theorem Gr2.trans {a c d : World} {p b : Nat} (h : Gr2 a p b c) (k : Gr2 c p b d) : Gr2 a p b d := ⟨k.os.trans h.os, k.tape.trans h.tape, k.output.trans h.output, Nat.le_trans h.size k.size, fun i hi h1 h2 => (k.block i (Nat.lt_of_lt_of_le hi h.size) h1 h2).trans (h.block i hi h1 h2)⟩
theorem Gr2.of_p {w w' : World} {p b : Nat} (h : w.grownBy w' (some p)) : Gr2 w p b w' := ⟨h.os, h.tape, h.output, h.size, fun i hi h1 _ => h.block i hi (fun e => h1 (by injection e))⟩
theorem Gr2.of_b {w w' : World} {p b : Nat} (h : w.grownBy w' (some b)) : Gr2 w p b w' := ⟨h.os, h.tape, h.output, h.size, fun i hi _ h2 => h.block i hi (fun e => h2 (by injection e))⟩
theorem Gr2.of_below {w w' : World} {p b : Nat} (h : Below w.heap.size w w') : Gr2 w p b w' := ⟨h.os, h.tape, h.output, h.size, fun i hi _ _ => h.block i hi⟩
theorem Gr2.below {w w' : World} {p b B : Nat} (h : Gr2 w p b w') (hp : B ≤ p) (hb : B ≤ b) (hB : B ≤ w.heap.size) : Below B w w' := ⟨h.os, h.tape, h.output, h.size, fun i hi => h.block i (by omega) (by omega) (by omega)⟩

/-- Where what was read goes: n cells of block b, from o on; block p is the Reader's. -/
structure Ps (w : World) (ad : Addr) (p b o n : Nat) : Prop where
  lt : ad.block < w.heap.size
  np : ad.block ≠ p
  nb : ad.block ≠ b
  at_ : ∀ j, j < n → w.cell? (ad.add j) = some (.pointer (some ⟨b, o + j, none⟩))
theorem Ps.gr {w w' : World} {ad : Addr} {p b o n : Nat} (h : Ps w ad p b o n) (k : Gr2 w p b w') : Ps w' ad p b o n :=
  ⟨Nat.lt_of_lt_of_le h.lt k.size, h.np, h.nb, fun j hj => (World.cell?_of_block (by rw [adr_block]; exact k.block _ h.lt h.np h.nb)).trans (h.at_ j hj)⟩

/-- What take has done: so many numbers are read, and lie in block b. -/
structure TkTo (w : World) (p b o : Nat) (cs : Array Value) (t : TypeId) (q : List Int × St) (w' : World) : Prop where
  rd : Rd w' p q.2
  bl : w'.heap[b]? = some (Obj.cells (setL cs o q.1) t (0, 0))
  gr : Gr2 w p b w'
def TkAt (w : World) (p b o n : Nat) (cs : Array Value) (t : TypeId) (s : St) (i : Value) (wr : World) : Prop := ∃ k : Nat, i = .int .i64 k ∧ k ≤ n ∧ TkTo w p b o cs t (rdk k s) wr

theorem tk_step {w wr w2 : World} {p b o k : Nat} {cs : Array Value} {t : TypeId} {s : St} (h : TkTo w p b o cs t (rdk k s) wr) (hpb : p ≠ b) (ht : t ≠ 5)
    (h2 : RdTo wr p (rInt (-9223372036854775808) 9223372036854775807 (rdk k s).2).2 w2) :
    TkTo w p b o cs t (rdk (k + 1) s) (w2.setCell ⟨b, o + k, none⟩ (.int .i64 (rInt (-9223372036854775808) 9223372036854775807 (rdk k s).2).1)) := by
  have hb2 : w2.heap[b]? = some (Obj.cells (setL cs o (rdk k s).1) t (0, 0)) := (h2.gr.block b (lt_some h.bl) (fun e => hpb (by injection e with e; exact e.symm))).trans h.bl
  refine ⟨h2.rd.grown (grown_set _ b _ _) hpb hb2 ht, ?_, h.gr.trans ((Gr2.of_p h2.gr).trans (Gr2.of_b (grown_set _ b _ _)))⟩
  rw [one_set hb2, rdk, setL_snoc, rdk_len]

set_option maxHeartbeats 800000 in
theorem takei (p b o n : Nat) (w : World) (s : St) (h : Rd w p s) (ad : Addr) (cs : Array Value) (t : TypeId) (hs : Ps w ad p b o n) (hb : w.heap[b]? = some (Obj.cells cs t (0, 0))) (hpb : p ≠ b) (ht : t ≠ 5) (ho : o + n ≤ cs.size) (hn : n ≤ 100) :
    Calls Tryd.prog 62 #[.pointer (some ⟨p, 0, none⟩), .slice (some ad) n n] w fun e w' => e = .returned (.tuple #[]) ∧ TkTo w p b o cs t (rdk n s) w' := by
  have st : Hid (TkAt w p b o n cs t s (.int .i64 0) w) := ⟨0, rfl, Nat.zero_le _, h, hb, Gr2.refl _ _ _⟩
  replace hs := Lib.hid hs
  clear h hb
  go_enter Tryd.func62, Tryd.ntmps62
  go_wp2
  go_loopw [8] (fun i wr => TkAt w p b o n cs t s i wr) (fun i _ => n - (intOf i).toNat)
  case atStart => exact st.out
  case round =>
    obtain ⟨k, rfl, hk, hw⟩ := hrel
    replace hw := Lib.hid hw
    by_cases hlt : k < n
    · have q := (hs.out.gr hw.out.gr).at_ k hlt
      obtain ⟨v, hv⟩ : ∃ v, v = (rInt (-9223372036854775808) 9223372036854775807 (rdk k s).2).1 := ⟨_, rfl⟩
      have C : Hid (Calls Tryd.prog 30 #[.pointer (some ⟨p, 0, none⟩), .int .i64 (-9223372036854775808), .int .i64 9223372036854775807] wr fun e w' => e = .returned (.int .i64 v) ∧ RdTo wr p (rInt (-9223372036854775808) 9223372036854775807 (rdk k s).2).2 w') := by
        refine (rint_any p wr _ _ _ hw.out.rd).mono ?_
        rintro e w' ⟨rfl, h5⟩
        exact ⟨by rw [hv], h5⟩
      have hx : ∃ y, (setL cs o (rdk k s).1)[o + k]? = some y := ⟨_, Array.getElem?_eq_getElem (by rw [setL_size]; omega)⟩
      obtain ⟨y, hy⟩ := hx
      replace hv := Lib.hid hv
      replace hy := Lib.hid hy
      go_wp2_with fail
      refine C.out.mono ?_
      rintro e w2 ⟨rfl, h2⟩
      have hb2 : w2.heap[b]? = some (Obj.cells (setL cs o (rdk k s).1) t (0, 0)) := (h2.gr.block b (lt_some hw.out.bl) (fun e => hpb (by injection e with e; exact e.symm))).trans hw.out.bl
      have d0 : w2.cell? ⟨b, o + k, none⟩ = some y := (one_at hb2).trans hy.out
      have f0 : w2.frozen? ⟨b, o + k, none⟩ = false := one_free hb2
      have nx : Hid (TkTo w p b o cs t (rdk (k + 1) s) (w2.setCell ⟨b, o + k, none⟩ (.int .i64 v))) := by rw [hv.out]; exact tk_step hw.out hpb ht h2
      clear h2 hb2
      go_wp2
      go_roundw
      case rel => exact ⟨k + 1, by simp, hlt, nx.out⟩
      case measure => simp [intOf]; omega
    · obtain rfl : k = n := by omega
      go_wp2_with fail
      go_end0
      exact ⟨rfl, hw.out⟩
set_option maxHeartbeats 800000 in
theorem takei64 (p b o n : Nat) (w : World) (s : St) (h : Rd w p s) (ad : Addr) (cs : Array Value) (t : TypeId) (hs : Ps w ad p b o n) (hb : w.heap[b]? = some (Obj.cells cs t (0, 0))) (hpb : p ≠ b) (ht : t ≠ 5) (ho : o + n ≤ cs.size) (hn : n ≤ 100) :
    Calls Tryd.prog 63 #[.pointer (some ⟨p, 0, none⟩), .slice (some ad) n n] w fun e w' => e = .returned (.tuple #[]) ∧ TkTo w p b o cs t (rdk n s) w' := by
  have st : Hid (TkAt w p b o n cs t s (.int .i64 0) w) := ⟨0, rfl, Nat.zero_le _, h, hb, Gr2.refl _ _ _⟩
  replace hs := Lib.hid hs
  clear h hb
  go_enter Tryd.func63, Tryd.ntmps63
  go_wp2
  go_loopw [8] (fun i wr => TkAt w p b o n cs t s i wr) (fun i _ => n - (intOf i).toNat)
  case atStart => exact st.out
  case round =>
    obtain ⟨k, rfl, hk, hw⟩ := hrel
    replace hw := Lib.hid hw
    by_cases hlt : k < n
    · have q := (hs.out.gr hw.out.gr).at_ k hlt
      obtain ⟨v, hv⟩ : ∃ v, v = (rInt (-9223372036854775808) 9223372036854775807 (rdk k s).2).1 := ⟨_, rfl⟩
      have C : Hid (Calls Tryd.prog 30 #[.pointer (some ⟨p, 0, none⟩), .int .i64 (-9223372036854775808), .int .i64 9223372036854775807] wr fun e w' => e = .returned (.int .i64 v) ∧ RdTo wr p (rInt (-9223372036854775808) 9223372036854775807 (rdk k s).2).2 w') := by
        refine (rint_any p wr _ _ _ hw.out.rd).mono ?_
        rintro e w' ⟨rfl, h5⟩
        exact ⟨by rw [hv], h5⟩
      have hx : ∃ y, (setL cs o (rdk k s).1)[o + k]? = some y := ⟨_, Array.getElem?_eq_getElem (by rw [setL_size]; omega)⟩
      obtain ⟨y, hy⟩ := hx
      replace hv := Lib.hid hv
      replace hy := Lib.hid hy
      go_wp2_with fail
      refine C.out.mono ?_
      rintro e w2 ⟨rfl, h2⟩
      have hb2 : w2.heap[b]? = some (Obj.cells (setL cs o (rdk k s).1) t (0, 0)) := (h2.gr.block b (lt_some hw.out.bl) (fun e => hpb (by injection e with e; exact e.symm))).trans hw.out.bl
      have d0 : w2.cell? ⟨b, o + k, none⟩ = some y := (one_at hb2).trans hy.out
      have f0 : w2.frozen? ⟨b, o + k, none⟩ = false := one_free hb2
      have nx : Hid (TkTo w p b o cs t (rdk (k + 1) s) (w2.setCell ⟨b, o + k, none⟩ (.int .i64 v))) := by rw [hv.out]; exact tk_step hw.out hpb ht h2
      clear h2 hb2
      go_wp2
      go_roundw
      case rel => exact ⟨k + 1, by simp, hlt, nx.out⟩
      case measure => simp [intOf]; omega
    · obtain rfl : k = n := by omega
      go_wp2_with fail
      go_end0
      exact ⟨rfl, hw.out⟩
end Wt
end Go.Proofs.YtidfpbnepdjagaaDoor
