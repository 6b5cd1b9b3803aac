/- WheelOnce, its last part. -/
import Derived.Test.YtnfakkinaockiaaLsC
import Derived.Deep.CutBlock
import Derived.Deep.CutRange
namespace Go.Proofs.Ytnfakkinaockiaa.wheelOnce
open Go.ChangeShapes Go.WideShapes Go.ChangeAt Go.WideMaps Go.WideElems Go.RowKit
open Go.Proofs.Ytnfakkinaockiaa.Pk (one_at one_free one_set lt_some grown_set)
open Go.Proofs.Ytnfakkinaockiaa.Wh

def tv (xs : List Int) (i : Nat) : Nat := usm (xs.getD i 0) 1001
theorem tv_le (xs : List Int) (i : Nat) : tv xs i ≤ 1000 := by have := usm_lt (xs.getD i 0) (n := 1001) (by omega); unfold tv; omega
theorem tv_at {xs : List Int} {i : Nat} {x : Int} (h : xs[i]? = some x) : tv xs i = usm x 1001 := by unfold tv; rw [List.getD_eq_getElem?_getD, h]; rfl
theorem due_weak {n : Nat} {tv : Nat → Nat} {S : List Tm} {c : Int} (D : Due n tv (-1) S) (hc : c < 0) : Due n tv c S :=
  ⟨fun i hi _ => D.has i hi (by omega), fun t ht => by
    obtain ⟨i, hi, e, _⟩ := D.only t ht
    exact ⟨i, hi, e, by omega⟩⟩
/-- The wheel, and who has gone off, at ob. -/
structure On (B : World) (q ob n : Nat) (wn : Int) (S G : List Tm) (W : World) : Prop where
  lw : Lw B W q wn S (fun g => g = ob ∨ g < B.heap.size)
  row : RowB W B.heap.size (.slice (some ⟨ob, 0, none⟩) n n) n (bls (bof n G))
section
variable {B W W' : World} {q ob n : Nat} {wn : Int} {S S' G r : List Tm} {o : Tm}
theorem On.lt (s : On B q ob n wn S G W) : ob < W.heap.size := s.lw.xs ob (.inl rfl)
theorem On.below (s : On B q ob n wn S G W) (hb : Below W.heap.size W W') : On B q ob n wn S G W' := ⟨s.lw.below hb, rb_same s.row fun g hg => hb.block g (by
    have : ob = g := by simpa [Value.ownBlock] using hg
    rw [← this]; exact s.lt)⟩
theorem On.mark (s : On B q ob n wn S (o :: r) W) (nd : Nd (o :: r)) {k : Nat} (hk : o.1 = (k : Int)) (hn : k < n) : On B q ob n wn S r (W.setCell ⟨ob, k, none⟩ (.bool true)) ∧ W.grownBy (W.setCell ⟨ob, k, none⟩ (.bool true)) (some ob) := by
  obtain ⟨r1, g1⟩ := s.row.stored k (.bool true)
  rw [bls_set, bof_step nd hk hn] at r1
  exact ⟨⟨s.lw.side g1 (.inl rfl) (rb_block s.row rfl).1, r1⟩, g1⟩
theorem On.cell (s : On B q ob n wn S (o :: r) W) {k : Nat} (hk : o.1 = (k : Int)) (hn : k < n) : W.cell? ⟨ob, k, none⟩ = some (.bool false) ∧ W.frozen? ⟨ob, k, none⟩ = false :=
  ⟨(s.row.cellAt k (by omega)).trans (bls_at (bof_in hk hn)), s.row.frozenAt k⟩
end
def S1At (B : World) (q n : Nat) (xs : List Int) (i : Value) (wr : World) : Prop := ∃ (k : Nat) (S : List Tm), i = .int .i64 k ∧ k ≤ n ∧ S.length = k ∧ Due k (tv xs) (-1) S ∧ Lw B wr q 0 S (fun g => g < B.heap.size)
def OnAt (B : World) (q ob n kk : Nat) (xs : List Int) (vl vn : Value) (wr : World) : Prop :=
  ∃ (nw lst wn : Int) (S : List Tm), vl = .int .i64 lst ∧ vn = .int .i64 nw ∧ 0 ≤ nw ∧ nw ≤ 1200 ∧ wn ≤ nw ∧ Due n (tv xs) (nw - (kk : Int)) S ∧ (∀ t ∈ S, lst ≤ t.2) ∧ On B q ob n wn S S wr
def InAt (B W0 : World) (q ob n : Nat) (nw : Int) (O S' : List Tm) (vL : Value) (vl vi : Value) (wr : World) : Prop :=
  ∃ (j : Nat) (lst : Int), vi = .int .i64 j ∧ vl = .int .i64 lst ∧ j ≤ O.length ∧ (∀ t ∈ O.drop j ++ S', lst ≤ t.2) ∧ On B q ob n nw S' (O.drop j ++ S') wr ∧ RowI wr W0.heap.size vL O.length (nums (O.map (·.1)))
def headIs (k : Nat) : Code → Bool
  | .region id _ _ => id == k
  | .seq a _ => headIs k a
  | _ => false
def restAt (k : Nat) : Code → Option Code
  | .seq a b => if headIs k b then some b else match restAt k b with
    | some c => some c
    | none => restAt k a
  | .block _ c => restAt k c
  | .scope c => restAt k c
  | _ => none
noncomputable def rest11 : Code := (Try.f5.body.bind (restAt 11)).getD .skip
noncomputable def rest28 : Code := (Try.f5.body.bind (restAt 28)).getD .skip
set_option maxHeartbeats 6400000 in
set_option maxRecDepth 100000 in
theorem part3 (z1 z2 z3 z4 z6 z7 z9 z10 z11 z12 z13 z14 z15 z16 z17 z18 z19 z20 z21 z22 z23 z24 z25 z26 z27 z28 z29 z30 z31 z32 z33 z34 z35 z36 z37 z38 z39 z40 z41 z42 z43 z44 z45 z46 z47 z48 z49 z50 z51 z52 z53 z54 z55 z56 z57 z58 z59 z60 z61 z62 z63 z64 z65 z66 z67 z68 z69 z70 z71 z72 z73 z74 z75 z76 z77 z78 z79 z80 z81 z82 z83 z84 z85 z86 z87 z88 z89 z90 z91 z92 z93 z94 z95 z96 z97 z98 z99 z100 z101 z102 z103 z104 z105 z106 z107 z108 z109 z110 z111 z112 z113 z114 z115 z116 z117 z118 z119 z120 z121 z122 z123 z124 z125 z126 z127 z128 z129 z130 z131 z132 z133 z134 z135 z136 z137 z138 z139 z140 z141 z142 z143 z144 : Value) (w wo : World) (A1 : Option Addr) (k c ob q : Nat) (wn : Int) (T : Hid (On w q ob k wn [] [] wo)) (i3 : (k : Int) ≤ 40) :
    Code.wp Try.prog rest28 (bodyPost Try.prog Try.f5 fun e w' => e = .returned (.bool true) ∧ Below w.heap.size w w') ⟨#[.slice A1 k c, z1, z2, z3, z4, .pointer (some ⟨q, 0, none⟩), z6, z7, .slice (some ⟨ob, 0, none⟩) k k, z9, z10, z11, z12, z13, z14, z15, z16, z17, z18, z19, z20, z21, z22, z23, z24, z25, z26, z27, z28, z29, z30, z31, z32, z33, z34, z35, z36, z37, z38, z39, z40, z41, z42, z43, z44, z45, z46, z47, z48, z49, z50, z51, z52, z53, z54, z55, z56, z57, z58, z59, z60, z61, z62, z63, z64, z65, z66, z67, z68, z69, z70, z71, z72, z73, z74, z75, z76, z77, z78, z79, z80, z81, z82, z83, z84, z85, z86, z87, z88, z89, z90, z91, z92, z93, z94, z95, z96, z97, z98, z99, z100, z101, z102, z103, z104, z105, z106, z107, z108, z109, z110, z111, z112, z113, z114, z115, z116, z117, z118, z119, z120, z121, z122, z123, z124, z125, z126, z127, z128, z129, z130, z131, z132, z133, z134, z135, z136, z137, z138, z139, z140, z141, z142, z143, z144], []⟩ wo := by
  conv => arg 2; whnf
  have TA := Lib.hid told_any
  have st3 : Hid (GoAt wo (fun j => j ≤ k) (.int .i64 0) wo) := ⟨0, rfl, Nat.zero_le _, Below.refl _ _⟩
  go_wp2_with fail
  go_loopw [15] (fun vi wr => GoAt wo (fun j => j ≤ k) vi wr) (fun vi _ => k - (intOf vi).toNat)
  case atStart => exact st3.out
  case round =>
    clear st3
    obtain ⟨j, rfl, hj, hb⟩ := hrel
    have T2 := T.out.below hb
    by_cases hlt : j < k
    · have i1 : (j : Int) < (k : Int) := by omega
      have i2 : (0 : Int) ≤ (j : Int) := by omega
      have cb : wr.cell? ⟨ob, j, none⟩ = some (.bool true) := (T2.row.cellAt j (by omega)).trans (bls_at (bof_at [] hlt))
      have nx : Hid (GoAt wo (fun j => j ≤ k) (.int .i64 ((j : Int) + 1)) wr) := ⟨j + 1, by simp, hlt, hb⟩
      clear T2 hb
      go_wp2
      exact ⟨nx.out, by simp [intOf]; omega⟩
    · have d2 : decide (j < k) = false := decide_eq_false hlt
      replace T2 := Lib.hid T2
      clear hb hj hlt T
      go_wp2_with fail
      refine (TA.out _).mono ?_
      rintro e w7 ⟨rfl, b7⟩
      have T7 := T2.out.below b7
      have LE := Lib.hid (lw_len T7.lw)
      have hbe := Lib.hid T7.lw.be
      have z0 : ((([] : List Tm).length : Nat) : Int) = 0 := rfl
      clear T2 b7 T7
      go_wp2_with fail
      refine LE.out.mono ?_
      rintro e w8 ⟨rfl, b8⟩
      rw [z0]
      have E := Lib.hid (hbe.out.trans (b8.mono hbe.out.size))
      clear LE hbe b8 z0
      go_wp2
      go_ret
      exact ⟨rfl, E.out⟩

end Go.Proofs.Ytnfakkinaockiaa.wheelOnce
