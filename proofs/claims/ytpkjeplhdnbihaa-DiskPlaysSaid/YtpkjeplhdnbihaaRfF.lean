/- The document's disk: Append. -/
import Derived.Test.YtpkjeplhdnbihaaRgC
namespace Go.Proofs.Ytpkjeplhdnbihaa
open Go.RowKit
open Go.Proofs.Ytpkjeplhdnbihaa.Pk
namespace Dk

def headIs (k : Nat) : Code → Bool
  | .region id _ _ => id == k
  | .seq a _ => headIs k a
  | _ => false
def restAt (k : Nat) : Code → Option Code
  | .seq a b => if headIs k b then some b else match restAt k b with
    | some c => some c
    | none => restAt k a
  | .block _ c => restAt k c
  | .scope c => restAt k c
  | _ => none
noncomputable def rapp_rest : Code := (Try.f12.body.bind (restAt 8)).getD .skip

set_option maxHeartbeats 1600000 in
set_option maxRecDepth 20000 in
theorem rapp8 (z1 z3 z4 z5 z6 z8 z9 z10 z11 z12 z13 z14 z15 z16 z17 z18 z19 z20 z21 z22 z23 z24 z25 z26 z27 z28 z29 z30 z31 z32 z33 z34 z35 z36 z37 z38 z39 z40 z41 z42 z43 z44 z45 z46 z47 z48 z49 z50 z51 z52 z53 z54 z55 z56 z57 z58 z59 z60 z61 z62 z63 z64 z65 z66 z67 z68 : Value) (_w W : World) (q room i k : Nat) (L : St) (v _vw : Value) (x old bs : Bs) (R : Rf W q room L v) (hp : L[i]? = some (x, old, k)) (hl : L.length ≤ 1000) (hadd : ∀ w, (Op.stringOp .add (str old) (str bs)).run Try.prog w = .ok (.string (str (old ++ bs))) w) (POST : Ending → World → Prop)
    (hpost : ∀ W', Kp (fun g => g = q ∨ v.ownBlock = some g) W W' → Rf W' q room (L.set i (x, old ++ bs, k)) v → POST (.returned (.int .i64 0)) W') :
    Code.wp Try.prog rapp_rest (bodyPost Try.prog Try.f12 POST) ⟨#[.pointer (some ⟨q, 0, none⟩), z1, .string (str bs), z3, z4, z5, z6, .int .i64 (i : Nat), z8, z9, z10, z11, z12, z13, z14, z15, z16, z17, z18, z19, z20, z21, z22, z23, z24, z25, z26, z27, z28, z29, z30, z31, z32, z33, z34, z35, z36, z37, z38, z39, z40, z41, z42, z43, z44, z45, z46, z47, z48, z49, z50, z51, z52, z53, z54, z55, z56, z57, z58, z59, z60, z61, z62, z63, z64, z65, z66, z67, z68], []⟩ W := by
  obtain ⟨g, c, rfl, h1, h2, e1, e2, e3, e4⟩ := R.file hp
  have hil : i < L.length := (List.getElem?_eq_some_iff.1 hp).1
  have f2 := e4 (i * 3 + 1)
  have c1 : W.cell? ⟨q, 1, none⟩ = some (.slice (some ⟨g, 0, none⟩) L.length c) := one_at (i := 1) R.cells
  have E : Hid (POST (.returned (.int .i64 0)) (W.setCell ⟨g, i * 3 + 1, none⟩ (.string (str (old ++ bs)))).drew) := hpost _ (Kp.of_grown (grown_drew (grown_set W g _ _)) (fun x hx => .inr (by injection hx with hx; subst hx; rfl))) (by have := R.set1 hp (old ++ bs); exact ⟨this.cells, this.row⟩)
  obtain ⟨n, hn⟩ : ∃ n, n = L.length := ⟨_, rfl⟩
  rw [← hn] at c1 hil hl h1
  have i1 : (i : Int) < (n : Int) := by omega
  have i2 : (0 : Int) ≤ (i : Int) := by omega
  have i3 : (n : Int) ≤ 1000000 := by omega
  generalize old ++ bs = nb at *
  clear hpost R hp e1 e3 e4 hn
  conv => arg 2; whnf
  go_wp2
  go_region
  go_wp2
  exact E.out

theorem ins_post {w W w3 : World} {q room i : Nat} {L L' P : St} {v v3 : Value} {x bs : Bs} (hb : Below w.heap.size w W) (R : Rf W q room L v) (be : Below W.heap.size W w3) (o : w3.ownsRow W.heap.size 65 3 v3 L'.length (flat L')) (hset : L'.set i (x, [] ++ bs, 0) = P) :
    Rf (w3.setCell ⟨q, 1, none⟩ v3) q room L' v3 ∧ ∀ W', Kp (fun g => g = q ∨ v3.ownBlock = some g) (w3.setCell ⟨q, 1, none⟩ v3) W' → Rf W' q room (L'.set i (x, [] ++ bs, 0)) v3 → RTo w q room P v W' := by
  have hq := lt_some R.cells
  have hne : ∀ y, v3.ownBlock = some y → W.heap.size ≤ y := fun y hy => (row_block o hy).1
  refine ⟨⟨Pk.one_set (i := 1) (R.below be).cells v3, own3_mono (row_same o fun y hy => Below.heap_setCell _ _ _ _ (by have := hne y hy; show y ≠ q; omega)) (Nat.zero_le _)⟩, fun W' hk hR => ⟨v3, by rw [← hset]; exact hR, fun y hy => .inr (Nat.le_trans hb.size (hne y hy)), ?_⟩⟩
  have hs : (w3.setCell ⟨q, 1, none⟩ v3).heap.size = w3.heap.size := by simp [World.setCell]
  have h1 := hb.size
  have h2 := be.size
  refine ⟨hk.os.trans (be.os.trans hb.os), hk.tape.trans (be.tape.trans hb.tape), hk.output.trans (be.output.trans hb.output), by have := hk.size; omega, fun g hg hn => ?_⟩
  refine (hk.block g (by omega) (fun e => ?_)).trans ((Below.heap_setCell _ _ _ _ (fun e => hn (.inl e))).trans ((be.block g (by omega)).trans (hb.block g hg)))
  rcases e with e | e
  · exact hn (.inl e)
  · have := hne g e; omega

/-! ### Append -/
theorem quiet_same {P : Program} {f : FuncId} {args : Array Value} {w : World} {n : Nat} {v : Value} (h : Calls P f args (w.drewN n) fun e w' => e = .returned v ∧ w.drewN n = w') : Calls P f args (w.drewN n) fun e w'' => e = .returned v ∧ ∃ m, w'' = w.drewN m := h.mono fun _ _ ⟨he, hm⟩ => ⟨he, n, hm.symm⟩
set_option maxHeartbeats 3200000 in
set_option maxRecDepth 20000 in
theorem rappend (w : World) (q room : Nat) (L : St) (v : Value) (s : ByteArray) (bs : Bs) (R : Rf w q room L v) (hr : Rise L) (hl : L.length ≤ 900) (hu : used L ≤ room) (hm : room ≤ 1000000) (hbs : bs.length ≤ 1000) :
    Calls Try.prog 12 #[.pointer (some ⟨q, 0, none⟩), .string s, .string (str bs)] w fun e w' => e = .returned (.int .i64 (sApp room L (nm s) bs).1) ∧ RTo w q room (sApp room L (nm s) bs).2 v w' := by
  have G := rgood w s
  unfold sApp
  cases hg : good (nm s) with
  | false =>
    rw [if_pos rfl]
    rw [hg] at G
    replace G := Lib.hid G
    have RH := Lib.hid R
    clear hg R hr
    go_enter Try.func12, Try.ntmps12
    go_wp2_with fail
    refine G.out.mono ?_
    rintro e w1 ⟨rfl, rfl⟩
    go_wp2
    go_ret
    exact ⟨rfl, RTo.of_below RH.out (Below.refl _ _)⟩
  | true =>
    rw [if_neg (by simp)]
    rw [hg] at G
    replace G := Lib.hid G
    have c0 : w.cell? ⟨q, 0, none⟩ = some (.int .i64 room) := one_at (i := 0) R.cells
    have U : Hid (∀ d, Calls Try.prog 33 #[.pointer (some ⟨q, 0, none⟩)] (w.drewN d) fun e w' => e = .returned (.int .i64 (used L : Nat)) ∧ w.drewN d = w') := fun d => rused (w.drewN d) q room L v ⟨R.cells, R.row⟩ (by omega) (by omega)
    obtain ⟨u, hu'⟩ : ∃ u, u = used L := ⟨_, rfl⟩
    rw [← hu'] at U hu ⊢
    obtain ⟨t, ht⟩ : ∃ t, t = room - u := ⟨_, rfl⟩
    have ew : IntKind.i64.wrap ((room : Int) - (u : Int)) = (t : Int) := by rw [IntKind.wrap_i64]; omega
    have hsz := str_size bs
    obtain ⟨m, hmm⟩ : ∃ m, m = bs.length := ⟨_, rfl⟩
    rw [← hmm] at hsz ⊢
    rw [← ht]
    by_cases hfull : t < m
    · rw [if_pos hfull]
      have d0 : decide (t < m) = true := decide_eq_true hfull
      have RH := Lib.hid R
      clear hg R hr hu' ht hmm hfull hu hm hbs hl
      go_enter Try.func12, Try.ntmps12
      go_wp2_with fail
      refine G.out.mono ?_
      rintro e w1 ⟨rfl, rfl⟩
      go_wp2
      go_quiet ((go_at_call 33; exact quiet_same (U.out _)))
      go_wp2
      go_ret
      exact ⟨rfl, RTo.of_below RH.out ⟨rfl, rfl, rfl, Nat.le_refl _, fun _ _ => rfl⟩⟩
    · rw [if_neg hfull]
      have d0 : decide (t < m) = false := decide_eq_false hfull
      have AT : Hid (∀ d, Calls Try.prog 34 #[.pointer (some ⟨q, 0, none⟩), .string s] (w.drewN d) (RatTo (w.drewN d) (nm s) L)) := fun d => rat (w.drewN d) q room L v s ⟨R.cells, R.row⟩ hr (by omega)
      unfold RatTo at AT
      cases hk : look (nm s) L with
      | some a =>
        rw [hk] at AT
        have hp := pos_found hr hk
        have hput := put_some_ (b := (a.1 ++ bs, a.2)) hr hk
        have ha : a.1.length ≤ u := by rw [hu']; exact le_sum (fun a : Bs × Nat => a.1.length) (look_mem hk)
        obtain ⟨i, hi⟩ : ∃ i, i = pos (nm s) L := ⟨_, rfl⟩
        rw [← hi] at hp AT hput
        have RH := Lib.hid R
        have hadd := Lib.hid (fun w => str_add a.1 bs (by omega) w)
        replace AT := Lib.hid AT
        simp only [Option.elim]
        clear hg R hr hu' ht hmm hfull hu hm hbs hi hk ha
        go_enter Try.func12, Try.ntmps12
        go_wp2_with fail
        refine G.out.mono ?_
        rintro e w1 ⟨rfl, rfl⟩
        go_wp2
        go_quiet ((go_at_call 33; exact quiet_same (U.out _)))
        go_wp2_with fail
        refine (AT.out.out _).mono ?_
        rintro e w2 ⟨rfl, hb⟩
        simp only [Option.isSome]
        have R2 : Hid (Rf w2 q room L v) := Rf.below (show Rf (w.drewN nq) q room L v from ⟨RH.out.cells, RH.out.row⟩) hb
        have B2 : Hid (Below w.heap.size w w2) := (show Below w.heap.size w (w.drewN nq) from ⟨rfl, rfl, rfl, Nat.le_refl _, fun _ _ => rfl⟩).trans hb
        have PO : Hid (∀ W', Kp (fun g => g = q ∨ v.ownBlock = some g) w2 W' → Rf W' q room (L.set i (nm s, a.1 ++ bs, a.2)) v → RTo w q room (Dk.put (nm s) (a.1 ++ bs, a.2) L) v W') := fun W' hk hR => ⟨v, by rw [hput]; exact hR, fun _ h => .inl h, (Kp.of_below B2.out).trans' hk⟩
        clear hb AT U G RH c0 d0 ew hput
        go_upto_region 6 with fail
        rename_i K2 h2 K3 h3
        replace h2 := Lib.hid h2
        go_wp2
        exact h2.out _ _ (rapp8 _ _ _ _ _ _ _ _ _ _ _ _ _ _ _ _ _ _ _ _ _ _ _ _ _ _ _ _ _ _ _ _ _ _ _ _ _ _ _ _ _ _ _ _ _ _ _ _ _ _ _ _ _ _ _ _ _ _ _ _ _ _ _ _ _ _ w w2 q room i a.2 L v v (nm s) a.1 bs R2.out hp (by omega) hadd.out _ (fun W' hk hR => ⟨rfl, PO.out W' hk hR⟩))
      | none =>
        rw [hk] at AT
        have hput := put_none_ (b := (bs, 0)) hr hk
        obtain ⟨i, hi⟩ : ∃ i, i = pos (nm s) L := ⟨_, rfl⟩
        have hiL : i ≤ L.length := by rw [hi]; exact pos_le L
        rw [← hi] at AT hput
        have RH := Lib.hid R
        have hadd := Lib.hid (fun w => str_add [] bs (by simp; omega) w)
        replace AT := Lib.hid AT
        simp only [Option.elim, List.nil_append]
        have hb1 : Hid (bs.length ≤ 1000) := hbs
        clear hg R hr hu' ht hmm hfull hu hm hbs hi hk
        obtain ⟨L', hL'⟩ : ∃ z, z = L.take i ++ (nm s, [], 0) :: L.drop i := ⟨_, rfl⟩
        have hat' : L'[i]? = some (nm s, [], 0) := by
          rw [hL', List.getElem?_append_right (by rw [List.length_take]; omega), List.length_take, Nat.min_eq_left hiL, Nat.sub_self]
          rfl
        have hset : L'.set i (nm s, [] ++ bs, 0) = Dk.put (nm s) (bs, 0) L := by
          rw [hput, hL', List.set_append_right _ _ (by rw [List.length_take]; omega), List.length_take, Nat.min_eq_left hiL, Nat.sub_self]
          rfl
        have hlen' : L'.length = i + 1 + (L.length - i) := by
          rw [hL', List.length_append, List.length_cons, List.length_take, List.length_drop]
          omega
        replace hlen' := Lib.hid hlen'
        go_enter Try.func12, Try.ntmps12
        go_wp2_with fail
        refine G.out.mono ?_
        rintro e w1 ⟨rfl, rfl⟩
        go_wp2
        go_quiet ((go_at_call 33; exact quiet_same (U.out _)))
        go_wp2_with fail
        refine (AT.out.out _).mono ?_
        rintro e w2 ⟨rfl, hb⟩
        simp only [Option.isSome]
        have R2 : Hid (Rf w2 q room L v) := Rf.below (show Rf (w.drewN nq) q room L v from ⟨RH.out.cells, RH.out.row⟩) hb
        have B2 : Hid (Below w.heap.size w w2) := (show Below w.heap.size w (w.drewN nq) from ⟨rfl, rfl, rfl, Nat.le_refl _, fun _ _ => rfl⟩).trans hb
        clear hb AT U G RH c0 d0 ew hput
        go_upto_region 6 with fail
        rename_i K2 h2 K3 h3
        replace h2 := Lib.hid h2
        obtain ⟨A, c, rfl, _⟩ := row_form R2.out.row
        have hl' : Hid (L'.length ≤ 1000) := by unfold Hid; rw [hlen'.out]; omega
        replace hat' := Lib.hid hat'
        replace hset := Lib.hid hset
        have hl9 : Hid (L.length ≤ 900) := hl
        have hiL' : Hid (i ≤ L.length) := hiL
        go_wp2
        refine rapp7 _ _ _ _ _ _ _ _ _ _ _ _ _ _ _ _ _ _ _ _ _ _ _ _ _ _ _ _ _ _ _ _ _ _ _ _ _ _ _ _ _ _ _ _ _ _ _ _ _ _ _ _ _ _ _ _ _ _ _ _ _ _ _ _ _ _ w2 q room L.length c i A L s R2.out rfl hiL'.out hl9.out _ (fun _ _ d _ _ h => by cases d <;> exact h) (fun y30 y31 y32 y33 y34 y35 y36 y37 y38 y39 y40 y41 y42 y43 y44 y45 y46 y47 y48 y49 y50 y51 W3 A3 c3 hb3 o3 => ?_)
        have o4 : W3.ownsRow w2.heap.size 65 3 (.slice A3 (L.length + 1) c3) L'.length (flat L') := by
          have e : i + 1 + (L.length - i) = L.length + 1 := by have := hiL'.out; omega
          rw [hlen'.out, hL', e]
          exact o3
        have F3 := Lib.hid (ins_post (P := Dk.put (nm s) (bs, 0) L) (i := i) (x := nm s) (bs := bs) (L' := L') (v3 := .slice A3 (L.length + 1) c3) B2.out R2.out hb3 o4 hset.out)
        clear o4
        clear hb3 o3
        exact h2.out _ _ (rapp8 _ _ _ _ _ _ _ _ _ _ _ _ _ _ _ _ _ _ _ _ _ _ _ _ _ _ _ _ _ _ _ _ _ _ _ _ _ _ _ _ _ _ _ _ _ _ _ _ _ _ _ _ _ _ _ _ _ _ _ _ _ _ _ _ _ _ w2 _ q room i 0 L' _ (.slice A3 (L.length + 1) c3) (nm s) [] bs F3.out.1 hat'.out hl'.out hadd.out _ (fun W' hk hR => ⟨rfl, F3.out.2 W' hk hR⟩))
end Dk
end Go.Proofs.Ytpkjeplhdnbihaa
