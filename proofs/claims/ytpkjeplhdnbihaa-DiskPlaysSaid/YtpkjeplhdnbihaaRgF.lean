/- The document's Crash. -/
import Derived.Test.YtpkjeplhdnbihaaRgE
namespace Go.Proofs.Ytpkjeplhdnbihaa
open Go.RowKit
open Go.Proofs.Ytpkjeplhdnbihaa.Pk
namespace Dk

/-- An append whose run is known, in the text's order. -/
theorem wpList_run_append {w : World} {ops : Array Oper} {o : Oper} {rest : List Oper} {a : Act} {Q : Exit → Act → World → Prop} {t : TypeId} (hgd : o.guard = none) (s x : Operand) (ho : o.op = .call { callee := .builtin .append, args := #[s, x], argTypes := #[t, t] }) (hty : o.type = t)
    (v0 x0 : Value) (hs : a.eval s = v0) (hx : a.eval x = x0) {v' : Value} {w' : World} (hrun : (Builtin.append_ #[t, t] t #[v0, x0]).run Try.prog w = .ok v' w') (h : wpList Try.prog ops Q rest (a.put o.dst v') w') :
    wpList Try.prog ops Q (o :: rest) a w := by
  have := step_run_append (w := w) (ops := ops) (o := o) (a := a) (K := wpList Try.prog ops Q rest) (Q := Q) (E := True) hgd s x ho hty v0 x0 hs hx hrun h
  have hw : Region.wanted o (yielded ops a.tmps) = true := by simp [Region.wanted, hgd]
  rw [if_pos hw] at this
  unfold wpList
  rw [if_pos hw]
  exact .inl this
theorem mix_set {g : Bs × Nat → Bs × Nat} {k : Nat} {L : St} {x : Bs} {a : Bs × Nat} (h : L[k]? = some (x, a)) : (mix g k L).set k (x, g a) = mix g (k + 1) L := by
  have hk : k < L.length := (List.getElem?_eq_some_iff.1 h).1
  have hl : (vals g (L.take k)).length = k := by rw [len_vals, List.length_take]; omega
  rw [mix_at h, List.set_append_right _ _ (by omega), hl, Nat.sub_self]
  unfold mix
  rw [List.take_add_one, h]
  simp [vals]
theorem mix_get {g : Bs × Nat → Bs × Nat} {k : Nat} {L : St} {x : Bs} {a : Bs × Nat} (h : L[k]? = some (x, a)) : (mix g k L)[k]? = some (x, a) := by
  have hk : k < L.length := (List.getElem?_eq_some_iff.1 h).1
  have hl : (vals g (L.take k)).length = k := by rw [len_vals, List.length_take]; omega
  rw [mix_at h, List.getElem?_append_right (by omega), hl, Nat.sub_self]
  rfl

theorem crash_lo (keep : Int) (tn : Nat) (h : keep < tn) : max keep 0 = ((min (max keep 0).toNat tn : Nat) : Int) := by omega
theorem crash_hi (keep : Int) (tn : Nat) (h : ¬ keep < tn) : min (max keep 0).toNat tn = tn := by omega

def CcAt (w : World) (A1 : Option Addr) (n c1 : Nat) (L : St) (keep : Int) (i : Value) (wr : World) : Prop :=
  ∃ k : Nat, i = .int .i64 (k : Nat) ∧ k ≤ n ∧ wr.ownsRow w.heap.size 65 3 (.slice A1 n c1) n (flat (mix (cr keep) k L)) ∧ Below w.heap.size w wr
set_option maxHeartbeats 3200000 in
set_option maxRecDepth 20000 in
theorem rcrash (w : World) (q room : Nat) (L : St) (v : Value) (keep : Int) (R : Rf w q room L v) (hl : L.length ≤ 900) (hs : ∀ p ∈ L, p.2.2 ≤ p.2.1.length) (hu : used L ≤ 1000000) (_hk1 : -9223372036854775808 ≤ keep) (_hk2 : keep ≤ 9223372036854775807) :
    Calls Try.prog 22 #[.pointer (some ⟨q, 0, none⟩), .int .i64 keep] w fun e w' => e = .returned (.tuple #[]) ∧ RTo w q room (sCrash keep L) v w' := by
  obtain ⟨A, c, rfl, hnc, hc, _⟩ := row_form R.row
  obtain ⟨n, hn⟩ : ∃ n, n = L.length := ⟨_, rfl⟩
  have b0 : Below w.heap.size w (w.alloc (.cells #[] 65)) := (Below.refl _ _).alloc (Nat.le_refl _) _
  obtain ⟨_, B, _, hsrc⟩ := R.cuts rfl (Nat.le_refl _)
  have hS := (hsrc _ b0).1
  rw [List.take_length] at hS
  obtain ⟨A1, c1, w1, r1, o1, g1⟩ := row_append_any _ w.heap.size _ 0 [] (World.ownsRow_lit w #[] 0 (Nat.le_refl _) (by unfold maxLen; omega) rfl) A L.length c L hS (by omega) (by simp)
  have b1 : Hid (Below w.heap.size w w1) := b0.grown g1 (by simp) (fun k hk => by simp [Value.ownBlock] at hk; omega)
  rw [Nat.zero_add, ← hn] at r1 o1
  rw [List.nil_append] at o1
  have PO : Hid (∀ wr, Below w.heap.size w wr → wr.ownsRow w.heap.size 65 3 (.slice A1 n c1) n (flat (sCrash keep L)) → RTo w q room (sCrash keep L) (.slice A L.length c) (wr.setCell ⟨q, 1, none⟩ (.slice A1 n c1))) := fun wr hb ho =>
    RTo.fresh (Kp.refl _ _) R hb (by rw [show (sCrash keep L).length = n by rw [hn]; exact len_vals _ _]; exact ho)
  have CC : Hid (∀ wr, Below w.heap.size w wr → wr.cell? ⟨q, 1, none⟩ = some (.slice A L.length c) ∧ wr.frozen? ⟨q, 1, none⟩ = false) := fun wr hb => ⟨one_at (i := 1) (R.below hb).cells, one_free (R.below hb).cells⟩
  have st : Hid (CcAt w A1 n c1 L keep (.int .i64 0) w1) := ⟨0, rfl, Nat.zero_le _, by rw [mix_zero]; exact o1, b1.out⟩
  have c0 : w.cell? ⟨q, 1, none⟩ = some (.slice A L.length c) := one_at (i := 1) R.cells
  have c0' : (w.alloc (.cells #[] 65)).cell? ⟨q, 1, none⟩ = some (.slice A n c) := by rw [hn]; exact one_at (i := 1) (R.below b0).cells
  have hlb : n ≤ 900 := by omega
  rw [← hn] at PO CC hnc c0 ⊢
  replace hs := Lib.hid hs
  replace hu := Lib.hid hu
  replace hn := Lib.hid hn
  clear R b0 hsrc hS o1 g1 hl b1
  go_enter Try.func22, Try.ntmps22
  go_wp2_with (at_builtin; refine wpList_run_append rfl (.tmp 7) (.tmp 11) rfl rfl (.slice (some ⟨w.heap.size, 0, none⟩) 0 0) (.slice A n c) rfl rfl r1 ?_)
  clear r1 c0 c0'
  go_loopw [5] (fun i wr => CcAt w A1 n c1 L keep i wr) (fun i _ => n - (intOf i).toNat)
  case atStart => exact st.out
  case round =>
    obtain ⟨k, rfl, hkn, ho, hb⟩ := hrel
    replace hb := Lib.hid hb
    by_cases hlt : k < n
    · obtain ⟨⟨x, s, y⟩, hx⟩ : ∃ p, L[k]? = some p := ⟨_, List.getElem?_eq_getElem (by have := hn.out; omega)⟩
      obtain ⟨g, rfl, hgb, hfz⟩ : ∃ g, A1 = some ⟨g, 0, none⟩ ∧ w.heap.size ≤ g ∧ (∀ j, wr.frozen? ⟨g, j, none⟩ = false) := by
        rcases ho.2 with ⟨_, h0⟩ | ⟨g, cap, cur, hv, hb1, hh, _⟩
        · omega
        · injection hv with hA _ _
          exact ⟨g, hA, hb1, fun j => one_free hh⟩
      have hm := mix_get (g := cr keep) hx
      have e2 : wr.cell? ⟨g, k * 3 + 1, none⟩ = some (.string (str s)) := by
        have := ho.cells (g := g) rfl (k * 3 + 1) _ (flat_at hm (show (ent (x, s, y))[1]? = _ from rfl) (by omega))
        simpa [Addr.add_lit] using this
      have e3 : wr.cell? ⟨g, k * 3 + 2, none⟩ = some (.int .i64 (y : Nat)) := by
        have := ho.cells (g := g) rfl (k * 3 + 2) _ (flat_at hm (show (ent (x, s, y))[2]? = _ from rfl) (by omega))
        simpa [Addr.add_lit] using this
      have f2 := hfz (k * 3 + 1)
      have f3 := hfz (k * 3 + 2)
      have hys : y ≤ s.length := hs.out _ (List.mem_of_getElem? hx)
      have hsl : s.length ≤ 1000000 := Nat.le_trans (le_sum (fun a : Bs × Nat => a.1.length) (List.mem_of_getElem? hx)) hu.out
      obtain ⟨mn, hmn⟩ : ∃ z, z = min (max keep 0).toNat (s.length - y) := ⟨_, rfl⟩
      obtain ⟨j, hj⟩ : ∃ z, z = y + mn := ⟨_, rfl⟩
      have hjl : j ≤ s.length := by omega
      have hcr : cr keep (s, y) = (s.take j, j) := by rw [hj, hmn]; rfl
      have hset := mix_set (g := cr keep) hx
      rw [hcr] at hset
      have E : Hid (∀ m, CcAt w (some ⟨g, 0, none⟩) n c1 L keep (.int .i64 ((k : Int) + 1)) (((wr.drewN m).setCell ⟨g, k * 3 + 1, none⟩ (.string (str (s.take j)))).setCell ⟨g, k * 3 + 2, none⟩ (.int .i64 (j : Nat)))) := by
        intro m
        replace ho : (wr.drewN m).ownsRow w.heap.size 65 3 (.slice (some ⟨g, 0, none⟩) n c1) n (flat (mix (cr keep) k L)) := ho
        have hb' : Below w.heap.size w (wr.drewN m) := ⟨hb.out.os, hb.out.tape, hb.out.output, hb.out.size, hb.out.block⟩
        refine ⟨k + 1, by simp, by omega, ?_, ?_⟩
        · have h1 := row_set ho (i := k * 3 + 1) (by omega) (.string (str (s.take j)))
          rw [flat_set1 hm] at h1
          have h2 := row_set h1 (i := k * 3 + 2) (by omega) (.int .i64 (j : Nat))
          have hm2 : ((mix (cr keep) k L).set k (x, s.take j, y))[k]? = some (x, s.take j, y) := by
            rw [List.getElem?_set_self (by rw [mix_len]; have := hn.out; omega)]
          rw [flat_set2 hm2, List.set_set, hset] at h2
          exact h2
        · exact (hb'.grown (grown_set (wr.drewN m) g _ _) hb'.size (fun x hx => by injection hx with hx; omega)).grown (grown_set _ g _ _) (by have := hb'.size; have := (grown_set (wr.drewN m) g (k * 3 + 1) (.string (str (s.take j)))).size; omega) (fun x hx => by injection hx with hx; omega)
      have hsz := str_size s
      have hsz2 : (str (s.take j)).size = j := by rw [str_size, List.length_take]; omega
      have x1 := str_take s j
      obtain ⟨sl, hsl0⟩ : ∃ z, z = s.length := ⟨_, rfl⟩
      rw [← hsl0] at hsz hys hsl hmn hjl
      obtain ⟨tn, htn⟩ : ∃ z, z = sl - y := ⟨_, rfl⟩
      rw [← htn] at hmn
      have e1 : (sl : Int) - (y : Int) = (tn : Int) := by omega
      have i1 : (k : Int) < (n : Int) := by omega
      have i2 : (0 : Int) ≤ (k : Int) := by omega
      have i3 : (n : Int) ≤ 900 := by omega
      have j1 : (j : Int) ≤ (sl : Int) := by omega
      have ew : wrap64 ((y : Int) + (mn : Int)) = (j : Int) := by rw [IntWalk.wrap64_in _ (by omega)]; omega
      generalize s.take j = bt at *
      by_cases hkt : keep < (tn : Int)
      · have d1 : decide (keep < (tn : Int)) = true := decide_eq_true hkt
        have hmx : max keep 0 = (mn : Int) := by rw [hmn]; exact crash_lo keep tn hkt
        clear hb ho hx hm hfz hcr hset hsl0 htn hmn hj hkt
        go_wp2
        go_quiet (fail)
        go_wp2
        go_region
        all_goals
          go_wp2
          exact ⟨E.out _, by simp [intOf]; omega⟩
      · have d1 : decide (keep < (tn : Int)) = false := decide_eq_false hkt
        have hmx : mn = tn := by rw [hmn]; exact crash_hi keep tn hkt
        rw [hmx] at ew hmn hj
        have hyt := Lib.hid hj.symm
        have hmin := Lib.hid (Nat.min_eq_left hjl)
        clear hb ho hx hm hfz hcr hset hsl0 htn hmn hj hkt hmx
        go_wp2
        go_quiet (fail)
        go_wp2
        go_region
        all_goals
          go_wp2
          rw [hyt.out, x1, hmin.out]
          exact ⟨E.out _, by simp [intOf]; omega⟩
    · obtain rfl : k = n := by omega
      have e : flat (mix (cr keep) k L) = flat (sCrash keep L) := by rw [hn.out, mix_all]; rfl
      rw [e] at ho
      obtain ⟨c1', c2'⟩ := CC.out wr hb.out
      have F := Lib.hid (PO.out wr hb.out ho)
      clear PO CC ho
      go_wp2
      go_end0
      exact ⟨rfl, F.out⟩
end Dk
end Go.Proofs.Ytpkjeplhdnbihaa
