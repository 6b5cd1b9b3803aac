/- Proved: shares are all of it, each within one of its exact part, none for no part, like shares for like parts but for one (CashWhole), for any number and any parts that come in. -/
import Derived.Test.YtddlcfefeclioaaCsR
import Derived.Test.YtddlcfefeclioaaCsV
namespace Go.Proofs.Ytddlcfefeclioaa.cashWhole
open Go.ChangeShapes Go.WideShapes Go.ChangeAt Go.WideElems Go.RowKit
open Go.Proofs.Ytddlcfefeclioaa.Cs

theorem near {all : Int} {ps : List Int} (h : May all ps) (i : Nat) : 0 ≤ share all ps i * ttl ps ∧ share all ps i * ttl ps ≤ all * at0 ps i + ttl ps ∧ all * at0 ps i - ttl ps < share all ps i * ttl ps ∧ (at0 ps i = 0 → share all ps i = 0) := by
  have ht := h.ttl
  have hs := share_bound h i
  have hd := Int.mul_ediv_add_emod (all * at0 ps i) (ttl ps)
  have hm1 := Int.emod_nonneg (all * at0 ps i) (show ttl ps ≠ 0 by omega)
  have hm2 := Int.emod_lt_of_pos (all * at0 ps i) (show 0 < ttl ps by omega)
  refine ⟨Int.mul_nonneg hs.1 (by omega), ?_⟩
  have e : share all ps i * ttl ps = ttl ps * (all * at0 ps i / ttl ps) + bon (rest all ps) ps i * ttl ps := by
    unfold share base
    rw [Int.add_mul, Int.mul_comm (ttl ps)]
  rw [e]
  have hb : bon (rest all ps) ps i = 0 ∨ bon (rest all ps) ps i = 1 := by have := bon_two (rest all ps) ps i; omega
  refine ⟨?_, ?_, fun h0 => ?_⟩
  · rcases hb with hb | hb <;> rw [hb] <;> simp <;> omega
  · rcases hb with hb | hb <;> rw [hb] <;> simp <;> omega
  · unfold share base bon
    rw [h0]
    simp
theorem like {all : Int} {ps : List Int} {j k : Nat} (hjk : j ≤ k) (he : at0 ps j = at0 ps k) : share all ps k ≤ share all ps j ∧ share all ps j ≤ share all ps k + 1 := by
  have hc := cnt_le (ps := ps) hjk
  have h1 := bon_two (rest all ps) ps j
  have h2 := bon_two (rest all ps) ps k
  have h3 : bon (rest all ps) ps k ≤ bon (rest all ps) ps j := by
    unfold bon
    rw [he]
    by_cases e : 0 < at0 ps k ∧ (cnt ps k : Int) < rest all ps
    · rw [if_pos e, if_pos ⟨e.1, by have := e.2; omega⟩]; omega
    · rw [if_neg e]; split <;> omega
  unfold share base
  rw [he]
  omega
theorem sum_bound {all : Int} {ps : List Int} (h : May all ps) (k : Nat) : 0 ≤ sm (share all ps) k ∧ sm (share all ps) k ≤ 1099511627776001 * k := by
  induction k with
  | zero => simp [sm]
  | succ k ih => have := share_bound h k; simp only [sm]; omega
def W2At (w2 : World) (m : Nat) (all : Int) (ps : List Int) (s i : Value) (wr : World) : Prop := ∃ k : Nat, i = .int .i64 k ∧ k ≤ m ∧ s = .int .i64 (sm (share all ps) k) ∧ Below w2.heap.size w2 wr

set_option maxHeartbeats 6400000 in
set_option maxRecDepth 100000 in
theorem walk (all : Int) (A : Option Addr) (n c : Nat) (zs : List Int) (w : World) (R : Ri w w.heap.size A n zs) (hn : n ≤ 9223372036854775807) :
    Calls Try.prog 6 #[.int .i64 all, .slice A n c] w fun e w' => e = .returned (.bool true) ∧ Below w.heap.size w w' := by
  have Q := Lib.hid (told_any w)
  by_cases g1 : n < 1
  · clear R
    go_enter Try.func6, Try.ntmps6
    go_wp2_with fail
    refine Q.out.mono ?_
    rintro e w' ⟨rfl, hb⟩
    go_wp2
    go_ret
    exact ⟨rfl, hb⟩
  by_cases g2 : 30 < n
  · clear R
    go_enter Try.func6, Try.ntmps6
    go_wp2_with fail
    refine Q.out.mono ?_
    rintro e w' ⟨rfl, hb⟩
    go_wp2
    go_ret
    exact ⟨rfl, hb⟩
  by_cases g3 : all < 0
  · clear R
    go_enter Try.func6, Try.ntmps6
    go_wp2_with fail
    refine Q.out.mono ?_
    rintro e w' ⟨rfl, hb⟩
    go_wp2
    go_ret
    exact ⟨rfl, hb⟩
  by_cases g4 : 1099511627776 < all
  · clear R
    go_enter Try.func6, Try.ntmps6
    go_wp2_with fail
    refine Q.out.mono ?_
    rintro e w' ⟨rfl, hb⟩
    go_wp2
    go_ret
    exact ⟨rfl, hb⟩
  obtain ⟨ad, rfl⟩ := ri_bound R (by omega)
  have hl := Lib.hid R.len
  replace R := Lib.hid R
  have st : Hid (S1At n zs (.int .i64 0) (.int .i64 0)) := ⟨0, rfl, Nat.zero_le _, rfl, fun j h => absurd h (by omega)⟩
  go_enter Try.func6, Try.ntmps6
  go_wp2_with fail
  go_loop [5, 6] (fun t i => S1At n zs t i) (fun _ i => n - (intOf i).toNat)
  case atStart => exact st.out
  case round =>
    obtain ⟨k, rfl, hk, rfl, hp⟩ := hrel
    have hb := sm_first hp
    replace hp := Lib.hid hp
    by_cases hlt : k < n
    · have hz := get_at0 (ps := zs) (show k < zs.length by have := hl.out; omega)
      have q0 := ri_arg R.out hlt hz
      have pI := R.out.in_ _ (List.mem_of_getElem? hz)
      have nx : Hid (0 ≤ at0 zs k → at0 zs k ≤ 1000 → S1At n zs (.int .i64 (sm (at0 zs) k + at0 zs k)) (.int .i64 ((k : Int) + 1))) := fun a b =>
        ⟨k + 1, rfl, hlt, rfl, fun j hj => by
          by_cases e : j = k
          · subst e; exact ⟨a, b⟩
          · exact hp.out j (by omega)⟩
      clear hz
      obtain ⟨s, hs⟩ : ∃ s, s = sm (at0 zs) k := ⟨_, rfl⟩
      obtain ⟨p, hpk⟩ : ∃ p, p = at0 zs k := ⟨_, rfl⟩
      rw [← hpk] at q0 pI nx
      rw [← hs] at nx hb ⊢
      clear hpk hs
      by_cases g5 : p < 0
      · go_wp2_with fail
        refine Q.out.mono ?_
        rintro e w' ⟨rfl, hb⟩
        go_wp2
        go_ret
        exact ⟨rfl, hb⟩
      · by_cases g6 : 1000 < p
        · go_wp2_with fail
          refine Q.out.mono ?_
          rintro e w' ⟨rfl, hb⟩
          go_wp2
          go_ret
          exact ⟨rfl, hb⟩
        · have nx := Lib.hid (nx.out (by omega) (by omega))
          have hs2 : s ≤ 1000000 := by omega
          go_wp2
          exact ⟨nx.out, by simp [intOf]; omega⟩
    · obtain rfl : k = n := by omega
      have hP : Hid (Parts zs) := parts_of hl.out hp.out
      have eT : sm (at0 zs) k = ttl zs := by unfold ttl; rw [hl.out]
      rw [eT] at hb ⊢
      clear hp eT
      by_cases hM : May all zs
      · have ht := hM.ttl
        have C := Lib.hid (share_yes all (some ad) k c zs w R.out hM)
        replace hM := Lib.hid hM
        obtain ⟨T, hT⟩ : ∃ T, T = ttl zs := ⟨_, rfl⟩
        rw [← hT] at ht hb ⊢
        replace hT := Lib.hid hT
        have hTz : (T == 0) = false := by simpa using (show T ≠ 0 by omega)
        go_wp2_with fail
        refine C.out.mono ?_
        rintro e w2 ⟨g, d, rfl, ho, b2⟩
        have be2 : Hid (Below w.heap.size w w2) := b2
        have R2 : Hid (Ri w2 w2.heap.size (some ⟨g, 0, none⟩) zs.length (lst zs.length (share all zs))) := ri_own ho (share_I hM.out _)
        have P2 : Hid (Ri w2 w2.heap.size (some ad) k zs) := ri_of R.out b2
        rw [hl.out] at R2 ⊢
        have st2 : Hid (W2At w2 k all zs (.int .i64 0) (.int .i64 0) w2) := ⟨0, rfl, Nat.zero_le _, rfl, Below.refl _ _⟩
        clear ho b2 C st
        go_wp2_with fail
        go_loopw [9, 10] (fun s i wr => W2At w2 k all zs s i wr) (fun _ i _ => k - (intOf i).toNat)
        case atStart => exact st2.out
        case round =>
          obtain ⟨i, rfl, hi, rfl, hb2⟩ := hrel
          replace hb2 := Lib.hid hb2
          have sB := sum_bound hM.out i
          by_cases hlt2 : i < k
          · have hz := get_at0 (ps := zs) (show i < zs.length by have := hl.out; omega)
            have q1 := ri_arg (ri_of P2.out hb2.out) hlt2 hz
            have q2 := ri_cell (ri_of R2.out hb2.out) hlt2 (lst_get hlt2)
            have pI := at0_in hM.out.pp i
            have xI := share_bound hM.out i
            have nr := near hM.out i
            have pB : 0 ≤ all * at0 zs i ∧ all * at0 zs i ≤ 1099511627776000 := Cs.prod_bound (by omega) (by omega) pI
            rw [← hT.out] at nr
            have nx : Hid (∀ wx, Below w2.heap.size w2 wx → W2At w2 k all zs (.int .i64 (sm (share all zs) i + share all zs i)) (.int .i64 ((i : Int) + 1)) wx) := fun wx hx => ⟨i + 1, rfl, hlt2, rfl, hx⟩
            have lk : Hid (∀ j, j < i → at0 zs j = at0 zs i → share all zs i ≤ share all zs j ∧ share all zs j ≤ share all zs i + 1) := fun j hj he => like (by omega) he
            have sI : Hid (∀ j, 0 ≤ share all zs j ∧ share all zs j ≤ 1099511627776001) := share_bound hM.out
            have HZ : Hid (∀ j, j < k → zs[j]? = some (at0 zs j)) := fun j hj => get_at0 (by have := hl.out; omega)
            clear hz
            obtain ⟨s, hs⟩ : ∃ s, s = sm (share all zs) i := ⟨_, rfl⟩
            obtain ⟨p, hp⟩ : ∃ p, p = at0 zs i := ⟨_, rfl⟩
            obtain ⟨x, hx⟩ : ∃ x, x = share all zs i := ⟨_, rfl⟩
            rw [← hp] at q1 pI nr pB lk
            rw [← hx] at q2 xI nr nx lk
            rw [← hs] at nx sB ⊢
            clear hs
            replace hp := Lib.hid hp
            replace hx := Lib.hid hx
            have z1 : 0 ≤ x * T ∧ x * T ≤ 1099511627876000 := by omega
            obtain ⟨y1, hy1⟩ : ∃ y, y = x * T := ⟨_, rfl⟩
            obtain ⟨y2, hy2⟩ : ∃ y, y = all * p := ⟨_, rfl⟩
            rw [← hy1] at nr z1
            rw [← hy2] at nr pB
            have v1 : IntKind.i64.wrap (x * T) = y1 := by rw [← hy1, IntKind.wrap_i64]; omega
            have v2 : IntKind.i64.wrap (all * p) = y2 := by rw [← hy2, IntKind.wrap_i64]; omega
            obtain ⟨y3, hy3⟩ : ∃ y, y = y2 + T := ⟨_, rfl⟩
            obtain ⟨y4, hy4⟩ : ∃ y, y = y2 - T := ⟨_, rfl⟩
            have v3 : IntKind.i64.wrap (y2 + T) = y3 := by rw [hy3, IntKind.wrap_i64]; omega
            have v4 : IntKind.i64.wrap (y2 - T) = y4 := by rw [hy4, IntKind.wrap_i64]; omega
            have d1 : decide (y3 < y1) = false := by simpa using (show y1 ≤ y3 by omega)
            have d2 : decide (y1 ≤ y4) = false := by simpa using (show y4 < y1 by omega)
            have w1 : wrap64 (x * T) = y1 := by rw [← hy1]; unfold wrap64; omega
            have w2' : wrap64 (all * p) = y2 := by rw [← hy2]; unfold wrap64; omega
            have p0 : (p == 0) = true → (x != 0) = false := fun e => by have := nr.2.2.2 (by simpa using e); simp [this]
            clear hy1 hy2 hy3 hy4 nr pB z1
            rcases hp0 : (p == 0) with _ | _
            · clear p0
              have DD := hp0
              go_wp2_with fail
              go_quiet (fail)
              go_wp2_with fail
              have b3 : Hid (Below w2.heap.size w2 (wr.drewN nq)) := hb2.out.trans (below_drewN wr nq hb2.out.size)
              have h2z : Hid (w2.heap.size ≤ (wr.drewN nq).heap.size) := b3.out.size
              generalize wr.drewN nq = w3 at b3 h2z ⊢
              have st3 : Hid (GoAt w3 i (.int .i64 0) w3) := ⟨0, rfl, Nat.zero_le _, Below.refl _ _⟩
              clear q1 q2 v1 v2 v3 v4 d1 d2 w1 w2' hb2 DD
              go_loopw [11] (fun j wr => GoAt w3 i j wr) (fun j _ => i - (intOf j).toNat)
              case atStart => exact st3.out
              case round =>
                obtain ⟨j, rfl, hj, hb4⟩ := hrel
                have be4 : Hid (Below w2.heap.size w2 wr) := b3.out.trans (hb4.mono h2z.out)
                replace hb4 := Lib.hid hb4
                by_cases hlt3 : j < i
                · have q1 := ri_arg (ri_of P2.out be4.out) hlt2 (HZ.out i hlt2)
                  have q2 := ri_cell (ri_of R2.out be4.out) hlt2 (lst_get hlt2)
                  have q3 := ri_arg (ri_of P2.out be4.out) (show j < k by omega) (HZ.out j (by omega))
                  have q4 := ri_cell (ri_of R2.out be4.out) (show j < k by omega) (lst_get (by omega))
                  rw [← hp.out] at q1
                  rw [← hx.out] at q2
                  have lj := lk.out j hlt3
                  have sj := sI.out j
                  obtain ⟨pj, hpj⟩ : ∃ y, y = at0 zs j := ⟨_, rfl⟩
                  obtain ⟨xj, hxj⟩ : ∃ y, y = share all zs j := ⟨_, rfl⟩
                  rw [← hpj] at q3 lj
                  rw [← hxj] at q4 lj sj
                  clear hpj hxj
                  by_cases he : pj = p
                  · have lj := lj he
                    have e1 : (pj == p) = true := by simpa using he
                    have e2 : decide (xj < x) = false := by simpa using lj.1
                    obtain ⟨x1, hx1⟩ : ∃ y, y = x + 1 := ⟨_, rfl⟩
                    have e3 : IntKind.i64.wrap (x + 1) = x1 := by rw [hx1, IntKind.wrap_i64]; omega
                    have e4 : decide (x1 < xj) = false := by simpa using (show xj ≤ x1 by omega)
                    clear he lj hx1 sj xI
                    go_wp2_with fail
                    go_quiet (fail)
                    have nx3 : Hid (GoAt w3 i (.int .i64 ((j : Int) + 1)) (wr.drewN nq)) := ⟨j + 1, rfl, hlt3, hb4.out.trans (below_drewN wr nq hb4.out.size)⟩
                    clear e3
                    go_wp2
                    exact ⟨nx3.out, by simp [intOf]; omega⟩
                  · have e1 : (pj == p) = false := by simpa using he
                    clear he lj sj xI
                    go_wp2_with fail
                    go_quiet (fail)
                    have nx3 : Hid (GoAt w3 i (.int .i64 ((j : Int) + 1)) (wr.drewN nq)) := ⟨j + 1, rfl, hlt3, hb4.out.trans (below_drewN wr nq hb4.out.size)⟩
                    go_wp2
                    exact ⟨nx3.out, by simp [intOf]; omega⟩
                · have nx4 := Lib.hid (nx.out wr be4.out)
                  go_wp2
                  exact ⟨nx4.out, by simp [intOf]; omega⟩
            · have DD := p0 hp0
              clear p0
              go_wp2_with fail
              go_quiet (fail)
              go_wp2_with fail
              have b3 : Hid (Below w2.heap.size w2 (wr.drewN nq)) := hb2.out.trans (below_drewN wr nq hb2.out.size)
              have h2z : Hid (w2.heap.size ≤ (wr.drewN nq).heap.size) := b3.out.size
              generalize wr.drewN nq = w3 at b3 h2z ⊢
              have st3 : Hid (GoAt w3 i (.int .i64 0) w3) := ⟨0, rfl, Nat.zero_le _, Below.refl _ _⟩
              clear q1 q2 v1 v2 v3 v4 d1 d2 w1 w2' hb2 DD
              go_loopw [11] (fun j wr => GoAt w3 i j wr) (fun j _ => i - (intOf j).toNat)
              case atStart => exact st3.out
              case round =>
                obtain ⟨j, rfl, hj, hb4⟩ := hrel
                have be4 : Hid (Below w2.heap.size w2 wr) := b3.out.trans (hb4.mono h2z.out)
                replace hb4 := Lib.hid hb4
                by_cases hlt3 : j < i
                · have q1 := ri_arg (ri_of P2.out be4.out) hlt2 (HZ.out i hlt2)
                  have q2 := ri_cell (ri_of R2.out be4.out) hlt2 (lst_get hlt2)
                  have q3 := ri_arg (ri_of P2.out be4.out) (show j < k by omega) (HZ.out j (by omega))
                  have q4 := ri_cell (ri_of R2.out be4.out) (show j < k by omega) (lst_get (by omega))
                  rw [← hp.out] at q1
                  rw [← hx.out] at q2
                  have lj := lk.out j hlt3
                  have sj := sI.out j
                  obtain ⟨pj, hpj⟩ : ∃ y, y = at0 zs j := ⟨_, rfl⟩
                  obtain ⟨xj, hxj⟩ : ∃ y, y = share all zs j := ⟨_, rfl⟩
                  rw [← hpj] at q3 lj
                  rw [← hxj] at q4 lj sj
                  clear hpj hxj
                  by_cases he : pj = p
                  · have lj := lj he
                    have e1 : (pj == p) = true := by simpa using he
                    have e2 : decide (xj < x) = false := by simpa using lj.1
                    obtain ⟨x1, hx1⟩ : ∃ y, y = x + 1 := ⟨_, rfl⟩
                    have e3 : IntKind.i64.wrap (x + 1) = x1 := by rw [hx1, IntKind.wrap_i64]; omega
                    have e4 : decide (x1 < xj) = false := by simpa using (show xj ≤ x1 by omega)
                    clear he lj hx1 sj xI
                    go_wp2_with fail
                    go_quiet (fail)
                    have nx3 : Hid (GoAt w3 i (.int .i64 ((j : Int) + 1)) (wr.drewN nq)) := ⟨j + 1, rfl, hlt3, hb4.out.trans (below_drewN wr nq hb4.out.size)⟩
                    clear e3
                    go_wp2
                    exact ⟨nx3.out, by simp [intOf]; omega⟩
                  · have e1 : (pj == p) = false := by simpa using he
                    clear he lj sj xI
                    go_wp2_with fail
                    go_quiet (fail)
                    have nx3 : Hid (GoAt w3 i (.int .i64 ((j : Int) + 1)) (wr.drewN nq)) := ⟨j + 1, rfl, hlt3, hb4.out.trans (below_drewN wr nq hb4.out.size)⟩
                    go_wp2
                    exact ⟨nx3.out, by simp [intOf]; omega⟩
                · have nx4 := Lib.hid (nx.out wr be4.out)
                  go_wp2
                  exact ⟨nx4.out, by simp [intOf]; omega⟩
          · obtain rfl : i = k := by omega
            have eS : sm (share all zs) i = all := by have := share_all hM.out; rwa [hl.out] at this
            rw [eS]
            clear eS sB
            go_wp2_with fail
            refine (told_any wr).mono ?_
            rintro e w5 ⟨rfl, b5⟩
            have be5 : Hid (Below w.heap.size w w5) := be2.out.trans ((hb2.out.mono be2.out.size).trans (b5.mono (Nat.le_trans be2.out.size hb2.out.size)))
            clear b5
            go_wp2
            go_ret
            exact ⟨rfl, be5.out⟩
      · have hT0 : ttl zs = 0 := by
          rcases Classical.em (ttl zs = 0) with e | e
          · exact e
          · exact (hM (may_of (by omega) (by omega) (by have := hl.out; omega) (by have := hl.out; omega) hP.out e)).elim
        rw [hT0]
        have C := Lib.hid (share_no all (some ad) k c zs w R.out hn hM)
        clear hM hT0 hb
        go_wp2_with fail
        refine C.out.mono ?_
        rintro e w' ⟨rfl, rfl⟩
        go_wp2_with fail
        refine Q.out.mono ?_
        rintro e w5 ⟨rfl, b5⟩
        go_wp2
        go_ret
        exact ⟨rfl, b5⟩

theorem walkd (a0 : Int) (_w0 : (Lit.int .i64 a0).wf = true) (v1 : Value) (a1 : List Int) {W : World} (w1 : Src W v1 a1) (W' : World) (hW : W' = W) :
    Calls Try.prog 6 #[.int .i64 a0, v1] W' fun e w' => e = .returned (.bool true) ∧ Below W'.heap.size W' w' := by
  subst hW
  obtain ⟨A, n, c, rfl, _, _, R⟩ := w1
  exact walk a0 A n c a1 _ R (by omega)

/-! The row: every input. -/
set_option linter.unusedVariables false
set_option maxRecDepth 100000 in
theorem lifted (os : Os) (started : os.Started) (H : Type) (enc : TypeId × Value → H) :
    ReturnsInHanded {} Try.checked os 6 .any (Rows.cashWholeSpec.pre6 enc Try.prog Try.f6 Rows.cashWholeRow.domain false) (Rows.cashWholeSpec.post enc Try.prog Try.f6 false true false false) := by
  refine returnsInHanded_of_change (C := Try.checked) own started (by kernel_rfl) Try.func6
    (ChangeSpec.witness6 (enc := enc) (C := Try.checked) false ⟨#[], #[.int .i64 0, .slice none 0 0], []⟩ 8 (by kernel_rfl) (by kernel_rfl) (by kernel_rfl) (by kernel_rfl)) ?_
  intro W base args ds gs before hval0 hW _ _
  have hval : ∀ (j : Nat) t v, Try.f6.params[j]? = some t → args[j]? = some v → Value.okWide Try.prog W .any base t v := hval0
  have hW' := hW
  obtain ⟨p, q, hA0, hV, rfl, hfz, hnd⟩ := hW
  have hA : DataW.TrodAll enc Try.prog W 0 (fun _ => true) true Try.f6.params.toList args.toList ds p := hA0
  rw [Try.params6] at hA hval
  obtain ⟨v0, vs0, d0, ds0, p0, q0, hargs, rfl, rfl, h0, r0⟩ := trodAll_cons hA
  obtain ⟨v1, vs1, d1, ds1, p1, q1, rfl, rfl, rfl, h1, r1⟩ := trodAll_cons r0
  obtain ⟨rfl, rfl, rfl⟩ := trodAll_nil r1
  obtain rfl : args = #[v0, v1] := by cases args; simp_all
  obtain ⟨rfl, rfl⟩ := trodVars_none hV
  obtain ⟨a0, rfl, rfl, rfl, w0⟩ := open_int Try.underlying2 (hval 0 2 v0 rfl rfl) h0
  obtain ⟨a1, w1⟩ := view_ints (hval 1 22 v1 rfl rfl) h1
  clear hA0 hval0
  simp only [List.append_nil] at hW'
  refine (walkd a0 w0 v1 a1 w1 W rfl).mono fun e W' ⟨he, hb⟩ => ?_
  subst he
  exact ⟨_, rfl, post_below (pa := [] ++ (p1 ++ [])) (pv := []) hW' (fun _ _ _ => (trodAll_cons_mk (shut_bool Try.underlying4 _) trodAll_mk0)) (fun sp hsp => (trodAll_cons_mk (shut_int Try.underlying2 w0) (trodAll_cons_mk (Trod_stays laidOut (by kernel_rfl) (of_decide_eq_true (by kernel_rfl)) h1 (fun x hx => hb.same (hW'.lt x (by simp [hx]))) (fun x hx => hsp x (by simp [hx]))) trodAll_mk0))) (fun _ _ => rfl) (by simp)
    hb (ok_one (by kernel_rfl) rfl (okWide_bool_mk Try.underlying4 _))⟩

theorem proved : Rows.CashWholeSaid :=
  OpenClaim.holds_of_wide 6 Try.f6 rfl rfl rfl rfl rfl rfl rfl ⟨rfl, rfl, rfl, rfl, rfl⟩ rfl rfl rfl rfl rfl (by kernel_rfl) Try.func6 (by kernel_rfl)
    (of_decide_eq_true (by kernel_rfl)) (by unfold Func.isWrapper; first | (rw [if_pos (by decide +kernel)]; kernel_rfl) | (rw [if_neg (by decide +kernel)]; exact ⟨rfl, rfl⟩))
    (fun os started H enc _ => lifted os started H enc)
#print axioms proved

end Go.Proofs.Ytddlcfefeclioaa.cashWhole
