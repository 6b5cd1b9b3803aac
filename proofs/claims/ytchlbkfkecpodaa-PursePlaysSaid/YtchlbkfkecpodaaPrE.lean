/- A purse and the document's are the same. -/
import Derived.Test.YtchlbkfkecpodaaPrD
import Derived.Test.YtchlbkfkecpodaaPuU
import Derived.Test.YtchlbkfkecpodaaPuJ
import Derived.Test.YtchlbkfkecpodaaPrG
namespace Go.Proofs.Ytchlbkfkecpodaa
set_option maxRecDepth 100000
open Go.RowKit
open Go.Sort (grow)
open Go.Proofs.Ytchlbkfkecpodaa.Pk (one_at one_free one_set lt_some grown_set grown_trans below_grown grown_refl)
namespace Pu

def ScAt (w : World) (i : Value) (wr : World) : Prop := ∃ c : Int, i = .int .i64 c ∧ -1 ≤ c ∧ c ≤ 5 ∧ Below w.heap.size w wr
def SbAt (w : World) (i : Value) (wr : World) : Prop := ∃ b : Int, i = .int .i64 b ∧ -1 ≤ b ∧ b ≤ 202 ∧ Below w.heap.size w wr
def SlAt (w : World) (n : Nat) (i : Value) (wr : World) : Prop := ∃ k : Nat, i = .int .i64 (k : Int) ∧ k ≤ n ∧ Below w.heap.size w wr
set_option maxHeartbeats 6400000 in
theorem same_any (w : World) (B : Nat) (X : Nat → Prop) (w0 : World) (q d : Nat) (p : S) (fp : Nat → Prop) (V : Ow B X w0 w q p) (L : Led DLineT w d p fp) :
    Calls Try.prog 33 #[.pointer (some ⟨q, 0, none⟩), .pointer (some ⟨d, 0, none⟩)] w fun e w' => e = .returned (.bool true) ∧ Below w.heap.size w w' := by
  have O := Lib.hid V.ok
  have FEW := Lib.hid V.ok.few
  have LI := Lib.hid (ow_lines V)
  replace V := Lib.hid V
  replace L := Lib.hid L
  go_enter Try.func33, Try.ntmps33
  go_wp2_with fail
  refine LI.out.mono ?_
  rintro e w1 ⟨v, rfl, R, hb1⟩
  obtain ⟨A, c, rfl, hnc, hc63, -⟩ := rt_form R
  have L1 := L.out.below hb1
  have V1 := V.out.below hb1
  obtain ⟨v2, D1, R2, -, -⟩ := L1.at_
  obtain ⟨A2, c2, rfl, hnc2, hc632, -⟩ := rt_form R2
  have BD : Hid (∀ w', Below w1.heap.size w1 w' → Below w.heap.size w w') := fun w' hb => hb1.trans (hb.mono hb1.size)
  have VB : Hid (∀ w', Below w1.heap.size w1 w' → Ow B X w0 w' q p) := fun w' hb => V1.below hb
  have DB : Hid (∀ w', Below w1.heap.size w1 w' → Pm w' d p (.slice A2 p.l.length c2)) := fun w' hb => D1.below hb
  have RB : Hid (∀ w', Below w1.heap.size w1 w' → RowT LineT w' w.heap.size (.slice A p.l.length c) p.l.length p.l ∧ RowT DLineT w' 0 (.slice A2 p.l.length c2) p.l.length p.l) := fun w' hb => ⟨rt_below R hb, rt_below R2 hb⟩
  obtain ⟨n, hn⟩ : ∃ n, n = p.l.length := ⟨_, rfl⟩
  have ac : Hid (∀ w', Below w1.heap.size w1 w' → w'.cell? ⟨d, 4, none⟩ = some (.int .i64 (p.a 4)) ∧ w'.cell? ⟨d, 5, none⟩ = some (.int .i64 (p.a 5)) ∧ w'.cell? ⟨d, 1011, none⟩ = some (.slice A2 n c2)) := fun w' hb => ⟨(DB.out w' hb).acc 4 (by omega), (DB.out w' hb).acc 5 (by omega), by rw [hn]; exact (DB.out w' hb).lin⟩
  have F1 : Hid (∀ w', Below w1.heap.size w1 w' → Calls Try.prog 36 #[.pointer (some ⟨q, 0, none⟩)] w' fun e w'' => e = .returned (.int .i64 (p.a 4)) ∧ w' = w'') := fun w' hb => ow_res (VB.out w' hb)
  have F2 : Hid (∀ w', Below w1.heap.size w1 w' → Calls Try.prog 37 #[.pointer (some ⟨q, 0, none⟩)] w' fun e w'' => e = .returned (.int .i64 (p.a 5)) ∧ w' = w'') := fun w' hb => ow_tak (VB.out w' hb)
  have F5 : Hid (∀ w', Below w1.heap.size w1 w' → Calls Try.prog 39 #[.pointer (some ⟨q, 0, none⟩)] w' fun e w'' => ∃ A n c, e = .returned (.slice A n c) ∧ (∀ w3, Below w''.heap.size w'' w3 → (convert 34 9 (.slice A n c)).run Try.prog w3 = .ok (.string (Pk.str (bts p 200))) w3) ∧ Below w1.heap.size w1 w'') := fun w' hb => by
    obtain ⟨fp', L', -⟩ := (VB.out w' hb).ex
    refine (bytes_any w' q p fp' L').mono ?_
    rintro e w'' ⟨v, rfl, hr, h2⟩
    obtain ⟨A, c, rfl⟩ := Pk.own_form hr
    exact ⟨A, _, c, rfl, fun w3 h3 => Pk.str_run (Pk.Rb.of_own (rb_below hr h3)), hb.trans (h2.mono hb.size)⟩
  have F6 : Hid (∀ w', Below w1.heap.size w1 w' → Calls Try.prog 55 #[.pointer (some ⟨d, 0, none⟩)] w' fun e w'' => e = .returned (.string (Pk.str (bts p 200))) ∧ Below w1.heap.size w1 w'' ∧ Below w'.heap.size w' w'') := fun w' hb => (refbytes_any w' d p fp (L1.below hb)).mono fun _ _ ⟨h1, h2⟩ => ⟨h1, hb.trans (h2.mono hb.size), h2⟩
  obtain ⟨a4, h4⟩ : ∃ x, x = p.a 4 := ⟨_, rfl⟩
  obtain ⟨a5, h5⟩ : ∃ x, x = p.a 5 := ⟨_, rfl⟩
  rw [← h4, ← h5] at ac
  rw [← h4] at F1
  rw [← h5] at F2
  rw [← hn] at RB
  replace hn := Lib.hid hn
  have DP : Hid (∀ w', Below w1.heap.size w1 w' → ∃ v, Pm w' d p v) := fun w' hb => ⟨_, DB.out w' hb⟩
  generalize Pk.str (bts p 200) = bs at *
  rw [hn.out.symm]
  clear LI R hb1 L1 V1 D1 R2 h4 h5 DB V L
  go_upto_region 2 with fail
  refine same2 _ _ _ _ _ _ _ _ _ _ _ _ _ _ _ _ _ _ _ _ _ _ _ _ _ _ _ _ _ _ _ _ _ _ _ _ _ _ _ _ _ _ _ _ _ _ _ _ _ _ _ _ _ _ _ _ _ _ _ _ _ _ _ _ _ _ _ _ _ _ _ _ _ _ _ _ _ _ _ _ _ _ _ _ _ _ _ _ _ _ _ _ _ _ _ _ _ _ _ _ _ _ _ _ _ _ _ _ _ _ _ _ _ _ _ _ _ _ _ _ _ _ _ _ _ _ _ _ _ _ _ _ _ _ _ _ _ _ _ _ _ _ _ _ _ _ _ _ _ _ _ _ _ _ _ _ w1 q d n c c2 A A2 a4 a5 bs ac F1 F2 F5 F6 _ (fun _ _ d _ _ h => by cases d <;> exact h) (fun y13 y14 y15 y16 y17 y18 y19 y20 y21 y22 y23 y24 y25 y26 y27 y28 y29 y30 y31 y32 y33 y34 y35 y36 y37 y38 y39 y40 y41 y42 y43 y44 y45 y46 y47 wc hb => ?_)
  have st : Hid (ScAt w1 (.int .i64 (-1)) wc) := ⟨-1, rfl, by omega, by omega, hb⟩
  clear hb F1 F2 F5 F6
  go_wp2_with fail
  go_loopw [6] (fun i wr => ScAt w1 i wr) (fun i _ => (5 - intOf i).toNat)
  case atStart => exact st.out
  case round =>
    clear st
    obtain ⟨b, rfl, b0, b1, hb⟩ := hrel
    have BA := ow_bal (VB.out _ hb) b
    by_cases h4 : b ≤ 4
    · have nx : Hid (ScAt w1 (.int .i64 (b + 1)) wr) := ⟨b + 1, rfl, by omega, by omega, hb⟩
      by_cases h0 : 0 ≤ b
      · by_cases h3 : b < 4
        · obtain ⟨j, rfl⟩ := Int.eq_ofNat_of_zero_le h0
          obtain ⟨v0, D⟩ := DP.out _ hb
          have c1 := D.acc j (by omega)
          rw [show bal p (j : Int) = p.a (j : Int) from if_pos (by omega)] at BA
          generalize p.a (j : Int) = y at BA c1
          have q1 : (y != y) = false := by simp
          have h6 : (j : Int) < 6 := by omega
          clear D hb
          go_wp2_with fail
          refine BA.mono ?_
          rintro e w' ⟨rfl, rfl⟩
          clear BA c1
          go_wp2
          exact ⟨nx.out, by simp [intOf]; omega⟩
        · rw [show bal p b = 0 from if_neg (by omega)] at BA
          clear hb
          go_wp2_with fail
          refine BA.mono ?_
          rintro e w' ⟨rfl, rfl⟩
          clear BA
          go_wp2
          exact ⟨nx.out, by simp [intOf]; omega⟩
      · rw [show bal p b = 0 from if_neg (by omega)] at BA
        clear hb
        go_wp2_with fail
        refine BA.mono ?_
        rintro e w' ⟨rfl, rfl⟩
        clear BA
        go_wp2
        exact ⟨nx.out, by simp [intOf]; omega⟩
    · have st : Hid (SbAt w1 (.int .i64 (-1)) wr) := ⟨-1, rfl, by omega, by omega, hb⟩
      clear hb BA
      go_wp2_with fail
      go_loopw [8] (fun i wr => SbAt w1 i wr) (fun i _ => (202 - intOf i).toNat)
      case atStart => exact st.out
      case round =>
        clear st h4 b0 b1
        obtain ⟨b, rfl, b0, b1, hb⟩ := hrel
        by_cases hk2 : b ≤ 201
        · by_cases hin : 1 ≤ b ∧ b ≤ 200
          · obtain ⟨j, rfl⟩ : ∃ j : Nat, b = (j : Int) := ⟨b.toNat, by omega⟩
            obtain ⟨h1, h2⟩ := hin
            obtain ⟨v0, D⟩ := DP.out (wr.alloc (.cells #[.int .i64 0, .int .i64 0, .int .i64 0, .int .i64 0, .int .i64 0] 41)) (hb.alloc hb.size _)
            have c0 := D.st (k := j) (by omega)
            have c1 := D.z1 (k := j) (by omega)
            have c2 := D.z2 (k := j) (by omega)
            have c3 := D.cu (k := j) (by omega)
            have c4 := D.am (k := j) (by omega)
            have i1 : (j : Int) < 201 := by omega
            have i2 : (0 : Int) ≤ (j : Int) := by omega
            obtain ⟨⟨st, cu, am⟩, hE⟩ : ∃ E, E = p.f (j : Int) := ⟨_, rfl⟩
            rw [← hE] at c0 c3 c4
            have EQ := fun w => eq_ent_run w st cu am st cu am
            rw [decide_eq_true (rfl : (⟨st, cu, am⟩ : E) = ⟨st, cu, am⟩)] at EQ
            obtain ⟨W, hW⟩ : ∃ W, W = wr.alloc (.cells #[.int .i64 st, .int .i64 0, .int .i64 0, .int .i64 cu, .int .i64 am] 41) := ⟨_, rfl⟩
            have bW : Hid (Below w1.heap.size w1 W) := by rw [hW]; exact hb.alloc hb.size _
            have hB : Hid (W.heap[wr.heap.size]? = some (.cells #[.int .i64 st, .int .i64 0, .int .i64 0, .int .i64 cu, .int .i64 am] 41 (0, 0))) := by rw [hW]; exact heap_alloc_new _ _
            have bD : Below W.heap.size W W.drew := ⟨rfl, rfl, rfl, Nat.le_refl _, fun _ _ => rfl⟩
            have x0 : W.cell? ⟨wr.heap.size, 0, none⟩ = _ := one_at (i := 0) hB.out
            have x1 : W.cell? ⟨wr.heap.size, 1, none⟩ = _ := one_at (i := 1) hB.out
            have x2 : W.cell? ⟨wr.heap.size, 2, none⟩ = _ := one_at (i := 2) hB.out
            have x3 : W.cell? ⟨wr.heap.size, 3, none⟩ = _ := one_at (i := 3) hB.out
            have x4 : W.cell? ⟨wr.heap.size, 4, none⟩ = _ := one_at (i := 4) hB.out
            replace hW := Lib.hid hW
            have EN : Hid (∀ w', Below W.heap.size W w' → Calls Try.prog 34 #[.pointer (some ⟨q, 0, none⟩), .int .i64 (j : Int)] w' fun e w'' => e = .returned (.agg #[.int .i64 st, .int .i64 0, .int .i64 0, .int .i64 cu, .int .i64 am]) ∧ Below W.heap.size W w'') := fun w' h => by
              have := ow_entry (VB.out w' (bW.out.trans (h.mono bW.out.size))) (j : Int)
              rw [← hE] at this
              exact this.mono fun _ _ ⟨e1, e2⟩ => ⟨e1, h.trans (e2.mono h.size)⟩
            clear D hb hE
            go_upto_region 18 with fail
            rw [← hW.out]
            clear hW
            go_cut [90] from 86 to 90 (fun s90 wx => s90 = .bool false ∧ Below w1.heap.size w1 wx)
            case first =>
              go_region_with ((go_at_call 34; refine (EN.out _ (by assumption)).mono ?_; rintro e w6 ⟨rfl, h6⟩; have H6 := (h6.block _ (lt_some hB.out)).trans hB.out; have a0 : w6.cell? ⟨wr.heap.size, 0, none⟩ = _ := one_at (i := 0) H6; have a1 : w6.cell? ⟨wr.heap.size, 1, none⟩ = _ := one_at (i := 1) H6; have a2 : w6.cell? ⟨wr.heap.size, 2, none⟩ = _ := one_at (i := 2) H6; have a3 : w6.cell? ⟨wr.heap.size, 3, none⟩ = _ := one_at (i := 3) H6; have a4 : w6.cell? ⟨wr.heap.size, 4, none⟩ = _ := one_at (i := 4) H6; have b6 : Below w1.heap.size w1 w6 := bW.out.trans (h6.mono bW.out.size)))
              all_goals
                go_wp2
                go_meet
                case rel => exact ⟨by simp, by assumption⟩
            case rest =>
              obtain ⟨rfl, hb⟩ := hcut
              have nx : Hid (SbAt w1 (.int .i64 ((j : Int) + 1)) wc) := ⟨(j : Int) + 1, rfl, by omega, by omega, hb⟩
              clear hb
              go_wp2
              exact ⟨nx.out, by simp [intOf]; omega⟩
          · have sc : b < 1 ∨ 200 < b := by omega
            have hz : p.f b = ez := by
              have hs := O.out.shp b
              refine hs.zero ?_
              refine Decidable.byContradiction fun hn => ?_
              have := hs.inn hn
              omega
            have EQ := fun w => eq_ent_run w 0 0 0 0 0 0
            rw [decide_eq_true (rfl : (⟨0, 0, 0⟩ : E) = ⟨0, 0, 0⟩)] at EQ
            obtain ⟨W, hW⟩ : ∃ W, W = wr.alloc (.cells #[.int .i64 0, .int .i64 0, .int .i64 0, .int .i64 0, .int .i64 0] 41) := ⟨_, rfl⟩
            have bW : Hid (Below w1.heap.size w1 W) := by rw [hW]; exact hb.alloc hb.size _
            have hB : Hid (W.heap[wr.heap.size]? = some (.cells #[.int .i64 0, .int .i64 0, .int .i64 0, .int .i64 0, .int .i64 0] 41 (0, 0))) := by rw [hW]; exact heap_alloc_new _ _
            have bD : Below W.heap.size W W.drew := ⟨rfl, rfl, rfl, Nat.le_refl _, fun _ _ => rfl⟩
            have x0 : W.cell? ⟨wr.heap.size, 0, none⟩ = _ := one_at (i := 0) hB.out
            have x1 : W.cell? ⟨wr.heap.size, 1, none⟩ = _ := one_at (i := 1) hB.out
            have x2 : W.cell? ⟨wr.heap.size, 2, none⟩ = _ := one_at (i := 2) hB.out
            have x3 : W.cell? ⟨wr.heap.size, 3, none⟩ = _ := one_at (i := 3) hB.out
            have x4 : W.cell? ⟨wr.heap.size, 4, none⟩ = _ := one_at (i := 4) hB.out
            replace hW := Lib.hid hW
            have EN : Hid (∀ w', Below W.heap.size W w' → Calls Try.prog 34 #[.pointer (some ⟨q, 0, none⟩), .int .i64 b] w' fun e w'' => e = .returned (.agg #[.int .i64 0, .int .i64 0, .int .i64 0, .int .i64 0, .int .i64 0]) ∧ Below W.heap.size W w'') := fun w' h => by
              have := ow_entry (VB.out w' (bW.out.trans (h.mono bW.out.size))) b
              rw [hz] at this
              exact this.mono fun _ _ ⟨e1, e2⟩ => ⟨e1, h.trans (e2.mono h.size)⟩
            clear hz hb hin
            go_upto_region 16 with fail
            go_cut [79] from 74 to 79 (fun s79 wx => s79 = .bool false ∧ wx = W)
            case first =>
              rw [← hW.out]
              by_cases h1 : 1 ≤ b
              · have h2 : ¬ b ≤ 200 := by omega
                clear sc
                go_wp2
                go_meet
                case rel => exact ⟨rfl, rfl⟩
              · clear sc
                go_wp2
                go_meet
                case rel => exact ⟨rfl, rfl⟩
            case rest =>
              obtain ⟨rfl, rfl⟩ := hcut
              clear sc hW
              go_upto_region 18 with fail
              go_cut [90] from 86 to 90 (fun s90 wx => s90 = .bool false ∧ Below w1.heap.size w1 wx)
              case first =>
                go_region_with ((go_at_call 34; refine (EN.out _ (by assumption)).mono ?_; rintro e w6 ⟨rfl, h6⟩; have H6 := (h6.block _ (lt_some hB.out)).trans hB.out; have a0 : w6.cell? ⟨wr.heap.size, 0, none⟩ = _ := one_at (i := 0) H6; have a1 : w6.cell? ⟨wr.heap.size, 1, none⟩ = _ := one_at (i := 1) H6; have a2 : w6.cell? ⟨wr.heap.size, 2, none⟩ = _ := one_at (i := 2) H6; have a3 : w6.cell? ⟨wr.heap.size, 3, none⟩ = _ := one_at (i := 3) H6; have a4 : w6.cell? ⟨wr.heap.size, 4, none⟩ = _ := one_at (i := 4) H6; have b6 : Below w1.heap.size w1 w6 := bW.out.trans (h6.mono bW.out.size)))
                all_goals
                  go_wp2
                  go_meet
                  case rel => exact ⟨by simp, by assumption⟩
              case rest =>
                obtain ⟨rfl, hb⟩ := hcut
                have nx : Hid (SbAt w1 (.int .i64 (b + 1)) wc) := ⟨b + 1, rfl, by omega, by omega, hb⟩
                clear hb
                go_wp2
                exact ⟨nx.out, by simp [intOf]; omega⟩
        · have st : Hid (SlAt w1 n (.int .i64 0) wr) := ⟨0, rfl, Nat.zero_le _, hb⟩
          clear hb
          go_wp2_with fail
          go_loopw [10] (fun i wr => SlAt w1 n i wr) (fun i _ => n - (intOf i).toNat)
          case atStart => exact st.out
          case round =>
            clear st hk2 b0 b1
            obtain ⟨k, rfl, hk, hb⟩ := hrel
            by_cases hlt : k < n
            · obtain ⟨x, hx⟩ : ∃ x, p.l[k]? = some x := ⟨_, List.getElem?_eq_getElem (by have := hn.out; omega)⟩
              obtain ⟨Ra, Rb⟩ := RB.out wr hb
              obtain ⟨ga, rfl, r0, r1, r2, r3⟩ := rt_cell Ra hx
              obtain ⟨gb, rfl, s0, s1, s2, s3⟩ := rt_cell Rb hx
              obtain ⟨v0, D⟩ := DP.out wr hb
              have xl := (ac.out wr hb).2.2
              obtain ⟨bk, fr, tg, am⟩ := x
              simp only at r0 r1 r2 r3 s0 s1 s2 s3
              have q0 : (bk != bk) = false := by simp
              have q1 : (fr != fr) = false := by simp
              have q2 : (tg != tg) = false := by simp
              have q3 : (am != am) = false := by simp
              have k6 : k ≤ 600 := by have := FEW.out; have := hn.out; omega
              have i1 : (k : Int) < (n : Int) := by omega
              have i2 : (0 : Int) ≤ (k : Int) := by omega
              have nx : Hid (∀ m, SlAt w1 n (.int .i64 ((k : Int) + 1)) (wr.drewN m)) := fun m => ⟨k + 1, by simp, by omega, hb.trans ⟨rfl, rfl, rfl, Nat.le_refl _, fun _ _ => rfl⟩⟩
              clear hb Ra Rb hx D
              go_wp2_with fail
              go_quiet (fail)
              go_wp2
              exact ⟨nx.out _, by simp [intOf]; omega⟩
            · have i1 : ¬ (k : Int) < (n : Int) := by omega
              have E := Lib.hid (BD.out wr hb)
              clear hb
              go_wp2
              go_ret
              exact ⟨rfl, E.out⟩
end Pu
end Go.Proofs.Ytchlbkfkecpodaa
