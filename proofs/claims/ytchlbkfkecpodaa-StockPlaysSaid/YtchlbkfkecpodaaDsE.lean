/- Lists of numbers compared; an inventory and the document's are the same. -/
import Derived.Test.YtchlbkfkecpodaaDsD
import Derived.Test.YtchlbkfkecpodaaStV
namespace Go.Proofs.Ytchlbkfkecpodaa
set_option maxRecDepth 100000
open Go.RowKit Go.Sort
open Go.Proofs.Ytchlbkfkecpodaa.Pk (one_at one_free one_set lt_some grown_set grown_trans below_grown grown_refl)
namespace St
open Wt (Opn mayOp)

def InsAt (w : World) (n : Nat) (i : Value) (wr : World) : Prop := ∃ k : Nat, i = .int .i64 k ∧ k ≤ n ∧ Below w.heap.size w wr
set_option maxHeartbeats 1600000 in
theorem ints_same (w : World) (A B : Option Addr) (n c d : Nat) (zs : List Int) (h1 : Nz w A zs) (h2 : Nz w B zs) (hl : zs.length = n) (hn : n ≤ 200) :
    Calls Try.prog 20 #[.slice A n c, .slice B n d] w fun e w' => e = .returned (.bool true) ∧ Below w.heap.size w w' := by
  have st : Hid (InsAt w n (.int .i64 0) w) := ⟨0, rfl, Nat.zero_le _, Below.refl _ _⟩
  have N1 : Hid (∀ w', Below w.heap.size w w' → Nz w' A zs ∧ Nz w' B zs) := fun w' hb => ⟨h1.below hb, h2.below hb⟩
  have hl' := Lib.hid hl
  clear h1 h2 hl
  have q0 : ((n : Int) != (n : Int)) = false := by simp
  go_enter Try.func20, Try.ntmps20
  go_wp2_with fail
  go_loopw [5] (fun i wr => InsAt w n i wr) (fun i _ => n - (intOf i).toNat)
  case atStart => exact st.out
  case round =>
    clear st q0
    obtain ⟨j, rfl, hj, hb⟩ := hrel
    by_cases hlt : j < n
    · obtain ⟨z, hz⟩ : ∃ z, zs[j]? = some z := ⟨_, List.getElem?_eq_getElem (by rw [hl'.out]; omega)⟩
      obtain ⟨M1, M2⟩ := N1.out wr hb
      obtain ⟨a, rfl, -, -, c1⟩ := M1 j z hz
      obtain ⟨b, rfl, -, -, c2⟩ := M2 j z hz
      have i1 : (j : Int) < (n : Int) := by omega
      have i2 : (0 : Int) ≤ (j : Int) := by omega
      have q1 : (z != z) = false := by simp
      have nx : Hid (∀ k, InsAt w n (.int .i64 ((j : Int) + 1)) (wr.drewN k)) := fun k => ⟨j + 1, by simp, by omega, hb.trans (below_drewN _ _)⟩
      clear hb M1 M2 hz
      go_wp2_with fail
      go_quiet (fail)
      go_wp2
      exact ⟨nx.out _, by simp [intOf]; omega⟩
    · have i1 : ¬ (j : Int) < (n : Int) := by omega
      have E := Lib.hid hb
      clear hb
      go_wp2
      go_ret
      exact ⟨rfl, E.out⟩

/-! ### the same -/
def SmAt2 (w : World) (i : Value) (wr : World) : Prop := ∃ b : Int, i = .int .i64 b ∧ -1 ≤ b ∧ b ≤ 202 ∧ Below w.heap.size w wr
set_option maxHeartbeats 6400000 in
theorem same_any (w : World) (B : Nat) (X : Nat → Prop) (w0 : World) (q p : Nat) (cap over : Int) (f : F) (V : Ow B X w0 w q cap over f) (D : Ds w p cap over f) :
    Calls Try.prog 22 #[.pointer (some ⟨q, 0, none⟩), .pointer (some ⟨p, 0, none⟩)] w fun e w' => e = .returned (.bool true) ∧ Below w.heap.size w w' := by
  have O := V.ok
  have OK := Lib.hid O
  have UN := Lib.hid (refunits_any w p cap over f D O)
  have VB : ∀ w', Below w.heap.size w w' → Ow B X w0 w' q cap over f := fun w' hb => V.below hb
  have DB : ∀ w', Below w.heap.size w w' → Ds w' p cap over f := fun w' hb => D.below hb
  have F1 : Hid (∀ w', Below w.heap.size w w' → Calls Try.prog 23 #[.pointer (some ⟨q, 0, none⟩)] w' fun e w'' => e = .returned (.int .i64 (room cap over f)) ∧ Below w.heap.size w w'') := fun w' hb => (ow_free (VB w' hb)).mono fun _ _ ⟨h1, h2⟩ => ⟨h1, hb.trans (h2.mono hb.size)⟩
  have F2 : Hid (∀ w', Below w.heap.size w w' → Calls Try.prog 70 #[.pointer (some ⟨p, 0, none⟩)] w' fun e w'' => e = .returned (.int .i64 (room cap over f)) ∧ Below w.heap.size w w'') := fun w' hb => (reffree_any w' p cap over f (DB w' hb) O).mono fun _ _ ⟨h1, m, h2⟩ => ⟨h1, by rw [h2]; exact hb.trans (below_drewN _ _)⟩
  have F3 : Hid (∀ w', Below w.heap.size w w' → Calls Try.prog 24 #[.pointer (some ⟨q, 0, none⟩)] w' fun e w'' => e = .returned (.int .i64 (uni 1 f)) ∧ Below w.heap.size w w'') := fun w' hb => (ow_held (VB w' hb)).mono fun _ _ ⟨h1, h2⟩ => ⟨h1, hb.trans (h2.mono hb.size)⟩
  have F4 : Hid (∀ w', Below w.heap.size w w' → Calls Try.prog 25 #[.pointer (some ⟨q, 0, none⟩)] w' fun e w'' => e = .returned (.int .i64 (uni 2 f)) ∧ Below w.heap.size w w'') := fun w' hb => (ow_conf (VB w' hb)).mono fun _ _ ⟨h1, h2⟩ => ⟨h1, hb.trans (h2.mono hb.size)⟩
  have F5 : Hid (∀ w', Below w.heap.size w w' → Calls Try.prog 13 #[.pointer (some ⟨q, 0, none⟩)] w' fun e w'' => ∃ A n c, e = .returned (.slice A n c) ∧ (∀ w3, Below w''.heap.size w'' w3 → (convert 34 9 (.slice A n c)).run Try.prog w3 = .ok (.string (Pk.str (bts cap over f 200))) w3) ∧ Below w.heap.size w w'') := fun w' hb => (ow_bytes (VB w' hb)).mono fun e w'' h => by
    obtain ⟨v, rfl, hr, h2⟩ := h
    obtain ⟨A, c, rfl⟩ := Pk.own_form hr
    exact ⟨A, _, c, rfl, fun w3 h3 => Pk.str_run (Pk.Rb.of_own (rb_below hr h3)), hb.trans (h2.mono hb.size)⟩
  have F6 : Hid (∀ w', Below w.heap.size w w' → Calls Try.prog 72 #[.pointer (some ⟨p, 0, none⟩)] w' fun e w'' => e = .returned (.string (Pk.str (bts cap over f 200))) ∧ Below w.heap.size w w'' ∧ Below w'.heap.size w' w'') := fun w' hb => (refbytes_any w' p cap over f (DB w' hb) O).mono fun _ _ ⟨h1, h2⟩ => ⟨h1, hb.trans (h2.mono hb.size), h2⟩
  replace VB := Lib.hid VB
  replace DB := Lib.hid DB
  generalize uni 1 f = u1 at *
  generalize uni 2 f = u2 at *
  generalize room cap over f = rm at *
  have p1 : (rm != rm) = false := by simp
  have p2 : (u1 != u1) = false := by simp
  have p3 : (u2 != u2) = false := by simp
  generalize Pk.str (bts cap over f 200) = bs at *
  have b0 : Below w.heap.size w w.drew := ⟨rfl, rfl, rfl, Nat.le_refl _, fun _ _ => rfl⟩
  clear V D O
  go_enter Try.func22, Try.ntmps22
  go_wp2_with fail
  refine UN.out.mono ?_
  rintro e w1 ⟨rfl, rfl⟩
  clear UN
  go_upto_region 2 with fail
  go_cut [38] from 14 to 38 (fun s38 wx => s38 = .bool false ∧ Below w.heap.size w wx)
  case first =>
    go_region_with ((first | (go_at_call 23; refine (F1.out _ (by assumption)).mono ?_; rintro e w6 ⟨rfl, h6⟩) | (go_at_call 70; refine (F2.out _ (by assumption)).mono ?_; rintro e w6 ⟨rfl, h6⟩) | (go_at_call 24; refine (F3.out _ (by assumption)).mono ?_; rintro e w6 ⟨rfl, h6⟩) | (go_at_call 25; refine (F4.out _ (by assumption)).mono ?_; rintro e w6 ⟨rfl, h6⟩) | (go_at_call 13; refine (F5.out _ (by assumption)).mono ?_; rintro e w6 ⟨A, n, c, rfl, hcv, h6⟩; have z6 := hcv _ (Below.refl _ _); replace hcv := Lib.hid hcv) | (go_at_call 72; refine (F6.out _ (by assumption)).mono ?_; rintro e w6 ⟨rfl, h6, h7⟩; (try have z6 := hcv.out _ h7); clear h7)))
    all_goals
      go_wp2
      go_meet
      case rel => exact ⟨by simp, by assumption⟩
  case rest =>
    obtain ⟨rfl, hb⟩ := hcut
    clear F1 F2 F3 F4 F5 F6 p1 p2 p3 b0
    have st : Hid (SmAt2 w (.int .i64 (-1)) wc) := ⟨-1, rfl, by omega, by omega, hb⟩
    clear hb
    go_wp2_with fail
    go_loopw [7] (fun i wr => SmAt2 w i wr) (fun i _ => (202 - intOf i).toNat)
    case atStart => exact st.out
    case round =>
      clear st
      obtain ⟨b, rfl, b0, b1, hb⟩ := hrel
      by_cases hk2 : b ≤ 201
      · by_cases hin : 1 ≤ b ∧ b ≤ 200
        · obtain ⟨j, rfl⟩ : ∃ j : Nat, b = (j : Int) := ⟨b.toNat, by omega⟩
          obtain ⟨h1, h2⟩ := hin
          have D := DB.out (wr.alloc (.cells #[.int .i64 0, .int .i64 0, .int .i64 0, .int .i64 0, .int .i64 0] 41)) (hb.alloc hb.size _)
          have c0 := D.st (k := j) (by omega)
          have c1 := D.un (k := j) (by omega)
          have c2 := D.ut (k := j) (by omega)
          have c3 := D.z3 (k := j) (by omega)
          have c4 := D.z4 (k := j) (by omega)
          have i1 : (j : Int) < 201 := by omega
          have i2 : (0 : Int) ≤ (j : Int) := by omega
          obtain ⟨⟨st, un, ut⟩, hE⟩ : ∃ E, E = f (j : Int) := ⟨_, rfl⟩
          rw [← hE] at c0 c1 c2
          have EQ := fun w => eq_ent_run w st un ut st un ut
          rw [decide_eq_true (rfl : (⟨st, un, ut⟩ : E) = ⟨st, un, ut⟩)] at EQ
          obtain ⟨W, hW⟩ : ∃ W, W = wr.alloc (.cells #[.int .i64 st, .int .i64 un, .int .i64 ut, .int .i64 0, .int .i64 0] 41) := ⟨_, rfl⟩
          have bW : Hid (Below w.heap.size w W) := by rw [hW]; exact hb.alloc hb.size _
          have hB : Hid (W.heap[wr.heap.size]? = some (.cells #[.int .i64 st, .int .i64 un, .int .i64 ut, .int .i64 0, .int .i64 0] 41 (0, 0))) := by rw [hW]; exact heap_alloc_new _ _
          have bD : Below W.heap.size W W.drew := ⟨rfl, rfl, rfl, Nat.le_refl _, fun _ _ => rfl⟩
          have x0 : W.cell? ⟨wr.heap.size, 0, none⟩ = _ := one_at (i := 0) hB.out
          have x1 : W.cell? ⟨wr.heap.size, 1, none⟩ = _ := one_at (i := 1) hB.out
          have x2 : W.cell? ⟨wr.heap.size, 2, none⟩ = _ := one_at (i := 2) hB.out
          have x3 : W.cell? ⟨wr.heap.size, 3, none⟩ = _ := one_at (i := 3) hB.out
          have x4 : W.cell? ⟨wr.heap.size, 4, none⟩ = _ := one_at (i := 4) hB.out
          replace hW := Lib.hid hW
          have EN : Hid (∀ w', Below W.heap.size W w' → Calls Try.prog 17 #[.pointer (some ⟨q, 0, none⟩), .int .i64 (j : Int)] w' fun e w'' => e = .returned (.agg #[.int .i64 st, .int .i64 un, .int .i64 ut, .int .i64 0, .int .i64 0]) ∧ Below W.heap.size W w'') := fun w' h => by
            have := ow_entry (VB.out w' (bW.out.trans (h.mono bW.out.size))) (j : Int) ⟨by omega, by omega⟩
            rw [← hE] at this
            exact this.mono fun _ _ ⟨e1, e2⟩ => ⟨e1, h.trans (e2.mono h.size)⟩
          clear D hb hE
          go_upto_region 10 with fail
          rw [← hW.out]
          clear hW
          go_cut [59] from 55 to 59 (fun s59 wx => s59 = .bool false ∧ Below w.heap.size w wx)
          case first =>
            go_region_with ((go_at_call 17; refine (EN.out _ (by assumption)).mono ?_; rintro e w6 ⟨rfl, h6⟩; have H6 := (h6.block _ (lt_some hB.out)).trans hB.out; have a0 : w6.cell? ⟨wr.heap.size, 0, none⟩ = _ := one_at (i := 0) H6; have a1 : w6.cell? ⟨wr.heap.size, 1, none⟩ = _ := one_at (i := 1) H6; have a2 : w6.cell? ⟨wr.heap.size, 2, none⟩ = _ := one_at (i := 2) H6; have a3 : w6.cell? ⟨wr.heap.size, 3, none⟩ = _ := one_at (i := 3) H6; have a4 : w6.cell? ⟨wr.heap.size, 4, none⟩ = _ := one_at (i := 4) H6; have b6 : Below w.heap.size w w6 := bW.out.trans (h6.mono bW.out.size)))
            all_goals
              go_wp2
              go_meet
              case rel => exact ⟨by simp, by assumption⟩
          case rest =>
            obtain ⟨rfl, hb⟩ := hcut
            have nx : Hid (SmAt2 w (.int .i64 ((j : Int) + 1)) wc) := ⟨(j : Int) + 1, rfl, by omega, by omega, hb⟩
            clear hb
            go_wp2
            exact ⟨nx.out, by simp [intOf]; omega⟩
        · have sc : b < 1 ∨ 200 < b := by omega
          have hz : f b = ez := by
            have hs := OK.out.shp b
            refine hs.zero ?_
            refine Decidable.byContradiction fun hn => ?_
            have := hs.inn hn
            omega
          have EQ := fun w => eq_ent_run w 0 0 0 0 0 0
          rw [decide_eq_true (rfl : (⟨0, 0, 0⟩ : E) = ⟨0, 0, 0⟩)] at EQ
          obtain ⟨W, hW⟩ : ∃ W, W = wr.alloc (.cells #[.int .i64 0, .int .i64 0, .int .i64 0, .int .i64 0, .int .i64 0] 41) := ⟨_, rfl⟩
          have bW : Hid (Below w.heap.size w W) := by rw [hW]; exact hb.alloc hb.size _
          have hB : Hid (W.heap[wr.heap.size]? = some (.cells #[.int .i64 0, .int .i64 0, .int .i64 0, .int .i64 0, .int .i64 0] 41 (0, 0))) := by rw [hW]; exact heap_alloc_new _ _
          have bD : Below W.heap.size W W.drew := ⟨rfl, rfl, rfl, Nat.le_refl _, fun _ _ => rfl⟩
          have x0 : W.cell? ⟨wr.heap.size, 0, none⟩ = _ := one_at (i := 0) hB.out
          have x1 : W.cell? ⟨wr.heap.size, 1, none⟩ = _ := one_at (i := 1) hB.out
          have x2 : W.cell? ⟨wr.heap.size, 2, none⟩ = _ := one_at (i := 2) hB.out
          have x3 : W.cell? ⟨wr.heap.size, 3, none⟩ = _ := one_at (i := 3) hB.out
          have x4 : W.cell? ⟨wr.heap.size, 4, none⟩ = _ := one_at (i := 4) hB.out
          replace hW := Lib.hid hW
          have EN : Hid (∀ w', Below W.heap.size W w' → Calls Try.prog 17 #[.pointer (some ⟨q, 0, none⟩), .int .i64 b] w' fun e w'' => e = .returned (.agg #[.int .i64 0, .int .i64 0, .int .i64 0, .int .i64 0, .int .i64 0]) ∧ Below W.heap.size W w'') := fun w' h => by
            have := ow_entry (VB.out w' (bW.out.trans (h.mono bW.out.size))) b ⟨by omega, by omega⟩
            rw [hz] at this
            exact this.mono fun _ _ ⟨e1, e2⟩ => ⟨e1, h.trans (e2.mono h.size)⟩
          clear hz hb hin
          by_cases h1 : 1 ≤ b
          · have h2 : ¬ b ≤ 200 := by omega
            clear sc
            go_upto_region 10 with fail
            rw [← hW.out]
            clear hW
            go_cut [59] from 55 to 59 (fun s59 wx => s59 = .bool false ∧ Below w.heap.size w wx)
            case first =>
              go_region_with ((go_at_call 17; refine (EN.out _ (by assumption)).mono ?_; rintro e w6 ⟨rfl, h6⟩; have H6 := (h6.block _ (lt_some hB.out)).trans hB.out; have a0 : w6.cell? ⟨wr.heap.size, 0, none⟩ = _ := one_at (i := 0) H6; have a1 : w6.cell? ⟨wr.heap.size, 1, none⟩ = _ := one_at (i := 1) H6; have a2 : w6.cell? ⟨wr.heap.size, 2, none⟩ = _ := one_at (i := 2) H6; have a3 : w6.cell? ⟨wr.heap.size, 3, none⟩ = _ := one_at (i := 3) H6; have a4 : w6.cell? ⟨wr.heap.size, 4, none⟩ = _ := one_at (i := 4) H6; have b6 : Below w.heap.size w w6 := bW.out.trans (h6.mono bW.out.size)))
              all_goals
                go_wp2
                go_meet
                case rel => exact ⟨by simp, by assumption⟩
            case rest =>
              obtain ⟨rfl, hb⟩ := hcut
              have nx : Hid (SmAt2 w (.int .i64 (b + 1)) wc) := ⟨b + 1, rfl, by omega, by omega, hb⟩
              clear hb
              go_wp2
              exact ⟨nx.out, by simp [intOf]; omega⟩
          · clear sc
            go_upto_region 10 with fail
            rw [← hW.out]
            clear hW
            go_cut [59] from 55 to 59 (fun s59 wx => s59 = .bool false ∧ Below w.heap.size w wx)
            case first =>
              go_region_with ((go_at_call 17; refine (EN.out _ (by assumption)).mono ?_; rintro e w6 ⟨rfl, h6⟩; have H6 := (h6.block _ (lt_some hB.out)).trans hB.out; have a0 : w6.cell? ⟨wr.heap.size, 0, none⟩ = _ := one_at (i := 0) H6; have a1 : w6.cell? ⟨wr.heap.size, 1, none⟩ = _ := one_at (i := 1) H6; have a2 : w6.cell? ⟨wr.heap.size, 2, none⟩ = _ := one_at (i := 2) H6; have a3 : w6.cell? ⟨wr.heap.size, 3, none⟩ = _ := one_at (i := 3) H6; have a4 : w6.cell? ⟨wr.heap.size, 4, none⟩ = _ := one_at (i := 4) H6; have b6 : Below w.heap.size w w6 := bW.out.trans (h6.mono bW.out.size)))
              all_goals
                go_wp2
                go_meet
                case rel => exact ⟨by simp, by assumption⟩
            case rest =>
              obtain ⟨rfl, hb⟩ := hcut
              have nx : Hid (SmAt2 w (.int .i64 (b + 1)) wc) := ⟨b + 1, rfl, by omega, by omega, hb⟩
              clear hb
              go_wp2
              exact ⟨nx.out, by simp [intOf]; omega⟩
      · have E := Lib.hid hb
        clear hb
        go_wp2
        go_ret
        exact ⟨rfl, E.out⟩
end St
end Go.Proofs.Ytchlbkfkecpodaa
