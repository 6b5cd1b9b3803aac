/- Proved: a byte that is turned in a record or its sum ends the reading there (FrameTurned), for any records, any of them, any place and turn, the package's table being as the program's text lays it. -/
import Derived.Test.YthadgeihkeggfaaDoorFrN
import Derived.Lib.QuietBelow
import Derived.Deep.DeepCutAuto
import Derived.Deep.CutRange
import Derived.Test.YthadgeihkeggfaaDoorCards
import Derived.Test.YthadgeihkeggfaaDoorTie
namespace Go.Proofs.YthadgeihkeggfaaDoor.frameTurned
open Go.ChangeShapes Go.WideShapes Go.ChangeAt Go.WideElems Go.RowKit
open Go.Sort
open Go.Proofs.YthadgeihkeggfaaDoor.Pk Go.Proofs.YthadgeihkeggfaaDoor.Fr

theorem take_more {l : List (List UInt8)} {wi k : Nat} (h : wi ≤ k) : (l.take wi).take (k + 1) = (l.take wi).take k := by rw [List.take_take, List.take_take, Nat.min_eq_right (by omega), Nat.min_eq_right h]
theorem take_all {l : List (List UInt8)} {wi k : Nat} (h : wi ≤ k) : (l.take wi).take k = l.take wi := by rw [List.take_take, Nat.min_eq_right h]
/-- The bytes so far. -/
def Part (l : List (List UInt8)) (wi k : Nat) (bs : List UInt8) : Prop :=
  (k ≤ wi ∧ bs = frames (l.take k)) ∨ (wi < k ∧ ∃ f t, bs = frames (l.take wi) ++ (f ++ t) ∧ ∀ t', one (f ++ t') = none)
structure TrAt (w : World) (l : List (List UInt8)) (wi : Nat) (b e al i : Value) (wr : World) (k : Nat) (bs : List UInt8) : Prop where
  i_ : i = .int .i64 (k : Nat)
  k_ : k ≤ l.length
  all : ∀ r ∈ l.take k, 1 ≤ r.length ∧ r.length ≤ 60
  own : wr.ownsRow w.heap.size 5 1 b bs.length (u8s bs)
  len : bs.length ≤ k * 66
  e_ : e = .int .i64 ((frames ((l.take wi).take k)).length : Nat)
  ss : wr.ownsRow w.heap.size 9 1 al ((l.take wi).take k).length (strs ((l.take wi).take k))
  be : RowKit.Below w.heap.size w wr
  part : Part l wi k bs

set_option maxHeartbeats 6400000 in
set_option maxRecDepth 100000 in
theorem walk (A : Option Addr) (n c : Nat) (l : List (List UInt8)) (w : World) (hx : Txts w w.heap.size A n l) (ht : Tab w) (hnc : n ≤ c) (_hc : c ≤ 9223372036854775807) (wh at_ x : Int) (hx1 : 0 ≤ x) (hx2 : x ≤ 255) :
    Calls Tryd.prog 5 #[.slice A n c, .int .i64 wh, .int .i64 at_, .int .u8 x] w fun e w' => e = .returned (.bool true) ∧ RowKit.Below w.heap.size w w' := by
  have T : Hid (∀ w', RowKit.Below w.heap.size w w' → Calls Tryd.prog 8 #[] w' fun e w'' => e = .returned (.bool true) ∧ RowKit.Below w'.heap.size w' w'') := fun w' hb => told_any w' (ht.below hb)
  have Tk : Hid (∀ w', RowKit.Below w.heap.size w w' → Tab w') := fun w' hb => ht.below hb
  have hl : Hid (l.length = n) := hx.len
  replace hx := Lib.hid hx
  clear ht
  by_cases h8 : n < 1 ∨ 6 < n
  · have T0 := Lib.hid (T.out w (RowKit.Below.refl _ _))
    rcases h8 with h | h
    all_goals
      go_enter Tryd.func5, Tryd.ntmps5
      go_wp2_with fail
      refine T0.out.mono ?_
      rintro e w4 ⟨rfl, b4⟩
      replace b4 := Lib.hid b4
      go_wp2
      go_ret
      exact ⟨rfl, b4.out⟩
  by_cases hx0 : x = 0
  · have T0 := Lib.hid (T.out w (RowKit.Below.refl _ _))
    subst hx0
    go_enter Tryd.func5, Tryd.ntmps5
    go_wp2_with fail
    refine T0.out.mono ?_
    rintro e w4 ⟨rfl, b4⟩
    replace b4 := Lib.hid b4
    go_wp2
    go_ret
    exact ⟨rfl, b4.out⟩
  have dx : decide (x = 0) = false := by simpa using hx0
  have dx2 : (x == 0) = false := by simpa using hx0
  replace hx0 := Lib.hid hx0
  obtain ⟨a, rfl, hab, _⟩ := hx.out.at_ (by omega)
  obtain ⟨wi, hW, hwn⟩ := place wh n (by omega) (by omega)
  have st : Hid (TrAt w l wi (.slice none 0 0) (.int .i64 0) (.slice none 0 0) (.int .i64 0) w 0 []) := by
    refine ⟨rfl, Nat.zero_le _, (fun r hr => by simp at hr), World.ownsRow_nil _ _ _ _, by simp, ?_, ?_, RowKit.Below.refl _ _, .inl ⟨Nat.zero_le _, rfl⟩⟩
    · rfl
    · exact World.ownsRow_nil _ _ _ _
  go_enter Tryd.func5, Tryd.ntmps5
  go_wp2_with fail
  rw [hW]
  clear hW
  go_loopw [10, 11, 12, 13] (fun b e al i wr => ∃ k bs, TrAt w l wi b e al i wr k bs) (fun _ _ _ i _ => n - (intOf i).toNat)
  case atStart => exact ⟨_, _, st.out⟩
  case round =>
    obtain ⟨k, bs, rfl, hk, hall, ho, hlen, rfl, hs, hb, hP⟩ := hrel
    replace ho := Lib.hid ho
    replace hb := Lib.hid hb
    replace hall := Lib.hid hall
    replace hs := Lib.hid hs
    replace hP := Lib.hid hP
    by_cases hlt : k < n
    · obtain ⟨r, hr⟩ : ∃ r, l[k]? = some r := ⟨_, List.getElem?_eq_getElem (by have := hl.out; omega)⟩
      obtain ⟨u, hu, A1, c1, e1, _, hc1, hm1, hR⟩ := (hx.out.below hb.out).get hr
      subst e1
      replace hR := Lib.hid hR
      replace hr := Lib.hid hr
      have hzw : w.heap.size ≤ wr.heap.size := hb.out.size
      have Q := Lib.hid (T.out wr hb.out)
      obtain ⟨m, hm⟩ : ∃ m, m = r.length := ⟨_, rfl⟩
      rw [← hm] at hu hc1 hR
      obtain ⟨qe, hqe⟩ : ∃ q, q = (frames ((l.take wi).take k)).length := ⟨_, rfl⟩
      rw [← hqe]
      replace hqe := Lib.hid hqe
      by_cases hbad : m < 1 ∨ 60 < m
      · clear hm
        rcases hbad with h | h
        all_goals
          go_wp2_with fail
          refine Q.out.mono ?_
          rintro e w4 ⟨rfl, b4⟩
          have be4 : Hid (RowKit.Below w.heap.size w w4) := hb.out.trans (b4.mono hb.out.size)
          clear b4
          go_wp2
          go_ret
          exact ⟨rfl, be4.out⟩
      · have P := put_yes wr A1 m c1 r hR.out (fun g hg => by omega) (Tk.out wr hb.out) (by omega) (by omega)
        unfold PutTo at P
        rw [← hm] at P
        replace P := Lib.hid P
        have hall2 : Hid (∀ x ∈ l.take (k + 1), 1 ≤ x.length ∧ x.length ≤ 60) := all_snoc hall.out hr.out (by omega) (by omega)
        have hfl : Hid ((frame r).length = m + 6) := by rw [frame_len, ← hm]; rfl
        obtain ⟨q, hq⟩ : ∃ q, q = bs.length := ⟨_, rfl⟩
        rw [← hq] at ho hlen
        obtain ⟨Ab, cb, rfl⟩ := own_form ho.out
        obtain ⟨j, hj⟩ : ∃ j, j = ((l.take wi).take k).length := ⟨_, rfl⟩
        have hj6 : j ≤ 6 := by rw [hj, List.length_take, List.length_take]; omega
        rw [← hj] at hs
        obtain ⟨xs, hxs⟩ : ∃ xs, xs = strs ((l.take wi).take k) := ⟨_, rfl⟩
        rw [← hxs] at hs
        obtain ⟨As, cs, rfl⟩ := own_form hs.out
        have hqb : qe ≤ 396 := by
          have h1 := frames_len_le ((l.take wi).take k) (M := 60) (fun x hx => by
            have e : (l.take wi).take k = (l.take k).take wi := by rw [List.take_take, List.take_take, Nat.min_comm]
            rw [e] at hx
            exact hall.out x (List.mem_of_mem_take hx))
          rw [← hj, ← hqe.out] at h1
          omega
        replace hj := Lib.hid hj
        replace hxs := Lib.hid hxs
        replace hq := Lib.hid hq
        replace hm := Lib.hid hm
        have hmr : Hid (m ≤ 60 ∧ r.length = m) := ⟨by omega, hm.out.symm⟩
        have hPk : Hid (k < wi → (l.take wi)[k]? = some r) := fun h => by rw [List.getElem?_take, if_pos h]; exact hr.out
        rcases Nat.lt_trichotomy k wi with hlw | hlw | hlw
        · obtain ⟨i0, hi, hz0, hz1, hz2⟩ := info_parts s_info
          replace hi := Lib.hid hi
          replace hz0 := Lib.hid hz0
          replace hz1 := Lib.hid hz1
          replace hz2 := Lib.hid hz2
          clear hx1 hx2
          go_wp2_with (first
            | (go_at_call 9; (with_reducible refine P.out.mono ?_); rintro e w4 ⟨v4, rfl, o4, b4⟩; obtain ⟨A4, c4, rfl⟩ := own_form o4; have hu4 : w4.cell? (a.add k) = some (.slice A1 m c1) := (World.cell?_of_block (by rw [adr_block]; exact b4.block _ (by omega))).trans hu; have s4 : (convert 22 9 (.slice A1 m c1)).run Tryd.prog w4 = .ok (.string (str r)) w4 := str_run (hR.out.keep (w' := w4) (T' := fun _ => True) (fun g hg => b4.block g (by omega)) (fun _ _ => trivial)); have O4 : Hid (w4.ownsRow w.heap.size 5 1 (.slice Ab q cb) q (u8s bs)) := Fr.own_below ho.out b4; have S4 : Hid (w4.ownsRow w.heap.size 9 1 (.slice As j cs) j xs) := Fr.own_below hs.out b4; have be4 : Hid (RowKit.Below w.heap.size w w4) := hb.out.trans (b4.mono hzw); have z4 : w.heap.size ≤ w4.heap.size := be4.out.size; have F4 := Lib.hid o4; clear o4 b4)
            | (at_builtin; refine wpList_append_1 w4 rfl (.tmp 88) (.tmp 94) 30 rfl w.heap.size 9 i0 (.string ByteArray.empty) 16 Tryd.underlying30 hi.out hz0.out hz1.out hz2.out rfl _ j xs (.string (str r)) rfl S4.out rfl rfl (by unfold maxLen; omega) (by omega) z4 ?_; intro v5 w5 h5 g5; have O5 : Hid (w5.ownsRow w.heap.size 5 1 (.slice Ab q cb) q (u8s bs)) := own_grown O4.out g5 (own_two O4.out S4.out (by decide)); have F5 : Hid (Rb w5 (fun _ => True) A4 (m + 6) (frame r)) := (Rb.of_own (own_grown F4.out g5 (own_two F4.out S4.out (by decide)))).keep (fun _ _ => rfl) (fun _ _ => trivial); have S5 := Lib.hid h5; have be5 : Hid (RowKit.Below w.heap.size w w5) := (be4.out.alloc z4 _).grown g5 (by simp; omega) (fun g hg => (S4.out.lt g hg).1); have z5 : w.heap.size ≤ w5.heap.size := be5.out.size; have hnb : q + (m + 6) ≤ 140737488355328 := (by omega); clear h5 g5)
            | (at_builtin; refine wpList_append_b _ rfl (.tmp 123) (.tmp 124) rfl w.heap.size (.slice Ab q cb) q bs rfl O5.out rfl F5.out hnb z5 ?_; intro v6 w6 hown6 hg6 _; have S6 : Hid (w6.ownsRow w.heap.size 9 1 v5 (j + 1) (xs ++ [.string (str r)])) := own_grown0 S5.out hg6 (own_two S5.out O5.out (by decide)); have be6 : Hid (RowKit.Below w.heap.size w w6) := be5.out.grown hg6 z5 (fun g hg => (O5.out.lt g hg).1); have O6 := Lib.hid hown6; clear hown6 hg6))
          have nx : Hid (TrAt w l wi v6 (.int .i64 ((qe : Int) + ((m : Int) + 6))) v5 (.int .i64 ((k : Int) + 1)) w6 (k + 1) (bs ++ frame r)) := by
            have ht := take_snoc (hPk.out hlw)
            refine ⟨by simp, by have := hl.out; omega, hall2.out, ?_, ?_, ?_, ?_, be6.out, ?_⟩
            · rw [List.length_append, hfl.out, ← hq.out]; exact O6.out
            · rw [List.length_append, hfl.out, ← hq.out]; omega
            · rw [frames_take (hPk.out hlw), List.length_append, hfl.out, ← hqe.out]
              rfl
            · rw [ht, strs_app, ← hxs.out, List.length_append, ← hj.out]; exact S6.out
            · rcases hP.out with ⟨_, e⟩ | ⟨h, _⟩
              · exact .inl ⟨by omega, by rw [frames_take hr.out, ← e]⟩
              · omega
          exact ⟨⟨_, _, nx.out⟩, by simp [intOf]; omega⟩
        · subst hlw
          have hW2 := place at_ (m + 4) (by omega) (by omega)
          obtain ⟨kk, hK, hkk⟩ := hW2
          have e4 : ((m + 4 : Nat) : Int) = (m : Int) + 4 := by omega
          rw [e4] at hK
          clear e4
          go_upto_region 20 with (go_at_call 9; (with_reducible refine P.out.mono ?_); rintro e w4 ⟨v4, rfl, o4, b4⟩; obtain ⟨A4, c4, rfl⟩ := own_form o4; have hu4 : w4.cell? (a.add k) = some (.slice A1 m c1) := (World.cell?_of_block (by rw [adr_block]; exact b4.block _ (by omega))).trans hu; have O4 : Hid (w4.ownsRow w.heap.size 5 1 (.slice Ab q cb) q (u8s bs)) := Fr.own_below ho.out b4; have S4 : Hid (w4.ownsRow w.heap.size 9 1 (.slice As j cs) j xs) := Fr.own_below hs.out b4; have be4 : Hid (RowKit.Below w.heap.size w w4) := hb.out.trans (b4.mono hzw); have z4 : w.heap.size ≤ w4.heap.size := be4.out.size; have F4 := Lib.hid o4; have no4 : Hid (∀ g, wr.heap.size ≤ g → (Value.slice Ab q cb).ownBlock ≠ some g ∧ (Value.slice As j cs).ownBlock ≠ some g) := (fun g hg => ⟨fun e => by have := (ho.out.lt g e).2; omega, fun e => by have := (hs.out.lt g e).2; omega⟩); clear o4 b4)
          rw [hK]
          clear hK
          have htk : Hid ((l.take k).take (k + 1) = (l.take k).take k) := by
            exact take_more (Nat.le_refl _)
          by_cases h4 : kk < 4
          · obtain ⟨g4, c4', y, z, e, hg4, hgl, hc4, hcm, hy, hcy, hfz, hor, hyz, hy256, hown⟩ := turned (k := kk) F4.out (by omega) hx1 hx2
            injection e with e1 _ e3
            subst e1
            subst e3
            have hns := no4.out g4 hg4
            have O5 : Hid ((w4.setCell ⟨g4, kk, none⟩ (.int .u8 (z.toNat : Int))).ownsRow w.heap.size 5 1 (.slice Ab q cb) q (u8s bs)) := own_keep O4.out (fun g hg => RowKit.Below.heap_setCell _ _ _ _ (fun e => hns.1 (by rw [hg, e])))
            have S5 : Hid ((w4.setCell ⟨g4, kk, none⟩ (.int .u8 (z.toNat : Int))).ownsRow w.heap.size 9 1 (.slice As j cs) j xs) := own_keep S4.out (fun g hg => RowKit.Below.heap_setCell _ _ _ _ (fun e => hns.2 (by rw [hg, e])))
            have F5 : Hid (Rb (w4.setCell ⟨g4, kk, none⟩ (.int .u8 (z.toNat : Int))) (fun _ => True) (some ⟨g4, 0, none⟩) (m + 6) ((frame r).set (kk) z)) := (Rb.of_own hown).keep (fun _ _ => rfl) (fun _ _ => trivial)
            have be5 : Hid (RowKit.Below w.heap.size w (w4.setCell ⟨g4, kk, none⟩ (.int .u8 (z.toNat : Int)))) := be4.out.setCell (by show w.heap.size ≤ g4; omega) _
            have z5 : w.heap.size ≤ (w4.setCell ⟨g4, kk, none⟩ (.int .u8 (z.toNat : Int))).heap.size := be5.out.size
            have hnb : q + (m + 6) ≤ 140737488355328 := by omega
            have ht : Hid (∀ t', one ((frame r).set (kk) z ++ t') = none) := fun t' => one_turned (by rw [hmr.out.2]; omega) (by omega) hy (fun e => hx0.out (hyz.1 e))
            have hyz' := Lib.hid hyz
            have hy' := Lib.hid hy
            clear hown hns hyz hy O4 S4 F4
            go_wp2_with (at_builtin; refine wpList_append_b _ rfl (.tmp 123) (.tmp 124) rfl w.heap.size (.slice Ab q cb) q bs rfl O5.out rfl F5.out hnb z5 ?_; intro v6 w6 hown6 hg6 _; have S6 : Hid (w6.ownsRow w.heap.size 9 1 (.slice As j cs) j xs) := own_grown0 S5.out hg6 (own_two S5.out O5.out (by decide)); have be6 : Hid (RowKit.Below w.heap.size w w6) := be5.out.grown hg6 z5 (fun g hg => (O5.out.lt g hg).1); have O6 := Lib.hid hown6; clear hown6 hg6)
            have nx : Hid (TrAt w l k v6 (.int .i64 (qe : Int)) (.slice As j cs) (.int .i64 ((k : Int) + 1)) w6 (k + 1) (bs ++ (frame r).set (kk) z)) := by
              refine ⟨by simp, by have := hl.out; omega, hall2.out, ?_, ?_, ?_, ?_, be6.out, ?_⟩
              · rw [List.length_append, List.length_set, hfl.out, ← hq.out]; exact O6.out
              · rw [List.length_append, List.length_set, hfl.out, ← hq.out]; omega
              · rw [htk.out, ← hqe.out]
              · rw [htk.out, ← hxs.out, ← hj.out]; exact S6.out
              · rcases hP.out with ⟨_, e⟩ | ⟨h, _⟩
                · exact .inr ⟨by omega, _, [], by rw [← e, List.append_nil], ht.out⟩
                · omega
            exact ⟨⟨_, _, nx.out⟩, by simp [intOf]; omega⟩
          · obtain ⟨g4, c4', y, z, e, hg4, hgl, hc4, hcm, hy, hcy, hfz, hor, hyz, hy256, hown⟩ := turned (k := kk + 2) F4.out (by omega) hx1 hx2
            injection e with e1 _ e3
            subst e1
            subst e3
            have hns := no4.out g4 hg4
            have O5 : Hid ((w4.setCell ⟨g4, kk + 2, none⟩ (.int .u8 (z.toNat : Int))).ownsRow w.heap.size 5 1 (.slice Ab q cb) q (u8s bs)) := own_keep O4.out (fun g hg => RowKit.Below.heap_setCell _ _ _ _ (fun e => hns.1 (by rw [hg, e])))
            have S5 : Hid ((w4.setCell ⟨g4, kk + 2, none⟩ (.int .u8 (z.toNat : Int))).ownsRow w.heap.size 9 1 (.slice As j cs) j xs) := own_keep S4.out (fun g hg => RowKit.Below.heap_setCell _ _ _ _ (fun e => hns.2 (by rw [hg, e])))
            have F5 : Hid (Rb (w4.setCell ⟨g4, kk + 2, none⟩ (.int .u8 (z.toNat : Int))) (fun _ => True) (some ⟨g4, 0, none⟩) (m + 6) ((frame r).set (kk + 2) z)) := (Rb.of_own hown).keep (fun _ _ => rfl) (fun _ _ => trivial)
            have be5 : Hid (RowKit.Below w.heap.size w (w4.setCell ⟨g4, kk + 2, none⟩ (.int .u8 (z.toNat : Int)))) := be4.out.setCell (by show w.heap.size ≤ g4; omega) _
            have z5 : w.heap.size ≤ (w4.setCell ⟨g4, kk + 2, none⟩ (.int .u8 (z.toNat : Int))).heap.size := be5.out.size
            have hnb : q + (m + 6) ≤ 140737488355328 := by omega
            have ht : Hid (∀ t', one ((frame r).set (kk + 2) z ++ t') = none) := fun t' => one_turned (by rw [hmr.out.2]; omega) (by omega) hy (fun e => hx0.out (hyz.1 e))
            have hyz' := Lib.hid hyz
            have hy' := Lib.hid hy
            clear hown hns hyz hy O4 S4 F4
            go_wp2_with (at_builtin; refine wpList_append_b _ rfl (.tmp 123) (.tmp 124) rfl w.heap.size (.slice Ab q cb) q bs rfl O5.out rfl F5.out hnb z5 ?_; intro v6 w6 hown6 hg6 _; have S6 : Hid (w6.ownsRow w.heap.size 9 1 (.slice As j cs) j xs) := own_grown0 S5.out hg6 (own_two S5.out O5.out (by decide)); have be6 : Hid (RowKit.Below w.heap.size w w6) := be5.out.grown hg6 z5 (fun g hg => (O5.out.lt g hg).1); have O6 := Lib.hid hown6; clear hown6 hg6)
            have nx : Hid (TrAt w l k v6 (.int .i64 (qe : Int)) (.slice As j cs) (.int .i64 ((k : Int) + 1)) w6 (k + 1) (bs ++ (frame r).set (kk + 2) z)) := by
              refine ⟨by simp, by have := hl.out; omega, hall2.out, ?_, ?_, ?_, ?_, be6.out, ?_⟩
              · rw [List.length_append, List.length_set, hfl.out, ← hq.out]; exact O6.out
              · rw [List.length_append, List.length_set, hfl.out, ← hq.out]; omega
              · rw [htk.out, ← hqe.out]
              · rw [htk.out, ← hxs.out, ← hj.out]; exact S6.out
              · rcases hP.out with ⟨_, e⟩ | ⟨h, _⟩
                · exact .inr ⟨by omega, _, [], by rw [← e, List.append_nil], ht.out⟩
                · omega
            exact ⟨⟨_, _, nx.out⟩, by simp [intOf]; omega⟩
        · have htk : Hid ((l.take wi).take (k + 1) = (l.take wi).take k) := by
            exact take_more (by omega)
          clear hx1 hx2
          go_wp2_with (first
            | (go_at_call 9; (with_reducible refine P.out.mono ?_); rintro e w4 ⟨v4, rfl, o4, b4⟩; obtain ⟨A4, c4, rfl⟩ := own_form o4; have hu4 : w4.cell? (a.add k) = some (.slice A1 m c1) := (World.cell?_of_block (by rw [adr_block]; exact b4.block _ (by omega))).trans hu; have O5 : Hid (w4.ownsRow w.heap.size 5 1 (.slice Ab q cb) q (u8s bs)) := Fr.own_below ho.out b4; have S5 : Hid (w4.ownsRow w.heap.size 9 1 (.slice As j cs) j xs) := Fr.own_below hs.out b4; have be5 : Hid (RowKit.Below w.heap.size w w4) := hb.out.trans (b4.mono hzw); have z5 : w.heap.size ≤ w4.heap.size := be5.out.size; have F5 : Hid (Rb w4 (fun _ => True) A4 (m + 6) (frame r)) := (Rb.of_own o4).keep (fun _ _ => rfl) (fun _ _ => trivial); have hnb : q + (m + 6) ≤ 140737488355328 := (by omega); clear o4 b4)
            | (at_builtin; refine wpList_append_b _ rfl (.tmp 123) (.tmp 124) rfl w.heap.size (.slice Ab q cb) q bs rfl O5.out rfl F5.out hnb z5 ?_; intro v6 w6 hown6 hg6 _; have S6 : Hid (w6.ownsRow w.heap.size 9 1 (.slice As j cs) j xs) := own_grown0 S5.out hg6 (own_two S5.out O5.out (by decide)); have be6 : Hid (RowKit.Below w.heap.size w w6) := be5.out.grown hg6 z5 (fun g hg => (O5.out.lt g hg).1); have O6 := Lib.hid hown6; clear hown6 hg6))
          have nx : Hid (TrAt w l wi v6 (.int .i64 (qe : Int)) (.slice As j cs) (.int .i64 ((k : Int) + 1)) w6 (k + 1) (bs ++ frame r)) := by
            refine ⟨by simp, by have := hl.out; omega, hall2.out, ?_, ?_, ?_, ?_, be6.out, ?_⟩
            · rw [List.length_append, hfl.out, ← hq.out]; exact O6.out
            · rw [List.length_append, hfl.out, ← hq.out]; omega
            · rw [htk.out, ← hqe.out]
            · rw [htk.out, ← hxs.out, ← hj.out]; exact S6.out
            · rcases hP.out with ⟨h, _⟩ | ⟨_, f, t, e, ht⟩
              · omega
              · exact .inr ⟨by omega, f, t ++ frame r, by rw [e, List.append_assoc, List.append_assoc], ht⟩
          exact ⟨⟨_, _, nx.out⟩, by simp [intOf]; omega⟩
    · obtain rfl : k = n := by have := hl.out; omega
      have ta : (l.take wi).take k = l.take wi := take_all (by omega)
      rw [ta] at hs
      obtain ⟨q, hq⟩ : ∃ q, q = bs.length := ⟨_, rfl⟩
      rw [← hq] at ho hlen
      obtain ⟨Ab, cb, rfl⟩ := own_form ho.out
      obtain ⟨hcb, hcm⟩ := own_cap ho.out
      unfold maxLen at hcm
      obtain ⟨qe, hqe⟩ : ∃ q, q = (frames ((l.take wi).take k)).length := ⟨_, rfl⟩
      have G : Hid (Got bs (l.take wi) qe) := by
        rcases hP.out with ⟨h, _⟩ | ⟨_, f, t, e, hf⟩
        · omega
        · rw [e, hqe, ta]
          exact got_frames (fun r hr => by
            have hr2 : r ∈ l.take k := by
              rw [List.take_of_length_le (by have := hl.out; omega)]
              exact List.mem_of_mem_take hr
            have := hall.out r hr2
            omega) (hf t)
      rw [← hqe]
      have D := Lib.hid (read_any wr Ab q cb bs (rb_own ho.out) (fun _ hg => hg) (Tk.out wr hb.out) hcb hcm (by omega))
      have S : Hid (Sr wr u12 (l.take wi)) := sr_own hs.out
      have hl10 : Hid ((l.take wi).length ≤ 1000000) := by show _ ≤ _; rw [List.length_take]; omega
      clear hqe ta hs ho hq
      go_wp2_with fail
      refine D.out.mono ?_
      rintro e w5 ⟨v5, l5, q5, rfl, hgot, hL, b5⟩
      obtain ⟨rfl, rfl⟩ := got_one hgot G.out
      have be5 : Hid (RowKit.Below w.heap.size w w5) := hb.out.trans (b5.mono hb.out.size)
      have S5 : Hid (Sr w5 u12 (l.take wi)) := S.out.below b5
      have L5 : Hid (Lr w5 v5 (l.take wi)) := hL.read
      have Q := Lib.hid (T.out w5 be5.out)
      clear hgot hL b5 D S G
      go_wp2_with fail
      refine Q.out.mono ?_
      rintro e w6 ⟨rfl, b6⟩
      have be6 : Hid (RowKit.Below w.heap.size w w6) := be5.out.trans (b6.mono be5.out.size)
      have X := Lib.hid (texts_any w6 v5 u12 (l.take wi) (L5.out.below b6) (S5.out.below b6) hl10.out)
      clear b6 Q S5 L5
      go_wp2_with fail
      refine X.out.mono ?_
      rintro e w7 ⟨rfl, b7⟩
      have be7 : Hid (RowKit.Below w.heap.size w w7) := be6.out.trans (b7.mono be6.out.size)
      clear b7 X
      go_wp2
      go_ret
      exact ⟨rfl, be7.out⟩

theorem walkd (v0 : Value) (A0 : Option Addr) (n0 c0 : Nat) (l0 : List (List UInt8)) (e0 : v0 = .slice A0 n0 c0) (lc0 : n0 ≤ c0) (uc0 : c0 ≤ 9223372036854775807) {W' : World} (w0 : Txts W' W'.heap.size A0 n0 l0) (a1 : Int) (_w1 : (Lit.int .i64 a1).wf = true) (a2 : Int) (_w2 : (Lit.int .i64 a2).wf = true) (a3 : Int) (w3 : (Lit.int .u8 a3).wf = true) (W : World) (hW : W = W') (ht : Tab W) :
    Calls Tryd.prog 5 #[v0, .int .i64 a1, .int .i64 a2, .int .u8 a3] W fun e w' => e = .returned (.bool true) ∧ RowKit.Below W.heap.size W w' := by
  subst hW
  subst e0
  have hb := bounds_u8 w3
  exact walk A0 n0 c0 l0 _ w0 ht lc0 uc0 a1 a2 a3 hb.1 hb.2

/-! The row: every input, the listed variable as the condition has it. -/
set_option linter.unusedVariables false
set_option maxRecDepth 100000 in
theorem lifted (os : Os) (started : os.Started) (H : Type) (enc : TypeId × Value → H) :
    ReturnsInHanded {} Tryd.checked os 5 .any (fun w args => (Rows.frameTurnedSpec.pre enc Tryd.prog Tryd.f5 [] false w args ∧ laidMetH Tryd.prog laids w) ∧ sizedMet enc Tryd.prog Tryd.f5 (OpenSpec.ofChange Rows.frameTurnedSpec) false w args)
      (Rows.frameTurnedSpec.post enc Tryd.prog Tryd.f5 false true false false) := by
  refine returnsInHanded_of_change_and (C := Tryd.checked) (X := fun w _ => laidMetH Tryd.prog laids w) (fun _ _ _ hh h => h.of_heap hh) own started (by kernel_rfl) Tryd.func5
    (ChangeSpec.witness_shaped (enc := enc) (C := Tryd.checked) (os := os) (X := fun w _ => laidMetH Tryd.prog laids w) false (World.doorLaid Tryd.prog 400 os) #[.slice none 0 0, .int .i64 0, .int .i64 0, .int .u8 0] 8 rfl (World.shaped_of_RefB (by kernel_rfl) (by kernel_rfl)) (by kernel_rfl) (by kernel_rfl) (by kernel_rfl) (door_met os _)) ?_
  intro W base args ds gs before hval0 hW _ _ hL _
  have hval : ∀ (j : Nat) t v, Tryd.f5.params[j]? = some t → args[j]? = some v → Value.okWide Tryd.prog W .any base t v := hval0
  have hW' := hW
  obtain ⟨p, q, hA0, hV, rfl, hfz, hnd⟩ := hW
  have hA : DataW.TrodAll enc Tryd.prog W 0 (fun _ => true) true Tryd.f5.params.toList args.toList ds p := hA0
  rw [Tryd.params5] at hA hval
  obtain ⟨v0, vs0, d0, ds0, p0, q0, hargs, rfl, rfl, h0, r0⟩ := trodAll_cons hA
  obtain ⟨v1, vs1, d1, ds1, p1, q1, rfl, rfl, rfl, h1, r1⟩ := trodAll_cons r0
  obtain ⟨v2, vs2, d2, ds2, p2, q2, rfl, rfl, rfl, h2, r2⟩ := trodAll_cons r1
  obtain ⟨v3, vs3, d3, ds3, p3, q3, rfl, rfl, rfl, h3, r3⟩ := trodAll_cons r2
  obtain ⟨rfl, rfl, rfl⟩ := trodAll_nil r3
  obtain rfl : args = #[v0, v1, v2, v3] := by cases args; simp_all
  obtain ⟨rfl, rfl⟩ := trodVars_none hV
  obtain ⟨A0, n0, c0, l0, e0, lc0, uc0, w0⟩ := view_texts (hval 0 27 v0 rfl rfl) h0
  obtain ⟨a1, rfl, rfl, rfl, w1⟩ := open_int Tryd.underlying3 (hval 1 3 v1 rfl rfl) h1
  obtain ⟨a2, rfl, rfl, rfl, w2⟩ := open_int Tryd.underlying3 (hval 2 3 v2 rfl rfl) h2
  obtain ⟨a3, rfl, rfl, rfl, w3⟩ := open_int Tryd.underlying5 (hval 3 5 v3 rfl rfl) h3
  clear hA0 hval0
  simp only [List.append_nil] at hW'
  refine (walkd v0 A0 n0 c0 l0 e0 lc0 uc0 w0 a1 w1 a2 w2 a3 w3 W rfl (of_laid hL)).mono fun e W' ⟨he, hb⟩ => ?_
  subst he
  exact ⟨_, rfl, post_below (pa := p0 ++ ([] ++ ([] ++ ([] ++ [])))) (pv := []) hW' (fun _ _ _ => (trodAll_cons_mk (shut_bool Tryd.underlying4 _) trodAll_mk0)) (fun sp hsp => (trodAll_cons_mk (Trod_stays laidOut (by kernel_rfl) (of_decide_eq_true (by kernel_rfl)) h0 (fun x hx => hb.same (hW'.lt x (by simp [hx]))) (fun x hx => hsp x (by simp [hx]))) (trodAll_cons_mk (shut_int Tryd.underlying3 w1) (trodAll_cons_mk (shut_int Tryd.underlying3 w2) (trodAll_cons_mk (shut_int Tryd.underlying5 w3) trodAll_mk0))))) (fun _ _ => rfl) (by simp)
    hb (ok_one (by kernel_rfl) rfl (okWide_bool_mk Tryd.underlying4 _))⟩

theorem over : Rows.frameTurnedRow.holds Tryd.pinned (OpenSpec.ofChange Rows.frameTurnedSpec) :=
  OpenClaim.holds_of_wide 5 Tryd.f5 rfl rfl rfl rfl rfl rfl rfl ⟨rfl, rfl, rfl, rfl, rfl⟩ rfl rfl rfl rfl rfl (by kernel_rfl) Tryd.func5 (by kernel_rfl)
    (of_decide_eq_true (by kernel_rfl)) (by unfold Func.isWrapper; first | (rw [if_pos (by decide +kernel)]; kernel_rfl) | (rw [if_neg (by decide +kernel)]; exact ⟨rfl, rfl⟩))
    (fun os started H enc _ => lifted os started H enc)

/-- The tied card. -/
theorem proved : Rows.FrameTurnedCardSaid :=
  Claim7.holds_tied_plain_at .later [] [.data] true _ false
    over (fun _ h => by cases h) (by kernel_rfl) (fun _ h => by cases h) frameTurned_row_tie rfl ⟨rfl, rfl⟩ (by kernel_rfl) rfl
    (fun f fn hf hfn => by
      obtain rfl : f = 5 := Option.some.inj ((show Tryd.prog.funcNamed "sojourn/sojournlaw4.FrameTurned" = some 5 by kernel_rfl).symm.trans hf) |>.symm
      obtain rfl : fn = Tryd.f5 := (Option.some.inj (Tryd.func5.symm.trans hfn)).symm
      exact ⟨by kernel_rfl, fun j t ht => by
        rw [Tryd.params5] at ht
        have hm : t ∈ [27, 3, 3, 5] := by simpa using Array.mem_of_getElem? ht
        have hall : ([27, 3, 3, 5].all fun u => !Tryd.prog.wantsStandIn u) = true := by kernel_rfl
        exact (show Tryd.prog.wantsStandIn t = false by simpa using List.all_eq_true.1 hall t hm)⟩)
    (by kernel_rfl)
#print axioms proved

end Go.Proofs.YthadgeihkeggfaaDoor.frameTurned
