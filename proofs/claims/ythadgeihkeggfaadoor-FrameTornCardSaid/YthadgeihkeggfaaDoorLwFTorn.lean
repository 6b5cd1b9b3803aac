/- Proved: records that were put are read; cut off at any place a beginning of them, and with bytes that are no frame behind all of them (FrameTorn), for any records and any place, the package's table being as the program's text lays it. -/
import Derived.Test.YthadgeihkeggfaaDoorFrC2
import Derived.Deep.DeepCutAuto
import Derived.Deep.CutRange
import Derived.Deep.RegionLaw
import Derived.Test.YthadgeihkeggfaaDoorCards
import Derived.Test.YthadgeihkeggfaaDoorTie
namespace Go.Proofs.YthadgeihkeggfaaDoor.frameTorn
open Go.ChangeShapes Go.WideShapes Go.ChangeAt Go.WideElems Go.RowKit
open Go.Sort
open Go.Proofs.YthadgeihkeggfaaDoor.Pk Go.Proofs.YthadgeihkeggfaaDoor.Fr

structure ToAt (w : World) (l : List (List UInt8)) (s en al i : Value) (wr : World) (k : Nat) : Prop where
  i_ : i = .int .i64 (k : Nat)
  k_ : k ≤ l.length
  all : ∀ r ∈ l.take k, 1 ≤ r.length ∧ r.length ≤ 60
  s_ : s = .string (str (frames (l.take k)))
  ee : wr.ownsRow w.heap.size 3 1 en k (es l k)
  ss : wr.ownsRow w.heap.size 9 1 al k (strs (l.take k))
  be : RowKit.Below w.heap.size w wr

set_option maxHeartbeats 6400000 in
set_option maxRecDepth 100000 in
theorem walk (A : Option Addr) (n c : Nat) (l : List (List UInt8)) (w : World) (hx : Txts w w.heap.size A n l) (ht : Tab w) (hnc : n ≤ c) (_hc : c ≤ 9223372036854775807) (at_ : Int) :
    Calls Tryd.prog 4 #[.slice A n c, .int .i64 at_] w fun e w' => e = .returned (.bool true) ∧ RowKit.Below w.heap.size w w' := by
  have T : Hid (∀ w', RowKit.Below w.heap.size w w' → Calls Tryd.prog 8 #[] w' fun e w'' => e = .returned (.bool true) ∧ RowKit.Below w'.heap.size w' w'') := fun w' hb => told_any w' (ht.below hb)
  have Tk : Hid (∀ w', RowKit.Below w.heap.size w w' → Tab w') := fun w' hb => ht.below hb
  have hl : Hid (l.length = n) := hx.len
  have hx := Lib.hid hx
  clear ht
  by_cases h8 : 12 < n
  · have T0 := Lib.hid (T.out w (RowKit.Below.refl _ _))
    go_enter Tryd.func4, Tryd.ntmps4
    go_wp2_with fail
    refine T0.out.mono ?_
    rintro e w4 ⟨rfl, b4⟩
    replace b4 := Lib.hid b4
    go_wp2
    go_ret
    exact ⟨rfl, b4.out⟩
  have st : Hid (ToAt w l (.string (str [])) (.slice none 0 0) (.slice none 0 0) (.int .i64 0) w 0) :=
    ⟨rfl, Nat.zero_le _, (fun r hr => by simp at hr), rfl, World.ownsRow_nil _ _ _ _, World.ownsRow_nil _ _ _ _, RowKit.Below.refl _ _⟩
  go_enter Tryd.func4, Tryd.ntmps4
  go_wp2_with fail
  go_loopw [5, 6, 7, 8] (fun s en al i wr => ∃ k, ToAt w l s en al i wr k) (fun _ _ _ i _ => n - (intOf i).toNat)
  case atStart => exact ⟨_, st.out⟩
  case round =>
    obtain ⟨k, rfl, hk, hall, rfl, he, hs, hb⟩ := hrel
    replace he := Lib.hid he
    replace hb := Lib.hid hb
    replace hall := Lib.hid hall
    replace hs := Lib.hid hs
    obtain ⟨sb, hsb⟩ : ∃ sb, sb = frames (l.take k) := ⟨_, rfl⟩
    rw [← hsb]
    by_cases hlt : k < n
    · obtain ⟨a, rfl, hab, _⟩ := hx.out.at_ (by omega)
      obtain ⟨r, hr⟩ : ∃ r, l[k]? = some r := ⟨_, List.getElem?_eq_getElem (by have := hl.out; omega)⟩
      obtain ⟨u, hu, A1, c1, e1, _, hc1, hm1, hR⟩ := (hx.out.below hb.out).get hr
      subst e1
      replace hR := Lib.hid hR
      replace hr := Lib.hid hr
      have hzw : w.heap.size ≤ wr.heap.size := hb.out.size
      have Q := Lib.hid (T.out wr hb.out)
      obtain ⟨m, hm⟩ : ∃ m, m = r.length := ⟨_, rfl⟩
      rw [← hm] at hu hc1 hR
      have hsz := str_size sb
      have hq2 : sb.length ≤ 792 := by
        have h1 := frames_len_le _ hall.out
        rw [List.length_take, Nat.min_eq_left hk, ← hsb] at h1
        omega
      obtain ⟨q, hq⟩ : ∃ q, q = sb.length := ⟨_, rfl⟩
      rw [← hq] at hsz hq2
      replace hsb := Lib.hid hsb
      by_cases hbad : m < 1 ∨ 60 < m
      · clear hm hq
        rcases hbad with h | h
        all_goals
          go_wp2_with fail
          refine Q.out.mono ?_
          rintro e w4 ⟨rfl, b4⟩
          have be4 : Hid (RowKit.Below w.heap.size w w4) := hb.out.trans (b4.mono hb.out.size)
          clear b4
          go_wp2
          go_ret
          exact ⟨rfl, be4.out⟩
      · have P := put_yes wr A1 m c1 r hR.out (fun g hg => by omega) (Tk.out wr hb.out) (by omega) (by omega)
        unfold PutTo at P
        rw [← hm] at P
        replace P := Lib.hid P
        have hall2 : Hid (∀ x ∈ l.take (k + 1), 1 ≤ x.length ∧ x.length ≤ 60) := all_snoc hall.out hr.out (by omega) (by omega)
        have hfl : Hid ((frame r).length = m + 6) := by rw [frame_len, ← hm]; rfl
        have hft : Hid (frames (l.take (k + 1)) = sb ++ frame r) := by rw [hsb.out]; exact frames_take hr.out
        obtain ⟨fr, hfr⟩ : ∃ fr, fr = frame r := ⟨_, rfl⟩
        rw [← hfr] at P hfl hft
        have hfz := str_size fr
        rw [hfl.out] at hfz
        have hcat := str_cat sb fr
        have hadd := fun w => str_add sb fr (by rw [← hq, hfl.out]; omega) w
        have hq1 : ¬ (str sb).size + (str fr).size > 9223372036854775807 := by rw [hsz, hfz]; omega
        have hsz2 : (str (sb ++ fr)).size = q + (m + 6) := by rw [str_size, List.length_append, ← hq, hfl.out]
        obtain ⟨xe, hxe⟩ : ∃ xe, xe = es l k := ⟨_, rfl⟩
        obtain ⟨xs, hxs⟩ : ∃ xs, xs = strs (l.take k) := ⟨_, rfl⟩
        rw [← hxe] at he
        rw [← hxs] at hs
        obtain ⟨Ae, ce, rfl⟩ := own_form he.out
        obtain ⟨As, cs, rfl⟩ := own_form hs.out
        replace hq := Lib.hid hq
        replace hm := Lib.hid hm
        replace hxe := Lib.hid hxe
        replace hxs := Lib.hid hxs
        replace hfr := Lib.hid hfr
        go_upto_region 15 with (go_at_call 9; (with_reducible refine P.out.mono ?_); rintro e w4 ⟨v4, rfl, o4, b4⟩; obtain ⟨A4, c4, rfl⟩ := own_form o4; have s4 : (convert 22 9 (.slice A4 (m + 6) c4)).run Tryd.prog w4 = .ok (.string (str fr)) w4 := str_run (rb_own o4); have hu4 : w4.cell? (a.add k) = some (.slice A1 m c1) := (World.cell?_of_block (by rw [adr_block]; exact b4.block _ (by omega))).trans hu; have E4 : Hid (w4.ownsRow w.heap.size 3 1 (.slice Ae k ce) k xe) := Fr.own_below he.out b4; have S4 : Hid (w4.ownsRow w.heap.size 9 1 (.slice As k cs) k xs) := Fr.own_below hs.out b4; have be4 : Hid (RowKit.Below w.heap.size w w4) := hb.out.trans (b4.mono hzw); have R4 : Hid (Rb w4 (fun g => g < w.heap.size) A1 m r) := hR.out.keep (fun g hg => b4.block g (by omega)) (fun _ h => h); have z4 : w.heap.size ≤ w4.heap.size := be4.out.size; clear o4 b4)
        obtain ⟨i0, hi, hz0, hz1, hz2⟩ := info_parts i_info
        obtain ⟨j0, ki, kz0, kz1, kz2⟩ := info_parts s_info
        replace hi := Lib.hid hi
        replace hz0 := Lib.hid hz0
        replace hz1 := Lib.hid hz1
        replace hz2 := Lib.hid hz2
        replace ki := Lib.hid ki
        replace kz0 := Lib.hid kz0
        replace kz1 := Lib.hid kz1
        replace kz2 := Lib.hid kz2
        have hab4 : a.block < w4.heap.size := by omega
        have hu1 : (w4.alloc (.cells #[.int .i64 ((q : Int) + ((m : Int) + 6))] 3)).cell? (a.add k) = some (.slice A1 m c1) := (World.cell?_of_block (by rw [adr_block]; exact heap_alloc_old _ _ hab4)).trans hu4
        have s0 : (convert 22 9 (.slice A1 m c1)).run Tryd.prog w4.drew = .ok (.string (str r)) w4.drew := str_run (T := fun g => g < w.heap.size) ⟨R4.out.len, R4.out.at_⟩
        have s1 : (convert 22 9 (.slice A1 m c1)).run Tryd.prog ((w4.alloc (.cells #[.int .i64 ((q : Int) + ((m : Int) + 6))] 3)).drew) = .ok (.string (str r)) ((w4.alloc (.cells #[.int .i64 ((q : Int) + ((m : Int) + 6))] 3)).drew) := str_run (R4.out.keep (w' := (w4.alloc (.cells #[.int .i64 ((q : Int) + ((m : Int) + 6))] 3)).drew) (T' := fun _ => True) (fun g hg => heap_alloc_old w4 _ (by omega)) (fun _ _ => trivial))
        have K1 : Hid (((w4.alloc (.cells #[.int .i64 ((q : Int) + ((m : Int) + 6))] 3)).drew).cell? ⟨w4.heap.size, 0, none⟩ = some (.int .i64 ((q : Int) + ((m : Int) + 6)))) := by
          show (w4.alloc (.cells #[.int .i64 ((q : Int) + ((m : Int) + 6))] 3)).cell? _ = _
          rw [World.cell?_alloc_new]; rfl
        have K2a : Hid ((((w4.alloc (.cells #[.int .i64 ((q : Int) + ((m : Int) + 6))] 3)).alloc (.cells #[.string (str r)] 9)).drew).cell? ⟨w4.heap.size, 0, none⟩ = some (.int .i64 ((q : Int) + ((m : Int) + 6)))) :=
          (World.cell?_of_block (w := w4.alloc (.cells #[.int .i64 ((q : Int) + ((m : Int) + 6))] 3)) (heap_alloc_old (w4.alloc (.cells #[.int .i64 ((q : Int) + ((m : Int) + 6))] 3)) (.cells #[.string (str r)] 9) (by simp))).trans K1.out
        have K2a8 : Hid ((((w4.alloc (.cells #[.int .i64 ((q : Int) + ((m : Int) + 6))] 3)).alloc (.cells #[.string (str r)] 9)).drew).cell? ⟨w4.heap.size + 1, 0, none⟩ = some (.string (str r))) := by
          have h := World.cell?_alloc_new (w4.alloc (.cells #[.int .i64 ((q : Int) + ((m : Int) + 6))] 3)) #[.string (str r)] 9 0
          have e : (w4.alloc (.cells #[.int .i64 ((q : Int) + ((m : Int) + 6))] 3)).heap.size = w4.heap.size + 1 := by simp
          rw [e] at h
          exact h
        have K2b8 : Hid ((((w4.alloc (.cells #[.string (str r)] 9)).alloc (.cells #[.int .i64 ((q : Int) + ((m : Int) + 6))] 3)).drew).cell? ⟨w4.heap.size, 0, none⟩ = some (.string (str r))) :=
          (World.cell?_of_block (w := w4.alloc (.cells #[.string (str r)] 9)) (heap_alloc_old (w4.alloc (.cells #[.string (str r)] 9)) (.cells #[.int .i64 ((q : Int) + ((m : Int) + 6))] 3) (by simp))).trans (World.cell?_alloc_new w4 #[.string (str r)] 9 0)
        have K2b : Hid ((((w4.alloc (.cells #[.string (str r)] 9)).alloc (.cells #[.int .i64 ((q : Int) + ((m : Int) + 6))] 3)).drew).cell? ⟨w4.heap.size + 1, 0, none⟩ = some (.int .i64 ((q : Int) + ((m : Int) + 6)))) := by
          have h := World.cell?_alloc_new (w4.alloc (.cells #[.string (str r)] 9)) #[.int .i64 ((q : Int) + ((m : Int) + 6))] 3 0
          have e : (w4.alloc (.cells #[.string (str r)] 9)).heap.size = w4.heap.size + 1 := by simp
          rw [e] at h
          exact h
        go_region_law (first | (refine step_append_1 (w4.alloc (.cells #[.int .i64 ((q : Int) + ((m : Int) + 6))] 3)).drew rfl (.tmp 57) (.tmp 60) 38 rfl w.heap.size 3 i0 (.int .i64 0) 8 Tryd.underlying38 hi.out hz0.out hz1.out hz2.out rfl (.slice Ae k ce) k xe (.int .i64 ((q : Int) + ((m : Int) + 6))) w4.heap.size (by simp [Act.eval]) (E4.out.alloc _) (by simp [Act.eval]) K1.out rfl (by unfold maxLen; omega) (by omega) (by simp; omega) ?_; intro v5 w5 h5 g5; have bW : RowKit.Below w4.heap.size w4 (w4.alloc (.cells #[.int .i64 ((q : Int) + ((m : Int) + 6))] 3)).drew := ((RowKit.Below.refl _ w4).alloc (Nat.le_refl _) _).drew; have S5 : Hid (w5.ownsRow w.heap.size 9 1 (.slice As k cs) k xs) := own_grownB S4.out bW g5 (own_two S4.out E4.out (by decide)); have be5 : Hid (RowKit.Below w.heap.size w w5) := (be4.out.trans (bW.mono z4)).grown g5 (by simp; omega) (fun g hg => (E4.out.lt g hg).1); have z5 : w.heap.size ≤ w5.heap.size := be5.out.size; have E5 := Lib.hid h5; have hu5 : w5.cell? (a.add k) = some (.slice A1 m c1) := (World.cell?_of_block (by rw [adr_block]; exact (be5.out.block _ hab).trans (be4.out.block _ hab).symm)).trans hu4; have s5 : (convert 22 9 (.slice A1 m c1)).run Tryd.prog w5 = .ok (.string (str r)) w5 := str_run (R4.out.keep (T' := fun _ => True) (fun g hg => (be5.out.block g hg).trans (be4.out.block g hg).symm) (fun _ _ => trivial)); clear h5 g5 bW) | (refine step_append_1 ((w4.alloc (.cells #[.int .i64 ((q : Int) + ((m : Int) + 6))] 3)).alloc (.cells #[.string (str r)] 9)).drew rfl (.tmp 57) (.tmp 60) 38 rfl w.heap.size 3 i0 (.int .i64 0) 8 Tryd.underlying38 hi.out hz0.out hz1.out hz2.out rfl (.slice Ae k ce) k xe (.int .i64 ((q : Int) + ((m : Int) + 6))) w4.heap.size (by simp [Act.eval]) ((E4.out.alloc _).alloc _) (by simp [Act.eval]) K2a.out rfl (by unfold maxLen; omega) (by omega) (by simp; omega) ?_; intro v5 w5 h5 g5; have bW : RowKit.Below w4.heap.size w4 ((w4.alloc (.cells #[.int .i64 ((q : Int) + ((m : Int) + 6))] 3)).alloc (.cells #[.string (str r)] 9)).drew := (((RowKit.Below.refl _ w4).alloc (Nat.le_refl _) _).alloc (by simp) _).drew; have S5 : Hid (w5.ownsRow w.heap.size 9 1 (.slice As k cs) k xs) := own_grownB S4.out bW g5 (own_two S4.out E4.out (by decide)); have be5 : Hid (RowKit.Below w.heap.size w w5) := (be4.out.trans (bW.mono z4)).grown g5 (by simp; omega) (fun g hg => (E4.out.lt g hg).1); have z5 : w.heap.size ≤ w5.heap.size := be5.out.size; have E5 := Lib.hid h5; have C5 : Hid (w5.cell? ⟨w4.heap.size + 1, 0, none⟩ = some (.string (str r))) := cell_grown g5 K2a8.out (fun e => by have := (E4.out.lt _ e).2; omega); clear h5 g5 bW) | (refine step_append_1 ((w4.alloc (.cells #[.string (str r)] 9)).alloc (.cells #[.int .i64 ((q : Int) + ((m : Int) + 6))] 3)).drew rfl (.tmp 57) (.tmp 60) 38 rfl w.heap.size 3 i0 (.int .i64 0) 8 Tryd.underlying38 hi.out hz0.out hz1.out hz2.out rfl (.slice Ae k ce) k xe (.int .i64 ((q : Int) + ((m : Int) + 6))) (w4.heap.size + 1) (by simp [Act.eval]) ((E4.out.alloc _).alloc _) (by simp [Act.eval]) K2b.out rfl (by unfold maxLen; omega) (by omega) (by simp; omega) ?_; intro v5 w5 h5 g5; have bW : RowKit.Below w4.heap.size w4 ((w4.alloc (.cells #[.string (str r)] 9)).alloc (.cells #[.int .i64 ((q : Int) + ((m : Int) + 6))] 3)).drew := (((RowKit.Below.refl _ w4).alloc (Nat.le_refl _) _).alloc (by simp) _).drew; have S5 : Hid (w5.ownsRow w.heap.size 9 1 (.slice As k cs) k xs) := own_grownB S4.out bW g5 (own_two S4.out E4.out (by decide)); have be5 : Hid (RowKit.Below w.heap.size w w5) := (be4.out.trans (bW.mono z4)).grown g5 (by simp; omega) (fun g hg => (E4.out.lt g hg).1); have z5 : w.heap.size ≤ w5.heap.size := be5.out.size; have E5 := Lib.hid h5; have C5 : Hid (w5.cell? ⟨w4.heap.size, 0, none⟩ = some (.string (str r))) := cell_grown g5 K2b8.out (fun e => by have := (E4.out.lt _ e).2; omega); clear h5 g5 bW) | (refine step_append_1 (w5.alloc (.cells #[.string (str r)] 9)) rfl (.tmp 62) (.tmp 68) 30 rfl w.heap.size 9 j0 (.string ByteArray.empty) 16 Tryd.underlying30 ki.out kz0.out kz1.out kz2.out rfl (.slice As k cs) k xs (.string (str r)) w5.heap.size (by simp [Act.eval]) (S5.out.alloc _) (by simp [Act.eval]) (World.cell?_alloc_new w5 #[.string (str r)] 9 0) rfl (by unfold maxLen; omega) (by omega) (by simp; omega) ?_; intro v6 w6 h6 g6; have E6 : Hid (w6.ownsRow w.heap.size 3 1 v5 (k + 1) (xe ++ [.int .i64 ((q : Int) + ((m : Int) + 6))])) := own_grown E5.out g6 (own_two E5.out S5.out (by decide)); have be6 : Hid (RowKit.Below w.heap.size w w6) := (be5.out.alloc z5 _).grown g6 (by simp; omega) (fun g hg => (S5.out.lt g hg).1); have S6 := Lib.hid h6; clear h6 g6) | (refine step_append_1 w5 rfl (.tmp 62) (.tmp 68) 30 rfl w.heap.size 9 j0 (.string ByteArray.empty) 16 Tryd.underlying30 ki.out kz0.out kz1.out kz2.out rfl (.slice As k cs) k xs (.string (str r)) (w4.heap.size + 1) (by simp [Act.eval]) (S5.out) (by simp [Act.eval]) (C5.out) rfl (by unfold maxLen; omega) (by omega) z5 ?_; intro v6 w6 h6 g6; have E6 : Hid (w6.ownsRow w.heap.size 3 1 v5 (k + 1) (xe ++ [.int .i64 ((q : Int) + ((m : Int) + 6))])) := own_grown0 E5.out g6 (own_two E5.out S5.out (by decide)); have be6 : Hid (RowKit.Below w.heap.size w w6) := (be5.out).grown g6 z5 (fun g hg => (S5.out.lt g hg).1); have S6 := Lib.hid h6; clear h6 g6) | (refine step_append_1 w5 rfl (.tmp 62) (.tmp 68) 30 rfl w.heap.size 9 j0 (.string ByteArray.empty) 16 Tryd.underlying30 ki.out kz0.out kz1.out kz2.out rfl (.slice As k cs) k xs (.string (str r)) w4.heap.size (by simp [Act.eval]) (S5.out) (by simp [Act.eval]) (C5.out) rfl (by unfold maxLen; omega) (by omega) z5 ?_; intro v6 w6 h6 g6; have E6 : Hid (w6.ownsRow w.heap.size 3 1 v5 (k + 1) (xe ++ [.int .i64 ((q : Int) + ((m : Int) + 6))])) := own_grown0 E5.out g6 (own_two E5.out S5.out (by decide)); have be6 : Hid (RowKit.Below w.heap.size w w6) := (be5.out).grown g6 z5 (fun g hg => (S5.out.lt g hg).1); have S6 := Lib.hid h6; clear h6 g6))
        all_goals
          have nx : Hid (ToAt w l (.string (str (sb ++ fr))) v5 v6 (.int .i64 ((k : Int) + 1)) w6 (k + 1)) :=
            ⟨by simp, by have := hl.out; omega, hall2.out, by rw [hft.out], by rw [es_snoc, hft.out, List.length_append, hfl.out, ← hq.out, ← hxe.out]; exact E6.out, by rw [take_snoc hr.out, strs_app, ← hxs.out]; exact S6.out, be6.out⟩
          go_wp2
          exact ⟨⟨_, nx.out⟩, by simp [intOf]; omega⟩
    · obtain rfl : k = n := by have := hl.out; omega
      have ta : l.take k = l := List.take_of_length_le (by have := hl.out; omega)
      rw [ta] at hs hsb hall
      have hok : Hid (Ok l) := fun r hr => by have := hall.out r hr; omega
      have hq2 : sb.length ≤ 792 := by
        have h1 := frames_len_le _ hall.out
        rw [hl.out, ← hsb] at h1
        omega
      obtain ⟨q, hq⟩ : ∃ q, q = sb.length := ⟨_, rfl⟩
      have hsz := str_size sb
      rw [← hq] at hsz hq2
      obtain ⟨As, cs, rfl⟩ := own_form hs.out
      obtain ⟨Ae, ce, rfl⟩ := own_form he.out
      obtain ⟨hcs, hcsm⟩ := own_cap hs.out
      unfold maxLen at hcsm
      obtain ⟨hce, hcem⟩ := own_cap he.out
      unfold maxLen at hcem
      obtain ⟨kk, hK, hkk⟩ := place at_ (q + 1) (by omega) (by omega)
      have e1 : ((q + 1 : Nat) : Int) = (q : Int) + 1 := by omega
      rw [e1] at hK
      obtain ⟨w3, hv⟩ : ∃ z, z = wr := ⟨_, rfl⟩
      subst hv
      have st2 : Hid (∃ j : Nat, (Value.int .i64 0) = .int .i64 (j : Nat) ∧ (Value.int .i64 0) = .int .i64 ((frames (l.take j)).length : Nat) ∧ j ≤ k ∧ (frames (l.take j)).length ≤ kk) := ⟨0, rfl, rfl, Nat.zero_le _, Nat.zero_le _⟩
      replace hq := Lib.hid hq
      replace hsb := Lib.hid hsb
      clear e1
      go_upto_region 17 with fail
      rw [hK]
      clear hK
      go_wp2_with fail
      go_loop [12, 13] (fun a b => ∃ j : Nat, a = .int .i64 (j : Nat) ∧ b = .int .i64 ((frames (l.take j)).length : Nat) ∧ j ≤ k ∧ (frames (l.take j)).length ≤ kk) (fun a _ => k - (intOf a).toNat)
      case atStart => exact st2.out
      case round =>
        obtain ⟨j, rfl, rfl, hj, hjk⟩ := hrel
        obtain ⟨E, hE⟩ : ∃ E, E = (frames (l.take j)).length := ⟨_, rfl⟩
        rw [← hE] at hjk ⊢
        have hz7 : Hid (one [0, 0, 0, 0, 0, 0, 0] = none) := one_zeros
        obtain ⟨t1, ht1e⟩ : ∃ t1, t1 = sb.take kk := ⟨_, rfl⟩
        obtain ⟨t2, ht2e⟩ : ∃ t2, t2 = sb ++ [0, 0, 0, 0, 0, 0, 0] := ⟨_, rfl⟩
        have htl1 : Hid (t1.length = kk) := by rw [ht1e]; show (List.take kk sb).length = kk; rw [List.length_take, ← hq.out]; omega
        have htl2 : Hid (t2.length = q + 7) := by rw [ht2e]; show (sb ++ _).length = _; rw [List.length_append, ← hq.out]; rfl
        have ht1 : Hid (t1.length ≤ 1000000) := by rw [htl1.out]; show kk ≤ _; omega
        have ht2 : Hid (t2.length ≤ 1000000) := by rw [htl2.out]; show q + 7 ≤ _; omega
        have x1 : (str sb).extract 0 kk = str t1 := by rw [ht1e]; exact str_take sb kk
        have hcat : str sb ++ ⟨#[0, 0, 0, 0, 0, 0, 0]⟩ = str t2 := by rw [ht2e]; exact str_cat sb [0, 0, 0, 0, 0, 0, 0]
        have hadd : ∀ w, (Op.stringOp .add (str sb) ⟨#[0, 0, 0, 0, 0, 0, 0]⟩).run Tryd.prog w = .ok (.string (str t2)) w := fun w => by rw [ht2e]; exact str_add sb [0, 0, 0, 0, 0, 0, 0] (by rw [← hq.out]; simp; omega) w
        have G1 : Hid (j = k ∨ kk < (frames (l.take (j + 1))).length → Got t1 (l.take j) E) := fun h => by
          rw [ht1e, hsb.out, hE]
          exact cut_got hok.out (by rw [hl.out]; exact hj) (by rw [← hE]; exact hjk) (by rw [hl.out]; exact h)
        have G2 : Hid (Got t2 l q) := by
          rw [ht2e, hsb.out]
          have h := got_frames (l := l) hok.out hz7.out
          rw [← hsb.out, ← hq.out] at h
          rw [← hsb.out]
          exact h
        have sr_take : ∀ {W : World}, Sr W (.slice As k cs) l → l.length = k → j ≤ k → Sr W (.slice As j cs) (l.take j) := fun {W} h e hj => by
          subst e
          exact h.take hj
        replace hE := Lib.hid hE
        clear ht1e ht2e
        by_cases hlt2 : j < k
        · obtain ⟨F, hF⟩ : ∃ F, F = (frames (l.take (j + 1))).length := ⟨_, rfl⟩
          obtain ⟨ge, ce', e, _, hgl, _, _⟩ := own_some he.out (by omega)
          injection e with e1 _ e3
          subst e1
          have hc : w3.cell? ⟨ge, j, none⟩ = some (.int .i64 (F : Nat)) := by
            rw [he.out.cellAt j (by omega), es_get hlt2, hF]
          rw [← hF] at G1
          by_cases hle : F ≤ kk
          · have nx : Hid (∃ i : Nat, (Value.int .i64 ((j : Int) + 1)) = .int .i64 (i : Nat) ∧ (Value.int .i64 (F : Int)) = .int .i64 ((frames (l.take i)).length : Nat) ∧ i ≤ k ∧ (frames (l.take i)).length ≤ kk) := ⟨j + 1, by simp, by rw [hF], hlt2, by rw [← hF]; exact hle⟩
            clear hF
            go_wp2_with fail
            exact ⟨nx.out, by simp [intOf]; omega⟩
          · have d : decide ((F : Int) ≤ (kk : Int)) = false := by simpa using (show kk < F by omega)
            replace G1 := Lib.hid (G1.out (.inr (by omega)))
            clear hF
            have D1 := Lib.hid (of_str w3 t1 ht1.out)
            obtain ⟨wA, cA, kA, RA, hcA1, hcA2, bA⟩ := D1.out
            have beA : Hid (RowKit.Below w.heap.size w wA) := hb.out.trans (bA.mono hb.out.size)
            have SA : Hid (Sr wA (.slice As k cs) l) := (sr_own (by rw [hl.out]; exact hs.out)).below bA
            have DA := Lib.hid (read_any wA _ t1.length cA t1 RA (fun _ hg => hg) (Tk.out wA beA.out) hcA1 hcA2 ht1.out)
            rw [htl1.out] at DA kA
            clear D1 RA hcA1 hcA2 bA
            go_wp2_with fail
            refine DA.out.mono ?_
            rintro e w5 ⟨v14, l14, q14, rfl, hgot, hL, b5⟩
            obtain ⟨rfl, rfl⟩ := got_one G1.out hgot
            have be5 : Hid (RowKit.Below w.heap.size w w5) := beA.out.trans (b5.mono beA.out.size)
            have S5 : Hid (Sr w5 (.slice As k cs) l) := SA.out.below b5
            have L5 : Hid (Lr w5 v14 (l.take j)) := hL.read
            have D2 := Lib.hid (of_str w5 t2 ht2.out)
            obtain ⟨wB, cB, kB, RB, hcB1, hcB2, bB⟩ := D2.out
            have beB : Hid (RowKit.Below w.heap.size w wB) := be5.out.trans (bB.mono be5.out.size)
            have SB : Hid (Sr wB (.slice As k cs) l) := S5.out.below bB
            have LB : Hid (Lr wB v14 (l.take j)) := L5.out.below bB
            have DB := Lib.hid (read_any wB _ t2.length cB t2 RB (fun _ hg => hg) (Tk.out wB beB.out) hcB1 hcB2 ht2.out)
            rw [htl2.out] at DB kB
            clear hgot hL b5 DA kA SA beA D2 RB hcB1 hcB2 bB S5 L5 be5
            go_wp2_with fail
            refine DB.out.mono ?_
            rintro e w6 ⟨v16, l16, q16, rfl, hgot, hL, b6⟩
            obtain ⟨rfl, rfl⟩ := got_one G2.out hgot
            have be6 : Hid (RowKit.Below w.heap.size w w6) := beB.out.trans (b6.mono beB.out.size)
            have S6 : Hid (Sr w6 (.slice As k cs) l) := SB.out.below b6
            have L6 : Hid (Lr w6 v14 (l.take j)) := LB.out.below b6
            have M6 : Hid (Lr w6 v16 l) := hL.read
            have Q6 := Lib.hid (T.out w6 be6.out)
            clear hgot hL b6 DB kB SB LB beB
            go_wp2_with fail
            refine Q6.out.mono ?_
            rintro e w7 ⟨rfl, b7⟩
            have be7 : Hid (RowKit.Below w.heap.size w w7) := be6.out.trans (b7.mono be6.out.size)
            have S7 : Hid (Sr w7 (.slice As k cs) l) := S6.out.below b7
            have L7 : Hid (Lr w7 v14 (l.take j)) := L6.out.below b7
            have M7 : Hid (Lr w7 v16 l) := M6.out.below b7
            have X7 := Lib.hid (texts_any w7 v14 (.slice As j cs) (l.take j) L7.out (sr_take S7.out hl.out (by omega)) (by rw [List.length_take]; omega))
            clear b7 Q6 S6 L6 M6 be6
            go_wp2_with fail
            refine X7.out.mono ?_
            rintro e w8 ⟨rfl, b8⟩
            have be8 : Hid (RowKit.Below w.heap.size w w8) := be7.out.trans (b8.mono be7.out.size)
            have X8 := Lib.hid (texts_any w8 v16 (.slice As k cs) l (M7.out.below b8) (S7.out.below b8) (by rw [hl.out]; omega))
            clear b8 X7 S7 L7 M7 be7
            go_wp2_with fail
            refine X8.out.mono ?_
            rintro e w9 ⟨rfl, b9⟩
            have be9 : Hid (RowKit.Below w.heap.size w w9) := be8.out.trans (b9.mono be8.out.size)
            clear b9 X8
            go_wp2
            go_ret
            exact ⟨rfl, be9.out⟩
        · obtain rfl : j = k := by omega
          replace G1 := Lib.hid (G1.out (.inl rfl))
          have D1 := Lib.hid (of_str w3 t1 ht1.out)
          obtain ⟨wA, cA, kA, RA, hcA1, hcA2, bA⟩ := D1.out
          have beA : Hid (RowKit.Below w.heap.size w wA) := hb.out.trans (bA.mono hb.out.size)
          have SA : Hid (Sr wA (.slice As j cs) l) := (sr_own (by rw [hl.out]; exact hs.out)).below bA
          have DA := Lib.hid (read_any wA _ t1.length cA t1 RA (fun _ hg => hg) (Tk.out wA beA.out) hcA1 hcA2 ht1.out)
          rw [htl1.out] at DA kA
          clear D1 RA hcA1 hcA2 bA
          go_wp2_with fail
          refine DA.out.mono ?_
          rintro e w5 ⟨v14, l14, q14, rfl, hgot, hL, b5⟩
          obtain ⟨rfl, rfl⟩ := got_one G1.out hgot
          have be5 : Hid (RowKit.Below w.heap.size w w5) := beA.out.trans (b5.mono beA.out.size)
          have S5 : Hid (Sr w5 (.slice As j cs) l) := SA.out.below b5
          have L5 : Hid (Lr w5 v14 (l.take j)) := hL.read
          have D2 := Lib.hid (of_str w5 t2 ht2.out)
          obtain ⟨wB, cB, kB, RB, hcB1, hcB2, bB⟩ := D2.out
          have beB : Hid (RowKit.Below w.heap.size w wB) := be5.out.trans (bB.mono be5.out.size)
          have SB : Hid (Sr wB (.slice As j cs) l) := S5.out.below bB
          have LB : Hid (Lr wB v14 (l.take j)) := L5.out.below bB
          have DB := Lib.hid (read_any wB _ t2.length cB t2 RB (fun _ hg => hg) (Tk.out wB beB.out) hcB1 hcB2 ht2.out)
          rw [htl2.out] at DB kB
          clear hgot hL b5 DA kA SA beA D2 RB hcB1 hcB2 bB S5 L5 be5
          go_wp2_with fail
          refine DB.out.mono ?_
          rintro e w6 ⟨v16, l16, q16, rfl, hgot, hL, b6⟩
          obtain ⟨rfl, rfl⟩ := got_one G2.out hgot
          have be6 : Hid (RowKit.Below w.heap.size w w6) := beB.out.trans (b6.mono beB.out.size)
          have S6 : Hid (Sr w6 (.slice As j cs) l) := SB.out.below b6
          have L6 : Hid (Lr w6 v14 (l.take j)) := LB.out.below b6
          have M6 : Hid (Lr w6 v16 l) := hL.read
          have Q6 := Lib.hid (T.out w6 be6.out)
          clear hgot hL b6 DB kB SB LB beB
          go_wp2_with fail
          refine Q6.out.mono ?_
          rintro e w7 ⟨rfl, b7⟩
          have be7 : Hid (RowKit.Below w.heap.size w w7) := be6.out.trans (b7.mono be6.out.size)
          have S7 : Hid (Sr w7 (.slice As j cs) l) := S6.out.below b7
          have L7 : Hid (Lr w7 v14 (l.take j)) := L6.out.below b7
          have M7 : Hid (Lr w7 v16 l) := M6.out.below b7
          have X7 := Lib.hid (texts_any w7 v14 (.slice As j cs) (l.take j) L7.out (sr_take S7.out hl.out (by omega)) (by rw [List.length_take]; omega))
          clear b7 Q6 S6 L6 M6 be6
          go_wp2_with fail
          refine X7.out.mono ?_
          rintro e w8 ⟨rfl, b8⟩
          have be8 : Hid (RowKit.Below w.heap.size w w8) := be7.out.trans (b8.mono be7.out.size)
          have X8 := Lib.hid (texts_any w8 v16 (.slice As j cs) l (M7.out.below b8) (S7.out.below b8) (by rw [hl.out]; omega))
          clear b8 X7 S7 L7 M7 be7
          go_wp2_with fail
          refine X8.out.mono ?_
          rintro e w9 ⟨rfl, b9⟩
          have be9 : Hid (RowKit.Below w.heap.size w w9) := be8.out.trans (b9.mono be8.out.size)
          clear b9 X8
          go_wp2
          go_ret
          exact ⟨rfl, be9.out⟩

theorem walkd (v0 : Value) (A0 : Option Addr) (n0 c0 : Nat) (l0 : List (List UInt8)) (e0 : v0 = .slice A0 n0 c0) (lc0 : n0 ≤ c0) (uc0 : c0 ≤ 9223372036854775807) {W' : World} (w0 : Txts W' W'.heap.size A0 n0 l0) (a1 : Int) (_w1 : (Lit.int .i64 a1).wf = true) (W : World) (hW : W = W') (ht : Tab W) :
    Calls Tryd.prog 4 #[v0, .int .i64 a1] W fun e w' => e = .returned (.bool true) ∧ RowKit.Below W.heap.size W w' := by
  subst hW
  subst e0
  exact walk A0 n0 c0 l0 _ w0 ht lc0 uc0 a1

/-! The row: every input, the listed variable as the condition has it. -/
set_option linter.unusedVariables false
set_option maxRecDepth 100000 in
theorem lifted (os : Os) (started : os.Started) (H : Type) (enc : TypeId × Value → H) :
    ReturnsInHanded {} Tryd.checked os 4 .any (fun w args => (Rows.frameTornSpec.pre enc Tryd.prog Tryd.f4 [] false w args ∧ laidMetH Tryd.prog laids w) ∧ sizedMet enc Tryd.prog Tryd.f4 (OpenSpec.ofChange Rows.frameTornSpec) false w args)
      (Rows.frameTornSpec.post enc Tryd.prog Tryd.f4 false true false false) := by
  refine returnsInHanded_of_change_and (C := Tryd.checked) (X := fun w _ => laidMetH Tryd.prog laids w) (fun _ _ _ hh h => h.of_heap hh) own started (by kernel_rfl) Tryd.func4
    (ChangeSpec.witness_shaped (enc := enc) (C := Tryd.checked) (os := os) (X := fun w _ => laidMetH Tryd.prog laids w) false (World.doorLaid Tryd.prog 400 os) #[.slice none 0 0, .int .i64 0] 8 rfl (World.shaped_of_RefB (by kernel_rfl) (by kernel_rfl)) (by kernel_rfl) (by kernel_rfl) (by kernel_rfl) (door_met os _)) ?_
  intro W base args ds gs before hval0 hW _ _ hL _
  have hval : ∀ (j : Nat) t v, Tryd.f4.params[j]? = some t → args[j]? = some v → Value.okWide Tryd.prog W .any base t v := hval0
  have hW' := hW
  obtain ⟨p, q, hA0, hV, rfl, hfz, hnd⟩ := hW
  have hA : DataW.TrodAll enc Tryd.prog W 0 (fun _ => true) true Tryd.f4.params.toList args.toList ds p := hA0
  rw [Tryd.params4] at hA hval
  obtain ⟨v0, vs0, d0, ds0, p0, q0, hargs, rfl, rfl, h0, r0⟩ := trodAll_cons hA
  obtain ⟨v1, vs1, d1, ds1, p1, q1, rfl, rfl, rfl, h1, r1⟩ := trodAll_cons r0
  obtain ⟨rfl, rfl, rfl⟩ := trodAll_nil r1
  obtain rfl : args = #[v0, v1] := by cases args; simp_all
  obtain ⟨rfl, rfl⟩ := trodVars_none hV
  obtain ⟨A0, n0, c0, l0, e0, lc0, uc0, w0⟩ := view_texts (hval 0 27 v0 rfl rfl) h0
  obtain ⟨a1, rfl, rfl, rfl, w1⟩ := open_int Tryd.underlying3 (hval 1 3 v1 rfl rfl) h1
  clear hA0 hval0
  simp only [List.append_nil] at hW'
  refine (walkd v0 A0 n0 c0 l0 e0 lc0 uc0 w0 a1 w1 W rfl (of_laid hL)).mono fun e W' ⟨he, hb⟩ => ?_
  subst he
  exact ⟨_, rfl, post_below (pa := p0 ++ ([] ++ [])) (pv := []) hW' (fun _ _ _ => (trodAll_cons_mk (shut_bool Tryd.underlying4 _) trodAll_mk0)) (fun sp hsp => (trodAll_cons_mk (Trod_stays laidOut (by kernel_rfl) (of_decide_eq_true (by kernel_rfl)) h0 (fun x hx => hb.same (hW'.lt x (by simp [hx]))) (fun x hx => hsp x (by simp [hx]))) (trodAll_cons_mk (shut_int Tryd.underlying3 w1) trodAll_mk0))) (fun _ _ => rfl) (by simp)
    hb (ok_one (by kernel_rfl) rfl (okWide_bool_mk Tryd.underlying4 _))⟩

theorem over : Rows.frameTornRow.holds Tryd.pinned (OpenSpec.ofChange Rows.frameTornSpec) :=
  OpenClaim.holds_of_wide 4 Tryd.f4 rfl rfl rfl rfl rfl rfl rfl ⟨rfl, rfl, rfl, rfl, rfl⟩ rfl rfl rfl rfl rfl (by kernel_rfl) Tryd.func4 (by kernel_rfl)
    (of_decide_eq_true (by kernel_rfl)) (by unfold Func.isWrapper; first | (rw [if_pos (by decide +kernel)]; kernel_rfl) | (rw [if_neg (by decide +kernel)]; exact ⟨rfl, rfl⟩))
    (fun os started H enc _ => lifted os started H enc)

/-- The tied card. -/
theorem proved : Rows.FrameTornCardSaid :=
  Claim7.holds_tied_plain_at .later [] [.data] true _ false
    over (fun _ h => by cases h) (by kernel_rfl) (fun _ h => by cases h) frameTorn_row_tie rfl ⟨rfl, rfl⟩ (by kernel_rfl) rfl
    (fun f fn hf hfn => by
      obtain rfl : f = 4 := Option.some.inj ((show Tryd.prog.funcNamed "sojourn/sojournlaw4.FrameTorn" = some 4 by kernel_rfl).symm.trans hf) |>.symm
      obtain rfl : fn = Tryd.f4 := (Option.some.inj (Tryd.func4.symm.trans hfn)).symm
      exact ⟨by kernel_rfl, fun j t ht => by
        rw [Tryd.params4] at ht
        have hm : t ∈ [27, 3] := by simpa using Array.mem_of_getElem? ht
        have hall : ([27, 3].all fun u => !Tryd.prog.wantsStandIn u) = true := by kernel_rfl
        exact (show Tryd.prog.wantsStandIn t = false by simpa using List.all_eq_true.1 hall t hm)⟩)
    (by kernel_rfl)
#print axioms proved

end Go.Proofs.YthadgeihkeggfaaDoor.frameTorn
