/- Proved: what is gone stays gone, nothing but a release is done to it, and it has no units (StockGone), for any steps, any booking, any steps more. -/
import Derived.Test.YtnjcdlenpcpjaaaStS
import Derived.JoinedRecord
import Derived.HandedShaped
namespace Go.Proofs.Ytnjcdlenpcpjaaa.stockGone
set_option maxRecDepth 100000
open Go.ChangeShapes Go.WideShapes Go.ChangeAt Go.WideMaps Go.WideElems Go.RowKit
open Go.Sort (grow)
open Go.Proofs.Ytnjcdlenpcpjaaa.Pk (Rb adr_block one_at one_free one_set lt_some grown_set grown_trans below_grown grown_refl u8s own_form)
open Go.Proofs.Ytnjcdlenpcpjaaa.St
open Go.Proofs.Ytnjcdlenpcpjaaa.Wt (Opn mayOp)
open Go.Proofs.Ytnjcdlenpcpjaaa.Wt (refmayop_any)

def GoAt1 (w : World) (q : Nat) (vn i : Value) (wr : World) : Prop := ∃ (j : Nat) (nw : Int) (f : F), i = .int .i64 j ∧ vn = .int .i64 nw ∧ j ≤ 40 ∧ 0 ≤ nw ∧ nw ≤ 40 * j ∧ Ow w.heap.size (fun g => g < w.heap.size) w wr q 20 3 f
def GoAt2 (w : World) (q : Nat) (b : Int) (vn i : Value) (wr : World) : Prop := ∃ (j : Nat) (nw : Int) (f : F), i = .int .i64 j ∧ vn = .int .i64 nw ∧ j ≤ 40 ∧ 0 ≤ nw ∧ nw ≤ 1600 + 40 * j ∧ Ow w.heap.size (fun g => g < w.heap.size) w wr q 20 3 f ∧ f b = eg
set_option maxHeartbeats 6400000 in
theorem walk (w : World) (A : Option Addr) (n c : Nat) (l : List Stp) (R : Ops w w.heap.size A n l) (a1 : Int) (A2 : Option Addr) (n2 c2 : Nat) (l2 : List Stp) (R2 : Ops w w.heap.size A2 n2 l2) (hn : n ≤ 9223372036854775807) (hn2 : n2 ≤ 9223372036854775807) :
    Calls Try.prog 6 #[.slice A n c, .int .i64 a1, .slice A2 n2 c2] w fun e w' => e = .returned (.bool true) ∧ Below w.heap.size w w' := by
  obtain ⟨b', hb'⟩ : ∃ k, k = usm a1 12 := ⟨_, rfl⟩
  have b1' : b' < 12 := by rw [hb']; exact usm_lt _ (by omega)
  have ux : wrap64 ((IntKind.u64.wrap a1).tmod 12) = (b' : Int) := by rw [hb']; exact usm_slot a1 (n := 12) (by omega) (by omega)
  obtain ⟨b, hb⟩ : ∃ b : Int, b = 1 + (b' : Int) := ⟨_, rfl⟩
  have b1 : 1 ≤ b := by omega
  have b2 : b ≤ 12 := by omega
  have N := Lib.hid (ow_new w 20 3 (by decide))
  replace R := Lib.hid R
  replace R2 := Lib.hid R2
  replace hb' := Lib.hid hb'
  go_enter Try.func6, Try.ntmps6
  go_wp2_with fail
  refine N.out.mono ?_
  rintro e w1 ⟨q, rfl, O1⟩
  have st : Hid (GoAt1 w q (.int .i64 0) (.int .i64 0) w1) := ⟨0, 0, fz, rfl, rfl, by omega, by omega, by omega, O1⟩
  clear N O1
  go_upto_region 5 with fail
  rw [ux, ← hb]
  clear ux
  replace hb := Lib.hid hb
  go_wp2_with fail
  go_loopw [10, 11] (fun vn i wr => GoAt1 w q vn i wr) (fun _ i _ => 40 - (intOf i).toNat)
  case atStart => exact st.out
  case round =>
    clear st
    obtain ⟨j, nw, f, rfl, rfl, hj, n0, n1, O⟩ := hrel
    by_cases hjn : j < n
    · by_cases h40 : j < 40
      · obtain ⟨s, hs⟩ : ∃ s, l[j]? = some s := ⟨_, List.getElem?_eq_getElem (by have := R.out.len; omega)⟩
        obtain ⟨ad, rfl, hab, hat⟩ := R.out.at_ (by omega)
        obtain ⟨-, c1, c2, c3, c4, c5, c6, -, -⟩ := (hat j s hs).same (O.be.block _ hab)
        have i1 : (j : Int) < 40 := by omega
        obtain ⟨d', hd'⟩ : ∃ k, k = usm s.d 40 := ⟨_, rfl⟩
        have d1' : d' < 40 := by rw [hd']; exact usm_lt _ (by omega)
        have uz : wrap64 ((IntKind.u64.wrap s.d).tmod 40) = (d' : Int) := by rw [hd']; exact usm_slot s.d (n := 40) (by omega) (by omega)
        obtain ⟨nw2, hnw⟩ : ∃ x : Int, x = nw + (d' : Int) := ⟨_, rfl⟩
        have D := Lib.hid (ow_do O s.o nw2)
        unfold opv at D
        have m0 : 0 ≤ nw2 := by omega
        have m1 : nw2 ≤ 40 * ((j + 1 : Nat) : Int) := by omega
        replace hs := Lib.hid hs
        replace hat := Lib.hid hat
        replace hd' := Lib.hid hd'
        clear O
        go_upto_region 10 with fail
        rw [uz, ← hnw]
        clear uz
        replace hnw := Lib.hid hnw
        go_wp2_with fail
        refine D.out.mono ?_
        rintro e w2 ⟨rfl, O2, _⟩
        have nx : Hid (GoAt1 w q (.int .i64 nw2) (.int .i64 ((j + 1 : Nat) : Int)) w2) := ⟨j + 1, nw2, _, rfl, rfl, by omega, m0, m1, O2⟩
        clear D O2
        go_wp2
        exact ⟨nx.out, by simp [intOf]; omega⟩
      · have i1 : ¬ (j : Int) < 40 := by omega
        have tn : tick nw = true := tick_of n0 (by omega)
        have D : Calls Try.prog 12 #[.pointer (some ⟨q, 0, none⟩), .agg #[.int .i64 3, .int .i64 b, .int .i64 0, .int .i64 0, .int .i64 0], .int .i64 nw] wr fun e w' => e = .returned (.int .i64 1) ∧ OwTo w.heap.size (fun g => g < w.heap.size) w wr q 20 3 (upd f b eg) w' := by
          have := ow_do O ⟨3, b, 0, 0, 0⟩ nw
          rw [d_rel b1 (by omega) tn] at this
          exact this
        replace D := Lib.hid D
        clear O tn
        go_wp2_with fail
        refine D.out.mono ?_
        rintro e w2 ⟨rfl, O2, _⟩
        have st : Hid (GoAt2 w q b (.int .i64 nw) (.int .i64 0) w2) := ⟨0, nw, _, rfl, rfl, by omega, n0, by omega, O2, upd_same _ _ _⟩
        clear D O2
        go_wp2_with fail
        clear hj n0 n1
        go_loopw [10, 12] (fun vn i wr => GoAt2 w q b vn i wr) (fun _ i _ => 40 - (intOf i).toNat)
        case atStart => exact st.out
        case round =>
          clear st
          obtain ⟨j, nw, f, rfl, rfl, hj, n0, n1, O, hg⟩ := hrel
          have TA := Lib.hid (told_any wr)
          by_cases hjn : j < n2
          · by_cases h40 : j < 40
            · obtain ⟨s, hs⟩ : ∃ s, l2[j]? = some s := ⟨_, List.getElem?_eq_getElem (by have := R2.out.len; omega)⟩
              obtain ⟨ad, rfl, hab, hat⟩ := R2.out.at_ (by omega)
              obtain ⟨c0, c1, c2, c3, c4, c5, c6, -, -⟩ := (hat j s hs).same (O.be.block _ hab)
              have i1 : (j : Int) < 40 := by omega
              obtain ⟨d', hd'⟩ : ∃ k, k = usm s.d 40 := ⟨_, rfl⟩
              have d1' : d' < 40 := by rw [hd']; exact usm_lt _ (by omega)
              have uz : wrap64 ((IntKind.u64.wrap s.d).tmod 40) = (d' : Int) := by rw [hd']; exact usm_slot s.d (n := 40) (by omega) (by omega)
              obtain ⟨nw2, hnw⟩ : ∃ x : Int, x = nw + (d' : Int) := ⟨_, rfl⟩
              have m0 : 0 ≤ nw2 := by omega
              have m1 : nw2 ≤ 1600 + 40 * ((j + 1 : Nat) : Int) := by omega
              have tn : tick nw2 = true := tick_of m0 (by omega)
              replace hs := Lib.hid hs
              replace hat := Lib.hid hat
              replace hd' := Lib.hid hd'
              obtain ⟨W5, hW5⟩ : ∃ W, W = wr.alloc (.cells #[.int .i64 s.o.kind, .int .i64 s.o.book, .int .i64 s.o.units, .int .i64 s.o.cust, .int .i64 s.o.amount] 30) := ⟨_, rfl⟩
              have b5 : Below wr.heap.size wr W5 := by rw [hW5]; exact (Below.refl _ _).alloc (Nat.le_refl _) _
              have h5 : Hid (W5.heap[wr.heap.size]? = some (.cells #[.int .i64 s.o.kind, .int .i64 s.o.book, .int .i64 s.o.units, .int .i64 s.o.cust, .int .i64 s.o.amount] 30 (0, 0))) := by rw [hW5]; exact heap_alloc_new _ _
              have O5 := O.add b5
              have q1 := (World.cell?_of_block (a := ad.add (j * 9)) (w := wr) (w' := W5) (b5.block _ (lt_of_cell c0))).trans c0
              go_upto_region 17 with fail
              rw [uz, ← hnw]
              clear uz
              replace hnw := Lib.hid hnw
              by_cases hk : s.kind = 1
              · have gk : (s.kind == 1) = true := by simpa using hk
                have SW := Lib.hid (ow_sweep O5 nw2)
                replace hW5 := Lib.hid hW5
                clear O O5 b5 h5
                go_upto_region 18 with fail
                rw [← hW5.out]
                go_wp2_with fail
                refine SW.out.mono ?_
                rintro e w6 ⟨v, rfl, hr, O6, _⟩
                have nx : Hid (GoAt2 w q b (.int .i64 nw2) (.int .i64 ((j + 1 : Nat) : Int)) w6) := ⟨j + 1, nw2, _, rfl, rfl, by omega, m0, m1, O6.less (fun g hg => .inl hg), swF_gone hg⟩
                clear SW hr O6
                go_wp2
                exact ⟨nx.out, by simp [intOf]; omega⟩
              · have gk : (s.kind == 1) = false := by simpa using hk
                obtain ⟨g1, g2⟩ := gone_do (cap := 20) (over := 3) (o := s.o) hg tn
                have D := Lib.hid (ow_do O5 s.o nw2)
                have p0 : W5.cell? ⟨wr.heap.size, 0, none⟩ = some (.int .i64 s.o.kind) := one_at (i := 0) h5.out
                have p1 : W5.cell? ⟨wr.heap.size, 1, none⟩ = some (.int .i64 s.o.book) := one_at (i := 1) h5.out
                have p2 : W5.cell? ⟨wr.heap.size, 2, none⟩ = some (.int .i64 s.o.units) := one_at (i := 2) h5.out
                have p3 : W5.cell? ⟨wr.heap.size, 3, none⟩ = some (.int .i64 s.o.cust) := one_at (i := 3) h5.out
                have p4 : W5.cell? ⟨wr.heap.size, 4, none⟩ = some (.int .i64 s.o.amount) := one_at (i := 4) h5.out
                unfold opv at D
                obtain ⟨r, hr⟩ : ∃ r, r = (dstp 20 3 f s.o nw2).2 := ⟨_, rfl⟩
                rw [← hr] at D g2
                have hsz : Hid (wr.heap.size < W5.heap.size) := lt_some h5.out
                replace g1 := Lib.hid g1
                replace hW5 := Lib.hid hW5
                clear O O5 b5 hr hg
                go_upto_region 18 with fail
                rw [← hW5.out]
                go_wp2_with fail
                refine D.out.mono ?_
                rintro e w6 ⟨rfl, O6, K6⟩
                have h6 := (K6.2 wr.heap.size (.inr ⟨Nat.le_refl _, hsz.out⟩)).trans h5.out
                have v0 : w6.cell? ⟨wr.heap.size, 0, none⟩ = some (.int .i64 s.o.kind) := one_at (i := 0) h6
                have v1 : w6.cell? ⟨wr.heap.size, 1, none⟩ = some (.int .i64 s.o.book) := one_at (i := 1) h6
                have v2 : w6.cell? ⟨wr.heap.size, 2, none⟩ = some (.int .i64 s.o.units) := one_at (i := 2) h6
                have v3 : w6.cell? ⟨wr.heap.size, 3, none⟩ = some (.int .i64 s.o.cust) := one_at (i := 3) h6
                have v4 : w6.cell? ⟨wr.heap.size, 4, none⟩ = some (.int .i64 s.o.amount) := one_at (i := 4) h6
                have O7 := Lib.hid (O6.less (X' := fun g => g < w.heap.size) fun g hg => .inl hg)
                have EQ := fun w => eq_ent_run w 3 0 0 3 0 0
                rw [decide_eq_true (rfl : (⟨3, 0, 0⟩ : E) = ⟨3, 0, 0⟩)] at EQ
                clear D O6 K6 h6 h5 p0 p1 p2 p3 p4 c0 c1 c2 c3 c4 c5 c6 q1
                have MO := Lib.hid (refmayop_any w6 s.o)
                have key : ∀ w8, Below w6.heap.size w6 w8 → Ow w.heap.size (fun g => g < w.heap.size) w w8 q 20 3 (dstp 20 3 f s.o nw2).1 ∧ Calls Try.prog 17 #[.pointer (some ⟨q, 0, none⟩), .int .i64 b] w8 fun e w' => e = .returned (.agg #[.int .i64 3, .int .i64 0, .int .i64 0, .int .i64 0, .int .i64 0]) ∧ Below w8.heap.size w8 w' := fun w8 hb8 => by
                  have O8 := O7.out.below hb8
                  have := ow_entry O8 b ⟨by omega, by omega⟩
                  rw [g1.out] at this
                  exact ⟨O8, this⟩
                replace key := Lib.hid key
                by_cases hbk : s.o.book = b
                · have gb : (s.o.book == b) = true := by simpa using hbk
                  have g3 := g2 hbk
                  clear hbk
                  cases hk3 : (s.o.kind == 3) with
                  | true =>
                    rw [hk3, Bool.true_and] at g3
                    obtain ⟨mo, hmo⟩ : ∃ mo, mo = mayOp s.o := ⟨_, rfl⟩
                    rw [← hmo] at g3 MO
                    clear g2 hmo
                    cases mo
                    all_goals
                      go_wp2_with fail
                      refine MO.out.mono ?_
                      rintro e w8 ⟨rfl, b8⟩
                      obtain ⟨O8, EN⟩ := key.out w8 b8
                      replace O8 := Lib.hid O8
                      clear MO b8 key
                      go_wp2_with fail
                      refine EN.mono ?_
                      rintro e w9 ⟨rfl, b9⟩
                      have nx : Hid (GoAt2 w q b (.int .i64 nw2) (.int .i64 ((j + 1 : Nat) : Int)) w9) := ⟨j + 1, nw2, _, rfl, rfl, by omega, m0, m1, O8.out.below b9, g1.out⟩
                      clear EN b9
                      go_wp2
                      exact ⟨nx.out, by simp [intOf]; omega⟩
                  | false =>
                    rw [hk3, Bool.false_and] at g3
                    obtain ⟨O8, EN⟩ := key.out w6 (Below.refl _ _)
                    replace O8 := Lib.hid O8
                    clear g2 MO key
                    go_wp2_with fail
                    refine EN.mono ?_
                    rintro e w9 ⟨rfl, b9⟩
                    have nx : Hid (GoAt2 w q b (.int .i64 nw2) (.int .i64 ((j + 1 : Nat) : Int)) w9) := ⟨j + 1, nw2, _, rfl, rfl, by omega, m0, m1, O8.out.below b9, g1.out⟩
                    clear EN b9
                    go_wp2
                    exact ⟨nx.out, by simp [intOf]; omega⟩
                · have gb : (s.o.book == b) = false := by simpa using hbk
                  obtain ⟨O8, EN⟩ := key.out w6 (Below.refl _ _)
                  replace O8 := Lib.hid O8
                  clear g2 MO key
                  go_wp2_with fail
                  refine EN.mono ?_
                  rintro e w9 ⟨rfl, b9⟩
                  have nx : Hid (GoAt2 w q b (.int .i64 nw2) (.int .i64 ((j + 1 : Nat) : Int)) w9) := ⟨j + 1, nw2, _, rfl, rfl, by omega, m0, m1, O8.out.below b9, g1.out⟩
                  clear EN b9
                  go_wp2
                  exact ⟨nx.out, by simp [intOf]; omega⟩
            · have i1 : ¬ (j : Int) < 40 := by omega
              replace O := Lib.hid O
              go_wp2_with fail
              refine TA.out.mono ?_
              rintro e w8 ⟨rfl, b8⟩
              have E := Lib.hid ((O.out.below b8).be)
              clear TA b8 O
              go_wp2
              go_ret
              exact ⟨rfl, E.out⟩
          · have i1 : ¬ (j : Int) < (n2 : Int) := by omega
            replace O := Lib.hid O
            go_wp2_with fail
            refine TA.out.mono ?_
            rintro e w8 ⟨rfl, b8⟩
            have E := Lib.hid ((O.out.below b8).be)
            clear TA b8 O
            go_wp2
            go_ret
            exact ⟨rfl, E.out⟩
    · have i1 : ¬ (j : Int) < (n : Int) := by omega
      have tn : tick nw = true := tick_of n0 (by omega)
      have D : Calls Try.prog 12 #[.pointer (some ⟨q, 0, none⟩), .agg #[.int .i64 3, .int .i64 b, .int .i64 0, .int .i64 0, .int .i64 0], .int .i64 nw] wr fun e w' => e = .returned (.int .i64 1) ∧ OwTo w.heap.size (fun g => g < w.heap.size) w wr q 20 3 (upd f b eg) w' := by
        have := ow_do O ⟨3, b, 0, 0, 0⟩ nw
        rw [d_rel b1 (by omega) tn] at this
        exact this
      replace D := Lib.hid D
      clear O tn
      go_wp2_with fail
      refine D.out.mono ?_
      rintro e w2 ⟨rfl, O2, _⟩
      have st : Hid (GoAt2 w q b (.int .i64 nw) (.int .i64 0) w2) := ⟨0, nw, _, rfl, rfl, by omega, n0, by omega, O2, upd_same _ _ _⟩
      clear D O2
      go_wp2_with fail
      clear hj n0 n1
      go_loopw [10, 12] (fun vn i wr => GoAt2 w q b vn i wr) (fun _ i _ => 40 - (intOf i).toNat)
      case atStart => exact st.out
      case round =>
        clear st
        obtain ⟨j, nw, f, rfl, rfl, hj, n0, n1, O, hg⟩ := hrel
        have TA := Lib.hid (told_any wr)
        by_cases hjn : j < n2
        · by_cases h40 : j < 40
          · obtain ⟨s, hs⟩ : ∃ s, l2[j]? = some s := ⟨_, List.getElem?_eq_getElem (by have := R2.out.len; omega)⟩
            obtain ⟨ad, rfl, hab, hat⟩ := R2.out.at_ (by omega)
            obtain ⟨c0, c1, c2, c3, c4, c5, c6, -, -⟩ := (hat j s hs).same (O.be.block _ hab)
            have i1 : (j : Int) < 40 := by omega
            obtain ⟨d', hd'⟩ : ∃ k, k = usm s.d 40 := ⟨_, rfl⟩
            have d1' : d' < 40 := by rw [hd']; exact usm_lt _ (by omega)
            have uz : wrap64 ((IntKind.u64.wrap s.d).tmod 40) = (d' : Int) := by rw [hd']; exact usm_slot s.d (n := 40) (by omega) (by omega)
            obtain ⟨nw2, hnw⟩ : ∃ x : Int, x = nw + (d' : Int) := ⟨_, rfl⟩
            have m0 : 0 ≤ nw2 := by omega
            have m1 : nw2 ≤ 1600 + 40 * ((j + 1 : Nat) : Int) := by omega
            have tn : tick nw2 = true := tick_of m0 (by omega)
            replace hs := Lib.hid hs
            replace hat := Lib.hid hat
            replace hd' := Lib.hid hd'
            obtain ⟨W5, hW5⟩ : ∃ W, W = wr.alloc (.cells #[.int .i64 s.o.kind, .int .i64 s.o.book, .int .i64 s.o.units, .int .i64 s.o.cust, .int .i64 s.o.amount] 30) := ⟨_, rfl⟩
            have b5 : Below wr.heap.size wr W5 := by rw [hW5]; exact (Below.refl _ _).alloc (Nat.le_refl _) _
            have h5 : Hid (W5.heap[wr.heap.size]? = some (.cells #[.int .i64 s.o.kind, .int .i64 s.o.book, .int .i64 s.o.units, .int .i64 s.o.cust, .int .i64 s.o.amount] 30 (0, 0))) := by rw [hW5]; exact heap_alloc_new _ _
            have O5 := O.add b5
            have q1 := (World.cell?_of_block (a := ad.add (j * 9)) (w := wr) (w' := W5) (b5.block _ (lt_of_cell c0))).trans c0
            go_upto_region 17 with fail
            rw [uz, ← hnw]
            clear uz
            replace hnw := Lib.hid hnw
            by_cases hk : s.kind = 1
            · have gk : (s.kind == 1) = true := by simpa using hk
              have SW := Lib.hid (ow_sweep O5 nw2)
              replace hW5 := Lib.hid hW5
              clear O O5 b5 h5
              go_upto_region 18 with fail
              rw [← hW5.out]
              go_wp2_with fail
              refine SW.out.mono ?_
              rintro e w6 ⟨v, rfl, hr, O6, _⟩
              have nx : Hid (GoAt2 w q b (.int .i64 nw2) (.int .i64 ((j + 1 : Nat) : Int)) w6) := ⟨j + 1, nw2, _, rfl, rfl, by omega, m0, m1, O6.less (fun g hg => .inl hg), swF_gone hg⟩
              clear SW hr O6
              go_wp2
              exact ⟨nx.out, by simp [intOf]; omega⟩
            · have gk : (s.kind == 1) = false := by simpa using hk
              obtain ⟨g1, g2⟩ := gone_do (cap := 20) (over := 3) (o := s.o) hg tn
              have D := Lib.hid (ow_do O5 s.o nw2)
              have p0 : W5.cell? ⟨wr.heap.size, 0, none⟩ = some (.int .i64 s.o.kind) := one_at (i := 0) h5.out
              have p1 : W5.cell? ⟨wr.heap.size, 1, none⟩ = some (.int .i64 s.o.book) := one_at (i := 1) h5.out
              have p2 : W5.cell? ⟨wr.heap.size, 2, none⟩ = some (.int .i64 s.o.units) := one_at (i := 2) h5.out
              have p3 : W5.cell? ⟨wr.heap.size, 3, none⟩ = some (.int .i64 s.o.cust) := one_at (i := 3) h5.out
              have p4 : W5.cell? ⟨wr.heap.size, 4, none⟩ = some (.int .i64 s.o.amount) := one_at (i := 4) h5.out
              unfold opv at D
              obtain ⟨r, hr⟩ : ∃ r, r = (dstp 20 3 f s.o nw2).2 := ⟨_, rfl⟩
              rw [← hr] at D g2
              have hsz : Hid (wr.heap.size < W5.heap.size) := lt_some h5.out
              replace g1 := Lib.hid g1
              replace hW5 := Lib.hid hW5
              clear O O5 b5 hr hg
              go_upto_region 18 with fail
              rw [← hW5.out]
              go_wp2_with fail
              refine D.out.mono ?_
              rintro e w6 ⟨rfl, O6, K6⟩
              have h6 := (K6.2 wr.heap.size (.inr ⟨Nat.le_refl _, hsz.out⟩)).trans h5.out
              have v0 : w6.cell? ⟨wr.heap.size, 0, none⟩ = some (.int .i64 s.o.kind) := one_at (i := 0) h6
              have v1 : w6.cell? ⟨wr.heap.size, 1, none⟩ = some (.int .i64 s.o.book) := one_at (i := 1) h6
              have v2 : w6.cell? ⟨wr.heap.size, 2, none⟩ = some (.int .i64 s.o.units) := one_at (i := 2) h6
              have v3 : w6.cell? ⟨wr.heap.size, 3, none⟩ = some (.int .i64 s.o.cust) := one_at (i := 3) h6
              have v4 : w6.cell? ⟨wr.heap.size, 4, none⟩ = some (.int .i64 s.o.amount) := one_at (i := 4) h6
              have O7 := Lib.hid (O6.less (X' := fun g => g < w.heap.size) fun g hg => .inl hg)
              have EQ := fun w => eq_ent_run w 3 0 0 3 0 0
              rw [decide_eq_true (rfl : (⟨3, 0, 0⟩ : E) = ⟨3, 0, 0⟩)] at EQ
              clear D O6 K6 h6 h5 p0 p1 p2 p3 p4 c0 c1 c2 c3 c4 c5 c6 q1
              have MO := Lib.hid (refmayop_any w6 s.o)
              have key : ∀ w8, Below w6.heap.size w6 w8 → Ow w.heap.size (fun g => g < w.heap.size) w w8 q 20 3 (dstp 20 3 f s.o nw2).1 ∧ Calls Try.prog 17 #[.pointer (some ⟨q, 0, none⟩), .int .i64 b] w8 fun e w' => e = .returned (.agg #[.int .i64 3, .int .i64 0, .int .i64 0, .int .i64 0, .int .i64 0]) ∧ Below w8.heap.size w8 w' := fun w8 hb8 => by
                have O8 := O7.out.below hb8
                have := ow_entry O8 b ⟨by omega, by omega⟩
                rw [g1.out] at this
                exact ⟨O8, this⟩
              replace key := Lib.hid key
              by_cases hbk : s.o.book = b
              · have gb : (s.o.book == b) = true := by simpa using hbk
                have g3 := g2 hbk
                clear hbk
                cases hk3 : (s.o.kind == 3) with
                | true =>
                  rw [hk3, Bool.true_and] at g3
                  obtain ⟨mo, hmo⟩ : ∃ mo, mo = mayOp s.o := ⟨_, rfl⟩
                  rw [← hmo] at g3 MO
                  clear g2 hmo
                  cases mo
                  all_goals
                    go_wp2_with fail
                    refine MO.out.mono ?_
                    rintro e w8 ⟨rfl, b8⟩
                    obtain ⟨O8, EN⟩ := key.out w8 b8
                    replace O8 := Lib.hid O8
                    clear MO b8 key
                    go_wp2_with fail
                    refine EN.mono ?_
                    rintro e w9 ⟨rfl, b9⟩
                    have nx : Hid (GoAt2 w q b (.int .i64 nw2) (.int .i64 ((j + 1 : Nat) : Int)) w9) := ⟨j + 1, nw2, _, rfl, rfl, by omega, m0, m1, O8.out.below b9, g1.out⟩
                    clear EN b9
                    go_wp2
                    exact ⟨nx.out, by simp [intOf]; omega⟩
                | false =>
                  rw [hk3, Bool.false_and] at g3
                  obtain ⟨O8, EN⟩ := key.out w6 (Below.refl _ _)
                  replace O8 := Lib.hid O8
                  clear g2 MO key
                  go_wp2_with fail
                  refine EN.mono ?_
                  rintro e w9 ⟨rfl, b9⟩
                  have nx : Hid (GoAt2 w q b (.int .i64 nw2) (.int .i64 ((j + 1 : Nat) : Int)) w9) := ⟨j + 1, nw2, _, rfl, rfl, by omega, m0, m1, O8.out.below b9, g1.out⟩
                  clear EN b9
                  go_wp2
                  exact ⟨nx.out, by simp [intOf]; omega⟩
              · have gb : (s.o.book == b) = false := by simpa using hbk
                obtain ⟨O8, EN⟩ := key.out w6 (Below.refl _ _)
                replace O8 := Lib.hid O8
                clear g2 MO key
                go_wp2_with fail
                refine EN.mono ?_
                rintro e w9 ⟨rfl, b9⟩
                have nx : Hid (GoAt2 w q b (.int .i64 nw2) (.int .i64 ((j + 1 : Nat) : Int)) w9) := ⟨j + 1, nw2, _, rfl, rfl, by omega, m0, m1, O8.out.below b9, g1.out⟩
                clear EN b9
                go_wp2
                exact ⟨nx.out, by simp [intOf]; omega⟩
          · have i1 : ¬ (j : Int) < 40 := by omega
            replace O := Lib.hid O
            go_wp2_with fail
            refine TA.out.mono ?_
            rintro e w8 ⟨rfl, b8⟩
            have E := Lib.hid ((O.out.below b8).be)
            clear TA b8 O
            go_wp2
            go_ret
            exact ⟨rfl, E.out⟩
        · have i1 : ¬ (j : Int) < (n2 : Int) := by omega
          replace O := Lib.hid O
          go_wp2_with fail
          refine TA.out.mono ?_
          rintro e w8 ⟨rfl, b8⟩
          have E := Lib.hid ((O.out.below b8).be)
          clear TA b8 O
          go_wp2
          go_ret
          exact ⟨rfl, E.out⟩
theorem walkd (v0 : Value) (a0 : List Stp) {W : World} (w0 : Osrc W v0 a0) (a1 : Int) (_w1 : (Lit.int .i64 a1).wf = true) (v2 : Value) (a2 : List Stp) (w2 : Osrc W v2 a2) (W' : World) (hW : W' = W) :
    Calls Try.prog 6 #[v0, .int .i64 a1, v2] W' fun e w' => e = .returned (.bool true) ∧ Below W'.heap.size W' w' := by
  subst hW
  obtain ⟨A, n, c, rfl, h1, h2, R⟩ := w0
  obtain ⟨A2, n2, c2, rfl, k1, k2, R2⟩ := w2
  exact walk W' A n c a0 R a1 A2 n2 c2 a2 R2 (by omega) (by omega)


/-! The row: every input. -/
set_option linter.unusedVariables false
set_option maxRecDepth 100000 in
theorem lifted (os : Os) (started : os.Started) (H : Type) (enc : TypeId × Value → H) :
    ReturnsInHanded {} Try.checked os 6 .any (Rows.stockGoneSpec.pre6 enc Try.prog Try.f6 Rows.stockGoneRow.domain false) (Rows.stockGoneSpec.post enc Try.prog Try.f6 false true false false) := by
  refine returnsInHanded_of_change (C := Try.checked) own started (by kernel_rfl) Try.func6
    (ChangeSpec.witness6 (enc := enc) (C := Try.checked) false ⟨#[], #[.slice none 0 0, .int .i64 0, .slice none 0 0], []⟩ 8 (by kernel_rfl) (by kernel_rfl) (by kernel_rfl) (by kernel_rfl)) ?_
  intro W base args ds gs before hval0 hW _ _
  have hval : ∀ (j : Nat) t v, Try.f6.params[j]? = some t → args[j]? = some v → Value.okWide Try.prog W .any base t v := hval0
  have hW' := hW
  obtain ⟨p, q, hA0, hV, rfl, hfz, hnd⟩ := hW
  have hA : DataW.TrodAll enc Try.prog W 0 (fun _ => true) true Try.f6.params.toList args.toList ds p := hA0
  rw [Try.params6] at hA hval
  obtain ⟨v0, vs0, d0, ds0, p0, q0, hargs, rfl, rfl, h0, r0⟩ := trodAll_cons hA
  obtain ⟨v1, vs1, d1, ds1, p1, q1, rfl, rfl, rfl, h1, r1⟩ := trodAll_cons r0
  obtain ⟨v2, vs2, d2, ds2, p2, q2, rfl, rfl, rfl, h2, r2⟩ := trodAll_cons r1
  obtain ⟨rfl, rfl, rfl⟩ := trodAll_nil r2
  obtain rfl : args = #[v0, v1, v2] := by cases args; simp_all
  obtain ⟨rfl, rfl⟩ := trodVars_none hV
  obtain ⟨a0, w0⟩ := view_sops (hval 0 22 v0 rfl rfl) h0
  obtain ⟨a1, rfl, rfl, rfl, w1⟩ := open_int Try.underlying3 (hval 1 3 v1 rfl rfl) h1
  obtain ⟨a2, w2⟩ := view_sops (hval 2 22 v2 rfl rfl) h2
  clear hA0 hval0
  simp only [List.append_nil] at hW'
  refine (walkd v0 a0 w0 a1 w1 v2 a2 w2 W rfl).mono fun e W' ⟨he, hb⟩ => ?_
  subst he
  exact ⟨_, rfl, post_below (pa := p0 ++ ([] ++ (p2 ++ []))) (pv := []) hW' (fun _ _ _ => (trodAll_cons_mk (shut_bool Try.underlying4 _) trodAll_mk0)) (fun sp hsp => (trodAll_cons_mk (Trod_stays laidOut (by kernel_rfl) (of_decide_eq_true (by kernel_rfl)) h0 (fun x hx => hb.same (hW'.lt x (by simp [hx]))) (fun x hx => hsp x (by simp [hx]))) (trodAll_cons_mk (shut_int Try.underlying3 w1) (trodAll_cons_mk (Trod_stays laidOut (by kernel_rfl) (of_decide_eq_true (by kernel_rfl)) h2 (fun x hx => hb.same (hW'.lt x (by simp [hx]))) (fun x hx => hsp x (by simp [hx]))) trodAll_mk0)))) (fun _ _ => rfl) (by simp)
    hb (ok_one (by kernel_rfl) rfl (okWide_bool_mk Try.underlying4 _))⟩

theorem proved : Rows.StockGoneSaid :=
  OpenClaim.holds_of_wide 6 Try.f6 rfl rfl rfl rfl rfl rfl rfl ⟨rfl, rfl, rfl, rfl, rfl⟩ rfl rfl rfl rfl rfl (by kernel_rfl) Try.func6 (by kernel_rfl)
    (of_decide_eq_true (by kernel_rfl)) (by unfold Func.isWrapper; first | (rw [if_pos (by decide +kernel)]; kernel_rfl) | (rw [if_neg (by decide +kernel)]; exact ⟨rfl, rfl⟩))
    (fun os started H enc _ => lifted os started H enc)
#print axioms proved

end Go.Proofs.Ytnjcdlenpcpjaaa.stockGone
