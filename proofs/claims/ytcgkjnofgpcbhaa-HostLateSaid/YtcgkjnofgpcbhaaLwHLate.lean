/- Proved: a release that comes ahead of a hold, or of a confirm, leaves nothing held or confirmed, whatever comes behind it (HostLate), for any order of operations, others between, any units. -/
import Derived.Test.YtcgkjnofgpcbhaaHoT
import Derived.Test.YtcgkjnofgpcbhaaHoP
import Derived.Test.YtcgkjnofgpcbhaaStQ
import Derived.JoinedRecord
import Derived.HandedShaped
namespace Go.Proofs.Ytcgkjnofgpcbhaa.hostLate
set_option maxRecDepth 100000
open Go.ChangeShapes Go.WideShapes Go.ChangeAt Go.WideMaps Go.WideElems Go.RowKit
open Go.Sort (grow)
open Go.Proofs.Ytcgkjnofgpcbhaa.Pk (Rb adr_block one_at one_free one_set lt_some grown_set grown_trans below_grown grown_refl u8s own_form)
open Go.Proofs.Ytcgkjnofgpcbhaa.St (Stp Ops OpAt Osrc view_sops view_nums view_stock Rr Src usm usm_lt usm_slot own laidOut bnd post_below E eg ez cell eq_ent_run grq Kx dstp stp tick tick_of tick_iff swF swL RowI ivs ByTo upd upd_same upd_other gone_do)
open Go.Proofs.Ytcgkjnofgpcbhaa.Ho
open Go.Proofs.Ytcgkjnofgpcbhaa.Wt (Opn mayOp)


def sl15 (u : Int) : Array Value := #[.int .i64 1, .int .i64 150, .int .i64 u, .int .i64 0, .int .i64 0, .int .i64 2, .int .i64 150, .int .i64 0, .int .i64 0, .int .i64 0, .int .i64 3, .int .i64 150, .int .i64 0, .int .i64 0, .int .i64 0]
/-- One of a booking's operations lies in a box; the host is kept out of it. -/
def OpIs (w wr : World) (q : Nat) (u : Int) (s : S) (wx : World) : Prop := ∃ o : Opn, (o = ⟨1, 150, u, 0, 0⟩ ∨ o = ⟨2, 150, 0, 0, 0⟩ ∨ o = ⟨3, 150, 0, 0, 0⟩) ∧ Bx wx (wr.heap.size + 1) o ∧ Ow w.heap.size (grq (fun g => g < w.heap.size) wr wx) w wx q 2000 0 s ∧ grq (fun g => g < w.heap.size) wr wx (wr.heap.size + 1)
def LtAt (w : World) (q : Nat) (vn vr vi : Value) (wr : World) : Prop := ∃ (j : Nat) (nw : Int) (rel : Bool) (s : S), vi = .int .i64 j ∧ vn = .int .i64 nw ∧ vr = .bool rel ∧ j ≤ 20 ∧ 0 ≤ nw ∧ nw ≤ 7 * j ∧ Ow w.heap.size (fun g => g < w.heap.size) w wr q 2000 0 s ∧ J s ∧ (rel = true → s.f 150 = eg)
set_option maxHeartbeats 12800000 in
theorem walk (w : World) (A : Option Addr) (n c : Nat) (l : List Stp) (R : Ops w w.heap.size A n l) (A2 : Option Addr) (n2 c2 : Nat) (l2 : List Int) (R2 : Rr w (fun g => g < w.heap.size) A2 n2 l2) (units : Int) (hn : n ≤ 9223372036854775807) (hn2 : n2 ≤ 9223372036854775807) :
    Calls Try.prog 4 #[.slice A n c, .slice A2 n2 c2, .int .i64 units] w fun e w' => e = .returned (.bool true) ∧ Below w.heap.size w w' := by
  have N := Lib.hid (ow_new w 2000 0 (by decide))
  have TO := Lib.hid htold_any
  have EQ := eq_ent_run
  replace R := Lib.hid R
  replace R2 := Lib.hid R2
  obtain ⟨u0, hu0⟩ : ∃ k, k = usm units 1000 := ⟨_, rfl⟩
  have u1 : u0 < 1000 := by rw [hu0]; exact usm_lt _ (by omega)
  have uz : wrap64 ((IntKind.u64.wrap units).tmod 1000) = (u0 : Int) := by rw [hu0]; exact usm_slot units (n := 1000) (by omega) (by omega)
  obtain ⟨u, hu⟩ : ∃ u : Int, u = 1 + (u0 : Int) := ⟨_, rfl⟩
  replace hu0 := Lib.hid hu0
  go_enter Try.func4, Try.ntmps4
  go_wp2_with fail
  refine N.out.mono ?_
  rintro e w1 ⟨q, rfl, O1⟩
  have st : Hid (LtAt w q (.int .i64 0) (.bool false) (.int .i64 0) w1) := ⟨0, 0, false, sz, rfl, rfl, rfl, by omega, by omega, by omega, O1, j_z, fun h => absurd h (by decide)⟩
  clear N O1
  go_upto_region 5 with fail
  rw [← hu]
  clear uz
  replace hu := Lib.hid hu
  go_wp2_with fail
  go_loopw [10, 11, 12] (fun vn vr vi wr => LtAt w q vn vr vi wr) (fun _ _ i _ => 20 - (intOf i).toNat)
  case atStart => exact st.out
  case round =>
    clear st
    obtain ⟨j, nw, rel, s, rfl, rfl, rfl, hj, n0, n1, O, hJ, hr⟩ := hrel
    by_cases hjn : j < n2
    · by_cases h20 : j < 20
      · obtain ⟨z, hz⟩ : ∃ z, l2[j]? = some z := ⟨_, List.getElem?_eq_getElem (by have := R2.out.len; omega)⟩
        obtain ⟨ad2, rfl, -, -⟩ := R2.out.at_ (by omega)
        have cz : ∀ x, (wr.alloc x).cell? (ad2.add j) = some (.int .i64 z) := fun x => (R2.out.below (O.below ((Below.refl _ _).alloc (Nat.le_refl _) x)).be).cell hz
        have i1 : (j : Int) < 20 := by omega
        obtain ⟨k, hk⟩ : ∃ k, k = usm z 3 := ⟨_, rfl⟩
        have k3 : k < 3 := by rw [hk]; exact usm_lt _ (by omega)
        have uz4 : wrap64 ((IntKind.u64.wrap z).tmod 3) = (k : Int) := by rw [hk]; exact usm_slot z (n := 3) (by omega) (by omega)
        replace hz := Lib.hid hz
        clear hk
        have OB : Hid (∀ W, Below wr.heap.size wr W → Ow w.heap.size (grq (fun g => g < w.heap.size) wr W) w W q 2000 0 s) := fun W h => O.beside h
        have BO : Hid (Below w.heap.size w wr) := O.be
        clear O
        go_upto_region 10 with fail
        go_cut [13] from 42 to 55 (fun s13 wx => s13 = .pointer (some ⟨wr.heap.size + 1, 0, none⟩) ∧ OpIs w wr q u s wx)
        case first =>
          rcases (by omega : k = 0 ∨ k = 1 ∨ k = 2) with rfl | rfl | rfl
          · have uz3 : wrap64 ((IntKind.u64.wrap z).tmod 3) = 0 := by rw [uz4]; rfl
            have F : Hid (OpIs w wr q u s ((wr.alloc (.cells (sl15 u) 31)).alloc (.cells #[.int .i64 1, .int .i64 150, .int .i64 u, .int .i64 0, .int .i64 0] 31))) := by
              have := heap_alloc_new (wr.alloc (.cells (sl15 u) 31)) (.cells #[.int .i64 1, .int .i64 150, .int .i64 u, .int .i64 0, .int .i64 0] 31)
              have hb : Below wr.heap.size wr ((wr.alloc (.cells (sl15 u) 31)).alloc (.cells #[.int .i64 1, .int .i64 150, .int .i64 u, .int .i64 0, .int .i64 0] 31)) := ((Below.refl _ _).alloc (Nat.le_refl _) _).alloc (by simp) _
              exact ⟨⟨1, 150, u, 0, 0⟩, .inl rfl, by unfold Bx; simpa using this, OB.out _ hb, .inr ⟨by omega, by simp⟩⟩
            unfold sl15 at F
            clear uz4 OB
            go_wp2
            go_meet
            case rel => exact ⟨rfl, F.out⟩
          · have uz3 : wrap64 ((IntKind.u64.wrap z).tmod 3) = 1 := by rw [uz4]; rfl
            have F : Hid (OpIs w wr q u s ((wr.alloc (.cells (sl15 u) 31)).alloc (.cells #[.int .i64 2, .int .i64 150, .int .i64 0, .int .i64 0, .int .i64 0] 31))) := by
              have := heap_alloc_new (wr.alloc (.cells (sl15 u) 31)) (.cells #[.int .i64 2, .int .i64 150, .int .i64 0, .int .i64 0, .int .i64 0] 31)
              have hb : Below wr.heap.size wr ((wr.alloc (.cells (sl15 u) 31)).alloc (.cells #[.int .i64 2, .int .i64 150, .int .i64 0, .int .i64 0, .int .i64 0] 31)) := ((Below.refl _ _).alloc (Nat.le_refl _) _).alloc (by simp) _
              exact ⟨⟨2, 150, 0, 0, 0⟩, .inr (.inl rfl), by unfold Bx; simpa using this, OB.out _ hb, .inr ⟨by omega, by simp⟩⟩
            unfold sl15 at F
            clear uz4 OB
            go_wp2
            go_meet
            case rel => exact ⟨rfl, F.out⟩
          · have uz3 : wrap64 ((IntKind.u64.wrap z).tmod 3) = 2 := by rw [uz4]; rfl
            have F : Hid (OpIs w wr q u s ((wr.alloc (.cells (sl15 u) 31)).alloc (.cells #[.int .i64 3, .int .i64 150, .int .i64 0, .int .i64 0, .int .i64 0] 31))) := by
              have := heap_alloc_new (wr.alloc (.cells (sl15 u) 31)) (.cells #[.int .i64 3, .int .i64 150, .int .i64 0, .int .i64 0, .int .i64 0] 31)
              have hb : Below wr.heap.size wr ((wr.alloc (.cells (sl15 u) 31)).alloc (.cells #[.int .i64 3, .int .i64 150, .int .i64 0, .int .i64 0, .int .i64 0] 31)) := ((Below.refl _ _).alloc (Nat.le_refl _) _).alloc (by simp) _
              exact ⟨⟨3, 150, 0, 0, 0⟩, .inr (.inr rfl), by unfold Bx; simpa using this, OB.out _ hb, .inr ⟨by omega, by simp⟩⟩
            unfold sl15 at F
            clear uz4 OB
            go_wp2
            go_meet
            case rel => exact ⟨rfl, F.out⟩
        case rest =>
          obtain ⟨rfl, o, ho, BX, OX, xg⟩ := hcut
          have AS := Lib.hid (ow_ask OX o nw)
          obtain ⟨z0, z1, z2, z3, z4⟩ := BX.cells
          obtain ⟨b3, hb3⟩ : ∃ b, b = (o.kind == 3) := ⟨_, rfl⟩
          have HR : Hid (J (asked 2000 0 s o nw) ∧ ((rel || b3) = true → (asked 2000 0 s o nw).f 150 = eg)) := ⟨j_ask hJ, fun hh => by
            rw [Bool.or_eq_true] at hh
            rcases hh with hh | hh
            · exact ask_gone (hr hh)
            · rcases ho with rfl | rfl | rfl
              · rw [hh] at hb3; exact absurd hb3 (by simp)
              · rw [hh] at hb3; exact absurd hb3 (by simp)
              · exact ask_rel hJ (rel_mayh n0 (by omega)) rfl rfl⟩
          replace hb3 := hb3.symm
          replace BX := Lib.hid BX
          replace xg := Lib.hid xg
          generalize asked 2000 0 s o nw = s2 at *
          generalize ans 2000 0 s o nw = a' at *
          generalize isNew s o nw = b' at *
          clear hr hJ cz uz4 OB ho OX
          go_wp2_with fail
          refine AS.out.mono ?_
          rintro e w5 ⟨rfl, O5, K5⟩
          have B5 := BX.out.kx K5 xg.out
          clear z0 z1 z2 z3 z4 AS K5 xg BX
          obtain ⟨z0, z1, z2, z3, z4⟩ := B5.cells
          replace O5 := Lib.hid (O5.less (X' := fun g => g < w.heap.size) fun g hg => .inl hg)
          clear B5
          go_upto_region 12 with fail
          go_cut [11] from 60 to 65 (fun s11 wx => s11 = .bool (rel || b3) ∧ wx = w5)
          case first =>
            cases rel
            all_goals
              go_wp2
              go_meet
              case rel => exact ⟨by first | rfl | (rw [hb3]; rfl), rfl⟩
          case rest =>
          obtain ⟨rfl, rfl⟩ := hcut
          clear z0 z1 z2 z3 z4 hb3
          generalize (rel || b3) = rel2 at *
          obtain ⟨bb, hbb⟩ : ∃ b : Bool, b = (decide (j < n) && decide (¬ ∃ x, l[j]? = some x ∧ x.o.book = 150)) := ⟨_, rfl⟩
          obtain ⟨w6, e6⟩ : ∃ x, x = wc := ⟨_, rfl⟩
          subst e6
          go_upto_region 13 with fail
          go_cut [78] from 66 to 78 (fun s78 wx => s78 = .bool bb ∧ wx = w6)
          case first =>
            by_cases hl : j < n
            · obtain ⟨sx, hs⟩ : ∃ x, l[j]? = some x := ⟨_, List.getElem?_eq_getElem (by have := R.out.len; omega)⟩
              obtain ⟨ad, rfl, hab, hat⟩ := R.out.at_ (by omega)
              obtain ⟨-, c1, c2, c3, c4, c5, -, -, -⟩ := (hat j sx hs).same (O5.out.be.block _ hab)
              replace hat := Lib.hid hat
              by_cases hb : sx.o.book = 150
              · have F : Hid (bb = false) := by unfold Hid; rw [hbb, decide_eq_false (p := ¬ ∃ x, l[j]? = some x ∧ x.o.book = 150) (fun h => h ⟨sx, hs, hb⟩), Bool.and_false]
                have hb1 : (sx.o.book == 150) = true := beq_iff_eq.2 hb
                replace hs := Lib.hid hs
                clear hbb O5
                go_wp2
                go_meet
                case rel => exact ⟨by rw [F.out], rfl⟩
              · have F : Hid (bb = true) := by
                  unfold Hid
                  rw [hbb, decide_eq_true hl, decide_eq_true (p := ¬ ∃ x, l[j]? = some x ∧ x.o.book = 150) (fun ⟨x, h1, h2⟩ => hb (by rw [hs] at h1; injection h1 with h1; rw [h1]; exact h2))]; rfl
                have hb1 : (sx.o.book == 150) = false := beq_eq_false_iff_ne.2 hb
                replace hs := Lib.hid hs
                clear hbb O5
                go_wp2
                go_meet
                case rel => exact ⟨by rw [F.out]; simp only [bne, hb1]; rfl, rfl⟩
            · have F : Hid (bb = false) := by unfold Hid; rw [hbb, decide_eq_false hl]; rfl
              clear hbb O5
              go_wp2
              go_meet
              case rel => exact ⟨by rw [F.out], rfl⟩
          case rest =>
          obtain ⟨rfl, rfl⟩ := hcut
          go_upto_if 78 with fail
          go_cut [11] from 79 to 86 (fun s11 wx => s11 = .bool rel2 ∧ ∃ s' : S, Ow w.heap.size (fun g => g < w.heap.size) w wx q 2000 0 s' ∧ J s' ∧ (rel2 = true → s'.f 150 = eg))
          case first =>
            cases bb with
            | false =>
              clear hbb
              go_wp2
              go_meet
              case rel => exact ⟨rfl, s2, O5.out, HR.out.1, HR.out.2⟩
            | true =>
              have hl : j < n := by
                have := hbb.symm
                rw [Bool.and_eq_true, decide_eq_true_iff] at this
                exact this.1
              obtain ⟨sx, hs⟩ : ∃ x, l[j]? = some x := ⟨_, List.getElem?_eq_getElem (by have := R.out.len; omega)⟩
              obtain ⟨ad, rfl, hab, hat⟩ := R.out.at_ (by omega)
              obtain ⟨-, c1, c2, c3, c4, c5, -, -, -⟩ := (hat j sx hs).same (O5.out.be.block _ hab)
              replace hat := Lib.hid hat
              replace hs := Lib.hid hs
              have AS := Lib.hid (ow_ask O5.out sx.o nw)
              have HR2 : Hid (J (asked 2000 0 s2 sx.o nw) ∧ (rel2 = true → (asked 2000 0 s2 sx.o nw).f 150 = eg)) := ⟨j_ask HR.out.1, fun h => ask_gone (HR.out.2 h)⟩
              generalize asked 2000 0 s2 sx.o nw = s' at *
              generalize ans 2000 0 s2 sx.o nw = a2 at *
              generalize isNew s2 sx.o nw = b2 at *
              clear O5 hbb HR
              go_wp2_with fail
              refine AS.out.mono ?_
              rintro e w6 ⟨rfl, O6, -⟩
              replace O6 := Lib.hid O6
              clear AS
              go_wp2
              go_meet
              case rel => exact ⟨rfl, s', O6.out, HR2.out.1, HR2.out.2⟩
          case rest =>
            clear O5 HR hbb
            obtain ⟨rfl, s3, O3, J3, r3⟩ := hcut
            obtain ⟨nw2, hnw⟩ : ∃ x : Int, x = nw + 7 := ⟨_, rfl⟩
            have m0 : 0 ≤ nw2 := by omega
            have m1 : nw2 ≤ 7 * ((j + 1 : Nat) : Int) := by omega
            have wn : IntKind.i64.wrap (nw + 7) = nw2 := by rw [hnw, IntKind.wrap_i64]; omega
            have SK := Lib.hid (ow_stock O3)
            replace O3 := Lib.hid O3
            clear hnw n0 n1
            go_wp2_with fail
            refine SK.out.mono ?_
            rintro e w6 ⟨q6, rfl, S6⟩
            have O6 : Hid (Ow w.heap.size (fun g => g < w.heap.size) w w6 q 2000 0 s3) := O3.out.below S6.be
            have EN := St.ow_entry S6 150 ⟨by decide, by decide⟩
            clear SK S6 O3 wn
            have nx : Hid (∀ w7, Below w6.heap.size w6 w7 → LtAt w q (.int .i64 nw2) (.bool rel2) (.int .i64 ((j + 1 : Nat) : Int)) w7) := fun w7 hb => ⟨j + 1, nw2, rel2, s3, rfl, rfl, rfl, by omega, m0, m1, O6.out.below hb, J3, r3⟩
            cases rel2 with
            | false =>
              obtain ⟨⟨ea, eu, et⟩, hE⟩ : ∃ E, E = s3.f 150 := ⟨_, rfl⟩
              rw [← hE] at EN
              unfold cell at EN
              replace EN := Lib.hid EN
              clear r3 hE J3 O6
              go_wp2_with fail
              refine EN.out.mono ?_
              rintro e w7 ⟨rfl, h7⟩
              have N7 := Lib.hid (nx.out _ (h7.alloc h7.size (.cells #[.int .i64 ea, .int .i64 eu, .int .i64 et, .int .i64 0, .int .i64 0] 46)))
              clear EN h7 nx
              go_wp2
              exact ⟨N7.out, by simp [intOf]; omega⟩
            | true =>
              rw [r3 rfl] at EN
              unfold cell eg at EN
              simp only at EN
              have EQ3 := fun w => EQ w 3 0 0 3 0 0
              simp only [decide_true] at EQ3
              replace EN := Lib.hid EN
              clear r3 J3 O6
              go_wp2_with fail
              refine EN.out.mono ?_
              rintro e w7 ⟨rfl, h7⟩
              have N7 := Lib.hid (nx.out _ (h7.alloc h7.size (.cells #[.int .i64 3, .int .i64 0, .int .i64 0, .int .i64 0, .int .i64 0] 46)))
              clear EN h7 nx
              go_wp2
              exact ⟨N7.out, by simp [intOf]; omega⟩
      · have i1 : ¬ (j : Int) < 20 := by omega
        have TA := Lib.hid (TO.out wr)
        have BE := Lib.hid O.be
        have BS := Lib.hid O.bs
        clear O hJ hr hj n1
        go_wp2_with fail
        refine TA.out.mono ?_
        rintro e w5 ⟨rfl, b5⟩
        have E := Lib.hid (BE.out.trans (b5.mono BS.out))
        clear TA b5
        go_wp2
        go_ret
        exact ⟨rfl, E.out⟩
    · have TA := Lib.hid (TO.out wr)
      have BE := Lib.hid O.be
      have BS := Lib.hid O.bs
      clear O hJ hr n1
      go_wp2_with fail
      refine TA.out.mono ?_
      rintro e w5 ⟨rfl, b5⟩
      have E := Lib.hid (BE.out.trans (b5.mono BS.out))
      clear TA b5
      go_wp2
      go_ret
      exact ⟨rfl, E.out⟩
theorem walkd (v0 : Value) (a0 : List Stp) {W : World} (w0 : Osrc W v0 a0) (v1 : Value) (a1 : List Int) (w1 : Src W v1 a1) (a2 : Int) (_w2 : (Lit.int .i64 a2).wf = true) (W' : World) (hW : W' = W) :
    Calls Try.prog 4 #[v0, v1, .int .i64 a2] W' fun e w' => e = .returned (.bool true) ∧ Below W'.heap.size W' w' := by
  subst hW
  obtain ⟨A, n, c, rfl, h1, h2, R⟩ := w0
  obtain ⟨A2, n2, c2, rfl, k1, k2, R2, -⟩ := w1
  exact walk W' A n c a0 R A2 n2 c2 a1 R2 a2 (by omega) (by omega)


/-! The row: every input. -/
set_option linter.unusedVariables false
set_option maxRecDepth 100000 in
theorem lifted (os : Os) (started : os.Started) (H : Type) (enc : TypeId × Value → H) :
    ReturnsInHanded {} Try.checked os 4 .any (Rows.hostLateSpec.pre6 enc Try.prog Try.f4 Rows.hostLateRow.domain false) (Rows.hostLateSpec.post enc Try.prog Try.f4 false true false false) := by
  refine returnsInHanded_of_change (C := Try.checked) own started (by kernel_rfl) Try.func4
    (ChangeSpec.witness6 (enc := enc) (C := Try.checked) false ⟨#[], #[.slice none 0 0, .slice none 0 0, .int .i64 0], []⟩ 8 (by kernel_rfl) (by kernel_rfl) (by kernel_rfl) (by kernel_rfl)) ?_
  intro W base args ds gs before hval0 hW _ _
  have hval : ∀ (j : Nat) t v, Try.f4.params[j]? = some t → args[j]? = some v → Value.okWide Try.prog W .any base t v := hval0
  have hW' := hW
  obtain ⟨p, q, hA0, hV, rfl, hfz, hnd⟩ := hW
  have hA : DataW.TrodAll enc Try.prog W 0 (fun _ => true) true Try.f4.params.toList args.toList ds p := hA0
  rw [Try.params4] at hA hval
  obtain ⟨v0, vs0, d0, ds0, p0, q0, hargs, rfl, rfl, h0, r0⟩ := trodAll_cons hA
  obtain ⟨v1, vs1, d1, ds1, p1, q1, rfl, rfl, rfl, h1, r1⟩ := trodAll_cons r0
  obtain ⟨v2, vs2, d2, ds2, p2, q2, rfl, rfl, rfl, h2, r2⟩ := trodAll_cons r1
  obtain ⟨rfl, rfl, rfl⟩ := trodAll_nil r2
  obtain rfl : args = #[v0, v1, v2] := by cases args; simp_all
  obtain ⟨rfl, rfl⟩ := trodVars_none hV
  obtain ⟨a0, w0⟩ := view_sops (hval 0 22 v0 rfl rfl) h0
  obtain ⟨a1, w1⟩ := view_nums (hval 1 23 v1 rfl rfl) h1
  obtain ⟨a2, rfl, rfl, rfl, w2⟩ := open_int Try.underlying3 (hval 2 3 v2 rfl rfl) h2
  clear hA0 hval0
  simp only [List.append_nil] at hW'
  refine (walkd v0 a0 w0 v1 a1 w1 a2 w2 W rfl).mono fun e W' ⟨he, hb⟩ => ?_
  subst he
  exact ⟨_, rfl, post_below (pa := p0 ++ (p1 ++ ([] ++ []))) (pv := []) hW' (fun _ _ _ => (trodAll_cons_mk (shut_bool Try.underlying4 _) trodAll_mk0)) (fun sp hsp => (trodAll_cons_mk (Trod_stays laidOut (by kernel_rfl) (of_decide_eq_true (by kernel_rfl)) h0 (fun x hx => hb.same (hW'.lt x (by simp [hx]))) (fun x hx => hsp x (by simp [hx]))) (trodAll_cons_mk (Trod_stays laidOut (by kernel_rfl) (of_decide_eq_true (by kernel_rfl)) h1 (fun x hx => hb.same (hW'.lt x (by simp [hx]))) (fun x hx => hsp x (by simp [hx]))) (trodAll_cons_mk (shut_int Try.underlying3 w2) trodAll_mk0)))) (fun _ _ => rfl) (by simp)
    hb (ok_one (by kernel_rfl) rfl (okWide_bool_mk Try.underlying4 _))⟩

theorem proved : Rows.HostLateSaid :=
  OpenClaim.holds_of_wide 4 Try.f4 rfl rfl rfl rfl rfl rfl rfl ⟨rfl, rfl, rfl, rfl, rfl⟩ rfl rfl rfl rfl rfl (by kernel_rfl) Try.func4 (by kernel_rfl)
    (of_decide_eq_true (by kernel_rfl)) (by unfold Func.isWrapper; first | (rw [if_pos (by decide +kernel)]; kernel_rfl) | (rw [if_neg (by decide +kernel)]; exact ⟨rfl, rfl⟩))
    (fun os started H enc _ => lifted os started H enc)
#print axioms proved

end Go.Proofs.Ytcgkjnofgpcbhaa.hostLate
