/- Proved: each operation that comes again is answered as it was, and moves nothing (TillTwice), for any operations, any order of repeats. -/
import Derived.Test.YtchlbkfkecpodaaTiY
import Derived.Test.YtchlbkfkecpodaaPoY
import Derived.Maps.AppendAt
import Derived.JoinedRecord
import Derived.HandedShaped
namespace Go.Proofs.Ytchlbkfkecpodaa
set_option maxRecDepth 100000
open Go.RowKit
open Go.Sort (grow)
open Go.Proofs.Ytchlbkfkecpodaa.Pk (one_at one_free one_set lt_some grown_set grown_trans below_grown grown_refl)
namespace Ti
open Wt (Opn mayOp)
open Pu (dstp grq Kx)
open St (RowI ivs ByTo Bs)

/-! ### answers stand -/
def TTold (s : S) (o : Opn) (a : Int) : Prop := (mayT o = true → s.g o.book o.kind = a ∧ a ≠ 0) ∧ (mayT o = false → a = 2)
section
variable {s : S} {o p : Opn} {a : Int}
theorem told_new : TTold (asked s o) o (ans s o) := by
  refine ⟨fun hm => ?_, fun hm => ans_no hm⟩
  by_cases h0 : s.g o.book o.kind = 0
  · rw [asked_yes hm h0, ans_yes hm h0]
    refine ⟨?_, by have := dstp_ans s.p o; omega⟩
    show Tb.putF s.g o _ o.book o.kind = _
    rw [Tb.put_at, if_pos (put_is hm h0)]
  · rw [asked_old h0, ans_old hm h0]
    exact ⟨rfl, h0⟩
theorem told_keep (h : TTold s o a) : TTold (asked s p) o a := by
  refine ⟨fun hm => ?_, h.2⟩
  obtain ⟨h1, h2⟩ := h.1 hm
  refine ⟨?_, h2⟩
  unfold asked
  split
  · rename_i hc
    show Tb.putF s.g p _ o.book o.kind = a
    unfold Tb.putF
    split
    · rw [Tb.upd_other (fun e => h2 (by rw [← h1, e.1, e.2]; exact hc.2))]
      exact h1
    · exact h1
  · exact h1
theorem told_again (h : TTold s o a) : ans s o = a ∧ isNew s o = false ∧ asked s o = s := by
  cases hm : mayT o with
  | true =>
    obtain ⟨h1, h2⟩ := h.1 hm
    have h0 : s.g o.book o.kind ≠ 0 := by rw [h1]; exact h2
    exact ⟨by rw [ans_old hm h0, h1], new_old h0, asked_old h0⟩
  | false => exact ⟨by rw [ans_no hm, h.2 hm], new_no hm, asked_no hm⟩
end
theorem by_str {w w' : World} {bs : Bs} {e : Ending} (h : ByTo w bs e w') : ∃ A n c, e = .returned (.slice A n c) ∧ (convert 34 9 (.slice A n c)).run Try.prog w' = .ok (.string (Pk.str bs)) w' ∧ Below w.heap.size w w' := by
  obtain ⟨v, rfl, hr, hb⟩ := h
  obtain ⟨A, c, rfl⟩ := Pk.own_form hr
  exact ⟨A, _, c, rfl, Pk.str_run (Pk.Rb.of_own hr), hb⟩

/-! ### a row of answers -/
theorem wpList_run_app {w : World} {ops : Array Oper} {rest : List Oper} {o : Oper} {a : Act} {Q : Exit → Act → World → Prop} {t : TypeId} (hgd : o.guard = none) (s x : Operand) (ho : o.op = .call { callee := .builtin .append, args := #[s, x], argTypes := #[t, t] }) (hty : o.type = t)
    (v0 x0 : Value) (hs : a.eval s = v0) (hx : a.eval x = x0) {v' : Value} {w' : World} (hrun : (Builtin.append_ #[t, t] t #[v0, x0]).run Try.prog w = .ok v' w') (h : wpList Try.prog ops Q rest (a.put o.dst v') w') :
    wpList Try.prog ops Q (o :: rest) a w := by
  refine wpList_plain hgd fun K hK' => ?_
  unfold Oper.wp execOp
  simp only [ho, resolve, invoke, builtin, Sem.run_bind, Sem.run_pure, Result.andThen_ok, List.map_toArray, List.map_cons, List.map_nil, hs, hx, hty, hrun]
  exact hK' _ _ h
/-- The till at q, and beside it the row v of answers. -/
structure Sr (w : World) (q : Nat) (s : S) (v : Value) (rs : List Int) (W : World) : Prop where
  ow : Ow w.heap.size (fun g => g < w.heap.size ∨ v.ownBlock = some g) w W q s
  row : RowI W w.heap.size v rs.length (ivs rs)
section
variable {w W W' : World} {q : Nat} {s : S} {v : Value} {rs : List Int}
theorem Sr.below (X : Sr w q s v rs W) (hb : Below W.heap.size W W') : Sr w q s v rs W' := ⟨X.ow.below hb, St.ri_same X.row fun g hg => hb.block g (X.ow.xs g (.inr hg))⟩
theorem sr_ask (X : Sr w q s v rs W) (o : Opn) : Calls Try.prog 49 #[.pointer (some ⟨q, 0, none⟩), opv o] W fun e w' => e = .returned (.tuple #[.int .i64 (ans s o), .bool (isNew s o)]) ∧ Sr w q (asked s o) v rs w' := by
  refine (ow_ask X.ow o).mono ?_
  rintro e w' ⟨rfl, h1, h2⟩
  exact ⟨rfl, h1, St.ri_same X.row fun g hg => h2.2 g (.inr hg)⟩
theorem Sr.start (O : Ow w.heap.size (fun g => g < w.heap.size) w W q s) : Sr w q s (.slice none 0 0) [] W :=
  ⟨O.less fun g hg => by
    rcases hg with hg | hg
    · exact hg
    · simp [Value.ownBlock] at hg, World.ownsRow_nil _ _ _ _⟩
theorem Sr.app (X : Sr w q s v rs W) (a : Int) (few : rs.length ≤ 40) : ∃ A' c' w', (Builtin.append_ #[37, 37] 37 #[v, .slice (some ⟨W.heap.size, 0, none⟩) 1 1]).run Try.prog (W.alloc (.cells #[.int .i64 a] 3)) = .ok (.slice A' (rs.length + 1) c') w' ∧ Sr w q s (.slice A' (rs.length + 1) c') (rs ++ [a]) w' := by
  obtain ⟨i0, hi0, hii⟩ : ∃ i, Try.prog.info? 3 = some i ∧ (i.zero, i.size, i.bytes) = (some (.int .i64 0), 1, 8) := by
    have := St.int_info
    cases hq : Try.prog.info? 3 with
    | none => rw [hq] at this; cases this
    | some i => rw [hq] at this; exact ⟨i, rfl, by simpa using this⟩
  simp only [Prod.mk.injEq] at hii
  obtain ⟨hz0, hz1, hz2⟩ := hii
  have hb : Below W.heap.size W (W.alloc (.cells #[.int .i64 a] 3)) := (Below.refl _ _).alloc (Nat.le_refl _) _
  have X1 := X.below hb
  have hn := heap_alloc_new W (.cells #[.int .i64 a] 3)
  obtain ⟨v', w', h1, h2, h3, _, h5⟩ := run_append_own_at (P := Try.prog) (W.alloc (.cells #[.int .i64 a] 3)) w.heap.size 37 37 3 i0 (.int .i64 0) 1 8 Try.underlying37 hi0 hz0 hz1 hz2 rfl (by decide) v rs.length (ivs rs) X1.row ⟨W.heap.size, 0, none⟩ 1 1 [.int .i64 a] rfl (fun j u hu => by
      match j, hu with
      | 0, hu => simp at hu; subst hu; rw [Addr.add_zero', one_at hn]; rfl
      | j + 1, hu => simp at hu) (by simp [Value.oneCell']) (by unfold maxLen; omega) (by omega) X1.ow.bs
  have e2 : ivs rs ++ [.int .i64 a] = ivs (rs ++ [a]) := (St.ivs_snoc rs a).symm
  rw [e2] at h2
  obtain ⟨A', c', rfl, _⟩ := St.ri_form h2
  refine ⟨A', c', w', h1, ?_, by rw [List.length_append]; exact h2⟩
  obtain ⟨fp, H, hf⟩ := X1.ow.ex
  refine ⟨⟨fp, H.keep h3.size fun g hg => h3.block g (H.size g hg) fun e => (hf g hg).2 (.inr e.symm), fun g hg => ⟨(hf g hg).1, fun hx => ?_⟩⟩, X1.ow.be.trans (St.below_of_grown h3 X1.ow.bs fun i hi => (St.ri_block X1.row hi).1), Nat.le_trans X1.ow.bs h3.size, fun g hg => ?_⟩
  · rcases hx with hx | hx
    · exact (hf g hg).2 (.inl hx)
    · rcases h5 with h5 | h5
      · rw [h5] at hx
        exact (hf g hg).2 (.inr hx)
      · rw [h5] at hx
        injection hx with hx
        have := H.size g hg
        omega
  · rcases hg with hg | hg
    · exact Nat.lt_of_lt_of_le (X1.ow.xs g (.inl hg)) h3.size
    · obtain ⟨_, cur, hc⟩ := St.ri_block h2 hg
      exact lt_some hc
end
end Ti
end Go.Proofs.Ytchlbkfkecpodaa

namespace Go.Proofs.Ytchlbkfkecpodaa.tillTwice
set_option maxRecDepth 100000
open Go.ChangeShapes Go.WideShapes Go.ChangeAt Go.WideMaps Go.WideElems Go.RowKit
open Go.Sort (grow)
open Go.Proofs.Ytchlbkfkecpodaa.Pk (Rb adr_block one_at one_free one_set lt_some grown_set grown_trans below_grown grown_refl u8s own_form)
open Go.Proofs.Ytchlbkfkecpodaa.Pu (Ops OpAt Osrc Four view_aops view_nums view_four Rr Src usm usm_lt usm_slot own laidOut bnd post_below E Ln eg ez cell eq_ent_run state_run grq Kx Kq dstp bal)
open Go.Proofs.Ytchlbkfkecpodaa.St (RowI ivs ByTo)
open Go.Proofs.Ytchlbkfkecpodaa.Ti
open Go.Proofs.Ytchlbkfkecpodaa.Wt (Opn mayOp)


def s0 : S := ⟨Pu.new 500 50 5 0, Tb.fz⟩
/-- What was asked so far was answered so. -/
def Said (s : S) (l : List Opn) (rs : List Int) : Prop := ∀ (k : Nat) (x : Opn) (a : Int), l[k]? = some x → rs[k]? = some a → TTold s x a
def TwAt1 (w : World) (q : Nat) (l : List Opn) (v vi : Value) (wr : World) : Prop := ∃ (j : Nat) (s : S) (rs : List Int) (A : Option Addr) (c : Nat), vi = .int .i64 j ∧ v = .slice A rs.length c ∧ rs.length = j ∧ j ≤ 40 ∧ j ≤ l.length ∧ Sr w q s (.slice A rs.length c) rs wr ∧ Said s l rs
def TwAt2 (w : World) (q : Nat) (s : S) (v : Value) (rs : List Int) (vi : Value) (wr : World) : Prop := ∃ j : Nat, vi = .int .i64 (j : Int) ∧ j ≤ 40 ∧ Sr w q s v rs wr
theorem said_next {s : S} {l : List Opn} {rs : List Int} {x : Opn} (h : Said s l rs) (hx : l[rs.length]? = some x) : Said (asked s x) l (rs ++ [ans s x]) := by
  intro k y a hy ha
  rw [List.getElem?_append] at ha
  split at ha
  · exact told_keep (h k y a hy ha)
  · rename_i hge
    have hk : k - rs.length = 0 := by
      rcases Nat.eq_zero_or_pos (k - rs.length) with e | e
      · exact e
      · rw [List.getElem?_eq_none (by simp; omega)] at ha; cases ha
    rw [hk] at ha
    simp only [List.getElem?_cons_zero, Option.some.injEq] at ha
    obtain rfl : k = rs.length := by omega
    rw [hx] at hy
    injection hy with hy
    subst hy
    subst ha
    exact told_new
set_option maxHeartbeats 12800000 in
theorem walk (w : World) (A : Option Addr) (n c : Nat) (l : List Opn) (R : Ops w w.heap.size A n l) (A2 : Option Addr) (n2 c2 : Nat) (l2 : List Int) (R2 : Rr w (fun g => g < w.heap.size) A2 n2 l2) (hn : n ≤ 9223372036854775807) (hn2 : n2 ≤ 9223372036854775807) :
    Calls Try.prog 10 #[.slice A n c, .slice A2 n2 c2] w fun e w' => e = .returned (.bool true) ∧ Below w.heap.size w w' := by
  have N := ow_new w 500 50 5 0 (fun z hz => by simp at hz; rcases hz with rfl | rfl | rfl | rfl <;> exact ⟨by decide, by decide⟩) (by decide)
  rw [show (⟨Pu.new 500 50 5 0, Tb.fz⟩ : S) = s0 from rfl] at N
  replace N := Lib.hid N
  have TO := Lib.hid told_any
  replace R := Lib.hid R
  replace R2 := Lib.hid R2
  go_enter Try.func10, Try.ntmps10
  go_wp2_with fail
  refine N.out.mono ?_
  rintro e w1 ⟨q, rfl, O1⟩
  have st : Hid (TwAt1 w q l (.slice none 0 0) (.int .i64 0) w1) := ⟨0, s0, [], none, 0, rfl, rfl, rfl, by omega, by omega, .start O1, fun k x a _ h => by simp at h⟩
  clear N O1
  go_wp2_with fail
  go_loopw [7, 8] (fun v vi wr => TwAt1 w q l v vi wr) (fun _ i _ => 40 - (intOf i).toNat)
  case atStart => exact st.out
  case round =>
    clear st
    obtain ⟨j, s, rs, A1, c1', rfl, rfl, hrs, hj, hjl, X, SA⟩ := hrel
    replace hrs := Lib.hid hrs
    obtain ⟨bb, hbb⟩ : ∃ b : Bool, b = (decide (j < n) && decide (j < 40)) := ⟨_, rfl⟩
    go_upto_region 6 with fail
    go_cut [37] from 30 to 37 (fun s37 wx => s37 = .bool bb ∧ wx = wr)
    case first =>
      by_cases hjn : j < n
      · by_cases h40 : j < 40
        · have i1 : (j : Int) < 40 := by omega
          have F : Hid (bb = true) := by unfold Hid; rw [hbb, decide_eq_true hjn, decide_eq_true h40]; rfl
          clear hbb X SA
          go_wp2
          go_meet
          case rel => exact ⟨by rw [F.out], rfl⟩
        · have i1 : ¬ (j : Int) < 40 := by omega
          have F : Hid (bb = false) := by unfold Hid; rw [hbb, decide_eq_true hjn, decide_eq_false h40]; rfl
          clear hbb X SA
          go_wp2
          go_meet
          case rel => exact ⟨by rw [F.out], rfl⟩
      · have F : Hid (bb = false) := by unfold Hid; rw [hbb, decide_eq_false hjn]; rfl
        clear hbb X SA
        go_wp2
        go_meet
        case rel => exact ⟨by rw [F.out], rfl⟩
    case rest =>
    obtain ⟨rfl, rfl⟩ := hcut
    obtain ⟨wr, ewr⟩ : ∃ x, x = wc := ⟨_, rfl⟩
    subst ewr
    cases bb with
    | true =>
        have hjn : j < n := by
          have := hbb.symm
          rw [Bool.and_eq_true, decide_eq_true_iff, decide_eq_true_iff] at this
          exact this.1
        have h40 : j < 40 := by
          have := hbb.symm
          rw [Bool.and_eq_true, decide_eq_true_iff, decide_eq_true_iff] at this
          exact this.2
        clear hbb
        obtain ⟨x, hs⟩ : ∃ s, l[j]? = some s := ⟨_, List.getElem?_eq_getElem (by have := R.out.len; omega)⟩
        obtain ⟨ad, rfl, hab, hat⟩ := R.out.at_ (by omega)
        obtain ⟨c1, c2', c3, c4, c5⟩ := (hat j x hs).same (X.ow.be.block _ hab)
        have i1 : (j : Int) < 40 := by omega
        have D := Lib.hid (sr_ask X x)
        have S2 : Hid (Said (asked s x) l (rs ++ [ans s x])) := said_next SA (by rw [hrs.out]; exact hs)
        generalize asked s x = s' at *
        generalize ans s x = a at *
        generalize isNew s x = b' at *
        have hl : j + 1 ≤ l.length := by have := R.out.len; omega
        have r41 : rs.length ≤ 40 := by have := hrs.out; omega
        replace hs := Lib.hid hs
        replace hat := Lib.hid hat
        clear X SA
        go_wp2_with fail
        refine D.out.mono ?_
        rintro e w2 ⟨rfl, X2⟩
        obtain ⟨A3, c3', w3, hrun, X3⟩ := X2.app a r41
        have nx : Hid (TwAt1 w q l (.slice A3 (rs.length + 1) c3') (.int .i64 ((j + 1 : Nat) : Int)) w3) := ⟨j + 1, s', rs ++ [a], A3, c3', rfl, by rw [List.length_append]; rfl, by rw [List.length_append, hrs.out]; rfl, by omega, hl, by rw [List.length_append]; exact X3, S2.out⟩
        replace hrun := Lib.hid hrun
        clear D X2 X3 c1 c2' c3 c4 c5
        go_wp2_with (at_builtin; refine wpList_run_app rfl (.tmp 49) (.tmp 51) rfl rfl _ _ rfl rfl hrun.out ?_)
        exact ⟨nx.out, by simp [intOf]; omega⟩
    | false =>
      have BY := Lib.hid (ow_bytes X.ow)
      obtain ⟨rn, hrn⟩ : ∃ k, k = rs.length := ⟨_, rfl⟩
      rw [← hrn] at X ⊢
      have few : rn ≤ 40 := by have := hrs.out; omega
      have rnl : rn ≤ l.length := by have := hrs.out; omega
      replace hrn := Lib.hid hrn
      replace X := Lib.hid X
      replace SA := Lib.hid SA
      clear hbb hrs hj hjl
      go_wp2_with fail
      refine BY.out.mono ?_
      intro e w2 hby
      obtain ⟨Ba, nb, cb, rfl, sr, b2⟩ := by_str hby
      have st : Hid (TwAt2 w q s (.slice A1 rn c1') rs (.int .i64 0) w2) := ⟨0, rfl, by omega, X.out.below b2⟩
      obtain ⟨sx, hs0⟩ : ∃ z, z = Pk.str (tlbts s) := ⟨_, rfl⟩
      rw [← hs0] at sr
      replace hs0 := Lib.hid hs0
      clear BY hby X b2
      go_wp2_with fail
      clear sr
      go_loopw [12] (fun vi wr => TwAt2 w q s (.slice A1 rn c1') rs vi wr) (fun i _ => 40 - (intOf i).toNat)
      case atStart => exact st.out
      case round =>
        clear st
        obtain ⟨j, rfl, hj, X⟩ := hrel
        obtain ⟨bb, hbb⟩ : ∃ b : Bool, b = (decide (j < n2) && decide (j < 40) && decide (0 < rn)) := ⟨_, rfl⟩
        go_upto_region 12 with fail
        go_cut [68] from 56 to 68 (fun s68 wx => s68 = .bool bb ∧ wx = wr)
        case first =>
          by_cases hjn : j < n2
          · by_cases h40 : j < 40
            · have i1 : (j : Int) < 40 := by omega
              by_cases h0 : 0 < rn
              · have F : Hid (bb = true) := by unfold Hid; rw [hbb, decide_eq_true hjn, decide_eq_true h40, decide_eq_true h0]; rfl
                have i2 : (0 : Int) < (rn : Int) := by omega
                clear hbb X
                go_wp2
                go_meet
                case rel => exact ⟨by rw [F.out], rfl⟩
              · have F : Hid (bb = false) := by unfold Hid; rw [hbb, decide_eq_false h0, Bool.and_false]
                have i2 : ¬ (0 : Int) < (rn : Int) := by omega
                clear hbb X
                go_wp2
                go_meet
                case rel => exact ⟨by rw [F.out], rfl⟩
            · have i1 : ¬ (j : Int) < 40 := by omega
              have F : Hid (bb = false) := by unfold Hid; rw [hbb, decide_eq_true hjn, decide_eq_false h40]; rfl
              clear hbb X
              go_wp2
              go_meet
              case rel => exact ⟨by rw [F.out], rfl⟩
          · have F : Hid (bb = false) := by unfold Hid; rw [hbb, decide_eq_false hjn]; rfl
            clear hbb X
            go_wp2
            go_meet
            case rel => exact ⟨by rw [F.out], rfl⟩
        case rest =>
        obtain ⟨rfl, rfl⟩ := hcut
        obtain ⟨wr, ewr⟩ : ∃ x, x = wc := ⟨_, rfl⟩
        subst ewr
        cases bb with
        | true =>
          have hb := hbb.symm
          rw [Bool.and_eq_true, Bool.and_eq_true, decide_eq_true_iff, decide_eq_true_iff, decide_eq_true_iff] at hb
          obtain ⟨⟨hjn, h40⟩, h0⟩ := hb
          clear hbb
          obtain ⟨z, hz⟩ : ∃ z, l2[j]? = some z := ⟨_, List.getElem?_eq_getElem (by have := R2.out.len; omega)⟩
          obtain ⟨ad2, rfl, -, -⟩ := R2.out.at_ (by omega)
          have cz := (R2.out.below X.ow.be).cell hz
          obtain ⟨k, hk⟩ : ∃ k, k = usm z rn := ⟨_, rfl⟩
          have kr : k < rn := by rw [hk]; exact usm_lt _ h0
          have uz : wrap64 ((IntKind.u64.wrap z).tmod (rn : Int)) = (k : Int) := by rw [hk]; exact usm_slot z h0 (by omega)
          replace hk := Lib.hid hk
          obtain ⟨x, hs⟩ : ∃ s, l[k]? = some s := ⟨_, List.getElem?_eq_getElem (by omega)⟩
          obtain ⟨a, ha⟩ : ∃ a, rs[k]? = some a := ⟨_, List.getElem?_eq_getElem (by have := hrn.out; omega)⟩
          obtain ⟨ad, rfl, hab, hat⟩ := R.out.at_ (by have := R.out.len; omega)
          obtain ⟨c1, c2', c3, c4, c5⟩ := (hat k x hs).same (X.ow.be.block _ hab)
          have kn : k < n := by have := R.out.len; omega
          obtain ⟨e1, e2, e3⟩ := told_again (SA.out k x a hs ha)
          have D := Lib.hid (sr_ask X x)
          rw [e1, e2, e3] at D
          have NZ : Hid (∀ W, Sr w q s (.slice A1 rn c1') rs W → ∃ ad, A1 = some ad ∧ W.cell? (ad.add k) = some (.int .i64 a)) := fun W XW => by
            have hrow := XW.row
            rw [← hrn.out] at hrow
            obtain ⟨ad, h1, -, -, h2⟩ := St.Nz.of_row hrow hrn.out.symm k a ha
            exact ⟨ad, h1, h2⟩
          have q1 : (a != a) = false := by simp
          replace hs := Lib.hid hs
          replace hat := Lib.hid hat
          replace hz := Lib.hid hz
          replace ha := Lib.hid ha
          clear e1 e2 e3 X
          go_upto_region 15 with fail
          rw [uz]
          clear uz
          go_wp2_with fail
          refine D.out.mono ?_
          rintro e w3 ⟨rfl, X3⟩
          obtain ⟨ad3, rfl, cc⟩ := NZ.out w3 X3
          have nx : Hid (TwAt2 w q s (.slice (some ad3) rn c1') rs (.int .i64 ((j + 1 : Nat) : Int)) w3) := ⟨j + 1, rfl, by omega, X3⟩
          clear D NZ X3 c1 c2' c3 c4 c5 cz
          go_wp2
          exact ⟨nx.out, by simp [intOf]; omega⟩
        | false =>
          clear hbb
          replace X := Lib.hid X
          go_wp2_with fail
          refine (ask_nil _ ⟨6, 1, 0, 0, 0⟩).mono ?_
          rintro e w3 ⟨rfl, b3⟩
          have X3 := Lib.hid (X.out.below b3)
          have TA := Lib.hid (TO.out w3)
          clear X b3
          go_wp2_with fail
          refine TA.out.mono ?_
          rintro e w4 ⟨rfl, b4⟩
          have X4 := X3.out.below b4
          have BY := Lib.hid (ow_bytes X4.ow)
          replace X4 := Lib.hid X4
          clear TA X3 b4
          go_wp2_with fail
          refine BY.out.mono ?_
          intro e w5 hby
          obtain ⟨Bb, nb2, cb2, rfl, sr, b5⟩ := by_str hby
          rw [← hs0.out] at sr
          have q9 : (sx.data.toList == sx.data.toList) = true := by simp
          have E : Hid (Below w.heap.size w w5) := (X4.out.below b5).ow.be
          clear BY hby X4 b5
          go_wp2_with (first
            | (go_at_call 53; refine (bytes_nil _).mono ?_; rintro e w' ⟨rfl, rfl⟩)
            | (go_at_call 51; refine (answers_nil _).mono ?_; rintro e w' ⟨rfl, rfl⟩)
            | (go_at_call 52; refine (purse_nil _).mono ?_; rintro e w' ⟨rfl, rfl⟩))
          go_ret
          exact ⟨rfl, E.out⟩
theorem walkd (v0 : Value) (a0 : List Opn) {W : World} (w0 : Osrc W v0 a0) (v1 : Value) (a1 : List Int) (w1 : Src W v1 a1) (W' : World) (hW : W' = W) :
    Calls Try.prog 10 #[v0, v1] W' fun e w' => e = .returned (.bool true) ∧ Below W'.heap.size W' w' := by
  subst hW
  obtain ⟨A, n, c, rfl, h1, h2, R⟩ := w0
  obtain ⟨A2, n2, c2, rfl, k1, k2, R2, -⟩ := w1
  exact walk W' A n c a0 R A2 n2 c2 a1 R2 (by omega) (by omega)


/-! The row: every input. -/
set_option linter.unusedVariables false
set_option maxRecDepth 100000 in
theorem lifted (os : Os) (started : os.Started) (H : Type) (enc : TypeId × Value → H) :
    ReturnsInHanded {} Try.checked os 10 .any (Rows.tillTwiceSpec.pre6 enc Try.prog Try.f10 Rows.tillTwiceRow.domain false) (Rows.tillTwiceSpec.post enc Try.prog Try.f10 false true false false) := by
  refine returnsInHanded_of_change (C := Try.checked) own started (by kernel_rfl) Try.func10
    (ChangeSpec.witness6 (enc := enc) (C := Try.checked) false ⟨#[], #[.slice none 0 0, .slice none 0 0], []⟩ 8 (by kernel_rfl) (by kernel_rfl) (by kernel_rfl) (by kernel_rfl)) ?_
  intro W base args ds gs before hval0 hW _ _
  have hval : ∀ (j : Nat) t v, Try.f10.params[j]? = some t → args[j]? = some v → Value.okWide Try.prog W .any base t v := hval0
  have hW' := hW
  obtain ⟨p, q, hA0, hV, rfl, hfz, hnd⟩ := hW
  have hA : DataW.TrodAll enc Try.prog W 0 (fun _ => true) true Try.f10.params.toList args.toList ds p := hA0
  rw [Try.params10] at hA hval
  obtain ⟨v0, vs0, d0, ds0, p0, q0, hargs, rfl, rfl, h0, r0⟩ := trodAll_cons hA
  obtain ⟨v1, vs1, d1, ds1, p1, q1, rfl, rfl, rfl, h1, r1⟩ := trodAll_cons r0
  obtain ⟨rfl, rfl, rfl⟩ := trodAll_nil r1
  obtain rfl : args = #[v0, v1] := by cases args; simp_all
  obtain ⟨rfl, rfl⟩ := trodVars_none hV
  obtain ⟨a0, w0⟩ := view_aops (hval 0 55 v0 rfl rfl) h0
  obtain ⟨a1, w1⟩ := view_nums (hval 1 37 v1 rfl rfl) h1
  clear hA0 hval0
  simp only [List.append_nil] at hW'
  refine (walkd v0 a0 w0 v1 a1 w1 W rfl).mono fun e W' ⟨he, hb⟩ => ?_
  subst he
  exact ⟨_, rfl, post_below (pa := p0 ++ (p1 ++ [])) (pv := []) hW' (fun _ _ _ => (trodAll_cons_mk (shut_bool Try.underlying4 _) trodAll_mk0)) (fun sp hsp => (trodAll_cons_mk (Trod_stays laidOut (by kernel_rfl) (of_decide_eq_true (by kernel_rfl)) h0 (fun x hx => hb.same (hW'.lt x (by simp [hx]))) (fun x hx => hsp x (by simp [hx]))) (trodAll_cons_mk (Trod_stays laidOut (by kernel_rfl) (of_decide_eq_true (by kernel_rfl)) h1 (fun x hx => hb.same (hW'.lt x (by simp [hx]))) (fun x hx => hsp x (by simp [hx]))) trodAll_mk0))) (fun _ _ => rfl) (by simp)
    hb (ok_one (by kernel_rfl) rfl (okWide_bool_mk Try.underlying4 _))⟩

theorem proved : Rows.TillTwiceSaid :=
  OpenClaim.holds_of_wide 10 Try.f10 rfl rfl rfl rfl rfl rfl rfl ⟨rfl, rfl, rfl, rfl, rfl⟩ rfl rfl rfl rfl rfl (by kernel_rfl) Try.func10 (by kernel_rfl)
    (of_decide_eq_true (by kernel_rfl)) (by unfold Func.isWrapper; first | (rw [if_pos (by decide +kernel)]; kernel_rfl) | (rw [if_neg (by decide +kernel)]; exact ⟨rfl, rfl⟩))
    (fun os started H enc _ => lifted os started H enc)
#print axioms proved

end Go.Proofs.Ytchlbkfkecpodaa.tillTwice
