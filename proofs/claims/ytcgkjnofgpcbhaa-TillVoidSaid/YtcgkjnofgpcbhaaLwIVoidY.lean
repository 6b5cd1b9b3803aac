/- Proved: a void that comes ahead of an authorisation, or a capture, leaves all money where it was, whatever comes behind it (TillVoid), for any order of operations, others between, any amount. -/
import Derived.Test.YtcgkjnofgpcbhaaTiY
import Derived.Test.YtcgkjnofgpcbhaaPoY
import Derived.Maps.AppendAt
import Derived.JoinedRecord
import Derived.HandedShaped
namespace Go.Proofs.Ytcgkjnofgpcbhaa
namespace Ti
open Wt (Opn mayOp)
open Pu (dstp stp eg ez upd gone_do Ln E mv put His)

/-- What was given back is gone. -/
def J (s : S) : Prop := s.g 150 6 ≠ 0 → s.p.f 150 = eg
/-- What a move of booking 150 brings customer 2. -/
def one2 (x : Ln) : Int := (if x.bk = 150 ∧ x.fr = 2 then -x.am else 0) + (if x.bk = 150 ∧ x.tg = 2 then x.am else 0)
def net (l : List Ln) : Int := l.foldl (fun a x => a + one2 x) 0
def due (e : E) : Int := if e.cu = 2 ∧ (e.st = 4 ∨ e.st = 5) then -e.am else 0
def Nt (p : Pu.S) : Prop := net p.l = due (p.f 150)
theorem net_snoc (l : List Ln) (x : Ln) : net (l ++ [x]) = net l + one2 x := by simp [net]
theorem net_take {l : List Ln} {k : Nat} {x : Ln} (h : l[k]? = some x) : net (l.take (k + 1)) = net (l.take k) + one2 x := by
  obtain ⟨hl, rfl⟩ := List.getElem?_eq_some_iff.1 h
  rw [List.take_succ_eq_append_getElem hl, net_snoc]
theorem one2_bds {x : Ln} (_h : x.fr ≠ x.tg) (h0 : 0 ≤ x.am) (h1 : x.am ≤ 1099511627776) : -1099511627776 ≤ one2 x ∧ one2 x ≤ 1099511627776 := by
  unfold one2
  split <;> split <;> omega
theorem net_bds {f0 : Int → Int} {p : Pu.S} (H : His f0 p) : ∀ k, k ≤ p.l.length → -(1099511627776 * (k : Int)) ≤ net (p.l.take k) ∧ net (p.l.take k) ≤ 1099511627776 * (k : Int) := by
  intro k
  induction k with
  | zero => intro _; exact ⟨by simp [net], by simp [net]⟩
  | succ k ih =>
    intro hk
    obtain ⟨x, hx⟩ : ∃ x, p.l[k]? = some x := ⟨_, List.getElem?_eq_getElem (by omega)⟩
    obtain ⟨-, -, hne, m0, m1⟩ := H.shp x (List.mem_of_getElem? hx)
    have := one2_bds hne m0 m1
    have := ih (by omega)
    rw [net_take hx]
    omega
section
variable {s : S} {o : Opn} {p : Pu.S} {b : Int}
theorem due_ez : due ez = 0 := by decide
theorem due_eg : due eg = 0 := by decide
theorem one_off {fr tg am : Int} (h : b ≠ 150) : one2 ⟨b, fr, tg, am⟩ = 0 := by unfold one2; simp [h]
theorem nt_put (N : Nt p) (e : E) (h : b = 150 → due e = due (p.f 150)) : Nt (put p b e) := by
  show net p.l = due (upd p.f b e 150)
  by_cases hb : b = 150
  · subst hb
    rw [Pu.upd_same, h rfl]
    exact N
  · rw [Pu.upd_other (fun e => hb e.symm)]
    exact N
theorem nt_mv (N : Nt p) {fr tg am : Int} (e : E) (h : b = 150 → due e = due (p.f 150) + one2 ⟨150, fr, tg, am⟩) : Nt (put (mv p b fr tg am) b e) := by
  show net (p.l ++ [⟨b, fr, tg, am⟩]) = due (upd p.f b e 150)
  rw [net_snoc, N]
  by_cases hb : b = 150
  · subst hb
    rw [Pu.upd_same, h rfl]
  · rw [Pu.upd_other (fun e => hb e.symm), one_off hb]
    omega
theorem due_not {e : E} (h4 : e.st ≠ 4) (h5 : e.st ≠ 5) : due e = 0 := by unfold due; rw [if_neg (fun h => by omega)]
theorem nt_do (N : Nt p) (_O : Pu.Ok p) (o : Opn) : Nt (dstp p o).1 := by
  unfold dstp stp
  cases hm : mayOp o with
  | false => exact N
  | true =>
    rw [if_neg (by simp)]
    split
    · unfold Pu.auth
      split
      · rename_i h0
        have hd : o.book = 150 → due (p.f 150) = 0 := fun e => due_not (by rw [← e]; omega) (by rw [← e]; omega)
        split
        · refine nt_mv N _ fun e => ?_
          rw [hd e]
          simp [due, one2]
        · exact nt_put N _ fun e => by rw [hd e, due_eg]
      · split <;> exact N
    · split
      · unfold Pu.capt
        split
        · exact N
        · rename_i h5
          split
          · rename_i h4
            refine nt_mv N _ fun e => ?_
            rw [← e]
            simp [due, one2, h4]
          · rename_i h4
            exact nt_put N _ fun e => by rw [due_eg, due_not (by rw [← e]; exact h4) (by rw [← e]; exact h5)]
      · split
        · show Nt (Pu.void p o.book)
          unfold Pu.void
          split
          · rename_i h4
            refine nt_mv N _ fun e => ?_
            rw [e] at h4 ⊢
            by_cases hc : (p.f 150).cu = 2
            · simp [due, one2, h4, hc, eg]
              omega
            · simp [due, one2, h4, hc, eg]
          · rename_i h4
            split
            · rename_i h5
              refine nt_mv N _ fun e => ?_
              rw [e] at h5 ⊢
              by_cases hc : (p.f 150).cu = 2
              · simp [due, one2, h5, hc, eg]
                omega
              · simp [due, one2, h5, hc, eg]
            · rename_i h5
              exact nt_put N _ fun e => by rw [due_eg, due_not (by rw [← e]; exact h4) (by rw [← e]; exact h5)]
        · exact N
theorem nt_ask (N : Nt s.p) (O : Ok s) : Nt (asked s o).p := by
  unfold asked
  split
  · exact nt_do N O.p o
  · exact N
theorem his_ask {f0 : Int → Int} (H : His f0 s.p) (O : Ok s) : His f0 (asked s o).p := by
  unfold asked
  split
  · exact Pu.his_step H (Pu.dstp_ok O.p o) (Pu.step_dstp O.p o)
  · exact H
theorem ask_gone (h : s.p.f 150 = eg) : (asked s o).p.f 150 = eg := by
  unfold asked
  split
  · exact (gone_do h).1
  · exact h
theorem ask_void (hJ : J s) (hm : mayT o = true) (hk : o.kind = 6) (hb : o.book = 150) : (asked s o).p.f 150 = eg := by
  by_cases h0 : s.g o.book o.kind = 0
  · rw [asked_yes hm h0]
    obtain ⟨h1, h2⟩ := mayt_iff.1 hm
    show (dstp s.p o).1.f 150 = eg
    unfold dstp stp
    rw [h1, if_neg (by decide), hk, if_neg (by decide), if_neg (by decide), if_pos rfl, hb]
    exact Pu.void_at
  · rw [asked_old h0]
    rw [hk, hb] at h0
    exact hJ h0
theorem j_ask (hJ : J s) : J (asked s o) := by
  intro hg
  by_cases hm : mayT o = true
  · by_cases hr : o.kind = 6 ∧ o.book = 150
    · exact ask_void hJ hm hr.1 hr.2
    · by_cases h0 : s.g o.book o.kind = 0
      · refine ask_gone (hJ fun h => ?_)
        rw [asked_yes hm h0] at hg
        apply hg
        show Tb.putF s.g o _ 150 6 = 0
        unfold Tb.putF
        split
        · rw [Tb.upd_other (fun e => hr ⟨e.2.symm, e.1.symm⟩)]
          exact h
        · exact h
      · rw [asked_old h0] at hg ⊢
        exact hJ hg
  · rw [asked_no (by simpa using hm)] at hg ⊢
    exact hJ hg
end
theorem void_mayt : mayT ⟨6, 150, 0, 0, 0⟩ = true := mayt_iff.2 ⟨Pu.may_void (by decide) (by decide), by decide⟩
/-- All that a till keeps that is asked. -/
structure Kp (f0 : Int → Int) (s : S) : Prop where
  j : J s
  n : Nt s.p
  h : His f0 s.p
  o : Ok s
theorem Kp.ask {f0 : Int → Int} {s : S} (K : Kp f0 s) (o : Opn) : Kp f0 (asked s o) := ⟨j_ask K.j, nt_ask K.n K.o, his_ask K.h K.o, K.o.asked o⟩
end Ti
end Go.Proofs.Ytcgkjnofgpcbhaa

namespace Go.Proofs.Ytcgkjnofgpcbhaa
set_option maxRecDepth 100000
open Go.RowKit
open Go.Sort (grow)
open Go.Proofs.Ytcgkjnofgpcbhaa.Pk (one_at one_free one_set lt_some grown_set grown_trans below_grown grown_refl)
namespace Ti
open Wt (Opn mayOp)
open Pu (dstp grq Kx)
open St (RowI ivs ByTo Bs)

/-! ### answers stand -/
def TTold (s : S) (o : Opn) (a : Int) : Prop := (mayT o = true → s.g o.book o.kind = a ∧ a ≠ 0) ∧ (mayT o = false → a = 2)
section
variable {s : S} {o p : Opn} {a : Int}
theorem told_new : TTold (asked s o) o (ans s o) := by
  refine ⟨fun hm => ?_, fun hm => ans_no hm⟩
  by_cases h0 : s.g o.book o.kind = 0
  · rw [asked_yes hm h0, ans_yes hm h0]
    refine ⟨?_, by have := dstp_ans s.p o; omega⟩
    show Tb.putF s.g o _ o.book o.kind = _
    rw [Tb.put_at, if_pos (put_is hm h0)]
  · rw [asked_old h0, ans_old hm h0]
    exact ⟨rfl, h0⟩
theorem told_keep (h : TTold s o a) : TTold (asked s p) o a := by
  refine ⟨fun hm => ?_, h.2⟩
  obtain ⟨h1, h2⟩ := h.1 hm
  refine ⟨?_, h2⟩
  unfold asked
  split
  · rename_i hc
    show Tb.putF s.g p _ o.book o.kind = a
    unfold Tb.putF
    split
    · rw [Tb.upd_other (fun e => h2 (by rw [← h1, e.1, e.2]; exact hc.2))]
      exact h1
    · exact h1
  · exact h1
theorem told_again (h : TTold s o a) : ans s o = a ∧ isNew s o = false ∧ asked s o = s := by
  cases hm : mayT o with
  | true =>
    obtain ⟨h1, h2⟩ := h.1 hm
    have h0 : s.g o.book o.kind ≠ 0 := by rw [h1]; exact h2
    exact ⟨by rw [ans_old hm h0, h1], new_old h0, asked_old h0⟩
  | false => exact ⟨by rw [ans_no hm, h.2 hm], new_no hm, asked_no hm⟩
end
theorem by_str {w w' : World} {bs : Bs} {e : Ending} (h : ByTo w bs e w') : ∃ A n c, e = .returned (.slice A n c) ∧ (convert 36 9 (.slice A n c)).run Try.prog w' = .ok (.string (Pk.str bs)) w' ∧ Below w.heap.size w w' := by
  obtain ⟨v, rfl, hr, hb⟩ := h
  obtain ⟨A, c, rfl⟩ := Pk.own_form hr
  exact ⟨A, _, c, rfl, Pk.str_run (Pk.Rb.of_own hr), hb⟩

/-! ### a row of answers -/
theorem wpList_run_app {w : World} {ops : Array Oper} {rest : List Oper} {o : Oper} {a : Act} {Q : Exit → Act → World → Prop} {t : TypeId} (hgd : o.guard = none) (s x : Operand) (ho : o.op = .call { callee := .builtin .append, args := #[s, x], argTypes := #[t, t] }) (hty : o.type = t)
    (v0 x0 : Value) (hs : a.eval s = v0) (hx : a.eval x = x0) {v' : Value} {w' : World} (hrun : (Builtin.append_ #[t, t] t #[v0, x0]).run Try.prog w = .ok v' w') (h : wpList Try.prog ops Q rest (a.put o.dst v') w') :
    wpList Try.prog ops Q (o :: rest) a w := by
  refine wpList_plain hgd fun K hK' => ?_
  unfold Oper.wp execOp
  simp only [ho, resolve, invoke, builtin, Sem.run_bind, Sem.run_pure, Result.andThen_ok, List.map_toArray, List.map_cons, List.map_nil, hs, hx, hty, hrun]
  exact hK' _ _ h
/-- The till at q, and beside it the row v of answers. -/
structure Sr (w : World) (q : Nat) (s : S) (v : Value) (rs : List Int) (W : World) : Prop where
  ow : Ow w.heap.size (fun g => g < w.heap.size ∨ v.ownBlock = some g) w W q s
  row : RowI W w.heap.size v rs.length (ivs rs)
section
variable {w W W' : World} {q : Nat} {s : S} {v : Value} {rs : List Int}
theorem Sr.below (X : Sr w q s v rs W) (hb : Below W.heap.size W W') : Sr w q s v rs W' := ⟨X.ow.below hb, St.ri_same X.row fun g hg => hb.block g (X.ow.xs g (.inr hg))⟩
theorem sr_ask (X : Sr w q s v rs W) (o : Opn) : Calls Try.prog 23 #[.pointer (some ⟨q, 0, none⟩), opv o] W fun e w' => e = .returned (.tuple #[.int .i64 (ans s o), .bool (isNew s o)]) ∧ Sr w q (asked s o) v rs w' := by
  refine (ow_ask X.ow o).mono ?_
  rintro e w' ⟨rfl, h1, h2⟩
  exact ⟨rfl, h1, St.ri_same X.row fun g hg => h2.2 g (.inr hg)⟩
theorem Sr.start (O : Ow w.heap.size (fun g => g < w.heap.size) w W q s) : Sr w q s (.slice none 0 0) [] W :=
  ⟨O.less fun g hg => by
    rcases hg with hg | hg
    · exact hg
    · simp [Value.ownBlock] at hg, World.ownsRow_nil _ _ _ _⟩
theorem Sr.app (X : Sr w q s v rs W) (a : Int) (few : rs.length ≤ 40) : ∃ A' c' w', (Builtin.append_ #[23, 23] 23 #[v, .slice (some ⟨W.heap.size, 0, none⟩) 1 1]).run Try.prog (W.alloc (.cells #[.int .i64 a] 3)) = .ok (.slice A' (rs.length + 1) c') w' ∧ Sr w q s (.slice A' (rs.length + 1) c') (rs ++ [a]) w' := by
  obtain ⟨i0, hi0, hii⟩ : ∃ i, Try.prog.info? 3 = some i ∧ (i.zero, i.size, i.bytes) = (some (.int .i64 0), 1, 8) := by
    have := St.int_info
    cases hq : Try.prog.info? 3 with
    | none => rw [hq] at this; cases this
    | some i => rw [hq] at this; exact ⟨i, rfl, by simpa using this⟩
  simp only [Prod.mk.injEq] at hii
  obtain ⟨hz0, hz1, hz2⟩ := hii
  have hb : Below W.heap.size W (W.alloc (.cells #[.int .i64 a] 3)) := (Below.refl _ _).alloc (Nat.le_refl _) _
  have X1 := X.below hb
  have hn := heap_alloc_new W (.cells #[.int .i64 a] 3)
  obtain ⟨v', w', h1, h2, h3, _, h5⟩ := run_append_own_at (P := Try.prog) (W.alloc (.cells #[.int .i64 a] 3)) w.heap.size 23 23 3 i0 (.int .i64 0) 1 8 Try.underlying23 hi0 hz0 hz1 hz2 rfl (by decide) v rs.length (ivs rs) X1.row ⟨W.heap.size, 0, none⟩ 1 1 [.int .i64 a] rfl (fun j u hu => by
      match j, hu with
      | 0, hu => simp at hu; subst hu; rw [Addr.add_zero', one_at hn]; rfl
      | j + 1, hu => simp at hu) (by simp [Value.oneCell']) (by unfold maxLen; omega) (by omega) X1.ow.bs
  have e2 : ivs rs ++ [.int .i64 a] = ivs (rs ++ [a]) := (St.ivs_snoc rs a).symm
  rw [e2] at h2
  obtain ⟨A', c', rfl, _⟩ := St.ri_form h2
  refine ⟨A', c', w', h1, ?_, by rw [List.length_append]; exact h2⟩
  obtain ⟨fp, H, hf⟩ := X1.ow.ex
  refine ⟨⟨fp, H.keep h3.size fun g hg => h3.block g (H.size g hg) fun e => (hf g hg).2 (.inr e.symm), fun g hg => ⟨(hf g hg).1, fun hx => ?_⟩⟩, X1.ow.be.trans (St.below_of_grown h3 X1.ow.bs fun i hi => (St.ri_block X1.row hi).1), Nat.le_trans X1.ow.bs h3.size, fun g hg => ?_⟩
  · rcases hx with hx | hx
    · exact (hf g hg).2 (.inl hx)
    · rcases h5 with h5 | h5
      · rw [h5] at hx
        exact (hf g hg).2 (.inr hx)
      · rw [h5] at hx
        injection hx with hx
        have := H.size g hg
        omega
  · rcases hg with hg | hg
    · exact Nat.lt_of_lt_of_le (X1.ow.xs g (.inl hg)) h3.size
    · obtain ⟨_, cur, hc⟩ := St.ri_block h2 hg
      exact lt_some hc
end
end Ti
end Go.Proofs.Ytcgkjnofgpcbhaa

namespace Go.Proofs.Ytcgkjnofgpcbhaa.tillVoid
set_option maxRecDepth 100000
open Go.ChangeShapes Go.WideShapes Go.ChangeAt Go.WideMaps Go.WideElems Go.RowKit
open Go.Sort (grow)
open Go.Proofs.Ytcgkjnofgpcbhaa.Pk (Rb adr_block one_at one_free one_set lt_some grown_set grown_trans below_grown grown_refl u8s own_form)
open Go.Proofs.Ytcgkjnofgpcbhaa.Pu (Ops OpAt Osrc Four view_aops view_nums view_four Rr Src usm usm_lt usm_slot own laidOut bnd post_below E Ln eg ez cell eq_ent_run state_run grq Kx Kq dstp bal)
open Go.Proofs.Ytcgkjnofgpcbhaa.St (RowI ivs ByTo)
open Go.Proofs.Ytcgkjnofgpcbhaa.Ti
open Go.Proofs.Ytcgkjnofgpcbhaa.Wt (Opn mayOp)
open Go.Proofs.Ytcgkjnofgpcbhaa.Pu (His)


def f0 : Int → Int := (Pu.new 1073741824 1073741824 1073741824 1073741824).a
def s0 : S := ⟨Pu.new 1073741824 1073741824 1073741824 1073741824, Tb.fz⟩
theorem kp0 (O : Ok s0) : Kp f0 s0 := ⟨fun h => absurd rfl h, (rfl : net s0.p.l = Ti.due (s0.p.f 150)), Pu.his_new (by decide), O⟩
def sl15 (a : Int) : Array Value := #[.int .i64 4, .int .i64 150, .int .i64 0, .int .i64 2, .int .i64 a, .int .i64 5, .int .i64 150, .int .i64 0, .int .i64 0, .int .i64 0, .int .i64 6, .int .i64 150, .int .i64 0, .int .i64 0, .int .i64 0]
/-- One of a booking's operations lies in a box; the till is kept out of it. -/
def OpIs (w wr : World) (q : Nat) (a : Int) (s : S) (wx : World) : Prop := ∃ o : Opn, (o = ⟨4, 150, 0, 2, a⟩ ∨ o = ⟨5, 150, 0, 0, 0⟩ ∨ o = ⟨6, 150, 0, 0, 0⟩) ∧ Bx wx (wr.heap.size + 1) o ∧ Ow w.heap.size (grq (fun g => g < w.heap.size) wr wx) w wx q s ∧ grq (fun g => g < w.heap.size) wr wx (wr.heap.size + 1)
def VoAt (w : World) (q : Nat) (vv vi : Value) (wr : World) : Prop := ∃ (j : Nat) (vo : Bool) (s : S), vi = .int .i64 j ∧ vv = .bool vo ∧ j ≤ 20 ∧ Ow w.heap.size (fun g => g < w.heap.size) w wr q s ∧ Kp f0 s ∧ (vo = true → s.p.f 150 = eg)
def LnAt (w : World) (l : List Ln) (vs vi : Value) (wr : World) : Prop := ∃ k : Nat, vi = .int .i64 k ∧ vs = .int .i64 (net (l.take k)) ∧ k ≤ l.length ∧ wr = w
set_option maxHeartbeats 12800000 in
theorem walk (w : World) (A : Option Addr) (n c : Nat) (l : List Opn) (R : Ops w w.heap.size A n l) (A2 : Option Addr) (n2 c2 : Nat) (l2 : List Int) (R2 : Rr w (fun g => g < w.heap.size) A2 n2 l2) (amount : Int) (hn : n ≤ 9223372036854775807) (hn2 : n2 ≤ 9223372036854775807) :
    Calls Try.prog 8 #[.slice A n c, .slice A2 n2 c2, .int .i64 amount] w fun e w' => e = .returned (.bool true) ∧ Below w.heap.size w w' := by
  have N := ow_new w 1073741824 1073741824 1073741824 1073741824 (fun z hz => by simp at hz; subst hz; exact ⟨by decide, by decide⟩) (by decide)
  rw [show (⟨Pu.new 1073741824 1073741824 1073741824 1073741824, Tb.fz⟩ : S) = s0 from rfl] at N
  replace N := Lib.hid N
  have TO := Lib.hid told_any
  have EQ := eq_ent_run
  replace R := Lib.hid R
  replace R2 := Lib.hid R2
  obtain ⟨u0, hu0⟩ : ∃ k, k = usm amount 1000 := ⟨_, rfl⟩
  have u1 : u0 < 1000 := by rw [hu0]; exact usm_lt _ (by omega)
  have uz : wrap64 ((IntKind.u64.wrap amount).tmod 1000) = (u0 : Int) := by rw [hu0]; exact usm_slot amount (n := 1000) (by omega) (by omega)
  obtain ⟨a, ha⟩ : ∃ a : Int, a = (u0 : Int) := ⟨_, rfl⟩
  replace hu0 := Lib.hid hu0
  go_enter Try.func8, Try.ntmps8
  go_wp2_with fail
  refine N.out.mono ?_
  rintro e w1 ⟨q, rfl, O1⟩
  have st : Hid (VoAt w q (.bool false) (.int .i64 0) w1) := ⟨0, false, s0, rfl, rfl, by omega, O1, kp0 O1.ok, fun h => absurd h (by decide)⟩
  clear N O1
  go_upto_region 5 with fail
  rw [uz, ← ha]
  clear uz
  replace ha := Lib.hid ha
  go_wp2_with fail
  go_loopw [10, 11] (fun vv vi wr => VoAt w q vv vi wr) (fun _ i _ => 20 - (intOf i).toNat)
  case atStart => exact st.out
  case round =>
    clear st
    obtain ⟨j, vo, s, rfl, rfl, hj, O, K, hv⟩ := hrel
    obtain ⟨bb, hbb⟩ : ∃ b : Bool, b = (decide (j < n2) && decide (j < 20)) := ⟨_, rfl⟩
    go_upto_region 7 with fail
    go_cut [40] from 33 to 40 (fun s40 wx => s40 = .bool bb ∧ wx = wr)
    case first =>
      by_cases hjn : j < n2
      · by_cases h20 : j < 20
        · have i1 : (j : Int) < 20 := by omega
          have F : Hid (bb = true) := by unfold Hid; rw [hbb, decide_eq_true hjn, decide_eq_true h20]; rfl
          clear hbb O K hv
          go_wp2
          go_meet
          case rel => exact ⟨by rw [F.out], rfl⟩
        · have i1 : ¬ (j : Int) < 20 := by omega
          have F : Hid (bb = false) := by unfold Hid; rw [hbb, decide_eq_true hjn, decide_eq_false h20]; rfl
          clear hbb O K hv
          go_wp2
          go_meet
          case rel => exact ⟨by rw [F.out], rfl⟩
      · have F : Hid (bb = false) := by unfold Hid; rw [hbb, decide_eq_false hjn]; rfl
        clear hbb O K hv
        go_wp2
        go_meet
        case rel => exact ⟨by rw [F.out], rfl⟩
    case rest =>
    obtain ⟨rfl, rfl⟩ := hcut
    obtain ⟨wr, ewr⟩ : ∃ x, x = wc := ⟨_, rfl⟩
    subst ewr
    cases bb with
    | true =>
        have hb := hbb.symm
        rw [Bool.and_eq_true, decide_eq_true_iff, decide_eq_true_iff] at hb
        obtain ⟨hjn, h20⟩ := hb
        clear hbb
        obtain ⟨z, hz⟩ : ∃ z, l2[j]? = some z := ⟨_, List.getElem?_eq_getElem (by have := R2.out.len; omega)⟩
        obtain ⟨ad2, rfl, -, -⟩ := R2.out.at_ (by omega)
        have cz : ∀ x, (wr.alloc x).cell? (ad2.add j) = some (.int .i64 z) := fun x => (R2.out.below (O.below ((Below.refl _ _).alloc (Nat.le_refl _) x)).be).cell hz
        have i1 : (j : Int) < 20 := by omega
        obtain ⟨k, hk⟩ : ∃ k, k = usm z 3 := ⟨_, rfl⟩
        have k3 : k < 3 := by rw [hk]; exact usm_lt _ (by omega)
        have uz4 : wrap64 ((IntKind.u64.wrap z).tmod 3) = (k : Int) := by rw [hk]; exact usm_slot z (n := 3) (by omega) (by omega)
        replace hz := Lib.hid hz
        clear hk
        have OB : Hid (∀ W, Below wr.heap.size wr W → Ow w.heap.size (grq (fun g => g < w.heap.size) wr W) w W q s) := fun W h => O.beside h
        have BO : Hid (Below w.heap.size w wr) := O.be
        clear O
        go_upto_region 9 with fail
        go_cut [12] from 43 to 56 (fun s12 wx => s12 = .pointer (some ⟨wr.heap.size + 1, 0, none⟩) ∧ OpIs w wr q a s wx)
        case first =>
          rcases (by omega : k = 0 ∨ k = 1 ∨ k = 2) with rfl | rfl | rfl
          · have uz3 : wrap64 ((IntKind.u64.wrap z).tmod 3) = 0 := by rw [uz4]; rfl
            have F : Hid (OpIs w wr q a s ((wr.alloc (.cells (sl15 a) 31)).alloc (.cells #[.int .i64 4, .int .i64 150, .int .i64 0, .int .i64 2, .int .i64 a] 31))) := by
              have := heap_alloc_new (wr.alloc (.cells (sl15 a) 31)) (.cells #[.int .i64 4, .int .i64 150, .int .i64 0, .int .i64 2, .int .i64 a] 31)
              have hb : Below wr.heap.size wr ((wr.alloc (.cells (sl15 a) 31)).alloc (.cells #[.int .i64 4, .int .i64 150, .int .i64 0, .int .i64 2, .int .i64 a] 31)) := ((Below.refl _ _).alloc (Nat.le_refl _) _).alloc (by simp) _
              exact ⟨⟨4, 150, 0, 2, a⟩, .inl rfl, by unfold Bx; simpa using this, OB.out _ hb, .inr ⟨by omega, by simp⟩⟩
            unfold sl15 at F
            clear uz4 OB
            go_wp2
            go_meet
            case rel => exact ⟨rfl, F.out⟩
          · have uz3 : wrap64 ((IntKind.u64.wrap z).tmod 3) = 1 := by rw [uz4]; rfl
            have F : Hid (OpIs w wr q a s ((wr.alloc (.cells (sl15 a) 31)).alloc (.cells #[.int .i64 5, .int .i64 150, .int .i64 0, .int .i64 0, .int .i64 0] 31))) := by
              have := heap_alloc_new (wr.alloc (.cells (sl15 a) 31)) (.cells #[.int .i64 5, .int .i64 150, .int .i64 0, .int .i64 0, .int .i64 0] 31)
              have hb : Below wr.heap.size wr ((wr.alloc (.cells (sl15 a) 31)).alloc (.cells #[.int .i64 5, .int .i64 150, .int .i64 0, .int .i64 0, .int .i64 0] 31)) := ((Below.refl _ _).alloc (Nat.le_refl _) _).alloc (by simp) _
              exact ⟨⟨5, 150, 0, 0, 0⟩, .inr (.inl rfl), by unfold Bx; simpa using this, OB.out _ hb, .inr ⟨by omega, by simp⟩⟩
            unfold sl15 at F
            clear uz4 OB
            go_wp2
            go_meet
            case rel => exact ⟨rfl, F.out⟩
          · have uz3 : wrap64 ((IntKind.u64.wrap z).tmod 3) = 2 := by rw [uz4]; rfl
            have F : Hid (OpIs w wr q a s ((wr.alloc (.cells (sl15 a) 31)).alloc (.cells #[.int .i64 6, .int .i64 150, .int .i64 0, .int .i64 0, .int .i64 0] 31))) := by
              have := heap_alloc_new (wr.alloc (.cells (sl15 a) 31)) (.cells #[.int .i64 6, .int .i64 150, .int .i64 0, .int .i64 0, .int .i64 0] 31)
              have hb : Below wr.heap.size wr ((wr.alloc (.cells (sl15 a) 31)).alloc (.cells #[.int .i64 6, .int .i64 150, .int .i64 0, .int .i64 0, .int .i64 0] 31)) := ((Below.refl _ _).alloc (Nat.le_refl _) _).alloc (by simp) _
              exact ⟨⟨6, 150, 0, 0, 0⟩, .inr (.inr rfl), by unfold Bx; simpa using this, OB.out _ hb, .inr ⟨by omega, by simp⟩⟩
            unfold sl15 at F
            clear uz4 OB
            go_wp2
            go_meet
            case rel => exact ⟨rfl, F.out⟩
        case rest =>
          obtain ⟨rfl, o, ho, BX, OX, xg⟩ := hcut
          have AS := Lib.hid (ow_ask OX o)
          obtain ⟨z0, z1, z2, z3, z4⟩ := BX.cells
          obtain ⟨b6, hb6⟩ : ∃ b, b = (o.kind == 6) := ⟨_, rfl⟩
          have KR : Hid (Kp f0 (asked s o) ∧ ((vo || b6) = true → (asked s o).p.f 150 = eg)) := ⟨K.ask o, fun hh => by
            rw [Bool.or_eq_true] at hh
            rcases hh with hh | hh
            · exact ask_gone (hv hh)
            · rcases ho with rfl | rfl | rfl
              · rw [hh] at hb6; exact absurd hb6 (by simp)
              · rw [hh] at hb6; exact absurd hb6 (by simp)
              · exact ask_void K.j void_mayt rfl rfl⟩
          replace hb6 := hb6.symm
          replace BX := Lib.hid BX
          replace xg := Lib.hid xg
          generalize asked s o = s2 at *
          generalize ans s o = a' at *
          generalize isNew s o = b' at *
          clear hv K cz uz4 OB ho OX
          go_wp2_with fail
          refine AS.out.mono ?_
          rintro e w5 ⟨rfl, O5, K5⟩
          have B5 := BX.out.kx K5 xg.out
          clear z0 z1 z2 z3 z4 AS K5 xg BX
          obtain ⟨z0, z1, z2, z3, z4⟩ := B5.cells
          replace O5 := Lib.hid (O5.less (X' := fun g => g < w.heap.size) fun g hg => .inl hg)
          clear B5
          go_upto_region 11 with fail
          go_cut [10] from 60 to 65 (fun s10 wx => s10 = .bool (vo || b6) ∧ wx = w5)
          case first =>
            cases vo
            all_goals
              go_wp2
              go_meet
              case rel => exact ⟨by first | rfl | (rw [hb6]; rfl), rfl⟩
          case rest =>
          obtain ⟨rfl, rfl⟩ := hcut
          clear z0 z1 z2 z3 z4 hb6
          generalize (vo || b6) = vo2 at *
          obtain ⟨w6, e6⟩ : ∃ x, x = wc := ⟨_, rfl⟩
          subst e6
          have SK := Lib.hid (ow_purse O5.out)
          go_wp2_with fail
          refine SK.out.mono ?_
          rintro e w7 ⟨q7, rfl, hq7, S7, b7⟩
          have O7 : Hid (Ow w.heap.size (fun g => g < w.heap.size) w w7 q s2) := O5.out.below b7
          have EN := Pu.ow_entry S7 150
          clear SK S7 O5 b7 hq7
          go_upto_region 13 with fail
          go_cut [78] from 68 to 78 (fun s78 wx => s78 = .bool false ∧ Below w7.heap.size w7 wx)
          case first =>
            cases vo2 with
            | false =>
              have E := Lib.hid (Below.refl w7.heap.size w7)
              clear EN O7 KR
              go_wp2
              go_meet
              case rel => exact ⟨rfl, E.out⟩
            | true =>
              rw [KR.out.2 rfl] at EN
              unfold cell eg at EN
              simp only at EN
              have EQ3 := fun w => EQ w 3 0 0 3 0 0
              simp only [decide_true] at EQ3
              replace EN := Lib.hid EN
              clear KR O7
              go_wp2_with fail
              refine EN.out.mono ?_
              rintro e w8 ⟨rfl, h8⟩
              replace h8 := Lib.hid h8
              clear EN
              go_wp2
              go_meet
              case rel => exact ⟨rfl, h8.out⟩
          case rest =>
          obtain ⟨rfl, b8⟩ := hcut
          obtain ⟨w8, e8⟩ : ∃ x, x = wc := ⟨_, rfl⟩
          subst e8
          have O8 : Hid (Ow w.heap.size (fun g => g < w.heap.size) w w8 q s2) := O7.out.below b8
          clear EN O7 b8
          obtain ⟨bb, hbb⟩ : ∃ b : Bool, b = (decide (j < n) && decide (¬ ∃ x, l[j]? = some x ∧ x.book = 150)) := ⟨_, rfl⟩
          go_upto_region 15 with fail
          go_cut [90] from 79 to 90 (fun s90 wx => s90 = .bool bb ∧ wx = w8)
          case first =>
            by_cases hl : j < n
            · obtain ⟨sx, hs⟩ : ∃ x, l[j]? = some x := ⟨_, List.getElem?_eq_getElem (by have := R.out.len; omega)⟩
              obtain ⟨ad, rfl, hab, hat⟩ := R.out.at_ (by omega)
              obtain ⟨c0, c1, c2, c3, c4⟩ := (hat j sx hs).same (O8.out.be.block _ hab)
              replace hat := Lib.hid hat
              by_cases hb : sx.book = 150
              · have F : Hid (bb = false) := by unfold Hid; rw [hbb, decide_eq_false (p := ¬ ∃ x, l[j]? = some x ∧ x.book = 150) (fun h => h ⟨sx, hs, hb⟩), Bool.and_false]
                have hb1 : (sx.book == 150) = true := beq_iff_eq.2 hb
                replace hs := Lib.hid hs
                clear hbb O8
                go_wp2
                go_meet
                case rel => exact ⟨by rw [F.out], rfl⟩
              · have F : Hid (bb = true) := by
                  unfold Hid
                  rw [hbb, decide_eq_true hl, decide_eq_true (p := ¬ ∃ x, l[j]? = some x ∧ x.book = 150) (fun ⟨x, h1, h2⟩ => hb (by rw [hs] at h1; injection h1 with h1; rw [h1]; exact h2))]; rfl
                have hb1 : (sx.book == 150) = false := beq_eq_false_iff_ne.2 hb
                replace hs := Lib.hid hs
                clear hbb O8
                go_wp2
                go_meet
                case rel => exact ⟨by rw [F.out]; simp only [bne, hb1]; rfl, rfl⟩
            · have F : Hid (bb = false) := by unfold Hid; rw [hbb, decide_eq_false hl]; rfl
              clear hbb O8
              go_wp2
              go_meet
              case rel => exact ⟨by rw [F.out], rfl⟩
          case rest =>
          obtain ⟨rfl, rfl⟩ := hcut
          cases bb with
          | false =>
              clear hbb
              have nx : Hid (VoAt w q (.bool vo2) (.int .i64 ((j + 1 : Nat) : Int)) wc) := ⟨j + 1, vo2, s2, rfl, rfl, by omega, O8.out, KR.out.1, KR.out.2⟩
              clear O8 KR
              go_wp2
              exact ⟨nx.out, by simp [intOf]; omega⟩
          | true =>
              have hl : j < n := by
                have := hbb.symm
                rw [Bool.and_eq_true, decide_eq_true_iff] at this
                exact this.1
              obtain ⟨sx, hs⟩ : ∃ x, l[j]? = some x := ⟨_, List.getElem?_eq_getElem (by have := R.out.len; omega)⟩
              obtain ⟨ad, rfl, hab, hat⟩ := R.out.at_ (by omega)
              obtain ⟨c0, c1, c2, c3, c4⟩ := (hat j sx hs).same (O8.out.be.block _ hab)
              replace hat := Lib.hid hat
              replace hs := Lib.hid hs
              have AS := Lib.hid (ow_ask O8.out sx)
              have KR2 : Hid (Kp f0 (asked s2 sx) ∧ (vo2 = true → (asked s2 sx).p.f 150 = eg)) := ⟨KR.out.1.ask sx, fun h => ask_gone (KR.out.2 h)⟩
              generalize asked s2 sx = s' at *
              generalize ans s2 sx = a2 at *
              generalize isNew s2 sx = b2 at *
              clear O8 hbb KR
              go_wp2_with fail
              refine AS.out.mono ?_
              rintro e w9 ⟨rfl, O9, -⟩
              have nx : Hid (VoAt w q (.bool vo2) (.int .i64 ((j + 1 : Nat) : Int)) w9) := ⟨j + 1, vo2, s', rfl, rfl, by omega, O9, KR2.out.1, KR2.out.2⟩
              clear AS O9 KR2
              go_wp2
              exact ⟨nx.out, by simp [intOf]; omega⟩
    | false =>
      clear hbb
      have SK := Lib.hid (ow_purse O)
      clear O
      go_wp2_with fail
      refine SK.out.mono ?_
      rintro e w7 ⟨q7, rfl, hq7, S7, b7⟩
      have LI := Lib.hid (Pu.ow_lines S7)
      have BE : Hid (Below w.heap.size w w7) := S7.be
      have BS : Hid (w.heap.size ≤ w7.heap.size) := S7.bs
      have HS : Hid (His f0 s.p) := K.h
      have few : s.p.l.length ≤ 600 := K.o.p.few
      have LS : Hid (vo = true → net s.p.l = 0) := fun h => by rw [K.n, hv h]; rfl
      clear SK S7 b7 hq7 K hv
      generalize s.p.l.length = m at LI
      go_wp2_with fail
      refine LI.out.mono ?_
      rintro e w8 ⟨v8, rfl, R8, b8⟩
      obtain ⟨A8, c8, rfl, -⟩ := Pu.rt_form R8
      have hm : Hid (s.p.l.length = m) := Pu.rt_len R8
      have B8 : Hid (Below w.heap.size w w8) := BE.out.trans (b8.mono BS.out)
      have NB : Hid (∀ k, k ≤ s.p.l.length → -(1099511627776 * (k : Int)) ≤ net (s.p.l.take k) ∧ net (s.p.l.take k) ≤ 1099511627776 * (k : Int)) := net_bds HS.out
      have SH : Hid (∀ (k : Nat) (x : Ln), s.p.l[k]? = some x → x.fr ≠ x.tg ∧ 0 ≤ x.am ∧ x.am ≤ 1099511627776) := fun k x hx => by
        obtain ⟨-, -, h1, h2, h3⟩ := HS.out.shp x (List.mem_of_getElem? hx)
        exact ⟨h1, h2, h3⟩
      have few2 : m ≤ 600 := by have := hm.out; omega
      generalize s.p.l = L at *
      clear few HS BE BS b8 LI
      have st : Hid (LnAt w8 L (.int .i64 0) (.int .i64 0) w8) := ⟨0, rfl, rfl, Nat.zero_le _, rfl⟩
      replace R8 := Lib.hid R8
      go_wp2_with fail
      go_loopw [16, 17] (fun vs vi wr => LnAt w8 L vs vi wr) (fun _ i _ => m - (intOf i).toNat)
      case atStart => exact st.out
      case round =>
        clear st
        obtain ⟨k, rfl, rfl, hk, ew⟩ := hrel
        obtain rfl : wr = w8 := ew
        obtain ⟨S, hS⟩ : ∃ S, S = net (L.take k) := ⟨_, rfl⟩
        obtain ⟨sb0, sb1⟩ := NB.out k hk
        rw [← hS] at sb0 sb1 ⊢
        by_cases hkm : k < m
        · obtain ⟨⟨xb, xf, xt, xa⟩, hx⟩ : ∃ x, L[k]? = some x := ⟨_, List.getElem?_eq_getElem (by have := hm.out; omega)⟩
          obtain ⟨g, rfl, r0, r1, r2, r3⟩ := Pu.rt_cell R8.out hx
          obtain ⟨hne, m0, m1⟩ := SH.out k _ hx
          have NX : Hid (net (L.take (k + 1)) = S + one2 ⟨xb, xf, xt, xa⟩) := by rw [hS]; exact net_take hx
          have LX : Hid (∀ y, y = S + one2 ⟨xb, xf, xt, xa⟩ → LnAt wr L (.int .i64 y) (.int .i64 ((k + 1 : Nat) : Int)) wr) := fun y hy => ⟨k + 1, rfl, by rw [NX.out, hy], by have := hm.out; omega, rfl⟩
          simp only at hne m0 m1 r0 r1 r2 r3
          clear hS hk NX
          replace hx := Lib.hid hx
          by_cases hb : xb = 150
          · have b1 : (xb == 150) = true := beq_iff_eq.2 hb
            by_cases hf : xf = 2
            · have f1 : (xf == 2) = true := beq_iff_eq.2 hf
              have t1 : (xt == 2) = false := beq_eq_false_iff_ne.2 (by omega)
              obtain ⟨y, hy⟩ : ∃ y, y = S - xa := ⟨_, rfl⟩
              have wy : IntKind.i64.wrap (S - xa) = y := by rw [hy, IntKind.wrap_i64]; omega
              have nx := Lib.hid (LX.out y (by unfold one2; rw [if_pos ⟨hb, hf⟩, if_neg (fun h => by have := h.2; simp only at this; omega), hy]; simp only; omega))
              clear hb hf hne m0 m1 hy sb0 sb1 LX
              go_wp2
              exact ⟨nx.out, by simp [intOf]; omega⟩
            · have f1 : (xf == 2) = false := beq_eq_false_iff_ne.2 hf
              by_cases ht : xt = 2
              · have t1 : (xt == 2) = true := beq_iff_eq.2 ht
                obtain ⟨y, hy⟩ : ∃ y, y = S + xa := ⟨_, rfl⟩
                have wy : IntKind.i64.wrap (S + xa) = y := by rw [hy, IntKind.wrap_i64]; omega
                have nx := Lib.hid (LX.out y (by unfold one2; rw [if_neg (fun h => hf h.2), if_pos ⟨hb, ht⟩, hy]; simp only; omega))
                clear hb hf ht hne m0 m1 hy sb0 sb1 LX
                go_wp2
                exact ⟨nx.out, by simp [intOf]; omega⟩
              · have t1 : (xt == 2) = false := beq_eq_false_iff_ne.2 ht
                have nx := Lib.hid (LX.out S (by unfold one2; rw [if_neg (fun h => hf h.2), if_neg (fun h => ht h.2)]; omega))
                clear hb hf ht hne m0 m1 sb0 sb1 LX
                go_wp2
                exact ⟨nx.out, by simp [intOf]; omega⟩
          · have b1 : (xb == 150) = false := beq_eq_false_iff_ne.2 hb
            have nx := Lib.hid (LX.out S (by unfold one2; rw [if_neg (fun h => hb h.1), if_neg (fun h => hb h.1)]; omega))
            clear hb hne m0 m1 sb0 sb1 LX
            go_wp2
            exact ⟨nx.out, by simp [intOf]; omega⟩
        · have hS2 : Hid (vo = true → S = 0) := fun h => by rw [hS, List.take_of_length_le (by have := hm.out; omega)]; exact LS.out h
          have TA := Lib.hid (TO.out wr)
          have BS8 := Lib.hid B8.out.size
          clear hS sb0 sb1 R8 NB SH LS hk
          go_wp2_with fail
          refine TA.out.mono ?_
          rintro e w9 ⟨rfl, b9⟩
          have E := Lib.hid (B8.out.trans (b9.mono BS8.out))
          clear TA b9
          cases vo with
          | true =>
            obtain rfl : S = 0 := hS2.out rfl
            go_wp2
            go_ret
            exact ⟨rfl, E.out⟩
          | false =>
            go_wp2
            go_ret
            exact ⟨rfl, E.out⟩
theorem walkd (v0 : Value) (a0 : List Opn) {W : World} (w0 : Osrc W v0 a0) (v1 : Value) (a1 : List Int) (w1 : Src W v1 a1) (a2 : Int) (_w2 : (Lit.int .i64 a2).wf = true) (W' : World) (hW : W' = W) :
    Calls Try.prog 8 #[v0, v1, .int .i64 a2] W' fun e w' => e = .returned (.bool true) ∧ Below W'.heap.size W' w' := by
  subst hW
  obtain ⟨A, n, c, rfl, h1, h2, R⟩ := w0
  obtain ⟨A2, n2, c2, rfl, k1, k2, R2, -⟩ := w1
  exact walk W' A n c a0 R A2 n2 c2 a1 R2 a2 (by omega) (by omega)


/-! The row: every input. -/
set_option linter.unusedVariables false
set_option maxRecDepth 100000 in
theorem lifted (os : Os) (started : os.Started) (H : Type) (enc : TypeId × Value → H) :
    ReturnsInHanded {} Try.checked os 8 .any (Rows.tillVoidSpec.pre6 enc Try.prog Try.f8 Rows.tillVoidRow.domain false) (Rows.tillVoidSpec.post enc Try.prog Try.f8 false true false false) := by
  refine returnsInHanded_of_change (C := Try.checked) own started (by kernel_rfl) Try.func8
    (ChangeSpec.witness6 (enc := enc) (C := Try.checked) false ⟨#[], #[.slice none 0 0, .slice none 0 0, .int .i64 0], []⟩ 8 (by kernel_rfl) (by kernel_rfl) (by kernel_rfl) (by kernel_rfl)) ?_
  intro W base args ds gs before hval0 hW _ _
  have hval : ∀ (j : Nat) t v, Try.f8.params[j]? = some t → args[j]? = some v → Value.okWide Try.prog W .any base t v := hval0
  have hW' := hW
  obtain ⟨p, q, hA0, hV, rfl, hfz, hnd⟩ := hW
  have hA : DataW.TrodAll enc Try.prog W 0 (fun _ => true) true Try.f8.params.toList args.toList ds p := hA0
  rw [Try.params8] at hA hval
  obtain ⟨v0, vs0, d0, ds0, p0, q0, hargs, rfl, rfl, h0, r0⟩ := trodAll_cons hA
  obtain ⟨v1, vs1, d1, ds1, p1, q1, rfl, rfl, rfl, h1, r1⟩ := trodAll_cons r0
  obtain ⟨v2, vs2, d2, ds2, p2, q2, rfl, rfl, rfl, h2, r2⟩ := trodAll_cons r1
  obtain ⟨rfl, rfl, rfl⟩ := trodAll_nil r2
  obtain rfl : args = #[v0, v1, v2] := by cases args; simp_all
  obtain ⟨rfl, rfl⟩ := trodVars_none hV
  obtain ⟨a0, w0⟩ := view_aops (hval 0 44 v0 rfl rfl) h0
  obtain ⟨a1, w1⟩ := view_nums (hval 1 23 v1 rfl rfl) h1
  obtain ⟨a2, rfl, rfl, rfl, w2⟩ := open_int Try.underlying2 (hval 2 2 v2 rfl rfl) h2
  clear hA0 hval0
  simp only [List.append_nil] at hW'
  refine (walkd v0 a0 w0 v1 a1 w1 a2 w2 W rfl).mono fun e W' ⟨he, hb⟩ => ?_
  subst he
  exact ⟨_, rfl, post_below (pa := p0 ++ (p1 ++ ([] ++ []))) (pv := []) hW' (fun _ _ _ => (trodAll_cons_mk (shut_bool Try.underlying4 _) trodAll_mk0)) (fun sp hsp => (trodAll_cons_mk (Trod_stays laidOut (by kernel_rfl) (of_decide_eq_true (by kernel_rfl)) h0 (fun x hx => hb.same (hW'.lt x (by simp [hx]))) (fun x hx => hsp x (by simp [hx]))) (trodAll_cons_mk (Trod_stays laidOut (by kernel_rfl) (of_decide_eq_true (by kernel_rfl)) h1 (fun x hx => hb.same (hW'.lt x (by simp [hx]))) (fun x hx => hsp x (by simp [hx]))) (trodAll_cons_mk (shut_int Try.underlying2 w2) trodAll_mk0)))) (fun _ _ => rfl) (by simp)
    hb (ok_one (by kernel_rfl) rfl (okWide_bool_mk Try.underlying4 _))⟩

theorem proved : Rows.TillVoidSaid :=
  OpenClaim.holds_of_wide 8 Try.f8 rfl rfl rfl rfl rfl rfl rfl ⟨rfl, rfl, rfl, rfl, rfl⟩ rfl rfl rfl rfl rfl (by kernel_rfl) Try.func8 (by kernel_rfl)
    (of_decide_eq_true (by kernel_rfl)) (by unfold Func.isWrapper; first | (rw [if_pos (by decide +kernel)]; kernel_rfl) | (rw [if_neg (by decide +kernel)]; exact ⟨rfl, rfl⟩))
    (fun os started H enc _ => lifted os started H enc)
#print axioms proved

end Go.Proofs.Ytcgkjnofgpcbhaa.tillVoid
