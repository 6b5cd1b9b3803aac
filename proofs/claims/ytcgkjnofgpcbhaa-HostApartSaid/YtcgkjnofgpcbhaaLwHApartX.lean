/- Proved: what is asked of one booking does not touch the entry of another one, but for units (HostApart), for any operations of an inventory with room for all, any booking. -/
import Derived.Test.YtcgkjnofgpcbhaaHoM
import Derived.Test.YtcgkjnofgpcbhaaHoT
import Derived.Test.YtcgkjnofgpcbhaaDhX
import Derived.Test.YtcgkjnofgpcbhaaSxX
import Derived.JoinedRecord
import Derived.HandedShaped
namespace Go.Proofs.Ytcgkjnofgpcbhaa
namespace Ho
open Wt (Opn mayOp)
open St (dstp stp tick eg ez upd upd_same upd_other uni hu room)

def used (f : St.F) : Int := uni 1 f + uni 2 f
section
variable {cap over now b u kind : Int} {f f1 f2 : St.F} {ok : Bool} {s s1 s2 : S} {o : Opn}
theorem used_upd (f : St.F) (e : St.E) (h1 : 1 ≤ b) (h2 : b ≤ 200) : used (upd f b e) = used f + (hu 1 e + hu 2 e - hu 1 (f b) - hu 2 (f b)) := by
  unfold used
  rw [St.uni_upd 1 f e h1 h2, St.uni_upd 2 f e h1 h2]
  omega
theorem hu_pos (O : St.Ok cap over f) (b : Int) : 0 ≤ hu 1 (f b) ∧ 0 ≤ hu 2 (f b) := ⟨((O.shp b).hu0 (s := 1)).1, ((O.shp b).hu0 (s := 2)).1⟩
theorem used_gone (O : St.Ok cap over f) (h1 : 1 ≤ b) (h2 : b ≤ 200) : used (upd f b eg) ≤ used f := by
  rw [used_upd f eg h1 h2]
  have := hu_pos O b
  have e1 : hu 1 eg = 0 := rfl
  have e2 : hu 2 eg = 0 := rfl
  omega
theorem stp_used (O : St.Ok cap over f) (hb : ok = true → 1 ≤ b ∧ b ≤ 200) (hu_ : ok = true → kind = 1 → 1 ≤ u ∧ u ≤ 1000) : used (stp cap over f ok kind b u now).1 ≤ used f + 1000 := by
  cases ok with
  | false => unfold stp; rw [if_pos rfl]; show used f ≤ _; omega
  | true =>
    obtain ⟨h1, h2⟩ := hb rfl
    have P := hu_pos O b
    have G := used_gone O h1 h2
    unfold stp
    rw [if_neg (by decide)]
    split
    · rename_i hk
      obtain ⟨u1, u2⟩ := hu_ rfl hk
      split
      · split
        · show used (upd f b ⟨1, u, now + 60⟩) ≤ _
          rw [used_upd f _ h1 h2]
          have e1 : hu 1 ⟨1, u, now + 60⟩ = u := rfl
          have e2 : hu 2 ⟨1, u, now + 60⟩ = 0 := rfl
          omega
        · show used (upd f b eg) ≤ _
          omega
      · split
        · show used f ≤ _
          omega
        · show used f ≤ _
          omega
    · split
      · split
        · show used f ≤ _
          omega
        · split
          · rename_i hc
            show used (upd f b ⟨2, (f b).un, 0⟩) ≤ _
            rw [used_upd f _ h1 h2]
            have e1 : hu 1 ⟨2, (f b).un, 0⟩ = 0 := rfl
            have e2 : hu 2 ⟨2, (f b).un, 0⟩ = (f b).un := rfl
            have e3 : hu 1 (f b) = (f b).un := by unfold hu; rw [if_pos hc.1]
            omega
          · show used (upd f b eg) ≤ _
            omega
      · split
        · show used (upd f b eg) ≤ _
          omega
        · show used f ≤ _
          omega
theorem may_units (h : mayOp o = true) (hk : o.kind = 1) : 1 ≤ o.units ∧ o.units ≤ 1000 := by
  unfold mayOp at h
  rw [if_pos hk, Bool.and_eq_true, Bool.and_eq_true] at h
  have h2 := h.2.1
  unfold Wt.inR at h2
  simpa using h2
theorem asked_used (O : Ok cap over s) : used (asked cap over s o now).f ≤ used s.f + 1000 := by
  unfold asked
  split
  · show used (dstp cap over s.f o now).1 ≤ _
    unfold dstp
    refine stp_used O.f (fun h => ?_) fun h hk => ?_
    · rw [Bool.and_eq_true] at h
      exact (Tb.mayop_bds h.1).1
    · rw [Bool.and_eq_true] at h
      exact may_units h.1 hk
  · omega
theorem stp_same (he : f1 b = f2 b) (hr : ok = true → kind = 1 → u ≤ room cap over f1 ∧ u ≤ room cap over f2) :
    (stp cap over f1 ok kind b u now).2 = (stp cap over f2 ok kind b u now).2 ∧ (stp cap over f1 ok kind b u now).1 b = (stp cap over f2 ok kind b u now).1 b := by
  cases ok with
  | false =>
    unfold stp
    rw [if_pos rfl, if_pos rfl]
    exact ⟨rfl, he⟩
  | true =>
    unfold stp
    simp only [Bool.true_eq_false, if_false, he]
    by_cases h1 : kind = 1
    · obtain ⟨r1, r2⟩ := hr rfl h1
      simp only [if_pos h1, if_pos r1, if_pos r2]
      by_cases c0 : (f2 b).st = 0
      · simp only [if_pos c0, upd_same, and_self]
      · simp only [if_neg c0]
        by_cases c1 : (f2 b).st ≠ 3 ∧ (f2 b).un = u
        · simp only [if_pos c1]
          exact ⟨trivial, he⟩
        · simp only [if_neg c1]
          exact ⟨trivial, he⟩
    · simp only [if_neg h1]
      by_cases h2 : kind = 2
      · simp only [if_pos h2]
        by_cases c0 : (f2 b).st = 2
        · simp only [if_pos c0]
          exact ⟨trivial, he⟩
        · simp only [if_neg c0]
          by_cases c1 : (f2 b).st = 1 ∧ now < (f2 b).ut
          · simp only [if_pos c1, upd_same, and_self]
          · simp only [if_neg c1, upd_same, and_self]
      · simp only [if_neg h2]
        by_cases h3 : kind = 3
        · simp only [if_pos h3, upd_same, and_self]
        · simp only [if_neg h3]
          exact ⟨trivial, he⟩
theorem stp_oth {x : Int} (hx : x ≠ b) : (stp cap over f ok kind b u now).1 x = f x := by
  unfold stp
  split
  · rfl
  · split
    · split
      · split
        · exact upd_other hx
        · exact upd_other hx
      · split
        · rfl
        · rfl
    · split
      · split
        · rfl
        · split
          · exact upd_other hx
          · exact upd_other hx
      · split
        · exact upd_other hx
        · rfl
end
/-- Of booking b both hosts say the same; of units there are enough. -/
structure Ap (b : Int) (j : Nat) (s1 s2 : S) : Prop where
  f : s1.f b = s2.f b
  g : ∀ k, s1.g b k = s2.g b k
  u1 : used s1.f ≤ 1000 * (j : Int)
  u2 : used s2.f ≤ 1000 * (j : Int)
section
variable {b now : Int} {j : Nat} {s1 s2 : S} {o : Opn}
theorem ap_z (b : Int) : Ap b 0 sz sz := ⟨rfl, fun _ => rfl, by show used St.fz ≤ _; unfold used; rw [St.uni_z, St.uni_z]; omega, by show used St.fz ≤ _; unfold used; rw [St.uni_z, St.uni_z]; omega⟩
theorem put_oth {g : Tb.F} {a x k : Int} (h : x ≠ o.book) : Tb.putF g o a x k = g x k := by
  unfold Tb.putF
  split
  · exact Tb.upd_other (fun e => h e.1)
  · rfl
theorem ap_other (A : Ap b j s1 s2) (O1 : Ok 1000000 0 s1) (h : o.book ≠ b) : Ap b (j + 1) (asked 1000000 0 s1 o now) s2 := by
  have u1 := asked_used (o := o) (now := now) O1
  have a1 := A.u1
  have a2 := A.u2
  refine ⟨?_, fun k => ?_, by omega, by omega⟩
  · rw [← A.f]
    unfold asked
    split
    · exact stp_oth (fun e => h e.symm)
    · rfl
  · rw [← A.g k]
    unfold asked
    split
    · exact put_oth (fun e => h e.symm)
    · rfl
theorem room_is (f : St.F) : room 1000000 0 f = 1000000 - used f := by unfold room used; omega
theorem ap_same (A : Ap b j s1 s2) (O1 : Ok 1000000 0 s1) (O2 : Ok 1000000 0 s2) (hj : j ≤ 40) (h : o.book = b) :
    ans 1000000 0 s1 o now = ans 1000000 0 s2 o now ∧ isNew s1 o now = isNew s2 o now ∧ Ap b (j + 1) (asked 1000000 0 s1 o now) (asked 1000000 0 s2 o now) := by
  have u1 := asked_used (o := o) (now := now) O1
  have u2 := asked_used (o := o) (now := now) O2
  have a1 := A.u1
  have a2 := A.u2
  have hg := A.g o.kind
  rw [← h] at hg
  have hs := stp_same (cap := 1000000) (over := 0) (ok := mayOp o && tick now) (kind := o.kind) (u := o.units) (now := now) (f1 := s1.f) (f2 := s2.f) (b := o.book) (by rw [h]; exact A.f) (fun hh hk => by
    rw [Bool.and_eq_true] at hh
    have := may_units hh.1 hk
    rw [room_is, room_is]
    omega)
  obtain ⟨e1, e2⟩ := hs
  refine ⟨?_, ?_, ?_, fun k => ?_, by omega, by omega⟩
  · unfold ans
    rw [hg]
    split
    · split
      · exact e1
      · rfl
    · rfl
  · unfold isNew
    rw [hg]
  · unfold asked
    rw [hg]
    split
    · rw [← h]; exact e2
    · exact A.f
  · unfold asked
    rw [hg]
    split
    · show Tb.putF s1.g o (stp 1000000 0 s1.f _ _ _ _ _).2 b k = Tb.putF s2.g o (stp 1000000 0 s2.f _ _ _ _ _).2 b k
      rw [e1]
      unfold Tb.putF Tb.put?
      rw [hg]
      split
      · by_cases hk : k = o.kind
        · rw [← h, hk, Tb.upd_same, Tb.upd_same]
        · rw [Tb.upd_other (fun e => hk e.2), Tb.upd_other (fun e => hk e.2)]
          exact A.g k
      · exact A.g k
    · exact A.g k
end
end Ho
end Go.Proofs.Ytcgkjnofgpcbhaa

namespace Go.Proofs.Ytcgkjnofgpcbhaa.hostApart
set_option maxRecDepth 100000
open Go.ChangeShapes Go.WideShapes Go.ChangeAt Go.WideMaps Go.WideElems Go.RowKit
open Go.Sort (grow)
open Go.Proofs.Ytcgkjnofgpcbhaa.Pk (Rb adr_block one_at one_free one_set lt_some grown_set grown_trans below_grown grown_refl u8s own_form)
open Go.Proofs.Ytcgkjnofgpcbhaa.St (Stp Ops OpAt Osrc view_sops view_nums view_stock Rr Src usm usm_lt usm_slot own laidOut bnd post_below E eg ez cell eq_ent_run grq Kx dstp stp tick tick_of tick_iff swF swL RowI ivs ByTo upd upd_same upd_other gone_do)
open Go.Proofs.Ytcgkjnofgpcbhaa.Ho
open Go.Proofs.Ytcgkjnofgpcbhaa.Wt (Opn mayOp)


/-- The program's host at q, which was asked all; the document's at d, which was asked of one booking. -/
structure P2 (B : World) (q d : Nat) (s1 s2 : S) (W : World) : Prop where
  ow : Ow B.heap.size (fun g => g = d) B W q 1000000 0 s1
  dh : Dh W d 1000000 0 s2
  dlt : B.heap.size ≤ d
  ok2 : Ok 1000000 0 s2
theorem P2.below {B W W' : World} {q d : Nat} {s1 s2 : S} (P : P2 B q d s1 s2 W) (hb : Below W.heap.size W W') : P2 B q d s1 s2 W' := ⟨P.ow.below hb, P.dh.below hb, P.dlt, P.ok2⟩
theorem p2_ask {B W : World} {q d : Nat} {s1 s2 : S} (P : P2 B q d s1 s2 W) (p : Opn) (now : Int) : Calls Try.prog 11 #[.pointer (some ⟨q, 0, none⟩), opv p, .int .i64 now] W fun e w' => e = .returned (.tuple #[.int .i64 (ans 1000000 0 s1 p now), .bool (isNew s1 p now)]) ∧ P2 B q d (asked 1000000 0 s1 p now) s2 w' := by
  refine (ow_ask P.ow p now).mono ?_
  rintro e w' ⟨rfl, h1, h2, h3⟩
  exact ⟨rfl, h1, P.dh.keep (h3 d rfl), P.dlt, P.ok2⟩
theorem px_ask {B W : World} {q d : Nat} {s1 s2 : S} (P : P2 B q d s1 s2 W) (p : Opn) (now : Int) : Calls Try.prog 18 #[.pointer (some ⟨d, 0, none⟩), opv p, .int .i64 now] W fun e w' => e = .returned (.tuple #[.int .i64 (ans 1000000 0 s2 p now), .bool (isNew s2 p now)]) ∧ P2 B q d s1 (asked 1000000 0 s2 p now) w' := by
  refine (refask_any W d 1000000 0 s2 P.dh P.ok2 p now).mono ?_
  rintro e w' ⟨rfl, h1, K⟩
  exact ⟨rfl, P.ow.side K rfl P.dlt, h1, P.dlt, P.ok2.asked p now⟩
def ApAt (w : World) (q d : Nat) (b : Int) (vn vi : Value) (wr : World) : Prop := ∃ (j : Nat) (nw : Int) (s1 s2 : S), vi = .int .i64 j ∧ vn = .int .i64 nw ∧ j ≤ 40 ∧ 0 ≤ nw ∧ nw ≤ 30 * j ∧ P2 w q d s1 s2 wr ∧ Ap b j s1 s2
set_option maxHeartbeats 12800000 in
theorem walk (w : World) (A : Option Addr) (n c : Nat) (l : List Stp) (R : Ops w w.heap.size A n l) (book : Int) (hn : n ≤ 9223372036854775807) :
    Calls Try.prog 5 #[.slice A n c, .int .i64 book] w fun e w' => e = .returned (.bool true) ∧ Below w.heap.size w w' := by
  have N := Lib.hid (ow_new w 1000000 0 (by decide))
  have EQ := eq_ent_run
  replace R := Lib.hid R
  obtain ⟨u0, hu0⟩ : ∃ k, k = usm book 12 := ⟨_, rfl⟩
  have u1 : u0 < 12 := by rw [hu0]; exact usm_lt _ (by omega)
  have uz : wrap64 ((IntKind.u64.wrap book).tmod 12) = (u0 : Int) := by rw [hu0]; exact usm_slot book (n := 12) (by omega) (by omega)
  obtain ⟨bn, hbn⟩ : ∃ u : Nat, u = 1 + u0 := ⟨_, rfl⟩
  have eb : (1 + (u0 : Int)) = (bn : Int) := by omega
  have b1 : 1 ≤ bn := by omega
  have b12 : bn ≤ 12 := by omega
  replace hu0 := Lib.hid hu0
  replace hbn := Lib.hid hbn
  go_enter Try.func5, Try.ntmps5
  go_wp2_with fail
  refine N.out.mono ?_
  rintro e w1 ⟨q, rfl, O1⟩
  replace O1 := Lib.hid O1
  clear N
  go_upto_region 5 with fail

  clear uz eb
  go_wp2_with (first | (refine wpList_build12 rfl rfl ?_) | (refine wpList_box12 rfl (.tmp 32) rfl zeros12 rfl ?_) | (refine wpList_store_mid rfl 28 (.tmp 38) (.tmp 35) rfl w1.heap.size 0 (stv 1000000 0) rfl rfl (new_there w1) stock_size (stv_one _ _) ?_; have P0 := Lib.hid (pd_start O1.out); generalize w1.heap.size = d at P0 ⊢; generalize World.setCells _ _ _ _ = w3 at P0 ⊢))
  have st : Hid (ApAt w q d bn (.int .i64 0) (.int .i64 0) w3) := ⟨0, 0, sz, sz, rfl, rfl, by omega, by omega, by omega, ⟨P0.out.ow, P0.out.dh, P0.out.dlt, .start (by decide)⟩, ap_z _⟩
  clear O1 P0
  go_wp2_with fail
  go_loopw [9, 10] (fun vn vi wr => ApAt w q d bn vn vi wr) (fun _ i _ => 40 - (intOf i).toNat)
  case atStart => exact st.out
  case round =>
    clear st
    obtain ⟨j, nw, s1, s2, rfl, rfl, hj, n0, n1, P, AP⟩ := hrel
    obtain ⟨bb, hbb⟩ : ∃ b : Bool, b = (decide (j < n) && decide (j < 40)) := ⟨_, rfl⟩
    go_upto_region 9 with fail
    go_cut [46] from 39 to 46 (fun s46 wx => s46 = .bool bb ∧ wx = wr)
    case first =>
      by_cases hjn : j < n
      · by_cases h40 : j < 40
        · have i1 : (j : Int) < 40 := by omega
          have F : Hid (bb = true) := by unfold Hid; rw [hbb, decide_eq_true hjn, decide_eq_true h40]; rfl
          clear hbb P AP
          go_wp2
          go_meet
          case rel => exact ⟨by rw [F.out], rfl⟩
        · have i1 : ¬ (j : Int) < 40 := by omega
          have F : Hid (bb = false) := by unfold Hid; rw [hbb, decide_eq_true hjn, decide_eq_false h40]; rfl
          clear hbb P AP
          go_wp2
          go_meet
          case rel => exact ⟨by rw [F.out], rfl⟩
      · have F : Hid (bb = false) := by unfold Hid; rw [hbb, decide_eq_false hjn]; rfl
        clear hbb P AP
        go_wp2
        go_meet
        case rel => exact ⟨by rw [F.out], rfl⟩
    case rest =>
    obtain ⟨rfl, rfl⟩ := hcut
    obtain ⟨wr, ewr⟩ : ∃ x, x = wc := ⟨_, rfl⟩
    subst ewr
    cases bb with
    | true =>
      have hb := hbb.symm
      rw [Bool.and_eq_true, decide_eq_true_iff, decide_eq_true_iff] at hb
      obtain ⟨hjn, h40⟩ := hb
      clear hbb
      obtain ⟨x, hs⟩ : ∃ s, l[j]? = some s := ⟨_, List.getElem?_eq_getElem (by have := R.out.len; omega)⟩
      obtain ⟨ad, rfl, hab, hat⟩ := R.out.at_ (by omega)
      obtain ⟨-, c1, c2, c3, c4, c5, c6, -, -⟩ := (hat j x hs).same (P.ow.be.block _ hab)
      have i1 : (j : Int) < 40 := by omega
      obtain ⟨d', hd'⟩ : ∃ k, k = usm x.d 30 := ⟨_, rfl⟩
      have d1' : d' < 30 := by rw [hd']; exact usm_lt _ (by omega)
      have uz : wrap64 ((IntKind.u64.wrap x.d).tmod 30) = (d' : Int) := by rw [hd']; exact usm_slot x.d (n := 30) (by omega) (by omega)
      obtain ⟨nw2, hnw⟩ : ∃ x : Int, x = nw + (d' : Int) := ⟨_, rfl⟩
      have m0 : 0 ≤ nw2 := by omega
      have m1 : nw2 ≤ 30 * ((j + 1 : Nat) : Int) := by omega
      have D := Lib.hid (p2_ask P x.o nw2)
      have OC : Hid (∀ w', Below w.heap.size w w' → OpAt w' ad j x) := fun w' hb => (hat j x hs).same (hb.block _ hab)
      replace hs := Lib.hid hs
      replace hat := Lib.hid hat
      replace hd' := Lib.hid hd'
      have O1 := P.ow.ok
      have O2 := P.ok2
      clear P
      by_cases hb : x.o.book = (bn : Int)
      · obtain ⟨e1, e2, A2⟩ := ap_same (now := nw2) AP O1 O2 hj hb
        have hb1 : (x.o.book == (bn : Int)) = true := beq_iff_eq.2 hb
        have PX : Hid (∀ s w', P2 w q d s s2 w' → Calls Try.prog 18 #[.pointer (some ⟨d, 0, none⟩), .agg #[.int .i64 x.o.kind, .int .i64 x.o.book, .int .i64 x.o.units, .int .i64 x.o.cust, .int .i64 x.o.amount], .int .i64 nw2] w' fun e w'' => e = .returned (.tuple #[.int .i64 (ans 1000000 0 s1 x.o nw2), .bool (isNew s1 x.o nw2)]) ∧ P2 w q d s (asked 1000000 0 s2 x.o nw2) w'') := fun s w' h => by
          have := px_ask h x.o nw2
          rw [← e1, ← e2] at this
          exact this
        replace A2 := Lib.hid A2
        generalize asked 1000000 0 s1 x.o nw2 = t1 at *
        generalize asked 1000000 0 s2 x.o nw2 = t2 at *
        generalize ans 1000000 0 s1 x.o nw2 = a at *
        generalize isNew s1 x.o nw2 = p at *
        have q1 : (a != a) = false := by simp
        have q2 : (p != p) = false := by simp
        clear e1 e2 AP O1 O2 hb
        go_upto_region 12 with fail
        rw [uz, ← hnw]
        clear uz
        replace hnw := Lib.hid hnw
        go_wp2_with fail
        refine D.out.mono ?_
        rintro e w2 ⟨rfl, Q2⟩
        have X2 := Lib.hid (PX.out _ _ Q2)
        clear c1 c2 c3 c4 c5 c6
        obtain ⟨-, c1, c2, c3, c4, c5, c6, -, -⟩ := OC.out w2 Q2.ow.be
        clear D PX Q2
        go_wp2_with fail
        refine X2.out.mono ?_
        rintro e w3 ⟨rfl, Q3⟩
        have nx : Hid (ApAt w q d bn (.int .i64 nw2) (.int .i64 ((j + 1 : Nat) : Int)) w3) := ⟨j + 1, nw2, t1, t2, rfl, rfl, by omega, m0, m1, Q3, A2.out⟩
        clear X2 Q3 c1 c2 c3 c4 c5 c6
        go_wp2
        exact ⟨nx.out, by simp [intOf]; omega⟩
      · have A2 := Lib.hid (ap_other (now := nw2) AP O1 hb)
        have hb1 : (x.o.book == (bn : Int)) = false := beq_eq_false_iff_ne.2 hb
        generalize asked 1000000 0 s1 x.o nw2 = t1 at *
        generalize ans 1000000 0 s1 x.o nw2 = a at *
        generalize isNew s1 x.o nw2 = p at *
        clear AP O1 O2 hb
        go_upto_region 12 with fail
        rw [uz, ← hnw]
        clear uz
        replace hnw := Lib.hid hnw
        go_wp2_with fail
        refine D.out.mono ?_
        rintro e w2 ⟨rfl, Q2⟩
        clear c1 c2 c3 c4 c5 c6
        obtain ⟨-, c1, c2, c3, c4, c5, c6, -, -⟩ := OC.out w2 Q2.ow.be
        have nx : Hid (ApAt w q d bn (.int .i64 nw2) (.int .i64 ((j + 1 : Nat) : Int)) w2) := ⟨j + 1, nw2, t1, s2, rfl, rfl, by omega, m0, m1, Q2, A2.out⟩
        clear D Q2
        go_wp2
        exact ⟨nx.out, by simp [intOf]; omega⟩
    | false =>
      have SK := Lib.hid (ow_stock P.ow)
      have ef := AP.f
      replace P := Lib.hid P
      clear hbb AP n0 n1 hj
      go_wp2_with fail
      refine SK.out.mono ?_
      rintro e w2 ⟨q2, rfl, S2⟩
      obtain ⟨fp2, L2, -⟩ := S2.ex
      have D2 := P.out.dh.below S2.be
      have B2 : Hid (Below w.heap.size w w2) := (P.out.below S2.be).ow.be
      have BS : Hid (w.heap.size ≤ w2.heap.size) := (P.out.below S2.be).ow.bs
      obtain ⟨⟨ea, eu, et⟩, hE⟩ : ∃ E, E = s2.f (bn : Int) := ⟨_, rfl⟩
      have z0 := cell_regrown (D2.st.st (k := bn) (by omega))
      have z1 := cell_regrown (D2.st.un (k := bn) (by omega))
      have z2 := cell_regrown (D2.st.ut (k := bn) (by omega))
      have z3 := cell_regrown (D2.st.z3 (k := bn) (by omega))
      have z4 := cell_regrown (D2.st.z4 (k := bn) (by omega))
      rw [← hE] at z0 z1 z2
      have QT := fun dr os => Calls.regrown_of (htold_any (grow (redrawn w2 dr) os))
      have QE := fun dr os => Calls.regrown_of (St.entry_any _ q2 1000000 0 s1.f fp2 (L2.below (below_regrown w2 dr os)) (bn : Int) ⟨by omega, by omega⟩)
      rw [ef, ← hE] at QE
      unfold cell at QE
      have EQ3 := fun w => EQ w ea eu et ea eu et
      simp only [decide_true] at EQ3
      have j1 : (bn : Int) < 201 := by omega
      have j0 : (0 : Int) ≤ (bn : Int) := by omega
      clear SK P S2 L2 D2 hE ef EQ
      go_upto_region 18 with fail
      refine wp_region_quiet_below (by kernel_rfl) (by kernel_rfl) ?_
      repeat (go_big_quiet_step (first | with_reducible exact QT _ _ | with_reducible exact QE _ _))
      refine wpQuiet_nil ?_
      intro w7 hw'
      obtain ⟨⟨dq, osq⟩, hw7⟩ := hw'
      have E : Hid (Below w.heap.size w w7) := by rw [hw7]; exact B2.out.trans ((below_regrown w2 dq osq).mono BS.out)
      clear hw7 z0 z1 z2 z3 z4 QT QE
      go_wp2
      go_ret
      exact ⟨rfl, E.out⟩
theorem walkd (v0 : Value) (a0 : List Stp) {W : World} (w0 : Osrc W v0 a0) (a1 : Int) (_w1 : (Lit.int .i64 a1).wf = true) (W' : World) (hW : W' = W) :
    Calls Try.prog 5 #[v0, .int .i64 a1] W' fun e w' => e = .returned (.bool true) ∧ Below W'.heap.size W' w' := by
  subst hW
  obtain ⟨A, n, c, rfl, h1, h2, R⟩ := w0
  exact walk W' A n c a0 R a1 (by omega)


/-! The row: every input. -/
set_option linter.unusedVariables false
set_option maxRecDepth 100000 in
theorem lifted (os : Os) (started : os.Started) (H : Type) (enc : TypeId × Value → H) :
    ReturnsInHanded {} Try.checked os 5 .any (Rows.hostApartSpec.pre6 enc Try.prog Try.f5 Rows.hostApartRow.domain false) (Rows.hostApartSpec.post enc Try.prog Try.f5 false true false false) := by
  refine returnsInHanded_of_change (C := Try.checked) own started (by kernel_rfl) Try.func5
    (ChangeSpec.witness6 (enc := enc) (C := Try.checked) false ⟨#[], #[.slice none 0 0, .int .i64 0], []⟩ 8 (by kernel_rfl) (by kernel_rfl) (by kernel_rfl) (by kernel_rfl)) ?_
  intro W base args ds gs before hval0 hW _ _
  have hval : ∀ (j : Nat) t v, Try.f5.params[j]? = some t → args[j]? = some v → Value.okWide Try.prog W .any base t v := hval0
  have hW' := hW
  obtain ⟨p, q, hA0, hV, rfl, hfz, hnd⟩ := hW
  have hA : DataW.TrodAll enc Try.prog W 0 (fun _ => true) true Try.f5.params.toList args.toList ds p := hA0
  rw [Try.params5] at hA hval
  obtain ⟨v0, vs0, d0, ds0, p0, q0, hargs, rfl, rfl, h0, r0⟩ := trodAll_cons hA
  obtain ⟨v1, vs1, d1, ds1, p1, q1, rfl, rfl, rfl, h1, r1⟩ := trodAll_cons r0
  obtain ⟨rfl, rfl, rfl⟩ := trodAll_nil r1
  obtain rfl : args = #[v0, v1] := by cases args; simp_all
  obtain ⟨rfl, rfl⟩ := trodVars_none hV
  obtain ⟨a0, w0⟩ := view_sops (hval 0 22 v0 rfl rfl) h0
  obtain ⟨a1, rfl, rfl, rfl, w1⟩ := open_int Try.underlying3 (hval 1 3 v1 rfl rfl) h1
  clear hA0 hval0
  simp only [List.append_nil] at hW'
  refine (walkd v0 a0 w0 a1 w1 W rfl).mono fun e W' ⟨he, hb⟩ => ?_
  subst he
  exact ⟨_, rfl, post_below (pa := p0 ++ ([] ++ [])) (pv := []) hW' (fun _ _ _ => (trodAll_cons_mk (shut_bool Try.underlying4 _) trodAll_mk0)) (fun sp hsp => (trodAll_cons_mk (Trod_stays laidOut (by kernel_rfl) (of_decide_eq_true (by kernel_rfl)) h0 (fun x hx => hb.same (hW'.lt x (by simp [hx]))) (fun x hx => hsp x (by simp [hx]))) (trodAll_cons_mk (shut_int Try.underlying3 w1) trodAll_mk0))) (fun _ _ => rfl) (by simp)
    hb (ok_one (by kernel_rfl) rfl (okWide_bool_mk Try.underlying4 _))⟩

theorem proved : Rows.HostApartSaid :=
  OpenClaim.holds_of_wide 5 Try.f5 rfl rfl rfl rfl rfl rfl rfl ⟨rfl, rfl, rfl, rfl, rfl⟩ rfl rfl rfl rfl rfl (by kernel_rfl) Try.func5 (by kernel_rfl)
    (of_decide_eq_true (by kernel_rfl)) (by unfold Func.isWrapper; first | (rw [if_pos (by decide +kernel)]; kernel_rfl) | (rw [if_neg (by decide +kernel)]; exact ⟨rfl, rfl⟩))
    (fun os started H enc _ => lifted os started H enc)
#print axioms proved

end Go.Proofs.Ytcgkjnofgpcbhaa.hostApart
