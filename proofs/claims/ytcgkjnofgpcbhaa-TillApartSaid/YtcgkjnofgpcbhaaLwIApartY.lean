/- Proved: what is asked of one booking does not touch the entry of another one, if all have enough (TillApart), for any operations, any booking. -/
import Derived.Test.YtcgkjnofgpcbhaaTiY
import Derived.Test.YtcgkjnofgpcbhaaDiY
import Derived.Test.YtcgkjnofgpcbhaaPoY
import Derived.JoinedRecord
import Derived.HandedShaped
namespace Go.Proofs.Ytcgkjnofgpcbhaa
namespace Ti
open Wt (Opn mayOp)
open Pu (dstp stp eg ez upd upd_same upd_other)

/-- What customers have, at least. -/
def Rich (p : Pu.S) (j : Nat) : Prop := ∀ x : Int, 0 ≤ x → x ≤ 3 → 1099511627776 - 1073741824 * (j : Int) ≤ p.a x
section
variable {p p1 p2 : Pu.S} {b c m kind : Int} {ok : Bool} {s s1 s2 : S} {o : Opn} {j : Nat}
theorem stp_low (O : Pu.Ok p) (hc : ok = true → kind = 4 → 0 ≤ m ∧ m ≤ 1073741824) {x : Int} (x0 : 0 ≤ x) (x3 : x ≤ 3) : p.a x - 1073741824 ≤ (stp p ok kind b c m).1.a x := by
  have hb := (O.shp b).bds
  have void_low : ∀ s : Int, s = 4 ∨ s = 5 → p.a x - 1073741824 ≤ Pu.mvA p.a s (p.f b).cu (p.f b).am x := fun s hs => by
    unfold Pu.mvA upd
    split
    · rename_i e
      rw [← e]
      omega
    · rw [if_neg (by omega)]
      omega
  unfold stp
  split
  · show _ ≤ p.a x
    omega
  · rename_i hok
    split
    · rename_i hk
      obtain ⟨m0, m1⟩ := hc (by simpa using hok) hk
      unfold Pu.auth
      split
      · split
        · show _ ≤ Pu.mvA p.a c 4 m x
          unfold Pu.mvA upd
          rw [if_neg (by omega)]
          split
          · rename_i e
            rw [← e]
            omega
          · omega
        · show _ ≤ p.a x
          omega
      · split
        · show _ ≤ p.a x
          omega
        · show _ ≤ p.a x
          omega
    · split
      · unfold Pu.capt
        split
        · show _ ≤ p.a x
          omega
        · split
          · show _ ≤ Pu.mvA p.a 4 5 (p.f b).am x
            unfold Pu.mvA upd
            rw [if_neg (by omega), if_neg (by omega)]
            omega
          · show _ ≤ p.a x
            omega
      · split
        · show _ ≤ (Pu.void p b).a x
          unfold Pu.void
          split
          · exact void_low 4 (.inl rfl)
          · split
            · exact void_low 5 (.inr rfl)
            · show _ ≤ p.a x
              omega
        · show _ ≤ p.a x
          omega
theorem asked_low (O : Ok s) (hm : o.amount ≤ 1073741824) (R : Rich s.p j) : Rich (asked s o).p (j + 1) := by
  intro x x0 x3
  have r := R x x0 x3
  have : s.p.a x - 1073741824 ≤ (asked s o).p.a x := by
    unfold asked
    split
    · show _ ≤ (dstp s.p o).1.a x
      unfold dstp
      exact stp_low O.p (fun h hk => ⟨((Pu.mayop_bds h).2.2 hk).2.1, hm⟩) x0 x3
    · omega
  omega
theorem stp_same (he : p1.f b = p2.f b) (hr : ok = true → kind = 4 → m ≤ p1.a c ∧ m ≤ p2.a c) :
    (stp p1 ok kind b c m).2 = (stp p2 ok kind b c m).2 ∧ (stp p1 ok kind b c m).1.f b = (stp p2 ok kind b c m).1.f b := by
  cases ok with
  | false =>
    unfold stp
    rw [if_pos rfl, if_pos rfl]
    exact ⟨rfl, he⟩
  | true =>
    unfold stp
    simp only [Bool.true_eq_false, if_false]
    by_cases h1 : kind = 4
    · obtain ⟨r1, r2⟩ := hr rfl h1
      simp only [if_pos h1]
      unfold Pu.auth
      simp only [he]
      by_cases c0 : (p2.f b).st = 0
      · simp only [if_pos c0, if_pos r1, if_pos r2]
        exact ⟨trivial, by show upd _ _ _ b = upd _ _ _ b; rw [upd_same, upd_same]⟩
      · simp only [if_neg c0]
        split
        · exact ⟨rfl, he⟩
        · exact ⟨rfl, he⟩
    · simp only [if_neg h1]
      by_cases h2 : kind = 5
      · simp only [if_pos h2]
        unfold Pu.capt
        simp only [he]
        split
        · exact ⟨rfl, he⟩
        · split
          · exact ⟨rfl, by show upd _ _ _ b = upd _ _ _ b; rw [upd_same, upd_same]⟩
          · exact ⟨rfl, by show upd _ _ _ b = upd _ _ _ b; rw [upd_same, upd_same]⟩
      · simp only [if_neg h2]
        by_cases h3 : kind = 6
        · simp only [if_pos h3]
          refine ⟨trivial, ?_⟩
          have v : ∀ p : Pu.S, (Pu.void p b).f b = eg := fun p => by
            unfold Pu.void
            split
            · exact upd_same _ _ _
            · split
              · exact upd_same _ _ _
              · exact upd_same _ _ _
          rw [v, v]
        · simp only [if_neg h3]
          exact ⟨trivial, he⟩
theorem stp_oth {x : Int} (h : x ≠ b) : (stp p ok kind b c m).1.f x = p.f x := by
  unfold stp
  split
  · rfl
  · split
    · unfold Pu.auth
      split
      · split
        · exact upd_other h
        · exact upd_other h
      · split <;> rfl
    · split
      · unfold Pu.capt
        split
        · rfl
        · split
          · exact upd_other h
          · exact upd_other h
      · split
        · show (Pu.void p b).f x = p.f x
          unfold Pu.void
          split
          · exact upd_other h
          · split
            · exact upd_other h
            · exact upd_other h
        · rfl
end
/-- Of booking b both tills say the same; of money there is enough. -/
structure Ap (b : Int) (j : Nat) (s1 s2 : S) : Prop where
  f : s1.p.f b = s2.p.f b
  g : ∀ k, s1.g b k = s2.g b k
  u1 : Rich s1.p j
  u2 : Rich s2.p j
section
variable {b : Int} {j : Nat} {s1 s2 : S} {o : Opn}
theorem ap_z (b : Int) : Ap b 0 ⟨Pu.new 1099511627776 1099511627776 1099511627776 1099511627776, Tb.fz⟩ ⟨Pu.new 1099511627776 1099511627776 1099511627776 1099511627776, Tb.fz⟩ := by
  have r : Rich (Pu.new 1099511627776 1099511627776 1099511627776 1099511627776) 0 := fun x x0 x3 => by
    rcases (by omega : x = 0 ∨ x = 1 ∨ x = 2 ∨ x = 3) with rfl | rfl | rfl | rfl <;> decide
  exact ⟨rfl, fun _ => rfl, r, r⟩
theorem rich_more {p : Pu.S} (R : Rich p j) : Rich p (j + 1) := fun x x0 x3 => by
  have := R x x0 x3
  omega
theorem ap_skip (A : Ap b j s1 s2) : Ap b (j + 1) s1 s2 := ⟨A.f, A.g, rich_more A.u1, rich_more A.u2⟩
theorem put_oth {g : Tb.F} {a x k : Int} (h : x ≠ o.book) : Tb.putF g o a x k = g x k := by
  unfold Tb.putF
  split
  · exact Tb.upd_other (fun e => h e.1)
  · rfl
theorem ap_other (A : Ap b j s1 s2) (O1 : Ok s1) (hm : o.amount ≤ 1073741824) (h : o.book ≠ b) : Ap b (j + 1) (asked s1 o) s2 := by
  refine ⟨?_, fun k => ?_, asked_low O1 hm A.u1, rich_more A.u2⟩
  · rw [← A.f]
    unfold asked
    split
    · exact stp_oth (fun e => h e.symm)
    · rfl
  · rw [← A.g k]
    unfold asked
    split
    · exact put_oth (fun e => h e.symm)
    · rfl
theorem ap_same (A : Ap b j s1 s2) (O1 : Ok s1) (O2 : Ok s2) (hj : j ≤ 40) (hm : o.amount ≤ 1073741824) (h : o.book = b) :
    ans s1 o = ans s2 o ∧ isNew s1 o = isNew s2 o ∧ Ap b (j + 1) (asked s1 o) (asked s2 o) := by
  have hg := A.g o.kind
  rw [← h] at hg
  have hs := stp_same (ok := mayOp o) (kind := o.kind) (c := o.cust) (m := o.amount) (p1 := s1.p) (p2 := s2.p) (b := o.book) (by rw [h]; exact A.f) (fun hh hk => by
    obtain ⟨c0, c3⟩ := ((Pu.mayop_bds hh).2.2 hk).1
    have := A.u1 _ c0 c3
    have := A.u2 _ c0 c3
    omega)
  obtain ⟨e1, e2⟩ := hs
  refine ⟨?_, ?_, ?_, fun k => ?_, asked_low O1 hm A.u1, asked_low O2 hm A.u2⟩
  · unfold ans
    rw [hg]
    split
    · split
      · exact e1
      · rfl
    · rfl
  · unfold isNew
    rw [hg]
  · unfold asked
    rw [hg]
    split
    · rw [← h]; exact e2
    · exact A.f
  · by_cases hk : mayT o = true ∧ s2.g o.book o.kind = 0
    · have e3 : (dstp s1.p o).2 = (dstp s2.p o).2 := e1
      rw [asked_yes hk.1 (hg.trans hk.2), asked_yes hk.1 hk.2]
      show Tb.putF s1.g o (dstp s1.p o).2 b k = Tb.putF s2.g o (dstp s2.p o).2 b k
      have q1 : Tb.put? s1.g o (dstp s2.p o).2 = true := by rw [← e3]; exact put_is hk.1 (hg.trans hk.2)
      have q2 := put_is (s := s2) hk.1 hk.2
      rw [e3]
      unfold Tb.putF
      rw [if_pos q1, if_pos q2]
      unfold Tb.upd
      split
      · rfl
      · exact A.g k
    · have n1 : asked s1 o = s1 := by unfold asked; rw [if_neg (by rw [hg]; exact hk)]
      have n2 : asked s2 o = s2 := by unfold asked; rw [if_neg hk]
      rw [n1, n2]
      exact A.g k
end
end Ti
end Go.Proofs.Ytcgkjnofgpcbhaa

namespace Go.Proofs.Ytcgkjnofgpcbhaa.tillApart
set_option maxRecDepth 100000
open Go.ChangeShapes Go.WideShapes Go.ChangeAt Go.WideMaps Go.WideElems Go.RowKit
open Go.Sort (grow)
open Go.Proofs.Ytcgkjnofgpcbhaa.Pk (Rb adr_block one_at one_free one_set lt_some grown_set grown_trans below_grown grown_refl u8s own_form)
open Go.Proofs.Ytcgkjnofgpcbhaa.Pu (Ops OpAt Osrc Four view_aops view_nums view_four Rr Src usm usm_lt usm_slot own laidOut bnd post_below E Ln eg ez cell eq_ent_run state_run grq Kx Kq dstp bal)
open Go.Proofs.Ytcgkjnofgpcbhaa.St (RowI ivs ByTo)
open Go.Proofs.Ytcgkjnofgpcbhaa.Ti
open Go.Proofs.Ytcgkjnofgpcbhaa.Wt (Opn mayOp)


def s0 : S := ⟨Pu.new 1099511627776 1099511627776 1099511627776 1099511627776, Tb.fz⟩
def ApAt (w : World) (q d : Nat) (b : Int) (vi : Value) (wr : World) : Prop := ∃ (j : Nat) (s1 s2 : S), vi = .int .i64 j ∧ j ≤ 40 ∧ P2 w q d s1 s2 wr ∧ Ap b j s1 s2
set_option maxHeartbeats 12800000 in
theorem walk (w : World) (A : Option Addr) (n c : Nat) (l : List Opn) (R : Ops w w.heap.size A n l) (book : Int) (hn : n ≤ 9223372036854775807) :
    Calls Try.prog 9 #[.slice A n c, .int .i64 book] w fun e w' => e = .returned (.bool true) ∧ Below w.heap.size w w' := by
  obtain ⟨W0, hW0⟩ : ∃ W, W = w.alloc (.cells #[.int .i64 1099511627776, .int .i64 1099511627776, .int .i64 1099511627776, .int .i64 1099511627776] 60) := ⟨_, rfl⟩
  have BW : Hid (Below w.heap.size w W0) := by rw [hW0]; exact (Below.refl _ _).alloc (Nat.le_refl _) _
  have GW : Hid (W0.heap[w.heap.size]? = some (.cells #[.int .i64 1099511627776, .int .i64 1099511627776, .int .i64 1099511627776, .int .i64 1099511627776] 60 (0, 0))) := by rw [hW0]; exact heap_alloc_new _ _
  have N := ow_new W0 1099511627776 1099511627776 1099511627776 1099511627776 (fun z hz => by simp at hz; subst hz; exact ⟨by decide, by decide⟩) (by decide)
  rw [show (⟨Pu.new 1099511627776 1099511627776 1099511627776 1099511627776, Tb.fz⟩ : S) = s0 from rfl] at N
  replace N := Lib.hid N
  have RN := Lib.hid (fun w => Pu.refnew_any w 1099511627776 1099511627776 1099511627776 1099511627776 (by decide))
  have EQ := eq_ent_run
  replace R := Lib.hid R
  obtain ⟨u0, hu0⟩ : ∃ k, k = usm book 12 := ⟨_, rfl⟩
  have u1 : u0 < 12 := by rw [hu0]; exact usm_lt _ (by omega)
  have uz : wrap64 ((IntKind.u64.wrap book).tmod 12) = (u0 : Int) := by rw [hu0]; exact usm_slot book (n := 12) (by omega) (by omega)
  obtain ⟨bn, hbn⟩ : ∃ u : Nat, u = 1 + u0 := ⟨_, rfl⟩
  have eb : (1 + (u0 : Int)) = (bn : Int) := by omega
  have b1 : 1 ≤ bn := by omega
  have b12 : bn ≤ 12 := by omega
  replace hu0 := Lib.hid hu0
  replace hbn := Lib.hid hbn
  replace hW0 := Lib.hid hW0
  have f0 := one_at (i := 0) GW.out
  have f1 := one_at (i := 1) GW.out
  have f2 := one_at (i := 2) GW.out
  have f3 := one_at (i := 3) GW.out
  go_enter Try.func9, Try.ntmps9
  go_wp2_with fail
  rw [← hW0.out]
  go_wp2_with fail
  refine N.out.mono ?_
  rintro e w1 ⟨q, rfl, O1⟩
  have G1 := (O1.be.block _ (lt_some GW.out)).trans GW.out
  have B1 : Hid (Below w.heap.size w w1) := BW.out.trans (O1.be.mono BW.out.size)
  clear f0 f1 f2 f3 N hW0
  have f0 := one_at (i := 0) G1
  have f1 := one_at (i := 1) G1
  have f2 := one_at (i := 2) G1
  have f3 := one_at (i := 3) G1
  replace O1 := Lib.hid O1
  go_wp2_with fail
  refine (RN.out _).mono ?_
  rintro e w2 ⟨p0, rfl, hp0, L2, b2⟩
  have O2 := O1.out.below b2
  have B2 : Hid (Below w.heap.size w w2) := B1.out.trans (b2.mono B1.out.size)
  have S2 : Hid (W0.heap.size ≤ w2.heap.size) := O2.bs
  have W02 : Hid (w.heap.size ≤ W0.heap.size) := BW.out.size
  obtain ⟨v2, D2, R2, hne, hv⟩ := L2.at_
  have hnn : v2.ownBlock = none := by
    cases e : v2.ownBlock with
    | none => rfl
    | some g =>
      have h2 : g = p0 := hv g e
      exact absurd (e.trans (by rw [h2])) hne
  have P0 := P2.start O2 R2 hnn
  have hall := Lib.hid D2.all
  obtain ⟨dd, hu, hd⟩ := dpur_under
  replace hu := Lib.hid hu
  replace hd := Lib.hid hd
  have hi : Hid ((Try.prog.info? 69).map (·.size) = some (Pu.pcs (Pu.new 1099511627776 1099511627776 1099511627776 1099511627776) v2).length) := by rw [Pu.pcs_len]; exact dpur_size
  obtain ⟨w3, hw3⟩ : ∃ x, x = w2.alloc (.cells (Pu.pcs (Pu.new 1099511627776 1099511627776 1099511627776 1099511627776) v2 ++ z1408).toArray 73) := ⟨_, rfl⟩
  rw [← hw3] at P0
  obtain ⟨d, hdd⟩ : ∃ d, d = w2.heap.size := ⟨_, rfl⟩
  rw [← hdd] at P0
  have st : Hid (ApAt W0 q d bn (.int .i64 0) w3) := ⟨0, s0, s0, rfl, by omega, P0, ap_z _⟩
  have BP : Hid (∀ wx s1 s2, P2 W0 q d s1 s2 wx → Below w.heap.size w wx) := fun wx s1 s2 P => BW.out.trans (P.be.mono BW.out.size)
  have SP : Hid (∀ wx s1 s2, P2 W0 q d s1 s2 wx → w.heap.size ≤ wx.heap.size) := fun wx s1 s2 P => Nat.le_trans BW.out.size P.bs
  replace hw3 := Lib.hid hw3
  replace hdd := Lib.hid hdd
  have pz : Hid (Pu.new 1099511627776 1099511627776 1099511627776 1099511627776 = s0.p) := rfl
  rw [pz.out] at hall hi hw3
  generalize s0.p = pp at hall hi hw3
  clear RN O1 O2 L2 D2 R2 hne hv hnn P0 f0 f1 f2 f3 G1 b2 hp0 B1 B2 S2 W02 pz GW BW
  go_wp2_with (first
    | (refine wpList_load_mid rfl 69 (.tmp 35) rfl p0 0 rfl (Pu.pcs pp v2) dd hall.out hu.out hd.out hi.out ?_)
    | (refine wpList_dtbuild rfl (.tmp 36) rfl pp v2 rfl ?_)
    | (refine wpList_dtbox rfl (.tmp 37) rfl _ rfl ?_; rw [← hw3.out, ← hdd.out]))
  clear hall hu hd hi hw3 hdd
  go_loopw [10] (fun vi wr => ApAt W0 q d bn vi wr) (fun i _ => 40 - (intOf i).toNat)
  case atStart => exact st.out
  case round =>
    clear st
    obtain ⟨j, s1, s2, rfl, hj, P, AP⟩ := hrel
    obtain ⟨bb, hbb⟩ : ∃ b : Bool, b = (decide (j < n) && decide (j < 40)) := ⟨_, rfl⟩
    go_upto_region 8 with fail
    go_cut [46] from 39 to 46 (fun s46 wx => s46 = .bool bb ∧ wx = wr)
    case first =>
      by_cases hjn : j < n
      · by_cases h40 : j < 40
        · have i1 : (j : Int) < 40 := by omega
          have F : Hid (bb = true) := by unfold Hid; rw [hbb, decide_eq_true hjn, decide_eq_true h40]; rfl
          clear hbb P AP
          go_wp2
          go_meet
          case rel => exact ⟨by rw [F.out], rfl⟩
        · have i1 : ¬ (j : Int) < 40 := by omega
          have F : Hid (bb = false) := by unfold Hid; rw [hbb, decide_eq_true hjn, decide_eq_false h40]; rfl
          clear hbb P AP
          go_wp2
          go_meet
          case rel => exact ⟨by rw [F.out], rfl⟩
      · have F : Hid (bb = false) := by unfold Hid; rw [hbb, decide_eq_false hjn]; rfl
        clear hbb P AP
        go_wp2
        go_meet
        case rel => exact ⟨by rw [F.out], rfl⟩
    case rest =>
    obtain ⟨rfl, rfl⟩ := hcut
    obtain ⟨wr, ewr⟩ : ∃ x, x = wc := ⟨_, rfl⟩
    subst ewr
    cases bb with
    | true =>
      have hb := hbb.symm
      rw [Bool.and_eq_true, decide_eq_true_iff, decide_eq_true_iff] at hb
      obtain ⟨hjn, h40⟩ := hb
      clear hbb
      obtain ⟨x, hs⟩ : ∃ s, l[j]? = some s := ⟨_, List.getElem?_eq_getElem (by have := R.out.len; omega)⟩
      obtain ⟨ad, rfl, hab, hat⟩ := R.out.at_ (by omega)
      obtain ⟨c0, c1, c2, c3, c4⟩ := (hat j x hs).same ((BP.out _ _ _ P).block _ hab)
      have i1 : (j : Int) < 40 := by omega
      have OC : Hid (∀ w', Below w.heap.size w w' → OpAt w' ad j x) := fun w' hb => (hat j x hs).same (hb.block _ hab)
      replace hs := Lib.hid hs
      replace hat := Lib.hid hat
      by_cases hm : 1073741824 < x.amount
      · have nx : Hid (ApAt W0 q d bn (.int .i64 ((j + 1 : Nat) : Int)) wr) := ⟨j + 1, s1, s2, rfl, by omega, P, ap_skip AP⟩
        clear P AP OC
        go_wp2
        exact ⟨nx.out, by simp [intOf]; omega⟩
      · have D := Lib.hid (p2_ask P x)
        have O1 := P.ok1
        have O2 := P.ok2
        clear P
        by_cases hb : x.book = (bn : Int)
        · obtain ⟨e1, e2, A2⟩ := ap_same AP O1 O2 hj (by omega) hb
          have hb1 : (x.book == (bn : Int)) = true := beq_iff_eq.2 hb
          have PX : Hid (∀ s w', P2 W0 q d s s2 w' → Calls Try.prog 24 #[.pointer (some ⟨d, 0, none⟩), .agg #[.int .i64 x.kind, .int .i64 x.book, .int .i64 x.units, .int .i64 x.cust, .int .i64 x.amount]] w' fun e w'' => e = .returned (.tuple #[.int .i64 (ans s1 x), .bool (isNew s1 x)]) ∧ P2 W0 q d s (asked s2 x) w'') := fun s w' h => by
            have := px_ask h x
            rw [← e1, ← e2] at this
            exact this
          replace A2 := Lib.hid A2
          generalize asked s1 x = t1 at *
          generalize asked s2 x = t2 at *
          generalize ans s1 x = a at *
          generalize isNew s1 x = p at *
          have q1 : (a != a) = false := by simp
          have q2 : (p != p) = false := by simp
          clear e1 e2 AP O1 O2 hb
          go_wp2_with fail
          refine D.out.mono ?_
          rintro e w2 ⟨rfl, Q2⟩
          have X2 := Lib.hid (PX.out _ _ Q2)
          clear c0 c1 c2 c3 c4
          obtain ⟨c0, c1, c2, c3, c4⟩ := OC.out w2 (BP.out _ _ _ Q2)
          clear D PX Q2
          go_wp2_with fail
          refine X2.out.mono ?_
          rintro e w3 ⟨rfl, Q3⟩
          have nx : Hid (ApAt W0 q d bn (.int .i64 ((j + 1 : Nat) : Int)) w3) := ⟨j + 1, t1, t2, rfl, by omega, Q3, A2.out⟩
          clear X2 Q3 c0 c1 c2 c3 c4
          go_wp2
          exact ⟨nx.out, by simp [intOf]; omega⟩
        · have A2 := Lib.hid (ap_other AP O1 (by omega) hb)
          have hb1 : (x.book == (bn : Int)) = false := beq_eq_false_iff_ne.2 hb
          generalize asked s1 x = t1 at *
          generalize ans s1 x = a at *
          generalize isNew s1 x = p at *
          clear AP O1 O2 hb
          go_wp2_with fail
          refine D.out.mono ?_
          rintro e w2 ⟨rfl, Q2⟩
          clear c0 c1 c2 c3 c4
          obtain ⟨c0, c1, c2, c3, c4⟩ := OC.out w2 (BP.out _ _ _ Q2)
          have nx : Hid (ApAt W0 q d bn (.int .i64 ((j + 1 : Nat) : Int)) w2) := ⟨j + 1, t1, s2, rfl, by omega, Q2, A2.out⟩
          clear D Q2
          go_wp2
          exact ⟨nx.out, by simp [intOf]; omega⟩
    | false =>
      have SK := Lib.hid (ow_purse P.ow)
      have ef := AP.f
      replace P := Lib.hid P
      clear hbb AP hj
      go_wp2_with fail
      refine SK.out.mono ?_
      rintro e w2 ⟨q2, rfl, hq2, S2, b2⟩
      obtain ⟨fp2, L2, -⟩ := S2.ex
      have P2' := P.out.below b2
      have B2 : Hid (Below w.heap.size w w2) := BP.out _ _ _ P2'
      have BS : Hid (w.heap.size ≤ w2.heap.size) := SP.out _ _ _ P2'
      obtain ⟨v3, D2⟩ := P2'.pm
      obtain ⟨⟨ea, eu, et⟩, hE⟩ : ∃ E, E = s2.p.f (bn : Int) := ⟨_, rfl⟩
      have z0 := cell_regrown (D2.st (k := bn) (by omega))
      have z1 := cell_regrown (D2.z1 (k := bn) (by omega))
      have z2 := cell_regrown (D2.z2 (k := bn) (by omega))
      have z3 := cell_regrown (D2.cu (k := bn) (by omega))
      have z4 := cell_regrown (D2.am (k := bn) (by omega))
      rw [← hE] at z0 z3 z4
      have QT := fun dr os => Calls.regrown_of (told_any (grow (redrawn w2 dr) os))
      have QE := fun dr os => Calls.regrown_of (Pu.entry_any _ q2 s1.p fp2 (L2.below (below_regrown w2 dr os)) (bn : Int))
      rw [ef, ← hE] at QE
      unfold cell at QE
      have EQ3 := fun w => EQ w ea eu et ea eu et
      simp only [decide_true] at EQ3
      have j1 : (bn : Int) < 201 := by omega
      have j0 : (0 : Int) ≤ (bn : Int) := by omega
      clear SK P S2 L2 P2' D2 hE ef EQ b2 hq2 BP SP
      go_upto_region 17 with fail
      refine wp_region_quiet_below (by kernel_rfl) (by kernel_rfl) ?_
      repeat (go_big_quiet_step (first | with_reducible exact QT _ _ | with_reducible exact QE _ _))
      refine wpQuiet_nil ?_
      intro w7 hw'
      obtain ⟨⟨dq, osq⟩, hw7⟩ := hw'
      have E : Hid (Below w.heap.size w w7) := by rw [hw7]; exact B2.out.trans ((below_regrown w2 dq osq).mono BS.out)
      clear hw7 z0 z1 z2 z3 z4 QT QE
      go_wp2
      go_ret
      exact ⟨rfl, E.out⟩
theorem walkd (v0 : Value) (a0 : List Opn) {W : World} (w0 : Osrc W v0 a0) (a1 : Int) (_w1 : (Lit.int .i64 a1).wf = true) (W' : World) (hW : W' = W) :
    Calls Try.prog 9 #[v0, .int .i64 a1] W' fun e w' => e = .returned (.bool true) ∧ Below W'.heap.size W' w' := by
  subst hW
  obtain ⟨A, n, c, rfl, h1, h2, R⟩ := w0
  exact walk W' A n c a0 R a1 (by omega)


/-! The row: every input. -/
set_option linter.unusedVariables false
set_option maxRecDepth 100000 in
theorem lifted (os : Os) (started : os.Started) (H : Type) (enc : TypeId × Value → H) :
    ReturnsInHanded {} Try.checked os 9 .any (Rows.tillApartSpec.pre6 enc Try.prog Try.f9 Rows.tillApartRow.domain false) (Rows.tillApartSpec.post enc Try.prog Try.f9 false true false false) := by
  refine returnsInHanded_of_change (C := Try.checked) own started (by kernel_rfl) Try.func9
    (ChangeSpec.witness6 (enc := enc) (C := Try.checked) false ⟨#[], #[.slice none 0 0, .int .i64 0], []⟩ 8 (by kernel_rfl) (by kernel_rfl) (by kernel_rfl) (by kernel_rfl)) ?_
  intro W base args ds gs before hval0 hW _ _
  have hval : ∀ (j : Nat) t v, Try.f9.params[j]? = some t → args[j]? = some v → Value.okWide Try.prog W .any base t v := hval0
  have hW' := hW
  obtain ⟨p, q, hA0, hV, rfl, hfz, hnd⟩ := hW
  have hA : DataW.TrodAll enc Try.prog W 0 (fun _ => true) true Try.f9.params.toList args.toList ds p := hA0
  rw [Try.params9] at hA hval
  obtain ⟨v0, vs0, d0, ds0, p0, q0, hargs, rfl, rfl, h0, r0⟩ := trodAll_cons hA
  obtain ⟨v1, vs1, d1, ds1, p1, q1, rfl, rfl, rfl, h1, r1⟩ := trodAll_cons r0
  obtain ⟨rfl, rfl, rfl⟩ := trodAll_nil r1
  obtain rfl : args = #[v0, v1] := by cases args; simp_all
  obtain ⟨rfl, rfl⟩ := trodVars_none hV
  obtain ⟨a0, w0⟩ := view_aops (hval 0 44 v0 rfl rfl) h0
  obtain ⟨a1, rfl, rfl, rfl, w1⟩ := open_int Try.underlying3 (hval 1 3 v1 rfl rfl) h1
  clear hA0 hval0
  simp only [List.append_nil] at hW'
  refine (walkd v0 a0 w0 a1 w1 W rfl).mono fun e W' ⟨he, hb⟩ => ?_
  subst he
  exact ⟨_, rfl, post_below (pa := p0 ++ ([] ++ [])) (pv := []) hW' (fun _ _ _ => (trodAll_cons_mk (shut_bool Try.underlying4 _) trodAll_mk0)) (fun sp hsp => (trodAll_cons_mk (Trod_stays laidOut (by kernel_rfl) (of_decide_eq_true (by kernel_rfl)) h0 (fun x hx => hb.same (hW'.lt x (by simp [hx]))) (fun x hx => hsp x (by simp [hx]))) (trodAll_cons_mk (shut_int Try.underlying3 w1) trodAll_mk0))) (fun _ _ => rfl) (by simp)
    hb (ok_one (by kernel_rfl) rfl (okWide_bool_mk Try.underlying4 _))⟩

theorem proved : Rows.TillApartSaid :=
  OpenClaim.holds_of_wide 9 Try.f9 rfl rfl rfl rfl rfl rfl rfl ⟨rfl, rfl, rfl, rfl, rfl⟩ rfl rfl rfl rfl rfl (by kernel_rfl) Try.func9 (by kernel_rfl)
    (of_decide_eq_true (by kernel_rfl)) (by unfold Func.isWrapper; first | (rw [if_pos (by decide +kernel)]; kernel_rfl) | (rw [if_neg (by decide +kernel)]; exact ⟨rfl, rfl⟩))
    (fun os started H enc _ => lifted os started H enc)
#print axioms proved

end Go.Proofs.Ytcgkjnofgpcbhaa.tillApart
