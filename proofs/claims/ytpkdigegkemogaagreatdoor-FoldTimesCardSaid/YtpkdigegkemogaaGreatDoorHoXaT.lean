/- Parts of the claim: HoM, HoA, HoB -/
import Derived.Deep.RegionWith
import Derived.Test.YtpkdigegkemogaaGreatDoorSoXT
import Derived.Test.YtpkdigegkemogaaGreatDoorTbXbT
namespace Go.Proofs.YtpkdigegkemogaaGreatDoor
namespace Ho
open Wt (Opn mayOp)
open St (dstp stp tick)

structure S where
  f : St.F
  g : Tb.F
def sz : S := ⟨St.fz, Tb.fz⟩
def mayH (o : Opn) (now : Int) : Bool := mayOp o && tick now && decide (o.kind ≤ 3)
def asked (cap over : Int) (s : S) (o : Opn) (now : Int) : S := if mayH o now = true ∧ s.g o.book o.kind = 0 then ⟨(dstp cap over s.f o now).1, Tb.putF s.g o (dstp cap over s.f o now).2⟩ else s
def ans (cap over : Int) (s : S) (o : Opn) (now : Int) : Int := if mayH o now = true then (if s.g o.book o.kind = 0 then (dstp cap over s.f o now).2 else s.g o.book o.kind) else 2
def isNew (s : S) (o : Opn) (now : Int) : Bool := mayH o now && s.g o.book o.kind == 0
structure Ok (cap over : Int) (s : S) : Prop where
  f : St.Ok cap over s.f
  g : Tb.Ok s.g
section
variable {cap over : Int} {s : S} {o : Opn} {now : Int}
theorem mayh_iff : mayH o now = true ↔ mayOp o = true ∧ tick now = true ∧ o.kind ≤ 3 := by simp [mayH, and_assoc]
theorem dstp_ans (cap over : Int) (f : St.F) (o : Opn) (now : Int) : (dstp cap over f o now).2 = 1 ∨ (dstp cap over f o now).2 = 2 := by
  unfold dstp stp
  split
  · exact .inr rfl
  · split
    · split
      · split
        · exact .inl rfl
        · exact .inr rfl
      · split
        · exact .inl rfl
        · exact .inr rfl
    · split
      · split
        · exact .inl rfl
        · split
          · exact .inl rfl
          · exact .inr rfl
      · split
        · exact .inl rfl
        · exact .inr rfl
theorem put_is (hm : mayH o now = true) (hg : s.g o.book o.kind = 0) : Tb.put? s.g o (dstp cap over s.f o now).2 = true :=
  Tb.put_iff.2 ⟨(mayh_iff.1 hm).1, Tb.maya_iff.2 (dstp_ans cap over s.f o now), hg⟩
theorem asked_no (h : mayH o now = false) : asked cap over s o now = s := by unfold asked; rw [if_neg (fun e => by rw [h] at e; exact absurd e.1 (by decide))]
theorem asked_old (h : s.g o.book o.kind ≠ 0) : asked cap over s o now = s := by unfold asked; rw [if_neg (fun e => h e.2)]
theorem asked_yes (h : mayH o now = true) (hg : s.g o.book o.kind = 0) : asked cap over s o now = ⟨(dstp cap over s.f o now).1, Tb.putF s.g o (dstp cap over s.f o now).2⟩ := by unfold asked; rw [if_pos ⟨h, hg⟩]
theorem ans_no (h : mayH o now = false) : ans cap over s o now = 2 := by unfold ans; rw [if_neg (by rw [h]; decide)]
theorem ans_old (h : mayH o now = true) (hg : s.g o.book o.kind ≠ 0) : ans cap over s o now = s.g o.book o.kind := by unfold ans; rw [if_pos h, if_neg hg]
theorem ans_yes (h : mayH o now = true) (hg : s.g o.book o.kind = 0) : ans cap over s o now = (dstp cap over s.f o now).2 := by unfold ans; rw [if_pos h, if_pos hg]
theorem new_no (h : mayH o now = false) : isNew s o now = false := by unfold isNew; rw [h]; rfl
theorem new_old (h : s.g o.book o.kind ≠ 0) : isNew s o now = false := by unfold isNew; rw [beq_eq_false_iff_ne.2 h, Bool.and_false]
theorem new_yes (h : mayH o now = true) (hg : s.g o.book o.kind = 0) : isNew s o now = true := by unfold isNew; rw [h, hg]; rfl
theorem dstp_ok (h : St.Ok cap over s.f) : St.Ok cap over (dstp cap over s.f o now).1 := by
  unfold dstp
  refine St.ok_stp h (fun hh => ?_) (fun hh hk => ?_) (fun hh => ?_)
  · rw [Bool.and_eq_true] at hh
    exact (Tb.mayop_bds hh.1).1
  · rw [Bool.and_eq_true] at hh
    have h1 := hh.1
    unfold mayOp at h1
    rw [if_pos hk, Bool.and_eq_true, Bool.and_eq_true] at h1
    have h2 := h1.2.1
    unfold Wt.inR at h2
    simpa using h2
  · rw [Bool.and_eq_true] at hh
    exact hh.2
theorem Ok.asked (h : Ok cap over s) (o : Opn) (now : Int) : Ok cap over (asked cap over s o now) := by
  unfold Ho.asked
  split
  · exact ⟨dstp_ok h.f, h.g.put _ _⟩
  · exact h
theorem Ok.swept (h : Ok cap over s) (now : Int) : Ok cap over ⟨St.swF s.f now, s.g⟩ := ⟨St.ok_swF h.f now, h.g⟩
theorem Ok.start (h : St.mayS cap over = true) : Ok cap over sz := by
  obtain ⟨⟨a0, a1⟩, b0, b1⟩ := St.mayS_iff.1 h
  exact ⟨St.ok_z a0 a1 b0 b1, Tb.ok_z⟩
end
end Ho
end Go.Proofs.YtpkdigegkemogaaGreatDoor
namespace Go.Proofs.YtpkdigegkemogaaGreatDoor
set_option maxRecDepth 100000
open Go.RowKit
open Go.Proofs.YtpkdigegkemogaaGreatDoor.Pk (one_at one_free one_set lt_some grown_set grown_trans grown_refl)
namespace Ho
open Wt (Opn mayOp)
open St (Kq grq grq_grq Led Kt dstp)
open Tb (Tab Kz)

section
variable {w w' : World} {h : Nat} {cap over : Int} {f f' : St.F} {g g' : Tb.F} {fl ft : Nat → Prop}
theorem tab_side (T : Tab w h 3 g ft) (hs : w.heap.size ≤ w'.heap.size) (hb : ∀ x, ft x → x ≠ h → w'.heap[x]? = w.heap[x]?) (hc : ∃ cs ty, w'.heap[h]? = some (.cells cs ty (0, 0))) (ht : w'.cell? ⟨h, 3, none⟩ = w.cell? ⟨h, 3, none⟩) : Tab w' h 3 g ft := by
  obtain ⟨mo, h1, h2, h3⟩ := T.at_
  obtain ⟨cs, ty, hc⟩ := hc
  refine ⟨T.ok, T.pin, fun x hx => Nat.lt_of_lt_of_le (T.size x hx) hs, mo, ⟨cs, ty, hc, ?_⟩, ?_, h3⟩
  · rw [← one_at (i := 3) hc, ht]
    exact h1.c
  · rcases h2 with h2 | ⟨m, D, e, ho, TT⟩
    · exact .inl h2
    · exact .inr ⟨m, D, e, Tb.owns_keep ho (hb m (h3 m e) fun e2 => h1.ne_map ho e2.symm), TT⟩
theorem led_side (L : Led w h cap over f fl) (hs : w.heap.size ≤ w'.heap.size) (hb : ∀ x, fl x → x ≠ h → w'.heap[x]? = w.heap[x]?) (hc : ∃ cs ty, w'.heap[h]? = some (.cells cs ty (0, 0))) (ht : ∀ i, i ≠ 3 → w'.cell? ⟨h, i, none⟩ = w.cell? ⟨h, i, none⟩) : Led w' h cap over f fl := by
  obtain ⟨mo, h1, h2, h3⟩ := L.at_
  obtain ⟨cs, ty, hc⟩ := hc
  refine ⟨L.ok, L.pin, fun x hx => Nat.lt_of_lt_of_le (L.size x hx) hs, mo, ⟨cs, ty, hc, ?_, ?_, ?_⟩, ?_, h3⟩
  · rw [← one_at (i := 0) hc, ht 0 (by decide)]
    exact h1.c0
  · rw [← one_at (i := 1) hc, ht 1 (by decide)]
    exact h1.c1
  · rw [← one_at (i := 2) hc, ht 2 (by decide)]
    exact h1.c2
  · rcases h2 with h2 | ⟨m, D, e, ho, TT⟩
    · exact .inl h2
    · exact .inr ⟨m, D, e, St.owns_keep ho (hb m (h3 m e) fun e2 => h1.ne_map ho e2.symm), TT⟩
end
structure Hst (w : World) (h : Nat) (cap over : Int) (s : S) (fp : Nat → Prop) : Prop where
  ex : ∃ fl ft, Led w h cap over s.f fl ∧ Tab w h 3 s.g ft ∧ (∀ x, fl x → ft x → x = h) ∧ (∀ x, fl x → fp x) ∧ ∀ x, ft x → fp x
  size : ∀ x, fp x → x < w.heap.size
def HTo (w : World) (h : Nat) (cap over : Int) (fp : Nat → Prop) (s : S) (w' : World) : Prop := Hst w' h cap over s (grq fp w w') ∧ Kq fp w w'
section
variable {w w' w1 w2 : World} {h : Nat} {cap over : Int} {s s' : S} {fp fp' : Nat → Prop}
theorem Hst.keep (H : Hst w h cap over s fp) (hs : w.heap.size ≤ w'.heap.size) (hk : ∀ x, fp x → w'.heap[x]? = w.heap[x]?) : Hst w' h cap over s fp := by
  obtain ⟨fl, ft, L, T, a, b, c⟩ := H.ex
  exact ⟨⟨fl, ft, L.keep hs fun x hx => hk x (b x hx), T.keep hs fun x hx => hk x (c x hx), a, b, c⟩, fun x hx => Nat.lt_of_lt_of_le (H.size x hx) hs⟩
theorem Hst.below (H : Hst w h cap over s fp) (hb : Below w.heap.size w w') : Hst w' h cap over s fp := H.keep hb.size fun x hx => hb.block x (H.size x hx)
theorem Hst.mono (H : Hst w h cap over s fp) (hf : ∀ x, fp x → fp' x) (hs : ∀ x, fp' x → x < w.heap.size) : Hst w h cap over s fp' := by
  obtain ⟨fl, ft, L, T, a, b, c⟩ := H.ex
  exact ⟨⟨fl, ft, L, T, a, fun x hx => hf x (b x hx), fun x hx => hf x (c x hx)⟩, hs⟩
theorem Hst.pin (H : Hst w h cap over s fp) : fp h := by
  obtain ⟨fl, ft, L, T, a, b, c⟩ := H.ex
  exact b h L.pin
theorem Hst.lt (H : Hst w h cap over s fp) : h < w.heap.size := H.size h H.pin
theorem Hst.ok (H : Hst w h cap over s fp) : Ok cap over s := by
  obtain ⟨fl, ft, L, T, a, b, c⟩ := H.ex
  exact ⟨L.ok, T.ok⟩
theorem HTo.of_below (H : Hst w h cap over s fp) (hb : Below w.heap.size w w') : HTo w h cap over fp s w' :=
  ⟨(H.below hb).mono (fun _ h => .inl h) fun x hx => by
    rcases hx with hx | ⟨_, hx⟩
    · exact Nat.lt_of_lt_of_le (H.size x hx) hb.size
    · exact hx, .of_below hb⟩
theorem HTo.trans (a : HTo w h cap over fp s w1) (b : HTo w1 h cap over (grq fp w w1) s' w2) : HTo w h cap over fp s' w2 := by
  obtain ⟨b1, b2⟩ := b
  rw [grq_grq a.2.size b2.size] at b1
  exact ⟨b1, a.2.trans b2⟩
theorem HTo.wide (a : HTo w h cap over fp s w') (hf : ∀ g, fp g → fp' g) (hs : ∀ g, fp' g → g < w.heap.size) : HTo w h cap over fp' s w' :=
  ⟨a.1.mono (fun g hg => by
    rcases hg with hg | hg
    · exact .inl (hf g hg)
    · exact .inr hg) fun g hg => by
    rcases hg with hg | ⟨_, hg⟩
    · exact Nat.lt_of_lt_of_le (hs g hg) a.2.size
    · exact hg, a.2.mono hf⟩
theorem HTo.after (H : Hst w h cap over s fp) (hb : Below w.heap.size w w1) (a : HTo w1 h cap over fp s' w2) : HTo w h cap over fp s' w2 := by
  have h0 := HTo.of_below H hb
  refine h0.trans (a.wide (fun g hg => .inl hg) fun g hg => ?_)
  rcases hg with hg | ⟨_, hg⟩
  · exact Nat.lt_of_lt_of_le (H.size g hg) hb.size
  · exact hg
theorem Hst.ledger (H : Hst w h cap over s fp) : ∃ fl, Led w h cap over s.f fl ∧ (∀ x, fl x → fp x) ∧ ∀ f' w', St.LTo w h cap over fl f' w' → HTo w h cap over fp ⟨f', s.g⟩ w' := by
  obtain ⟨fl, ft, L, T, a, b, c⟩ := H.ex
  refine ⟨fl, L, b, fun f' w' X => ?_⟩
  obtain ⟨L', K⟩ := X
  have T' : Tab w' h 3 s.g ft := by
    refine tab_side T K.size (fun x hx hn => K.block x (T.size x hx) fun hf => hn (a x hf hx)) ?_ (K.tail 3 (Nat.le_refl _))
    obtain ⟨mo, h1, _⟩ := L'.at_
    obtain ⟨cs, ty, hb, _⟩ := h1.blk
    exact ⟨cs, ty, hb⟩
  refine ⟨⟨⟨grq fl w w', ft, L', T', fun x hx ht => ?_, fun x hx => ?_, fun x hx => .inl (c x hx)⟩, fun x hx => ?_⟩, K.toKq.mono b⟩
  · rcases hx with hx | ⟨hx, _⟩
    · exact a x hx ht
    · exact absurd (T.size x ht) (by omega)
  · rcases hx with hx | hx
    · exact .inl (b x hx)
    · exact .inr hx
  · rcases hx with hx | ⟨_, hx⟩
    · exact Nat.lt_of_lt_of_le (H.size x hx) K.size
    · exact hx
theorem Hst.table (H : Hst w h cap over s fp) : ∃ ft, Tab w h 3 s.g ft ∧ (∀ x, ft x → fp x) ∧ ∀ g' w', Tb.LTo w h 3 ft g' w' → HTo w h cap over fp ⟨s.f, g'⟩ w' := by
  obtain ⟨fl, ft, L, T, a, b, c⟩ := H.ex
  refine ⟨ft, T, c, fun g' w' X => ?_⟩
  obtain ⟨T', K⟩ := X
  have L' : Led w' h cap over s.f fl := by
    refine led_side L K.size (fun x hx hn => K.block x (L.size x hx) fun hf => hn (a x hx hf)) ?_ K.rest
    obtain ⟨mo, h1, _⟩ := T'.at_
    obtain ⟨cs, ty, hb, _⟩ := h1.blk
    exact ⟨cs, ty, hb⟩
  refine ⟨⟨⟨fl, grq ft w w', L', T', fun x hl hx => ?_, fun x hx => .inl (b x hx), fun x hx => ?_⟩, fun x hx => ?_⟩, ⟨K.os, K.tape, K.output, K.size, fun g hg hn => K.block g hg fun e => hn (c g e)⟩⟩
  · rcases hx with hx | ⟨hx, _⟩
    · exact a x hl hx
    · exact absurd (L.size x hl) (by omega)
  · rcases hx with hx | hx
    · exact .inl (c x hx)
    · exact .inr hx
  · rcases hx with hx | ⟨_, hx⟩
    · exact Nat.lt_of_lt_of_le (H.size x hx) K.size
    · exact hx
theorem Hst.start {ty : TypeId} (O : Ok cap over sz) (e : w.heap[h]? = some (.cells #[.int .i64 cap, .int .i64 over, .map none, .map none] ty (0, 0))) : Hst w h cap over sz (fun x => x = h) :=
  ⟨⟨fun x => x = h, fun x => x = h, ⟨O.f, rfl, fun x hx => by rw [hx]; exact lt_some e, none, .of_row (l := [.map none]) e, .inl ⟨rfl, rfl⟩, fun m hm => (nomatch hm)⟩,
    ⟨O.g, rfl, fun x hx => by rw [hx]; exact lt_some e, none, ⟨_, _, e, rfl⟩, .inl ⟨rfl, rfl⟩, fun m hm => (nomatch hm)⟩, fun x hx _ => hx, fun x hx => hx, fun x hx => hx⟩, fun x hx => by rw [hx]; exact lt_some e⟩
end
end Ho
end Go.Proofs.YtpkdigegkemogaaGreatDoor
namespace Go.Proofs.YtpkdigegkemogaaGreatDoor
set_option maxRecDepth 100000
open Go.RowKit
open Go.Sort (grow)
open Go.Proofs.YtpkdigegkemogaaGreatDoor.Pk (one_at one_free one_set lt_some grown_set grown_trans grown_refl)
namespace Ho
open Wt (Opn mayOp)
open St (Kq grq Led Kt dstp tick)
open Tb (Tab Kz)

abbrev opv (o : Opn) : Value := .agg #[.int .i64 o.kind, .int .i64 o.book, .int .i64 o.units, .int .i64 o.cust, .int .i64 o.amount]
abbrev opc (o : Opn) : Array Value := #[.int .i64 o.kind, .int .i64 o.book, .int .i64 o.units, .int .i64 o.cust, .int .i64 o.amount]
set_option maxHeartbeats 800000 in
theorem hnew_yes (w : World) (cap over : Int) (hm : St.mayS cap over = true) : Calls Tryz.prog 56 #[.agg #[.int .i64 cap, .int .i64 over]] w fun e w' => ∃ q, e = .returned (.tuple #[.pointer (some ⟨q, 0, none⟩), .int .i64 0]) ∧ w.heap.size ≤ q ∧ Hst w' q cap over sz (fun x => x = q) ∧ Below w.heap.size w w' := by
  have HB : Hid (∀ w1, Below (w.alloc (.cells #[.int .i64 cap, .int .i64 over] 25)).heap.size (w.alloc (.cells #[.int .i64 cap, .int .i64 over] 25)) w1 → Below w.heap.size w w1) := fun w1 h1 =>
    ((Below.refl _ _).alloc (Nat.le_refl _) _).trans (h1.mono (by simp))
  have NW := fun w => St.new_yes w cap over hm
  have O := Lib.hid (Ok.start hm)
  clear hm
  go_enter Tryz.func56, Tryz.ntmps56
  go_wp2_with fail
  refine (NW _).mono ?_
  rintro e w1 ⟨q, rfl, hq, L, h1⟩
  have B1 := Lib.hid (HB.out w1 h1)
  obtain ⟨mo, g1, g2, g3⟩ := L.at_
  obtain rfl : mo = none := by
    rcases g2 with ⟨e, _⟩ | ⟨m, D, e, ho, T⟩
    · exact e
    · exact absurd (g3 m e).symm (g1.ne_map ho)
  have c0 := g1.c0
  have c1 := g1.c1
  have c2 := g1.c2
  have E : Hid (∃ q', w1.heap.size = q' ∧ w.heap.size ≤ q' ∧ Hst (w1.alloc (.cells #[.int .i64 cap, .int .i64 over, .map none, .map none] 168)) q' cap over sz (fun x => x = q') ∧ Below w.heap.size w (w1.alloc (.cells #[.int .i64 cap, .int .i64 over, .map none, .map none] 168))) :=
    ⟨_, rfl, B1.out.size, .start O.out (heap_alloc_new _ _), B1.out.alloc B1.out.size _⟩
  clear h1 HB NW g1 g2 g3 L hq
  go_wp2
  go_ret2
  obtain ⟨q', rfl, e1, e2, e3⟩ := E.out
  exact ⟨_, rfl, e1, e2, e3⟩
set_option maxHeartbeats 1600000 in
theorem mayask_any (w : World) (o : Opn) (now : Int) : Calls Tryz.prog 88 #[opv o, .int .i64 now] w fun e w' => e = .returned (.bool (mayH o now)) ∧ Below w.heap.size w w' := by
  have MO : ∀ W, Calls Tryz.prog 70 #[.agg #[.int .i64 o.kind, .int .i64 o.book, .int .i64 o.units, .int .i64 o.cust, .int .i64 o.amount]] W _ := fun W => Wt.mayop_any W o
  obtain ⟨W, hW⟩ : ∃ W, W = w.alloc (.cells (opc o) 34) := ⟨_, rfl⟩
  have HB : Hid (Below w.heap.size w W) := by rw [hW]; exact (Below.refl _ _).alloc (Nat.le_refl _) _
  have N0 : Hid (W.heap[w.heap.size]? = some (.cells (opc o) 34 (0, 0))) := by rw [hW]; exact heap_alloc_new _ _
  have MW := Lib.hid (MO W)
  have z0 := one_at (i := 0) N0.out
  have z1 := one_at (i := 1) N0.out
  have z2 := one_at (i := 2) N0.out
  have z3 := one_at (i := 3) N0.out
  have z4 := one_at (i := 4) N0.out
  have F : Hid (mayH o now = (mayOp o && tick now && decide (o.kind ≤ 3))) := rfl
  have bd := fun h => (Tb.mayop_bds (o := o) h).2
  replace hW := Lib.hid hW
  clear MO
  obtain ⟨k, b, u, c, m⟩ := o
  simp only at *
  cases hm : mayOp ⟨k, b, u, c, m⟩ with
  | false =>
    rw [hm] at MW F
    clear bd hm
    go_enter Tryz.func88, Tryz.ntmps88
    go_wp2_with fail
    rw [← hW.out]
    go_wp2_with fail
    refine MW.out.mono ?_
    rintro e w1 ⟨rfl, h1⟩
    have B1 : Hid (Below w.heap.size w w1) := HB.out.trans (h1.mono HB.out.size)
    clear h1 MW z0 z1 z2 z3 z4
    go_wp2
    go_ret
    rw [F.out]
    exact ⟨rfl, B1.out⟩
  | true =>
    obtain ⟨k1, k6⟩ := bd hm
    rw [hm] at MW F
    clear bd hm
    have go : ∀ r : Bool, (tick now && decide (k ≤ 3)) = r → Calls Tryz.prog 88 #[.agg #[.int .i64 k, .int .i64 b, .int .i64 u, .int .i64 c, .int .i64 m], .int .i64 now] w fun e w' => e = .returned (.bool r) ∧ Below w.heap.size w w' := by
      intro r hr
      have hr := Lib.hid hr
      by_cases t0 : now < 0
      · have er : Hid (r = false) := by
          have : tick now = false := by unfold tick; rw [decide_eq_false (by omega)]; rfl
          unfold Hid
          rw [← hr.out, this]; rfl
        go_enter Tryz.func88, Tryz.ntmps88
        go_wp2_with fail
        rw [← hW.out]
        go_wp2_with fail
        refine MW.out.mono ?_
        rintro e w1 ⟨rfl, h1⟩
        have B1 : Hid (Below w.heap.size w w1) := HB.out.trans (h1.mono HB.out.size)
        clear h1 MW z0 z1 z2 z3 z4
        go_wp2
        go_ret
        rw [er.out]
        exact ⟨rfl, B1.out⟩
      · by_cases t1 : 1099511627776 < now
        · have er : Hid (r = false) := by
            have : tick now = false := by unfold tick; rw [decide_eq_false (p := now ≤ 1099511627776) (by omega), Bool.and_false]
            unfold Hid
            rw [← hr.out, this]; rfl
          go_enter Tryz.func88, Tryz.ntmps88
          go_wp2_with fail
          rw [← hW.out]
          go_wp2_with fail
          refine MW.out.mono ?_
          rintro e w1 ⟨rfl, h1⟩
          have B1 : Hid (Below w.heap.size w w1) := HB.out.trans (h1.mono HB.out.size)
          clear h1 MW z0 z1 z2 z3 z4
          go_wp2
          go_ret
          rw [er.out]
          exact ⟨rfl, B1.out⟩
        · have ti : tick now = true := St.tick_iff.2 ⟨by omega, by omega⟩
          rw [ti, Bool.true_and] at hr
          clear ti
          rcases (by omega : k = 1 ∨ k = 2 ∨ k = 3 ∨ 3 < k) with h4 | h4 | h4 | h4
          · have er : Hid (r = true) := by unfold Hid; rw [← hr.out]; exact decide_eq_true (by omega)
            have n1 : (k == 1) = true := beq_iff_eq.2 h4
            clear k1 k6 h4
            go_enter Tryz.func88, Tryz.ntmps88
            go_wp2_with fail
            rw [← hW.out]
            go_wp2_with fail
            refine MW.out.mono ?_
            rintro e w1 ⟨rfl, h1⟩
            have B1 : Hid (Below w.heap.size w w1) := HB.out.trans (h1.mono HB.out.size)
            have y0 := one_at (i := 0) ((h1.block _ (lt_some N0.out)).trans N0.out)
            clear h1 MW z0 z1 z2 z3 z4
            go_wp2
            go_ret
            rw [er.out]
            exact ⟨rfl, B1.out⟩
          · have er : Hid (r = true) := by unfold Hid; rw [← hr.out]; exact decide_eq_true (by omega)
            have n1 : (k == 1) = false := beq_eq_false_iff_ne.2 (by omega)
            have n2 : (k == 2) = true := beq_iff_eq.2 h4
            clear k1 k6 h4
            go_enter Tryz.func88, Tryz.ntmps88
            go_wp2_with fail
            rw [← hW.out]
            go_wp2_with fail
            refine MW.out.mono ?_
            rintro e w1 ⟨rfl, h1⟩
            have B1 : Hid (Below w.heap.size w w1) := HB.out.trans (h1.mono HB.out.size)
            have y0 := one_at (i := 0) ((h1.block _ (lt_some N0.out)).trans N0.out)
            clear h1 MW z0 z1 z2 z3 z4
            go_wp2
            go_ret
            rw [er.out]
            exact ⟨rfl, B1.out⟩
          · have er : Hid (r = true) := by unfold Hid; rw [← hr.out]; exact decide_eq_true (by omega)
            have n1 : (k == 1) = false := beq_eq_false_iff_ne.2 (by omega)
            have n2 : (k == 2) = false := beq_eq_false_iff_ne.2 (by omega)
            have n3 : (k == 3) = true := beq_iff_eq.2 h4
            clear k1 k6 h4
            go_enter Tryz.func88, Tryz.ntmps88
            go_wp2_with fail
            rw [← hW.out]
            go_wp2_with fail
            refine MW.out.mono ?_
            rintro e w1 ⟨rfl, h1⟩
            have B1 : Hid (Below w.heap.size w w1) := HB.out.trans (h1.mono HB.out.size)
            have y0 := one_at (i := 0) ((h1.block _ (lt_some N0.out)).trans N0.out)
            clear h1 MW z0 z1 z2 z3 z4
            go_wp2
            go_ret
            rw [er.out]
            exact ⟨rfl, B1.out⟩
          · have er : Hid (r = false) := by unfold Hid; rw [← hr.out]; exact decide_eq_false (by omega)
            have n1 : (k == 1) = false := beq_eq_false_iff_ne.2 (by omega)
            have n2 : (k == 2) = false := beq_eq_false_iff_ne.2 (by omega)
            have n3 : (k == 3) = false := beq_eq_false_iff_ne.2 (by omega)
            clear k1 k6 h4
            go_enter Tryz.func88, Tryz.ntmps88
            go_wp2_with fail
            rw [← hW.out]
            go_wp2_with fail
            refine MW.out.mono ?_
            rintro e w1 ⟨rfl, h1⟩
            have B1 : Hid (Below w.heap.size w w1) := HB.out.trans (h1.mono HB.out.size)
            have y0 := one_at (i := 0) ((h1.block _ (lt_some N0.out)).trans N0.out)
            clear h1 MW z0 z1 z2 z3 z4
            go_wp2
            go_ret
            rw [er.out]
            exact ⟨rfl, B1.out⟩
    have := go _ rfl
    rw [Bool.true_and] at F
    rw [F.out]
    exact this
end Ho
end Go.Proofs.YtpkdigegkemogaaGreatDoor
