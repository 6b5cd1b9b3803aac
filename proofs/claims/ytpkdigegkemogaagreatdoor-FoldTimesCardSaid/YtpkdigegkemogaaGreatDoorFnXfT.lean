/- Parts of the claim: FnT, FnQ -/
import Derived.Test.YtpkdigegkemogaaGreatDoorFnGT
import Derived.Test.YtpkdigegkemogaaGreatDoorFoXdT
namespace Go.Proofs.YtpkdigegkemogaaGreatDoor
set_option maxRecDepth 100000
open Go.RowKit
open Go.Proofs.YtpkdigegkemogaaGreatDoor.Pk (one_at one_free one_set lt_some u8s)
namespace Fo
open Re (Rec rcc rcv r0 o0 BoxR rmay wpList_rload wpList_rstore)
open St (Kq grq)
open Sg (Tab Sag sgv sgc sz BoxS)
open Pl (setRow_below)

abbrev r1 : Rec := ⟨1, 5, 1, ⟨1, 2, 1, 0, 0⟩, sz⟩
def hs1 : Ho.S := (apH 2 0 Ho.sz r1).2
theorem k_a : ap (.host 2 0 Ho.sz) r1 = (true, .host 2 0 hs1) := Prod.ext (by kernel_rfl) rfl
theorem k_b0 : (ap (.host 2 0 hs1) r1).1 = false := by kernel_rfl
theorem k_b : ap (.host 2 0 hs1) r1 = (false, .host 2 0 hs1) := Prod.ext k_b0 (ap_no k_b0)
theorem k_st : (hs1.f 2).st = 1 := by kernel_rfl
abbrev sx : Sag := ⟨⟨4, 0, 0, 1, 0, 0, 0⟩, 1, 0, 0, 3⟩
abbrev sy : Sag := ⟨⟨4, 0, 0, 1, 0, 0, 0⟩, 3, 0, 4, 3⟩
abbrev rxa : Rec := ⟨3, 3, 0, o0, sx⟩
abbrev ry : Rec := ⟨3, 4, 0, o0, sy⟩
abbrev rxb : Rec := ⟨3, 4, 0, o0, sx⟩
def f1 : Fs.F := Fs.put Fs.fz rxa
def f2 : Fs.F := Fs.put f1 ry
theorem k_c : ap (.desk Fs.fz) rxa = (true, .desk f1) := Prod.ext (by kernel_rfl) (by show Nd.desk (if rmay rxa = true then _ else _) = _; rw [if_pos (by kernel_rfl)]; rfl)
theorem k_d : ap (.desk f1) ry = (true, .desk f2) := Prod.ext (by kernel_rfl) (by show Nd.desk (if rmay ry = true then _ else _) = _; rw [if_pos (by kernel_rfl)]; rfl)
theorem k_e0 : (ap (.desk f2) rxb).1 = false := by kernel_rfl
theorem k_e : ap (.desk f2) rxb = (false, .desk f2) := Prod.ext k_e0 (ap_no k_e0)
theorem k_f : Fs.get f2 4 = sy := by kernel_rfl
theorem k_g : (f2 4).isSome = true := by kernel_rfl
theorem k_h : (Fs.keys f2).length = 1 := by kernel_rfl
theorem k_i : apl ap (.host 2 0 Ho.sz) [r1] = some (.host 2 0 hs1) := by unfold apl; rw [k_a]; rfl
theorem k_j : apl ap (.host 2 0 Ho.sz) [r1, r1] = none := by unfold apl; rw [k_a]; unfold apl; rw [k_b]; rfl
theorem k_z : ini 0 2 0 1 0 1 0 9 0 0 0 = .host 2 0 Ho.sz := rfl
theorem k_y : ini 4 2 0 1 0 1 0 9 0 0 0 = .desk Fs.fz := rfl
theorem k_m1 : St.mayS 2 0 = true := by decide
theorem k_m2 : St.mayS 1 0 = true := by decide
theorem k_f9 : Pu.mayF 9 0 0 0 = true := by decide
theorem k_I : ∀ z ∈ [(9 : Int), 0, 0, 0], Cs.I z := fun z hz => by simp at hz; unfold Cs.I; omega
theorem conf_size2 : (Tryz.prog.info? 29).map (·.size) = some 10 := by kernel_rfl

structure Sw (X : Nat → Prop) (w0 w : World) (q : Nat) (s : Nd) : Prop where
  ex : ∃ fp, R w q s fp ∧ ∀ g, fp g → w0.heap.size ≤ g ∧ ¬ X g
  be : Below w0.heap.size w0 w
  xs : ∀ g, X g → g < w.heap.size
def Kx2 (X : Nat → Prop) (w w' : World) : Prop := w.heap.size ≤ w'.heap.size ∧ ∀ g, X g → w'.heap[g]? = w.heap[g]?
section
variable {X : Nat → Prop} {w0 w w' : World} {q : Nat} {s : Nd}
theorem Sw.below (O : Sw X w0 w q s) (hb : Below w.heap.size w w') : Sw X w0 w' q s := by
  obtain ⟨fp, H, hf⟩ := O.ex
  exact ⟨⟨fp, H.below hb, hf⟩, O.be.trans (hb.mono O.be.size), fun g hg => Nat.lt_of_lt_of_le (O.xs g hg) hb.size⟩
theorem Sw.beside (O : Sw X w0 w q s) (hb : Below w.heap.size w w') : Sw (grq X w w') w0 w' q s := by
  obtain ⟨fp, H, hf⟩ := O.ex
  refine ⟨⟨fp, H.below hb, fun g hg => ⟨(hf g hg).1, ?_⟩⟩, O.be.trans (hb.mono O.be.size), ?_⟩
  · rintro (h | ⟨h, _⟩)
    · exact (hf g hg).2 h
    · have := H.size g hg; omega
  · rintro g (h | ⟨_, h⟩)
    · exact Nat.lt_of_lt_of_le (O.xs g h) hb.size
    · exact h
theorem sw_apply (O : Sw X w0 w q s) (t : Tab w) (r : Rec) : Calls Tryz.prog 14 #[ptr q, rcv r] w fun e w' => e = .returned (.bool (ap s r).1) ∧ Sw X w0 w' q (ap s r).2 ∧ Kx2 X w w' := by
  obtain ⟨fp, H, hf⟩ := O.ex
  refine (apply_any w t q s fp H r).mono ?_
  rintro e w' ⟨rfl, h1, h2⟩
  refine ⟨rfl, ⟨⟨_, h1, fun g hg => ?_⟩, O.be.trans (h2.below (fun g hg => (hf g hg).1) O.be.size), fun g hg => Nat.lt_of_lt_of_le (O.xs g hg) h2.size⟩, h2.size, fun g hg => h2.block g (O.xs g hg) fun e => (hf g e).2 hg⟩
  rcases hg with hg | ⟨hg, _⟩
  · exact hf g hg
  · exact ⟨Nat.le_trans O.be.size hg, fun hx => by have := O.xs g hx; omega⟩
theorem sw_new {w w' : World} {q : Nat} {s : Nd} {fp : Nat → Prop} {w0 : World} (be : Below w0.heap.size w0 w) (H : R w' q s fp) (hf : ∀ g, fp g → w.heap.size ≤ g) (hb : Below w.heap.size w w') : Sw (fun g => g < w.heap.size) w0 w' q s :=
  ⟨⟨fp, H, fun g hg => ⟨Nat.le_trans be.size (hf g hg), by have := hf g hg; omega⟩⟩, be.trans (hb.mono be.size), fun g hg => Nat.lt_of_lt_of_le hg hb.size⟩
end
theorem rat_box {w : World} {g : Nat} {r : Rec} (B : BoxR w g r) : RAt w ⟨g, 0, none⟩ 0 r := fun j v hj => by
  rw [show Addr.add ⟨g, 0, none⟩ (0 * 19) = ⟨g, 0, none⟩ from St.add0 g 0, St.add0, one_at B]
  simpa using hj
theorem rin_1 {w : World} {g : Nat} {r : Rec} (B : BoxR w g r) : Rin w (fun g => g < w.heap.size) (some ⟨g, 0, none⟩) 1 [r] :=
  ⟨rfl, fun _ => ⟨_, rfl, lt_some B, fun i x hi => by
    match i, hi with
    | 0, hi => simp at hi; subst hi; exact rat_box B
    | i + 1, hi => simp at hi⟩⟩
theorem rin_2 {w : World} {g : Nat} {r : Rec} (B : w.heap[g]? = some (.cells (rcc r ++ rcc r) 64 (0, 0))) : Rin w (fun g => g < w.heap.size) (some ⟨g, 0, none⟩) 2 [r, r] :=
  ⟨rfl, fun _ => ⟨_, rfl, lt_some B, fun i x hi => by
    match i, hi with
    | 0, hi =>
      simp at hi; subst hi
      intro j v hj
      rw [show Addr.add ⟨g, 0, none⟩ (0 * 19) = ⟨g, 0, none⟩ from St.add0 g 0, St.add0, one_at B]
      have h19 : j < 19 := by
        have := (List.getElem?_eq_some_iff.1 hj).1
        exact this
      rw [Array.getElem?_append_left (by exact h19)]
      simpa using hj
    | 1, hi =>
      simp at hi; subst hi
      intro j v hj
      rw [show Addr.add ⟨g, 0, none⟩ (1 * 19) = ⟨g, 19, none⟩ from St.add0 g 19, Addr.add_lit, one_at B]
      rw [Array.getElem?_append_right (by show 19 ≤ 19 + j; omega)]
      have e : 19 + j - (rcc r).size = j := by show 19 + j - 19 = j; omega
      rw [e]
      simpa using hj
    | i + 2, hi => simp at hi⟩⟩
theorem fill_rec2 (r : Rec) (n : Nat) (hn : n = 19) : Instr.fill (fun i => some (i * n, n)) ((Array.range (2 * n)).map fun i => ((Value.agg #[.int .i64 0, .int .i64 0, .int .i64 0, .int .i64 0, .int .i64 0, .int .i64 0, .int .i64 0, .int .i64 0, .int .i64 0, .int .i64 0, .int .i64 0, .int .i64 0, .int .i64 0, .int .i64 0, .int .i64 0, .int .i64 0, .int .i64 0, .int .i64 0, .int .i64 0]).cells)[i % (Value.agg #[.int .i64 0, .int .i64 0, .int .i64 0, .int .i64 0, .int .i64 0, .int .i64 0, .int .i64 0, .int .i64 0, .int .i64 0, .int .i64 0, .int .i64 0, .int .i64 0, .int .i64 0, .int .i64 0, .int .i64 0, .int .i64 0, .int .i64 0, .int .i64 0, .int .i64 0]).cells.size]!) [(0, rcv r), (1, rcv r)] = some (rcc r ++ rcc r) := by
  subst hn
  kernel_rfl
theorem run_bslice2 (w : World) (r : Rec) : (Instr.buildSlice 32 2 #[(0, rcv r), (1, rcv r)]).run Tryz.prog w = .ok (.slice (some ⟨w.heap.size, 0, none⟩) 2 2) (w.alloc (.cells (rcc r ++ rcc r) 64)) := by
  obtain ⟨i, hi, hz, hs, -⟩ := info_parts3
  exact run_buildSlice w _ _ 2 _ _ i _ recs_under hi hz (by rw [hs]; decide) (by rw [hs]; decide) (fill_rec2 r i.size hs)
theorem wpList_bslice2 {w : World} {ops : Array Oper} {rest : List Oper} {o : Oper} {a : Act} {Q : Exit → Act → World → Prop} (hgd : o.guard = none) (x y : Operand) (ho : o.op = .buildSlice 32 2 #[(0, x), (1, y)]) (r : Rec) (hx : a.eval x = rcv r) (hy : a.eval y = rcv r)
    (h : wpList Tryz.prog ops Q rest (a.put o.dst (.slice (some ⟨w.heap.size, 0, none⟩) 2 2)) (w.alloc (.cells (rcc r ++ rcc r) 64))) : wpList Tryz.prog ops Q (o :: rest) a w := by
  refine wpList_plain hgd fun K hK' => ?_
  unfold Oper.wp execOp
  simp only [ho, hx, hy, Sem.run_bind, Sem.run_pure, List.map_toArray, List.map_cons, List.map_nil, run_bslice2, Result.andThen_ok]
  exact hK' _ _ h
abbrev cfT : Array Value := #[.int .i64 2, .int .i64 0, .int .i64 1, .int .i64 0, .int .i64 1, .int .i64 0, .int .i64 9, .int .i64 0, .int .i64 0, .int .i64 0]
set_option maxHeartbeats 25600000 in
theorem told_any (w : World) (t : Tab w) : Calls Tryz.prog 10 #[] w fun e w' => e = .returned (.bool true) ∧ Below w.heap.size w w' := by
  have tw := Lib.hid t
  clear t
  go_enter Tryz.func10, Tryz.ntmps10
  go_upto_region 2 with (refine Pl.wpList_store_row rfl 29 (.tmp 1) (.tmp 25) rfl w.heap.size cfT rfl rfl 29 _ (heap_alloc_new _ _) conf_size2 rfl (by simp [Value.oneCell']) ?_)
  obtain ⟨w1, e1⟩ : ∃ z, z = (w.alloc (.cells #[.int .i64 0, .int .i64 0, .int .i64 0, .int .i64 0, .int .i64 0, .int .i64 0, .int .i64 0, .int .i64 0, .int .i64 0, .int .i64 0] 29)).setRow w.heap.size cfT := ⟨_, rfl⟩
  rw [← e1]
  have b1 : Hid (Below w.heap.size w w1) := by rw [e1]; exact ((Below.refl _ _).alloc (Nat.le_refl _) _).trans (setRow_below _ (Nat.le_refl _))
  have C1 : Hid (w1.heap[w.heap.size]? = some (.cells cfT 29 (0, 0))) := by rw [e1]; exact setRow_heap _ _ _ _ _ _ (heap_alloc_new _ _)
  have kl : Hid (w.heap.size < w1.heap.size) := lt_some C1.out
  have NW := new_any w1 0 (by omega) (by omega) 2 0 1 0 1 0 9 0 0 0 k_m1 k_m2 k_m2 k_I k_f9
  rw [k_z] at NW
  replace NW := Lib.hid NW
  clear e1
  go_wp2_with (refine wpList_load_row rfl 29 (.tmp 1) rfl w.heap.size rfl 29 cfT (0, 0) _ C1.out Tryz.underlying29 rfl conf_size2 ?_)
  refine NW.out.mono ?_
  rintro e w2 ⟨q1, fp1, rfl, R1, hf1, hb⟩
  have O1 := Lib.hid (sw_new b1.out R1 hf1 hb)
  have C2 := Lib.hid ((hb.block _ kl.out).trans C1.out)
  clear R1 hf1 NW C1
  have h12 := Lib.hid hb.size
  clear hb
  go_upto_region 6 with (refine wpList_rstore rfl (.tmp 4) (.tmp 38) rfl w2.heap.size rfl r1 rfl r0 (heap_alloc_new _ _) ?_)
  obtain ⟨w3, e3⟩ : ∃ z, z = (w2.alloc (.cells #[.int .i64 0, .int .i64 0, .int .i64 0, .int .i64 0, .int .i64 0, .int .i64 0, .int .i64 0, .int .i64 0, .int .i64 0, .int .i64 0, .int .i64 0, .int .i64 0, .int .i64 0, .int .i64 0, .int .i64 0, .int .i64 0, .int .i64 0, .int .i64 0, .int .i64 0] 64)).setRow w2.heap.size (rcc r1) := ⟨_, rfl⟩
  rw [← e3]
  have b3 : Below w2.heap.size w2 w3 := by rw [e3]; exact ((Below.refl _ _).alloc (Nat.le_refl _) _).trans (setRow_below _ (Nat.le_refl _))
  have B3 : Hid (BoxR w3 w2.heap.size r1) := by rw [e3]; exact setRow_heap _ _ _ _ _ _ (heap_alloc_new _ _)
  have O3 := O1.out.beside b3
  have C3 := (b3.block _ (lt_some C2.out)).trans C2.out
  obtain ⟨rb, hrb⟩ : ∃ z, z = w2.heap.size := ⟨_, rfl⟩
  have rx : grq (fun g => g < w1.heap.size) w2 w3 rb := .inr ⟨by omega, by rw [hrb]; exact lt_some B3.out⟩
  have kx : grq (fun g => g < w1.heap.size) w2 w3 w.heap.size := .inl kl.out
  generalize grq (fun g => g < w1.heap.size) w2 w3 = X1 at *
  rw [← hrb] at B3 ⊢
  have O3d : Sw X1 w w3.drew q1 (.host 2 0 Ho.sz) := O3.below (drew_below _ _)
  have F1 : Hid (Calls Tryz.prog 14 #[ptr q1, rcv r1] w3.drew fun e w' => e = .returned (.bool true) ∧ (Sw X1 w w' q1 (.host 2 0 hs1) ∧ w'.heap[w.heap.size]? = some (.cells cfT 29 (0, 0)) ∧ BoxR w' rb r1) ∧ BoxR w' rb r1) := by
    have h := sw_apply O3d (tw.out.below O3d.be) r1
    rw [k_a] at h
    refine h.mono ?_
    rintro e w' ⟨h1, h2, h3⟩
    have B : BoxR w' rb r1 := (h3.2 _ rx).trans B3.out
    exact ⟨h1, ⟨h2, (h3.2 _ kx).trans C3, B⟩, B⟩
  have F2 : Hid (∀ w', (Sw X1 w w' q1 (.host 2 0 hs1) ∧ w'.heap[w.heap.size]? = some (.cells cfT 29 (0, 0)) ∧ BoxR w' rb r1) → Calls Tryz.prog 14 #[ptr q1, rcv r1] w' fun e w'' => e = .returned (.bool false) ∧ (Sw X1 w w'' q1 (.host 2 0 hs1) ∧ w''.heap[w.heap.size]? = some (.cells cfT 29 (0, 0)) ∧ BoxR w'' rb r1) ∧ BoxR w'' rb r1) := by
    rintro w' ⟨g1, g2, g3⟩
    have h := sw_apply g1 (tw.out.below g1.be) r1
    rw [k_b] at h
    refine h.mono ?_
    rintro e w'' ⟨h1, h2, h3⟩
    have B : BoxR w'' rb r1 := (h3.2 _ rx).trans g3
    exact ⟨h1, ⟨h2, (h3.2 _ kx).trans g2, B⟩, B⟩
  clear e3 b3 hrb O1 C2 O3 C3 O3d rx kx h12 b1 kl
  refine to6 _ _ _ _ _ _ _ _ _ _ _ _ _ _ _ _ _ _ _ _ _ _ _ _ _ _ _ _ _ _ _ _ _ _ _ _ _ _ _ _ _ _ _ _ _ _ _ _ _ _ _ _ _ _ _ _ _ _ _ _ _ _ _ _ _ _ _ _ _ _ _ _ _ _ _ _ _ _ _ _ _ _ _ _ _ _ _ _ _ _ _ _ _ _ _ _ _ _ _ _ _ _ _ _ _ _ _ _ _ _ _ _ _ _ _ _ _ _ _ _ _ _ _ _ _ _ _ _ _ _ _ _ _ _ _ _ _ _ _ _ _ _ _ _ _ _ _ _ w3 q1 rb r1 true false _ _ B3.out F1 F2 _ (fun _ _ d _ _ h => by cases d <;> exact h) (fun _ _ _ _ _ _ w4 dn => ?_)
  obtain ⟨O4, C4, B4⟩ := dn
  replace O4 := Lib.hid O4
  replace C4 := Lib.hid C4
  replace B4 := Lib.hid B4
  clear F1 F2 B3
  obtain ⟨u5, eu⟩ : ∃ z, z = w4.alloc (.cells (rcc r1) 64) := ⟨_, rfl⟩
  have bu : Below w4.heap.size w4 u5 := by rw [eu]; exact (Below.refl _ _).alloc (Nat.le_refl _) _
  have RI := rin_1 (r := r1) (w := u5) (g := w4.heap.size) (by rw [eu]; exact heap_alloc_new _ _)
  have Ou := Lib.hid (O4.out.below bu)
  have Cu := Lib.hid ((bu.block _ (lt_some C4.out)).trans C4.out)
  have Bu := Lib.hid (B4.out.below bu)
  have FD := fold_any u5 (tw.out.below Ou.out.be) 0 (by omega) (by omega) 2 0 1 0 1 0 9 0 0 0 k_m1 k_m2 k_m2 k_I k_f9 (some ⟨w4.heap.size, 0, none⟩) 1 1 [r1] RI (by omega) (.host 2 0 hs1) (by rw [k_z]; exact k_i)
  replace FD := Lib.hid FD
  replace eu := Lib.hid eu
  clear RI bu
  go_wp2_with (first | (refine wpList_load_row rfl 29 (.tmp 1) rfl w.heap.size rfl 29 cfT (0, 0) _ C4.out Tryz.underlying29 rfl conf_size2 ?_) | (refine wpList_rload rfl (.tmp 4) rfl rb rfl r1 B4.out ?_) | (refine wpList_bslice1 rfl (.tmp 47) rfl r1 rfl ?_))
  rw [← eu.out]
  refine FD.out.mono ?_
  rintro e w5 ⟨q2, fp2, rfl, R2, hf2, hb⟩
  have O5 := Lib.hid (Ou.out.below hb)
  have C5 := Lib.hid ((hb.block _ (lt_some Cu.out)).trans Cu.out)
  have B5 := Lib.hid (Bu.out.below hb)
  replace R2 := Lib.hid R2
  clear FD eu Ou Cu Bu hb hf2 O4 C4 B4
  obtain ⟨u6, eu⟩ : ∃ z, z = w5.alloc (.cells #[.int .i64 1, .int .i64 5, .int .i64 1, .int .i64 1, .int .i64 2, .int .i64 1, .int .i64 0, .int .i64 0, .int .i64 sz.w.book, .int .i64 sz.w.cust, .int .i64 sz.w.dead, .int .i64 sz.w.u0, .int .i64 sz.w.u1, .int .i64 sz.w.u2, .int .i64 sz.w.price, .int .i64 sz.ph, .int .i64 sz.st, .int .i64 sz.rs, .int .i64 sz.si, .int .i64 1, .int .i64 5, .int .i64 1, .int .i64 1, .int .i64 2, .int .i64 1, .int .i64 0, .int .i64 0, .int .i64 sz.w.book, .int .i64 sz.w.cust, .int .i64 sz.w.dead, .int .i64 sz.w.u0, .int .i64 sz.w.u1, .int .i64 sz.w.u2, .int .i64 sz.w.price, .int .i64 sz.ph, .int .i64 sz.st, .int .i64 sz.rs, .int .i64 sz.si] 64) := ⟨_, rfl⟩
  have bu : Below w5.heap.size w5 u6 := by rw [eu]; exact (Below.refl _ _).alloc (Nat.le_refl _) _
  have RI := rin_2 (r := r1) (w := u6) (g := w5.heap.size) (by rw [eu]; exact heap_alloc_new _ _)
  have Ou := Lib.hid (O5.out.below bu)
  have Cu := Lib.hid ((bu.block _ (lt_some C5.out)).trans C5.out)
  have Ru := Lib.hid (R2.out.below bu)
  have FD := foldno_any u6 (tw.out.below Ou.out.be) 0 (by omega) (by omega) 2 0 1 0 1 0 9 0 0 0 k_m1 k_m2 k_m2 k_I k_f9 (some ⟨w5.heap.size, 0, none⟩) 2 2 [r1, r1] RI (by omega) (by rw [k_z]; exact k_j)
  replace FD := Lib.hid FD
  replace eu := Lib.hid eu
  clear RI bu
  go_wp2_with (first | (refine wpList_load_row rfl 29 (.tmp 1) rfl w.heap.size rfl 29 cfT (0, 0) _ C5.out Tryz.underlying29 rfl conf_size2 ?_) | (refine wpList_rload rfl (.tmp 4) rfl rb rfl r1 B5.out ?_) | (refine wpList_bslice2 rfl (.tmp 54) (.tmp 55) rfl r1 rfl rfl ?_))
  rw [← eu.out]
  refine FD.out.mono ?_
  rintro e w6 ⟨rfl, hb⟩
  have O6 := Lib.hid (Ou.out.below hb)
  have C6 := Lib.hid ((hb.block _ (lt_some Cu.out)).trans Cu.out)
  have R6 := Lib.hid (Ru.out.below hb)
  clear FD eu Ou Cu Ru hb O5 C5 B5 R2
  have NW := new_any w6 4 (by omega) (by omega) 2 0 1 0 1 0 9 0 0 0 k_m1 k_m2 k_m2 k_I k_f9
  rw [k_y] at NW
  replace NW := Lib.hid NW
  go_wp2_with (refine wpList_load_row rfl 29 (.tmp 1) rfl w.heap.size rfl 29 cfT (0, 0) _ C6.out Tryz.underlying29 rfl conf_size2 ?_)
  refine NW.out.mono ?_
  rintro e w7 ⟨q3, fp3, rfl, R3, hf3, hb⟩
  have O7 := Lib.hid (sw_new O6.out.be R3 hf3 hb)
  obtain ⟨fp1, R1, hr1⟩ := O6.out.ex
  have y1 : Hid (∀ g, fp1 g → g < w6.heap.size) := R1.size
  have y2 : Hid (∀ g, fp2 g → g < w6.heap.size) := R6.out.size
  have R17 := Lib.hid (R1.below hb)
  have R27 := Lib.hid (R6.out.below hb)
  clear R1 hr1 R3 hf3 NW hb O6 C6 R6
  go_upto_region 13 with fail
  obtain ⟨w8, e8⟩ : ∃ z, z = w7.alloc (.cells #[.int .i64 4, .int .i64 0, .int .i64 0, .int .i64 1, .int .i64 0, .int .i64 0, .int .i64 0, .int .i64 1, .int .i64 0, .int .i64 0, .int .i64 3] 57) := ⟨_, rfl⟩
  rw [← e8]
  have b8 : Below w7.heap.size w7 w8 := by rw [e8]; exact (Below.refl _ _).alloc (Nat.le_refl _) _
  obtain ⟨xb, hxb⟩ : ∃ z, z = w7.heap.size := ⟨_, rfl⟩
  have X8 : Hid (BoxS w8 xb sx) := by rw [e8, hxb]; exact heap_alloc_new _ _
  have O8 := O7.out.beside b8
  have xx : grq (fun g => g < w6.heap.size) w7 w8 xb := .inr ⟨by omega, lt_some X8.out⟩
  have xo : ∀ g, g < w6.heap.size → grq (fun g => g < w6.heap.size) w7 w8 g := fun g h => .inl h
  generalize grq (fun g => g < w6.heap.size) w7 w8 = X2 at *
  have R18 := Lib.hid (R17.out.below b8)
  have R28 := Lib.hid (R27.out.below b8)
  rw [← hxb]
  replace O8 := Lib.hid O8
  replace xx := Lib.hid xx
  replace xo := Lib.hid xo
  clear e8 b8 hxb O7 R17 R27
  have AP : Hid (Calls Tryz.prog 14 #[ptr q3, .agg #[.int .i64 3, .int .i64 3, .int .i64 0, .int .i64 0, .int .i64 0, .int .i64 0, .int .i64 0, .int .i64 0, .int .i64 4, .int .i64 0, .int .i64 0, .int .i64 1, .int .i64 0, .int .i64 0, .int .i64 0, .int .i64 1, .int .i64 0, .int .i64 0, .int .i64 3]] w8 fun e w' => e = .returned (.bool true) ∧ Sw X2 w w' q3 (.desk f1) ∧ Kx2 X2 w8 w') := by
    have h := sw_apply O8.out (tw.out.below O8.out.be) rxa
    rw [k_c] at h
    exact h
  go_wp2_with (refine Fs.wpList_sload_g (.tmp 13) rfl rfl ⟨xb, 0, none⟩ rfl sx (Fs.boxs_at X8.out) ?_)
  refine AP.out.mono ?_
  rintro e w9 ⟨rfl, O9, k9⟩
  replace O9 := Lib.hid O9
  have X9 : Hid (BoxS w9 xb sx) := (k9.2 _ xx.out).trans X8.out
  have R19 := Lib.hid (R18.out.keep k9.1 fun g hg => k9.2 g (xo.out g (y1.out g hg)))
  have R29 := Lib.hid (R28.out.keep k9.1 fun g hg => k9.2 g (xo.out g (y2.out g hg)))
  clear AP k9 O8 X8 R18 R28
  go_upto_region 16 with (refine Fs.wpList_sload_g (.tmp 13) rfl rfl ⟨xb, 0, none⟩ rfl sx (Fs.boxs_at X9.out) ?_)
  obtain ⟨wa, ea⟩ : ∃ z, z = w9.alloc (.cells #[.int .i64 4, .int .i64 0, .int .i64 0, .int .i64 1, .int .i64 0, .int .i64 0, .int .i64 0, .int .i64 3, .int .i64 0, .int .i64 4, .int .i64 3] 57) := ⟨_, rfl⟩
  rw [← ea]
  have ba : Below w9.heap.size w9 wa := by rw [ea]; exact (Below.refl _ _).alloc (Nat.le_refl _) _
  obtain ⟨yb, hyb⟩ : ∃ z, z = w9.heap.size := ⟨_, rfl⟩
  have Ya : Hid (BoxS wa yb sy) := by rw [ea, hyb]; exact heap_alloc_new _ _
  have Xa : Hid (BoxS wa xb sx) := (ba.block _ (lt_some X9.out)).trans X9.out
  have Oa := O9.out.beside ba
  have yy : grq X2 w9 wa yb := .inr ⟨by omega, lt_some Ya.out⟩
  have xx2 : grq X2 w9 wa xb := .inl xx.out
  have xo2 : ∀ g, g < w6.heap.size → grq X2 w9 wa g := fun g h => .inl (xo.out g h)
  generalize grq X2 w9 wa = X3 at *
  have R1a := Lib.hid (R19.out.below ba)
  have R2a := Lib.hid (R29.out.below ba)
  rw [← hyb]
  replace Oa := Lib.hid Oa
  replace xx2 := Lib.hid xx2
  replace yy := Lib.hid yy
  replace xo2 := Lib.hid xo2
  clear ea ba hyb O9 X9 R19 R29 xx xo
  have AP : Hid (Calls Tryz.prog 14 #[ptr q3, .agg #[.int .i64 3, .int .i64 4, .int .i64 0, .int .i64 0, .int .i64 0, .int .i64 0, .int .i64 0, .int .i64 0, .int .i64 4, .int .i64 0, .int .i64 0, .int .i64 1, .int .i64 0, .int .i64 0, .int .i64 0, .int .i64 3, .int .i64 0, .int .i64 4, .int .i64 3]] wa fun e w' => e = .returned (.bool true) ∧ Sw X3 w w' q3 (.desk f2) ∧ Kx2 X3 wa w') := by
    have h := sw_apply Oa.out (tw.out.below Oa.out.be) ry
    rw [k_d] at h
    exact h
  go_wp2_with (refine Fs.wpList_sload_g (.tmp 15) rfl rfl ⟨yb, 0, none⟩ rfl sy (Fs.boxs_at Ya.out) ?_)
  refine AP.out.mono ?_
  rintro e wb ⟨rfl, Ob, kb⟩
  replace Ob := Lib.hid Ob
  have Xb : Hid (BoxS wb xb sx) := (kb.2 _ xx2.out).trans Xa.out
  have Yb : Hid (BoxS wb yb sy) := (kb.2 _ yy.out).trans Ya.out
  have R1b := Lib.hid (R1a.out.keep kb.1 fun g hg => kb.2 g (xo2.out g (y1.out g hg)))
  have R2b := Lib.hid (R2a.out.keep kb.1 fun g hg => kb.2 g (xo2.out g (y2.out g hg)))
  clear AP kb Oa Xa Ya R1a R2a
  have AP : Hid (Calls Tryz.prog 14 #[ptr q3, .agg #[.int .i64 3, .int .i64 4, .int .i64 0, .int .i64 0, .int .i64 0, .int .i64 0, .int .i64 0, .int .i64 0, .int .i64 4, .int .i64 0, .int .i64 0, .int .i64 1, .int .i64 0, .int .i64 0, .int .i64 0, .int .i64 1, .int .i64 0, .int .i64 0, .int .i64 3]] wb fun e w' => e = .returned (.bool false) ∧ Sw X3 w w' q3 (.desk f2) ∧ Kx2 X3 wb w') := by
    have h := sw_apply Ob.out (tw.out.below Ob.out.be) rxb
    rw [k_e] at h
    exact h
  go_wp2_with (refine Fs.wpList_sload_g (.tmp 13) rfl rfl ⟨xb, 0, none⟩ rfl sx (Fs.boxs_at Xb.out) ?_)
  refine AP.out.mono ?_
  rintro e wc ⟨rfl, Oc, kb⟩
  have Yc : Hid (BoxS wc yb sy) := (kb.2 _ yy.out).trans Yb.out
  have R1c := Lib.hid (R1b.out.keep kb.1 fun g hg => kb.2 g (xo2.out g (y1.out g hg)))
  have R2c := Lib.hid (R2b.out.keep kb.1 fun g hg => kb.2 g (xo2.out g (y2.out g hg)))
  obtain ⟨fp3, R3c, -⟩ := Oc.ex
  have bc := Lib.hid Oc.be
  have SG := saga_any wc q3 f2 fp3 R3c 4 ⟨by omega, by omega⟩
  rw [k_f, k_g] at SG
  replace SG := Lib.hid SG
  replace R3c := Lib.hid R3c
  clear AP kb Oc Ob Xb Yb R1b R2b yy xx2 xo2 y1 y2
  go_wp2_with fail
  refine SG.out.mono ?_
  rintro e wd ⟨rfl, hb⟩
  have Yd : Hid (BoxS wd yb sy) := (hb.block _ (lt_some Yc.out)).trans Yc.out
  have R1d := Lib.hid (R1c.out.below hb)
  have R2d := Lib.hid (R2c.out.below hb)
  have R3d := Lib.hid (R3c.out.below hb)
  have bd := Lib.hid (bc.out.trans (hb.mono bc.out.size))
  clear SG hb Yc R1c R2c R3c bc
  unfold sgv sgc
  go_upto_region 19 with fail
  obtain ⟨we, ee⟩ : ∃ z, z = wd.alloc (.cells #[.int .i64 4, .int .i64 0, .int .i64 0, .int .i64 1, .int .i64 0, .int .i64 0, .int .i64 0, .int .i64 3, .int .i64 0, .int .i64 4, .int .i64 3] 57) := ⟨_, rfl⟩
  rw [← ee]
  have be : Below wd.heap.size wd we := by rw [ee]; exact (Below.refl _ _).alloc (Nat.le_refl _) _
  obtain ⟨zb, hzb⟩ : ∃ z, z = wd.heap.size := ⟨_, rfl⟩
  have Ze : BoxS we zb sy := by rw [ee, hzb]; exact heap_alloc_new _ _
  have Ye : BoxS we yb sy := (be.block _ (lt_some Yd.out)).trans Yd.out
  have R1e := R1d.out.below be
  have R2e := R2d.out.below be
  have R3e := R3d.out.below be
  have bew := Lib.hid (bd.out.trans (be.mono bd.out.size))
  rw [← hzb]
  have F1 : Hid (∀ w', Below we.heap.size we w' → Calls Tryz.prog 16 #[ptr q1, .int .i64 2] w' fun e w'' => e = .returned (.agg #[.int .i64 1, .int .i64 (hs1.f 2).un, .int .i64 (hs1.f 2).ut, .int .i64 0, .int .i64 0]) ∧ Below we.heap.size we w'') := fun w' hb => by
    have h := entry_any w' q1 2 0 hs1 _ (R1e.below hb) 2 ⟨by omega, by omega⟩
    unfold ec at h
    rw [k_st] at h
    exact h.mono fun e w'' h => ⟨h.1, hb.trans (h.2.mono hb.size)⟩
  have FB : ∀ (q : Nat) (fp : Nat → Prop), R we q (.host 2 0 hs1) fp → ∀ w', Below we.heap.size we w' → Calls Tryz.prog 11 #[ptr q] w' fun e w'' => ∃ A c, e = .returned (.slice A (bys (.host 2 0 hs1)).length c) ∧ w''.ownsRow we.heap.size 5 1 (.slice A (bys (.host 2 0 hs1)).length c) (bys (.host 2 0 hs1)).length (u8s (bys (.host 2 0 hs1))) ∧ Below w'.heap.size w' w'' ∧ Below we.heap.size we w'' := fun q fp H w' hb => by
    have t' : Tab w' := (tw.out.below bew.out).below hb
    refine (bytes_any w' t' q _ fp (H.below hb)).mono ?_
    rintro e w'' ⟨v, rfl, h1, h2⟩
    obtain ⟨A, c, rfl⟩ := Pk.own_form h1
    exact ⟨A, c, rfl, ownsRow_base_a h1 hb.size, h2, hb.trans (h2.mono hb.size)⟩
  have F4 : Hid (∀ w', Below we.heap.size we w' → Calls Tryz.prog 17 #[ptr q3] w' fun e w'' => ∃ A c, e = .returned (.slice A 1 c) ∧ Below we.heap.size we w'') := fun w' hb => by
    refine (books_any w' q3 f2 _ (R3e.below hb)).mono ?_
    rintro e w'' ⟨v, rfl, h1, h2⟩
    rw [k_h] at h1
    obtain ⟨A, c, rfl, -⟩ := St.ri_form h1
    exact ⟨A, c, rfl, hb.trans (h2.mono hb.size)⟩
  have F2 := Lib.hid (FB q2 _ R2e)
  have F3 := Lib.hid (FB q1 _ R1e)
  clear ee be hzb FB R1e R2e R3e R1d R2d R3d Yd bd
  refine to19 _ _ _ _ _ _ _ _ _ _ _ _ _ _ _ _ _ _ _ _ _ _ _ _ _ _ _ _ _ _ _ _ _ _ _ _ _ _ _ _ _ _ _ _ _ _ _ _ _ _ _ _ _ _ _ _ _ _ _ _ _ _ _ _ _ _ _ _ _ _ _ _ _ _ _ _ _ _ _ _ _ _ _ _ _ _ _ _ _ _ _ _ _ _ _ _ _ _ _ _ _ _ _ _ _ _ _ _ _ _ _ _ _ _ _ _ _ _ _ _ _ _ _ _ _ _ _ _ _ _ _ _ _ _ _ _ _ we q1 q2 q3 yb zb sy (hs1.f 2).un (hs1.f 2).ut (bys (.host 2 0 hs1)) Ze Ye F1 F2 F3 F4 _ (fun _ _ d _ _ h => by cases d <;> exact h) (fun _ _ _ _ _ _ _ _ _ _ _ _ _ _ _ _ _ _ _ _ _ _ _ _ _ _ _ _ _ _ _ _ _ _ _ _ _ _ _ _ _ _ _ _ _ _ _ _ _ _ _ _ _ _ _ _ wf hf => ?_)
  have bf := Lib.hid (bew.out.trans (hf.mono bew.out.size))
  clear hf F1 F2 F3 F4
  go_wp2
  go_ret
  exact ⟨rfl, bf.out⟩
end Fo
end Go.Proofs.YtpkdigegkemogaaGreatDoor
namespace Go.Proofs.YtpkdigegkemogaaGreatDoor
set_option maxRecDepth 100000
open Go.ChangeShapes Go.WideShapes Go.ChangeAt Go.WideMaps Go.WideElems Go.RowKit
open Go.Proofs.YtpkdigegkemogaaGreatDoor.Pk (adr_block)
namespace Fo
open Re (Rec)
open Sg (Tab)

theorem apl_host {c v : Int} {s s' : Ho.S} {l : List Rec} (h : apl (apH c v) s l = some s') : apl ap (.host c v s) l = some (.host c v s') := by
  induction l generalizing s with
  | nil =>
    injection h with h
    rw [h]
    rfl
  | cons r l ih =>
    obtain ⟨h1, h2⟩ := apl_cons h
    unfold apl
    have e : ap (.host c v s) r = ((apH c v s r).1, .host c v (apH c v s r).2) := rfl
    rw [e, if_pos h1]
    exact ih h2
theorem q_m : St.mayS 40 0 = true := by decide
theorem q_f : Pu.mayF 0 0 0 0 = true := by decide
theorem q_I : ∀ z ∈ [(0 : Int), 0, 0, 0], Cs.I z := fun z hz => by simp at hz; unfold Cs.I; omega
theorem q_ini {n : Int} (h0 : 0 ≤ n) (h2 : n ≤ 2) : ini n 40 0 40 0 40 0 0 0 0 0 = .host 40 0 Ho.sz := by
  rcases (by omega : n = 0 ∨ n = 1 ∨ n = 2) with rfl | rfl | rfl
  · rfl
  · rfl
  · rfl
noncomputable def prgT : PrgT where
  tb := Tab
  tb_lt := fun t => t.lt
  tb_sub := fun t b h => t.sub b h
  Bh := fun w q s => ∃ fp, R w q (.host 40 0 s) fp
  below := fun ⟨fp, H⟩ hb => ⟨fp, H.below hb⟩
  fold := fun w t n h0 h2 A m c l s hr hm _ _ _ ha => (fold_any w t n h0 (by omega) 40 0 40 0 40 0 0 0 0 0 q_m q_m q_m q_I q_f A m c l hr hm (.host 40 0 s) (by rw [q_ini h0 h2]; exact apl_host ha)).mono fun _ _ ⟨q, fp, h1, h2, _, h4⟩ => ⟨q, h1, ⟨fp, h2⟩, h4⟩
  bytes := fun t ⟨fp, H⟩ => bytes_any _ t _ _ fp H
  told := told_any
theorem lt_of_cell {w : World} {a : Addr} {v : Value} (h : w.cell? a = some v) : a.block < w.heap.size := by
  rcases Nat.lt_or_ge a.block w.heap.size with e | e
  · exact e
  · simp [World.cell?, Array.getElem?_eq_none e] at h
def Nsrc (w : World) (v : Value) (zs : List Int) : Prop := ∃ A n c, v = .slice A n c ∧ n ≤ c ∧ c ≤ 9223372036854775807 ∧ Zin w A n zs
theorem view_nums {H : Type} {enc : TypeId × Value → H} {W : World} {sp : Nat → Bool} {held : Bool} {v : Value} {d : DataW H} {p : List MemPlace} {r : Reach} {b0 : Nat}
    (hv : Value.okWide Tryz.prog W r b0 22 v) (h : DataW.Trod enc Tryz.prog W 0 sp held 22 v d p) : ∃ zs, Nsrc W v zs := by
  obtain ⟨A, n, c, rfl⟩ := okWide_slice Tryz.underlying22 hv
  obtain ⟨fuel, hf⟩ := h
  have c5 : Tryz.prog.cellsOf 3 = 1 := by kernel_rfl
  rcases open_ints Tryz.underlying22 Tryz.underlying3 c5 hf with ⟨hcs, _⟩ | ⟨a, len, cap, zs, hcs, _, hl, hm, hz, _, hcell, hwz⟩
  · obtain ⟨rfl, rfl, rfl⟩ : A = none ∧ n = 0 ∧ c = 0 := by simpa [Value.cells] using hcs
    exact ⟨[], none, 0, 0, rfl, Nat.le_refl _, by omega, rfl, fun h => absurd h (by omega)⟩
  · obtain ⟨rfl, rfl, rfl⟩ : A = some a ∧ n = len ∧ c = cap := by simpa [Value.cells] using hcs
    have hle : n ≤ zs.length := by rw [hz]; split <;> omega
    unfold maxLen at hm
    refine ⟨zs.take n, some a, n, c, rfl, hl, by omega, by simp; omega, fun hn => ⟨a, rfl, ?_, fun j x hj => ?_⟩⟩
    · have := lt_of_cell (hcell 0 (by omega))
      rwa [adr_block] at this
    · rw [List.getElem?_take] at hj
      split at hj
      · have hjz : j < zs.length := by omega
        rw [hcell j hjz, List.getD_eq_getElem?_getD, hj]
        rfl
      · cases hj
end Fo
end Go.Proofs.YtpkdigegkemogaaGreatDoor
