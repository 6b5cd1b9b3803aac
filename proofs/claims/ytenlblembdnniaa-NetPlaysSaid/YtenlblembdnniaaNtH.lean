/- Drop, Take of a net. -/
import Derived.Test.YtenlblembdnniaaNtG
namespace Go.Proofs.Ytenlblembdnniaa
set_option maxRecDepth 100000
open Go.RowKit
open Go.Proofs.Ytenlblembdnniaa.Pk (Rb adr_block one_at one_free one_set lt_some grown_set grown_trans below_grown grown_refl)
namespace Nt

/-- The bytes of a string, made. -/
theorem rb_str (W : World) (ys : List UInt8) (c : Nat) (fr : Nat × Nat) : Rb (W.alloc (.cells (bytesRow (str ys) c) 5 fr)) (fun g => g = W.heap.size) (some ⟨W.heap.size, 0, none⟩) ys.length ys :=
  ⟨rfl, fun _ => ⟨_, rfl, rfl, fun j x hj => by
    rw [Addr.add_lit, Nat.zero_add, World.cell?_alloc_mark]
    have hl : j < ys.length := (List.getElem?_eq_some_iff.1 hj).1
    unfold bytesRow
    rw [Array.getElem?_append_left (by simp [str]; omega)]
    simp [str, hj]⟩⟩
theorem of_str (w : World) (t : List UInt8) (ht : t.length ≤ 1000000) : ∃ w' c, (convert 9 32 (.string (str t))).run Try.prog w = .ok (.slice (some ⟨w.heap.size, 0, none⟩) t.length c) w' ∧ Rb w' (fun g => w.heap.size ≤ g ∧ g < w'.heap.size) (some ⟨w.heap.size, 0, none⟩) t.length t ∧ t.length ≤ c ∧ c ≤ 9223372036854775807 ∧ Below w.heap.size w w' := by
  have h := run_bytes_of_string (P := Try.prog) w 9 32 5 (str t) Try.underlying9 Try.underlying32 Try.underlying5
  rw [str_size] at h
  have h1 := grownCap_ge w t.length 0 5
  have h2 := grownCap_le_maxLen w t.length 0 5 (by unfold maxLen; omega)
  unfold maxLen at h2
  refine ⟨_, _, h, ?_, h1, h2, ((Below.refl _ w).drew).alloc (Nat.le_refl _) _⟩
  have R := rb_str w.drew t (grownCap w t.length 0 5) ((bytesRow (str t) (grownCap w t.length 0 5)).size, (bytesRow (str t) (grownCap w t.length 0 5)).size + 1)
  exact R.keep (fun _ _ => rfl) (fun g hg => by subst hg; simp)
theorem results_tmp4 {fn : Func} {t u v x : Tmp} (h : fn.results = #[.tmp t, .tmp u, .tmp v, .tmp x]) (tmps : Array Value) (P : Program) (w : World) :
    (results fn tmps).run P w = .ok (.tuple #[tmps.getD t undef, tmps.getD u undef, tmps.getD v undef, tmps.getD x undef]) w := by
  simp [results, h]
section
variable {w w' w1 : World} {q bi most : Nat} {us : List Bool} {L L' : List Ms} {fp : Nat → Prop} {cs : List (Option Nat)} {v v' : Value}
def outS (L : List Ms) (k : Int) : List Ms := if node L.length k = true then del L k.toNat else L
def dropC (L : List Ms) (k : Int) : Int := if node L.length k = true then 0 else 5
theorem nin_same (hv : v'.ownBlock = v.ownBlock) {g : Nat} (h : nin q bi cs v' g) : nin q bi cs v g := by
  unfold nin at *
  rwa [hv] at h
set_option maxHeartbeats 1600000 in
theorem drop_any (W : NtO w q most us L fp) (k : Int) : Calls Try.prog 15 #[.pointer (some ⟨q, 0, none⟩), .int .i64 k] w fun e w' => e = .returned (.int .i64 (dropC L k)) ∧ NTo w q most us (outS L k) fp w' := by
  obtain ⟨bi, cs, v, O, hu, hf⟩ := W.ex
  obtain ⟨A, c, rfl, hc, hm, _⟩ := re_form O.row
  obtain ⟨n, hn⟩ : ∃ z, z = L.length := ⟨_, rfl⟩
  have c2 : w.cell? ⟨q, 2, none⟩ = some (.slice A L.length c) := one_at (i := 2) O.cells
  rw [← hn] at c2
  have PL := Lib.hid (place_cell w q A n c k c2)
  unfold dropC outS
  rw [← hn]
  cases hp : node n k with
  | false =>
    rw [hp] at PL
    simp only [Bool.false_eq_true, if_false]
    have E := Lib.hid (NTo.of_below W (Below.refl _ _))
    clear W O hf hu
    go_enter Try.func15, Try.ntmps15
    go_wp2_with fail
    refine PL.out.mono ?_
    rintro e w1 ⟨rfl, rfl⟩
    clear PL
    go_wp2
    go_ret
    exact ⟨rfl, E.out⟩
  | true =>
    rw [hp] at PL
    simp only [if_true]
    obtain ⟨h0, h1⟩ := node_iff.1 hp
    obtain ⟨j, rfl⟩ : ∃ j : Nat, k = j := ⟨k.toNat, by omega⟩
    rw [show ((j : Int)).toNat = j from by omega]
    have RM := Lib.hid (remove_any O j (by omega))
    have TO : Hid (∀ w', RmTo w q bi most cs (.slice A L.length c) L j w' → NTo w q most us (del L j) fp w') := fun w' h => by
      obtain ⟨v', O', hv⟩ := h.no
      exact NTo.of_no W O' hu (fun g hg => .inl (hf g (nin_same hv hg))) (h.kq.mono fun g hg => .inl (hf g hg))
    clear W O hf hu hp
    go_enter Try.func15, Try.ntmps15
    go_wp2_with fail
    refine PL.out.mono ?_
    rintro e w1 ⟨rfl, rfl⟩
    clear PL
    go_wp2_with fail
    refine RM.out.mono ?_
    rintro e w1 ⟨rfl, h1⟩
    have E := Lib.hid (TO.out w1 h1)
    clear RM h1 TO c2
    go_wp2
    go_ret
    exact ⟨rfl, E.out⟩
/-- Behind what an inbox was asked. -/
theorem No.chan (O : No w q bi most cs v L) {c : Nat} (hc : some c ∈ cs) (hg : w.grownBy w' (some c)) (h : Ch w' c) : No w' q bi most cs v L := by
  have k : ∀ g, g ≠ c → g < w.heap.size → w'.heap[g]? = w.heap[g]? := fun g hn hl => hg.block g hl (fun e => hn (by injection e))
  refine ⟨(k q (fun e => O.q_ne.2.1 (by rw [e]; exact hc)) (lt_some O.cells)).trans O.cells, (k bi (fun e => O.q_ne.2.2 (by rw [e]; exact hc)) (lt_some O.box)).trans O.box, fun x hx => ?_, ?_, O.few, O.top, O.wide, O.wf⟩
  · by_cases e : x = c
    · rw [e]; exact h
    · obtain ⟨s, r, h2⟩ := O.inb x hx
      exact ⟨s, r, (k x e (lt_some h2)).trans h2⟩
  · exact re_same O.row fun g h => k g (fun e => O.row_ne.2.2 c hc (by rw [← e]; exact h)) (lt_some (re_block O.row h).2.choose_spec)
/-- What Take answers. -/
def tkR (us : List Bool) (L : List Ms) (k : Int) : Ms × Int := if node L.length k = true then (if upE us (mt L k.toNat).to_ = true then (mt L k.toNat, 0) else (m0, 6)) else (m0, 5)
def TkTo (w : World) (q most : Nat) (us : List Bool) (L : List Ms) (fp : Nat → Prop) (r : Ms × Int) (e : Ending) (w' : World) : Prop :=
  ∃ A c, e = .returned (.tuple #[.int .i64 r.1.fr, .int .i64 r.1.to_, .slice A r.1.tx.length c, .int .i64 r.2]) ∧ Rb w' (fun g => w.heap.size ≤ g ∧ g < w'.heap.size) A r.1.tx.length r.1.tx ∧ r.1.tx.length ≤ c ∧ c ≤ 9223372036854775807 ∧ NtO w' q most us L fp ∧ Kq fp w w'
theorem TkTo.none_ {e : Ending} (c : Int) (he : e = .returned (.tuple #[.int .i64 0, .int .i64 0, .slice none 0 0, .int .i64 c])) (h : NtO w' q most us L fp ∧ Kq fp w w') : TkTo w q most us L fp (m0, c) e w' :=
  ⟨none, 0, he, Rb.none_, Nat.le_refl _, by omega, h⟩
set_option maxHeartbeats 1600000 in
theorem take_no (W : NtO w q most us L fp) (k : Int) (hk : node L.length k = false) : Calls Try.prog 11 #[.pointer (some ⟨q, 0, none⟩), .int .i64 k] w (TkTo w q most us L fp (m0, 5)) := by
  obtain ⟨bi, A, n, c, c1, c2, hn, _⟩ := W.parts
  have PL := Lib.hid (place_cell w q A n c k c2)
  rw [hn, hk] at PL
  have E : Hid (TkTo w q most us L fp (m0, 5) (.returned (.tuple #[.int .i64 0, .int .i64 0, .slice none 0 0, .int .i64 5])) w) := TkTo.none_ 5 rfl ⟨W, Kq.refl _ _⟩
  clear W hk hn
  go_enter Try.func11, Try.ntmps11
  go_wp2_with fail
  refine PL.out.mono ?_
  rintro e w1 ⟨rfl, rfl⟩
  clear PL
  go_wp2
  (try simp only [Exit.inBlock, Exit.then])
  refine bodyPost_ret (results_tmp4 rfl _ _ _) rfl ?_
  exact E.out
/-- The message in its box, behind remove. -/
structure Tk (w : World) (q bi most : Nat) (cs : List (Option Nat)) (fp : Nat → Prop) (L : List Ms) (x : Nat) (m : Ms) (w' : World) : Prop where
  no : ∃ v', No w' q bi most cs v' L ∧ ∀ g, nin q bi cs v' g → fp g
  sz : ∀ g, fp g → g < w.heap.size
  bx : w'.heap[x]? = some (.cells #[.int .i64 m.fr, .int .i64 m.to_, .string (str m.tx)] 61 (0, 0))
  ge : w.heap.size ≤ x
  kq : Kq fp w w'
theorem Tk.below {m : Ms} {x : Nat} (T : Tk w q bi most cs fp L x m w') (hb : Below w'.heap.size w' w1) : Tk w q bi most cs fp L x m w1 := by
  obtain ⟨v', O, hn⟩ := T.no
  exact ⟨⟨v', O.below hb, hn⟩, T.sz, (hb.block x (lt_some T.bx)).trans T.bx, T.ge, T.kq.trans' (.of_below hb)⟩
theorem Tk.cells {m : Ms} {x : Nat} (T : Tk w q bi most cs fp L x m w') : w'.cell? ⟨x, 0, none⟩ = some (.int .i64 m.fr) ∧ w'.cell? ⟨x, 1, none⟩ = some (.int .i64 m.to_) ∧ w'.cell? ⟨x, 2, none⟩ = some (.string (str m.tx)) ∧ w'.frozen? ⟨x, 0, none⟩ = false ∧ w'.frozen? ⟨x, 1, none⟩ = false ∧ w'.frozen? ⟨x, 2, none⟩ = false :=
  ⟨one_at (i := 0) T.bx, one_at (i := 1) T.bx, one_at (i := 2) T.bx, one_free T.bx, one_free T.bx, one_free T.bx⟩
/-- Another message put into the box. -/
theorem Tk.set {m : Ms} {x : Nat} (T : Tk w q bi most cs fp L x m w') (m' : Ms) : Tk w q bi most cs fp L x m' (((w'.setCell ⟨x, 0, none⟩ (.int .i64 m'.fr)).setCell ⟨x, 1, none⟩ (.int .i64 m'.to_)).setCell ⟨x, 2, none⟩ (.string (str m'.tx))) := by
  obtain ⟨v', O, hn⟩ := T.no
  have G : w'.grownBy (((w'.setCell ⟨x, 0, none⟩ (.int .i64 m'.fr)).setCell ⟨x, 1, none⟩ (.int .i64 m'.to_)).setCell ⟨x, 2, none⟩ (.string (str m'.tx))) (some x) := grown_trans (grown_set _ _ _ _) (grown_trans (grown_set _ _ _ _) (grown_set _ _ _ _))
  have hx : ¬ nin q bi cs v' x := fun h => by
    have := T.sz x (hn x h)
    have := T.ge
    omega
  exact ⟨⟨v', O.keep fun g hg => G.block g (O.lt g hg) (fun e => hx (by injection e with e; rw [← e]; exact hg)), hn⟩, T.sz, one_set (one_set (one_set T.bx (.int .i64 m'.fr)) (.int .i64 m'.to_)) (.string (str m'.tx)), T.ge, T.kq.trans (.of_grown (S := fun g => g = x) G fun g hg => by injection hg with hg; exact hg.symm) fun g hg => .inr (by rw [hg]; exact T.ge)⟩
/-- An inbox that was given, and asked. -/
theorem Tk.chan {m : Ms} {x c : Nat} (T : Tk w q bi most cs fp L x m w') (hc : some c ∈ cs) (hg : w'.grownBy w1 (some c)) (h : Ch w1 c) : Tk w q bi most cs fp L x m w1 := by
  obtain ⟨v', O, hn⟩ := T.no
  have hf : fp c := hn c (.inr (.inr (.inl hc)))
  refine ⟨⟨v', O.chan hc hg h, hn⟩, T.sz, (hg.block x (lt_some T.bx) (fun e => ?_)).trans T.bx, T.ge, T.kq.trans' (.of_grown hg fun g hg => by injection hg with hg; rw [← hg]; exact hf)⟩
  injection e with e
  have := T.sz c hf
  have := T.ge
  omega
theorem Tk.to {m : Ms} {x : Nat} (T : Tk w q bi most cs fp L x m w') (hu : cs.map Option.isSome = us) : NtO w' q most us L fp ∧ Kq fp w w' := by
  obtain ⟨v', O, hn⟩ := T.no
  exact ⟨⟨⟨bi, cs, v', O, hu, hn⟩, fun g hg => Nat.lt_of_lt_of_le (T.sz g hg) T.kq.size⟩, T.kq⟩
set_option maxHeartbeats 6400000 in
theorem take_yes (W : NtO w q most us L fp) (j : Nat) (hj : j < L.length) : Calls Try.prog 11 #[.pointer (some ⟨q, 0, none⟩), .int .i64 (j : Int)] w (TkTo w q most us (del L j) fp (if upE us (mt L j).to_ = true then (mt L j, 0) else (m0, 6))) := by
  obtain ⟨bi, cs, v, O, hu, hf⟩ := W.ex
  have hl : cs.length = us.length := by rw [← hu, List.length_map]
  obtain ⟨g, c, rfl, hc, hm⟩ := re_some O.row (by omega)
  obtain ⟨n, hn⟩ : ∃ z, z = L.length := ⟨_, rfl⟩
  have c2 : w.cell? ⟨q, 2, none⟩ = some (.slice (some ⟨g, 0, none⟩) L.length c) := one_at (i := 2) O.cells
  have R := O.row
  rw [← hn] at c2 R hj
  have PL := place_cell w q _ n c (j : Int) c2
  rw [show node n (j : Int) = true from node_iff.2 ⟨by omega, by omega⟩] at PL
  replace PL := Lib.hid PL
  obtain ⟨k0, k1, k2⟩ := re_cell R hj
  have wfm := O.wf (mt L j) (by rw [mt_eq (by omega)]; exact List.getElem_mem _)
  obtain ⟨m, hmm⟩ : ∃ m, m = mt L j := ⟨_, rfl⟩
  rw [← hmm] at k0 k1 k2 wfm ⊢
  obtain ⟨⟨t0, t1⟩, t2⟩ := wfm
  obtain ⟨d, hd⟩ : ∃ d : Nat, m.to_ = d := ⟨m.to_.toNat, by omega⟩
  have hdl : d < cs.length := by omega
  have hup : upE us m.to_ = (cs[d]).isSome := by
    unfold upE
    rw [show node us.length m.to_ = true from node_iff.2 ⟨t0, by omega⟩, Bool.true_and, ← hu, show m.to_.toNat = d from by omega]
    simp [hdl]
  rw [hup]
  have hmem : cs[d] ∈ cs := List.getElem_mem _
  have ba : Below w.heap.size w (w.alloc (.cells #[.int .i64 m.fr, .int .i64 m.to_, .string (str m.tx)] 61)) := (Below.refl _ _).alloc (Nat.le_refl _) _
  have T1 : (w.alloc (.cells #[.int .i64 m.fr, .int .i64 m.to_, .string (str m.tx)] 61)).heap[w.heap.size]? = some (.cells #[.int .i64 m.fr, .int .i64 m.to_, .string (str m.tx)] 61 (0, 0)) := heap_alloc_new _ _
  obtain ⟨x, hx⟩ : ∃ z, z = w.heap.size := ⟨_, rfl⟩
  obtain ⟨W1, hW1⟩ : ∃ z, z = w.alloc (.cells #[.int .i64 m.fr, .int .i64 m.to_, .string (str m.tx)] 61) := ⟨_, rfl⟩
  rw [← hW1] at ba T1
  rw [← hx] at T1
  have RM := Lib.hid (remove_any (O.below ba) j (by omega))
  have TK : Hid (∀ w2, RmTo W1 q bi most cs (.slice (some ⟨g, 0, none⟩) L.length c) L j w2 → Tk w q bi most cs fp (del L j) x m w2) := fun w2 h => by
    obtain ⟨v', O', hv⟩ := h.no
    have hsz := O.lt
    have hxn : ¬ nin q bi cs (.slice (some ⟨g, 0, none⟩) L.length c) x := fun e => by have := hsz x e; omega
    exact ⟨⟨v', O', fun y hy => hf y (nin_same hv hy)⟩, W.size, (h.kq.block x (lt_some T1) hxn).trans T1, by omega, (Kq.of_below ba).trans h.kq fun y hy => .inl (hf y hy)⟩
  have RD : Hid (∀ w2, Tk w q bi most cs fp (del L j) x m w2 → w2.cell? ⟨q, 1, none⟩ = some (.slice (some ⟨bi, 0, none⟩) cs.length cs.length) ∧ w2.cell? ⟨bi, d, none⟩ = some (.chan cs[d])) := fun w2 T => by
    obtain ⟨v', O', _⟩ := T.no
    exact ⟨one_at (i := 1) O'.cells, box_at O'.box hdl⟩
  have IB : Hid (∀ w2, Tk w q bi most cs fp (del L j) x m w2 → ∀ y, some y ∈ cs → Ch w2 y) := fun w2 T y hy => by
    obtain ⟨v', O', _⟩ := T.no
    exact O'.inb y hy
  replace hx := Lib.hid hx
  replace hu := Lib.hid hu
  obtain ⟨z, hz⟩ : ∃ z, z = cs.length := ⟨_, rfl⟩
  have hdz : d < z := by omega
  rw [← hz] at RD
  generalize cs[d] = o at *
  have hcat : (d : Int) < (z : Int) := by omega
  have i2 : (0 : Int) ≤ (d : Int) := by omega
  have i3 : (0 : Int) ≤ (j : Int) := by omega
  have i4 : (j : Int) < (n : Int) := by omega
  have tsz : Hid (m.tx.length ≤ 1000000) := by show _ ≤ _; omega
  replace hmm := Lib.hid hmm
  replace hd := Lib.hid hd
  obtain ⟨r, hr⟩ : ∃ r, r = (if o.isSome = true then (m, (0 : Int)) else (m0, 6)) := ⟨_, rfl⟩
  rw [← hr]
  replace hr := Lib.hid hr
  replace hmem := Lib.hid hmem
  clear W O R hf hl hn hup ba T1 hc hm t0 t1 t2 hdl hz
  go_enter Try.func11, Try.ntmps11
  go_wp2_with fail
  refine PL.out.mono ?_
  rintro e w1 ⟨rfl, rfl⟩
  clear PL
  go_upto_region 4 with fail
  rw [← hW1, ← hx.out]
  clear hW1
  go_wp2_with fail
  refine RM.out.mono ?_
  rintro e w2 ⟨rfl, h2⟩
  have T2 := Lib.hid (TK.out w2 h2)
  clear RM h2 TK
  have x1 := T2.out.cells.2.1
  rw [hd.out] at x1
  obtain ⟨r1, r2⟩ := RD.out w2 T2.out
  go_upto_region 5 with fail
  go_region
  have T3 := Lib.hid (T2.out.below (Below.refl _ w2).drew)
  clear RD r1 r2 x1 T2 c2 k0 k1 k2 hd
  obtain ⟨x0, x1, x2, _⟩ := T3.out.cells
  cases o with
  | none =>
    have PN := put_nil w2.drew m
    unfold am at PN
    replace PN := Lib.hid PN
    go_wp2_with fail
    refine PN.out.mono ?_
    rintro e w3 ⟨rfl, b3⟩
    have T4 := Lib.hid (T3.out.below b3)
    have AN := ask_nil w3
    unfold am at AN
    replace AN := Lib.hid AN
    clear PN b3 T3 x0 x1 x2 IB
    go_wp2_with fail
    refine AN.out.mono ?_
    rintro e w4 ⟨rfl, b4⟩
    have T5 := Lib.hid (T4.out.below b4)
    obtain ⟨x0, x1, x2, f0, f1, f2⟩ := T5.out.cells
    have E : Hid (TkTo w q most us (del L j) fp r (.returned (.tuple #[.int .i64 0, .int .i64 0, .slice none 0 0, .int .i64 6])) (((w4.setCell ⟨x, 0, none⟩ (.int .i64 m0.fr)).setCell ⟨x, 1, none⟩ (.int .i64 m0.to_)).setCell ⟨x, 2, none⟩ (.string (str m0.tx)))) := by
      rw [hr.out]
      exact TkTo.none_ 6 rfl ((T5.out.set m0).to hu.out)
    have z0 : m0.fr = 0 := rfl
    have z1 : m0.to_ = 0 := rfl
    clear AN b4 T4 T5
    rw [z0, z1] at E ⊢
    go_wp2
    (try simp only [Exit.inBlock, Exit.then])
    refine bodyPost_ret (results_tmp4 rfl _ _ _) rfl ?_
    exact E.out
  | some y =>
    have PN := put_yes w2.drew y m (IB.out _ T3.out y hmem.out)
    unfold am at PN
    replace PN := Lib.hid PN
    go_wp2_with fail
    refine PN.out.mono ?_
    rintro e w3 ⟨rfl, c3, g3⟩
    have X3 : Hid (w3.heap[x]? = some (.cells #[.int .i64 m.fr, .int .i64 m.to_, .string (str m.tx)] 61 (0, 0))) := (g3.block x (lt_some T3.out.bx) (fun e => by
      injection e with e
      obtain ⟨s, r, h⟩ := IB.out _ T3.out y hmem.out
      exact no_two T3.out.bx (by rw [e]; exact h) (fun e => by cases e))).trans T3.out.bx
    have y0 : w3.cell? ⟨x, 0, none⟩ = some (.int .i64 m.fr) := one_at (i := 0) X3.out
    have y1 : w3.cell? ⟨x, 1, none⟩ = some (.int .i64 m.to_) := one_at (i := 1) X3.out
    have y2 : w3.cell? ⟨x, 2, none⟩ = some (.string (str m.tx)) := one_at (i := 2) X3.out
    have AN := ask_yes w3 y m c3
    unfold am at AN
    replace AN := Lib.hid AN
    replace g3 := Lib.hid g3
    clear PN c3 x0 x1 x2 IB
    go_wp2_with fail
    refine AN.out.mono ?_
    rintro e w4 ⟨rfl, c4, g4⟩
    have T4 : Hid (Tk w q bi most cs fp (del L j) x m w4) := T3.out.chan hmem.out (grown_trans g3.out g4) c4
    have T5 := Lib.hid (T4.out.set m)
    obtain ⟨x0, x1, x2, f0, f1, f2⟩ := T4.out.cells
    obtain ⟨w5, hw5⟩ : ∃ z, z = ((w4.setCell ⟨x, 0, none⟩ (.int .i64 m.fr)).setCell ⟨x, 1, none⟩ (.int .i64 m.to_)).setCell ⟨x, 2, none⟩ (.string (str m.tx)) := ⟨_, rfl⟩
    rw [← hw5] at T5
    clear AN c4 g4 T3 T4 X3 g3 y0 y1 y2
    go_upto_region 10 with fail
    rw [← hw5]
    clear hw5 x0 x1 x2 f0 f1 f2
    obtain ⟨x0, x1, x2, f0, f1, f2⟩ := T5.out.cells
    obtain ⟨w6, c6, cv, R6, h6, h7, b6⟩ := of_str w5.drew m.tx tsz.out
    have T6 := T5.out.below (w1 := w6) ((Below.refl _ w5).drew.trans b6)
    obtain ⟨y0, y1, y2, _⟩ := T6.cells
    have E : Hid (TkTo w q most us (del L j) fp r (.returned (.tuple #[.int .i64 m.fr, .int .i64 m.to_, .slice (some ⟨w5.drew.heap.size, 0, none⟩) m.tx.length c6, .int .i64 0])) w6) := by
      rw [hr.out]
      exact ⟨_, _, rfl, R6.keep (fun _ _ => rfl) (fun g hg => ⟨Nat.le_trans T5.out.kq.size hg.1, hg.2⟩), h6, h7, T6.to hu.out⟩
    clear T5 R6 h6 h7 b6 T6
    go_region
    all_goals
      go_wp2
      (try simp only [Exit.inBlock, Exit.then])
      refine bodyPost_ret (results_tmp4 rfl _ _ _) rfl ?_
      exact E.out
theorem take_any (W : NtO w q most us L fp) (k : Int) : Calls Try.prog 11 #[.pointer (some ⟨q, 0, none⟩), .int .i64 k] w (TkTo w q most us (outS L k) fp (tkR us L k)) := by
  unfold outS tkR
  cases hp : node L.length k with
  | false => exact take_no W k hp
  | true =>
    simp only [if_true]
    obtain ⟨h0, h1⟩ := node_iff.1 hp
    obtain ⟨j, rfl⟩ : ∃ j : Nat, k = j := ⟨k.toNat, by omega⟩
    rw [show ((j : Int)).toNat = j from by omega]
    exact take_yes W j (by omega)
end
end Nt
end Go.Proofs.Ytenlblembdnniaa
