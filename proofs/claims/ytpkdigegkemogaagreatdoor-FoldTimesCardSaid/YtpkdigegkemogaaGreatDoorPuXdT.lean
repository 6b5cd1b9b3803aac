/- Parts of the claim: PuI, PuS, PuU -/
import Derived.Test.YtpkdigegkemogaaGreatDoorPuXbT
import Derived.Test.YtpkdigegkemogaaGreatDoorCsXT
import Derived.Test.YtpkdigegkemogaaGreatDoorInAT
namespace Go.Proofs.YtpkdigegkemogaaGreatDoor
set_option maxRecDepth 100000
open Go.RowKit
open Go.Sort (grow)
open Go.Proofs.YtpkdigegkemogaaGreatDoor.Pk (one_at one_free one_set lt_some grown_set grown_trans grown_refl)
namespace Pu

def okF (x : Int) : Bool := decide (0 ≤ x) && decide (x ≤ 1099511627776)
theorem okF_iff {x : Int} : okF x = true ↔ 0 ≤ x ∧ x ≤ 1099511627776 := by simp [okF]
def mayF (a b c d : Int) : Bool := okF a && okF b && okF c && okF d
theorem mayF_iff {a b c d : Int} : mayF a b c d = true ↔ (0 ≤ a ∧ a ≤ 1099511627776) ∧ (0 ≤ b ∧ b ≤ 1099511627776) ∧ (0 ≤ c ∧ c ≤ 1099511627776) ∧ 0 ≤ d ∧ d ≤ 1099511627776 := by
  unfold mayF
  simp only [Bool.and_eq_true, okF_iff, and_assoc]
def fcs (a b c d : Int) : Array Value := #[.int .i64 a, .int .i64 b, .int .i64 c, .int .i64 d]
theorem ri_four {w : World} {g : Nat} {a b c d : Int} (h : w.heap[g]? = some (.cells (fcs a b c d) 27 (0, 0))) (hI : ∀ z ∈ [a, b, c, d], Cs.I z) : Cs.Ri w w.heap.size (some ⟨g, 0, none⟩) 4 [a, b, c, d] :=
  ⟨rfl, fun _ => ⟨_, rfl, lt_some h, fun j z hz => by
    rw [Addr.add_lit, Nat.zero_add, one_at h]
    match j, hz with
    | 0, hz => simp at hz; subst hz; rfl
    | 1, hz => simp at hz; subst hz; rfl
    | 2, hz => simp at hz; subst hz; rfl
    | 3, hz => simp at hz; subst hz; rfl
    | j + 4, hz => simp at hz⟩, hI⟩
theorem step_copy_run {w : World} {ops : Array Oper} {o : Oper} {a : Act} {K : Act → World → Prop} {Q : Exit → Act → World → Prop} {E : Prop}
    (hg : o.guard = none) (d x : Operand) (dT sT : TypeId) (hop : o.op = .call { callee := .builtin .copy, args := #[d, x], argTypes := #[dT, sT] })
    (v u : Value) (hd : a.eval d = v) (hx : a.eval x = u) {v' : Value} {w' : World} (hr : (Builtin.copy_ #[dT, sT] o.type #[v, u]).run Tryz.prog w = .ok v' w') (hK : K (a.put o.dst v') w') :
    if Region.wanted o (yielded ops a.tmps) = true then Oper.wp Tryz.prog o a w K Q else E := by
  have hw : Region.wanted o (yielded ops a.tmps) = true := by simp [Region.wanted, hg]
  rw [if_pos hw]
  unfold Oper.wp
  simp [execOp, hop, resolve, invoke, builtin, hd, hx, hr, Result.andThen]
  exact hK
theorem i64_size : (Tryz.prog.info? 2).map (·.size) = some 1 := by kernel_rfl
theorem new_acc (a b c d : Int) : upd (upd (upd (upd (fun _ => 0) 0 a) 1 b) 2 c) 3 d = (new a b c d).a := by
  funext k
  unfold upd new
  by_cases h0 : k = 0
  · subst h0; rfl
  · by_cases h1 : k = 1
    · subst h1; rfl
    · by_cases h2 : k = 2
      · subst h2; rfl
      · by_cases h3 : k = 3
        · subst h3; rfl
        · simp [h0, h1, h2, h3]
set_option maxHeartbeats 3200000 in
theorem new_yes (w : World) (a b c d : Int) (hI : ∀ z ∈ [a, b, c, d], Cs.I z) (h : mayF a b c d = true) : Calls Tryz.prog 82 #[.agg #[.int .i64 a, .int .i64 b, .int .i64 c, .int .i64 d]] w fun e w' => ∃ q, e = .returned (.tuple #[.pointer (some ⟨q, 0, none⟩), .int .i64 0]) ∧ w.heap.size ≤ q ∧ LedP w' q (new a b c d) (fun g => g = q) ∧ Below w.heap.size w w' := by
  obtain ⟨ha, hb, hc, hd⟩ := mayF_iff.1 h
  obtain ⟨w1, hw1⟩ : ∃ x, x = w.alloc (.cells #[.int .i64 a, .int .i64 b, .int .i64 c, .int .i64 d] 27) := ⟨_, rfl⟩
  have B1 : Hid (Below w.heap.size w w1) := by rw [hw1]; exact (Below.refl _ _).alloc (Nat.le_refl _) _
  have G1 : w1.heap[w.heap.size]? = some (.cells (fcs a b c d) 27 (0, 0)) := by rw [hw1]; exact heap_alloc_new _ _
  have MI := Lib.hid (Cs.min_any ⟨w.heap.size, 0, none⟩ 4 4 [a, b, c, d] w1 (ri_four G1 hI) (by omega) (by omega))
  have MA := Lib.hid (Cs.max_any ⟨w.heap.size, 0, none⟩ 4 4 [a, b, c, d] w1 (ri_four G1 hI) (by omega) (by omega))
  have ho := Lib.hid (ok_new ha hb hc hd)
  have lo : Hid (∀ z ∈ [a, b, c, d], 0 ≤ z ∧ z ≤ 1099511627776) := fun z hz => by
    simp at hz
    rcases hz with rfl | rfl | rfl | rfl
    · exact ha
    · exact hb
    · exact hc
    · exact hd
  obtain ⟨w2, hw2⟩ : ∃ x, x = w1.alloc (.cells (pcs zero (.slice none 0 0)).toArray 173) := ⟨_, rfl⟩
  have B2 : Below w1.heap.size w1 w2 := by rw [hw2]; exact (Below.refl _ _).alloc (Nat.le_refl _) _
  have G2 : w2.heap[w1.heap.size]? = some (.cells (pcs zero (.slice none 0 0)).toArray 173 (0, 0)) := by rw [hw2]; exact heap_alloc_new _ _
  have Z : Pm w2.drew w1.heap.size zero (.slice none 0 0) := (Pm.of_block G2).keep rfl
  have g1 : w2.drew.heap[w.heap.size]? = some (.cells (fcs a b c d) 27 (0, 0)) := (B2.block _ (lt_some G1)).trans G1
  have RC := run_copy_cells (P := Tryz.prog) w2.drew 192 192 3 2 w1.heap.size 0 6 6 ⟨w.heap.size, 0, none⟩ 4 4 [.int .i64 a, .int .i64 b, .int .i64 c, .int .i64 d] Tryz.underlying192 i64_size rfl (fun j v hv => by
    rw [Addr.add_lit, Nat.zero_add, one_at g1]
    simpa [fcs] using hv) (fun j hj => by rw [Nat.zero_add, Z.acc j (by simp at hj; omega)]; rfl) (fun j hj => Z.free _) (fun v hv => by simp at hv; rcases hv with rfl | rfl | rfl | rfl <;> rfl)
  have P4 : Pm (w2.drew.setCells w1.heap.size 0 [.int .i64 a, .int .i64 b, .int .i64 c, .int .i64 d]) w1.heap.size (new a b c d) (.slice none 0 0) := by
    have := (((Z.acct (k := 0) (by omega) a).acct (k := 1) (by omega) b).acct (k := 2) (by omega) c).acct (k := 3) (by omega) d
    rw [show (⟨upd (upd (upd (upd zero.a ((0 : Nat) : Int) a) ((1 : Nat) : Int) b) ((2 : Nat) : Int) c) ((3 : Nat) : Int) d, zero.f, zero.l⟩ : S) = new a b c d by
      have e := new_acc a b c d
      unfold new
      congr 1] at this
    exact this
  have K4 := Kq.of_cells w2.drew w1.heap.size 0 [.int .i64 a, .int .i64 b, .int .i64 c, .int .i64 d]
  have F : Hid (w.heap.size ≤ w1.heap.size ∧ LedP (w2.drew.setCells w1.heap.size 0 [.int .i64 a, .int .i64 b, .int .i64 c, .int .i64 d]) w1.heap.size (new a b c d) (fun g => g = w1.heap.size) ∧ Below w.heap.size w (w2.drew.setCells w1.heap.size 0 [.int .i64 a, .int .i64 b, .int .i64 c, .int .i64 d])) := by
    refine ⟨B1.out.size, ⟨⟨rfl, fun g hg => by rw [hg]; exact P4.lt, _, P4, World.ownsRow_nil _ _ _ _, by simp [Value.ownBlock], fun g hg => by simp [Value.ownBlock] at hg⟩, ho.out⟩, ?_⟩
    exact (B1.out.trans (below_drew (B2.mono B1.out.size))).trans (K4.below (fun g hg => by rw [hg]; exact B1.out.size) (Nat.le_trans B1.out.size B2.size))
  have s2 : Hid (w1.heap.size < w2.heap.size) := lt_some G2
  replace hw1 := Lib.hid hw1
  replace hw2 := Lib.hid hw2
  clear hI h G1 G2 Z g1 P4 K4 B2 ho ha hb hc hd
  go_enter Tryz.func82, Tryz.ntmps82
  go_wp2_with fail
  rw [← hw1.out]
  refine MI.out.mono ?_
  rintro e w' ⟨x, rfl, hx, hle, rfl⟩
  have h0 := (lo.out x hx).1
  have d0 : decide (x < 0) = false := decide_eq_false (by omega)
  clear hx hle MI h0
  go_wp2_with fail
  refine MA.out.mono ?_
  rintro e w' ⟨y, rfl, hy, hge, rfl⟩
  have h1 := (lo.out y hy).2
  have d1 : decide (1099511627776 < y) = false := decide_eq_false (by omega)
  clear hy hge MA h1
  go_upto_region 4 with (first
    | (refine wpList_build10 rfl rfl ?_)
    | (refine wpList_box10 rfl (.tmp 13) rfl (pcs zero (.slice none 0 0)).toArray rfl ?_))
  rw [← hw2.out]
  go_region_law (refine step_copy_run rfl (.tmp 18) (.tmp 19) 192 192 rfl _ _ rfl rfl RC ?_)
  all_goals
    go_wp2
    go_ret2
    exact ⟨_, rfl, F.out⟩
end Pu
end Go.Proofs.YtpkdigegkemogaaGreatDoor
namespace Go.Proofs.YtpkdigegkemogaaGreatDoor
set_option maxRecDepth 100000
open Go.RowKit
open Go.Sort (grow)
open Go.Proofs.YtpkdigegkemogaaGreatDoor.Pk (one_at one_free one_set lt_some grown_set grown_trans grown_refl u8s enc zz zz_lt zz_pos enc_lo enc_hi enc_ne encI_len rb_one byte_hi byte_lo own_form wpList_append_b adr_block Rb)
namespace Pu

structure Gu (base : Nat) (w w' : World) : Prop where
  os : w'.os = w.os
  tape : w'.tape = w.tape
  output : w'.output = w.output
  size : w.heap.size ≤ w'.heap.size
  block : ∀ g, g < w.heap.size → (g < base ∨ ∀ cs fr, w.heap[g]? ≠ some (.cells cs 5 fr)) → w'.heap[g]? = w.heap[g]?
section
variable {w w1 w2 : World} {base : Nat}
theorem Gu.refl (base : Nat) (w : World) : Gu base w w := ⟨rfl, rfl, rfl, Nat.le_refl _, fun _ _ _ => rfl⟩
theorem Gu.trans (h : Gu base w w1) (k : Gu base w1 w2) : Gu base w w2 :=
  ⟨k.os.trans h.os, k.tape.trans h.tape, k.output.trans h.output, Nat.le_trans h.size k.size, fun g hg hn => by
    have e := h.block g hg hn
    exact (k.block g (Nat.lt_of_lt_of_le hg h.size) (by rw [e]; exact hn)).trans e⟩
theorem Gu.of_below (h : Below w.heap.size w w1) : Gu base w w1 := ⟨h.os, h.tape, h.output, h.size, fun g hg _ => h.block g hg⟩
theorem Gu.below (h : Gu base w w1) (hb : base ≤ w.heap.size) : Below base w w1 := ⟨h.os, h.tape, h.output, h.size, fun g hg => h.block g (by omega) (.inl hg)⟩
end
structure Ns (base : Nat) (w : World) (ad : Addr) (zs : List Int) : Prop where
  lt : ad.block < w.heap.size
  blk : ad.block < base ∨ ∀ cs fr, w.heap[ad.block]? ≠ some (Obj.cells cs 5 fr)
  at_ : ∀ (j : Nat) (z : Int), zs[j]? = some z → w.cell? (ad.add j) = some (.int .i64 z)
abbrev RowB (w : World) (base : Nat) (v : Value) (bs : Bs) : Prop := w.ownsRow base 5 1 v bs.length (u8s bs)
def InAt (base : Nat) (w : World) (all : Bs) (v u : Value) (wr : World) : Prop :=
  ∃ (x : Nat) (pre : Bs), u = .int .u64 x ∧ x < 18446744073709551616 ∧ RowB wr base v pre ∧ pre ++ enc x = all ∧ Gu base w wr ∧ base ≤ wr.heap.size
def ApAt (base : Nat) (w : World) (bs : Bs) (zs : List Int) (v i : Value) (wr : World) : Prop :=
  ∃ k : Nat, i = .int .i64 k ∧ k ≤ zs.length ∧ RowB wr base v (bs ++ cat (zs.take k)) ∧ Gu base w wr ∧ base ≤ wr.heap.size
def ApTo (base : Nat) (w : World) (bs : Bs) (e : Ending) (w' : World) : Prop := ∃ v, e = .returned v ∧ RowB w' base v bs ∧ Gu base w w' ∧ base ≤ w'.heap.size
theorem appendInts_any (base : Nat) (w : World) (v : Value) (bs : Bs) (ho : RowB w base v bs) (hB : base ≤ w.heap.size) (ad : Addr) (n : Nat) (zs : List Int) (hl : zs.length = n) (hs : Ns base w ad zs) (hz : ∀ z ∈ zs, 0 ≤ z ∧ z ≤ 4000000000000000000) (hn : bs.length ≤ 100000) (hm : n ≤ 100) :
    Calls Tryz.prog 228 #[v, .slice (some ad) n n] w (ApTo base w (bs ++ cat zs)) :=
  (In.append64_any base w v bs ho hB ad n zs hl ⟨hs.lt, hs.blk, hs.at_⟩ hz hn hm).mono fun _ _ ⟨x, he, hr, hg, hb⟩ => ⟨x, he, hr, ⟨hg.os, hg.tape, hg.output, hg.size, hg.block⟩, hb⟩
end Pu
end Go.Proofs.YtpkdigegkemogaaGreatDoor
namespace Go.Proofs.YtpkdigegkemogaaGreatDoor
set_option maxRecDepth 100000
open Go.RowKit
open Go.Sort (grow)
open Go.Proofs.YtpkdigegkemogaaGreatDoor.Pk (one_at one_free one_set lt_some grown_set grown_trans grown_refl u8s adr_block own_form)
namespace Pu

theorem add0 (g j : Nat) : Addr.add ⟨g, 0, none⟩ j = ⟨g, j, none⟩ := by
  simp [Addr.add]
  rintro rfl
  rfl
theorem rb_below {w w' : World} {base : Nat} {v : Value} {bs : Bs} (h : RowB w base v bs) (hb : Below w.heap.size w w') : RowB w' base v bs := by
  refine ⟨h.1, ?_⟩
  rcases h.2 with h0 | ⟨g, cap, cur, hv, hB, hh, h2⟩
  · exact .inl h0
  · exact .inr ⟨g, cap, cur, hv, hB, (hb.block g (lt_some hh)).trans hh, h2⟩
def ByTo (w : World) (bs : Bs) (e : Ending) (w' : World) : Prop := ∃ v, e = .returned v ∧ RowB w' w.heap.size v bs ∧ Below w.heap.size w w'
theorem books_size : (Tryz.prog.info? 38).map (·.size) = some 1005 := by kernel_rfl
theorem books_under : ∃ d, Tryz.prog.underlying 38 = some d ∧ d.isRow = true := ⟨_, Tryz.underlying38, rfl⟩
theorem index_run (f : F) (k : Nat) (hk : k ≤ 200) (w : World) : (Instr.index 38 (.agg (ents f 201).toArray) (.int .i64 (k : Int))).run Tryz.prog w = .ok (cell (f (k : Int))) w := by
  have hu := Tryz.underlying38
  have hs : ∀ w, (sizeOf 37).run Tryz.prog w = .ok 5 w := fun w => by kernel_rfl
  have ha : ∀ w, (isAgg 37).run Tryz.prog w = .ok true w := fun w => by kernel_rfl
  have hx : List.take 5 (List.drop (k * 5) (ents f 201)) = entc (f (k : Int)) := by
    apply List.ext_getElem?
    intro j
    rw [List.getElem?_take, List.getElem?_drop]
    by_cases hj : j < 5
    · rw [if_pos hj, show k * 5 + j = 5 * k + j by omega, ents_at f (by omega) hj]
    · rw [if_neg hj, List.getElem?_eq_none (by show 5 ≤ j; omega)]
  have h2 : k < 201 := by omega
  unfold Instr.index
  simp [asIntOf, run_underlying hu, Sem.run_bind, h2, Go.part, ha, hs]
  rw [hx]
  rfl
section
variable {ops : Array Oper} {rest : List Oper} {o : Oper} {a : Act} {w : World} {Q : Exit → Act → World → Prop}
theorem wpList_index10 (hg : o.guard = none) (x i : Operand) (ho : o.op = .index 38 x i) (f : F) (k : Nat) (hk : k ≤ 200) (hx : a.eval x = .agg (ents f 201).toArray) (hi : a.eval i = .int .i64 (k : Int))
    (h : wpList Tryz.prog ops Q rest (a.put o.dst (cell (f (k : Int)))) w) : wpList Tryz.prog ops Q (o :: rest) a w := by
  refine wpList_plain hg fun K hK => ?_
  unfold Oper.wp execOp
  simp only [ho, hx, hi, Sem.run_bind, index_run f k hk, Sem.run_pure, Result.andThen_ok]
  exact hK _ _ h
end
theorem one_cat (f : F) (k : Int) : one f k = cat [k, (f k).st, (f k).cu, (f k).am] := rfl
def BtAt (w w2 : World) (p : S) (v i : Value) (wr : World) : Prop :=
  ∃ k : Nat, i = .int .i64 k ∧ k ≤ 201 ∧ RowB wr w.heap.size v (bts p (k - 1)) ∧ Gu w.heap.size w2 wr ∧ w.heap.size ≤ wr.heap.size
set_option maxHeartbeats 3200000 in
theorem bytes_any (w : World) (q : Nat) (p : S) (fp : Nat → Prop) (L : LedP w q p fp) : Calls Tryz.prog 226 #[.pointer (some ⟨q, 0, none⟩)] w (ByTo w (bts p 200)) := by
  obtain ⟨v0, D, -, -, -⟩ := L.at_
  have O := L.ok
  have hql := L.lt
  have AI : Hid (Calls Tryz.prog 228 #[.slice none 0 0, .slice (some ⟨q, 0, none⟩) 6 6] w (ApTo w.heap.size w (bts p 0))) := by
    have := appendInts_any w.heap.size w (.slice none 0 0) [] (World.ownsRow_nil _ _ _ _) (Nat.le_refl _) ⟨q, 0, none⟩ 6 (acs p.a) rfl ⟨hql, .inl hql, fun j z hj => by
      rw [add0]
      match j, hj with
      | 0, hj => simp [acs] at hj; subst hj; exact D.acc 0 (by omega)
      | 1, hj => simp [acs] at hj; subst hj; exact D.acc 1 (by omega)
      | 2, hj => simp [acs] at hj; subst hj; exact D.acc 2 (by omega)
      | 3, hj => simp [acs] at hj; subst hj; exact D.acc 3 (by omega)
      | 4, hj => simp [acs] at hj; subst hj; exact D.acc 4 (by omega)
      | 5, hj => simp [acs] at hj; subst hj; exact D.acc 5 (by omega)
      | j + 6, hj => simp [acs] at hj⟩ (fun z hz => by have := acs_bds O z hz; omega) (by simp) (by omega)
    exact this
  have hbooks : Hid (∀ w1, Below w.heap.size w w1 → w1.rangeAt q 6 (ents p.f 201)) := fun w1 h1 => (D.below h1).books
  obtain ⟨d, hu, hd⟩ := books_under
  replace hu := Lib.hid hu
  replace hd := Lib.hid hd
  have hi : Hid ((Tryz.prog.info? 38).map (·.size) = some (ents p.f 201).length) := by rw [ents_len]; exact books_size
  have hO := Lib.hid O
  clear O D L
  go_enter Tryz.func226, Tryz.ntmps226
  go_wp2_with fail
  refine AI.out.mono ?_
  rintro e w2 ⟨v, rfl, o2, g2, s2⟩
  have B2 : Hid (Below w.heap.size w w2) := g2.below (Nat.le_refl _)
  have hb2 := Lib.hid (hbooks.out w2 B2.out)
  have st : Hid (BtAt w w2 p v (.int .i64 0) w2) := ⟨0, rfl, by omega, o2, Gu.refl _ _, s2⟩
  clear AI o2 g2 s2
  go_wp2_with (refine wpList_load_mid rfl 38 (.tmp 15) rfl q 6 rfl (ents p.f 201) d hb2.out hu.out hd.out hi.out ?_)
  go_loopw [3, 17] (fun v i wr => BtAt w w2 p v i wr) (fun _ i _ => 201 - (intOf i).toNat)
  case atStart => exact st.out
  case round =>
    clear st
    obtain ⟨k, rfl, hk, hrow, hgu, hbs⟩ := hrel
    have hBr : Hid (Below w.heap.size w wr) := B2.out.trans (hgu.below B2.out.size)
    replace hrow := Lib.hid hrow
    replace hgu := Lib.hid hgu
    replace hbs := Lib.hid hbs
    by_cases hlt : k ≤ 200
    · have hbd := (hO.out.shp (k : Int)).bds
      have hz : k = 0 → p.f (k : Int) = ez := fun e => (hO.out.shp (k : Int)).zero (Decidable.byContradiction fun h0 => by
        have := (hO.out.shp (k : Int)).inn h0
        omega)
      have hone := one_cat p.f (k : Int)
      have hbs1 : Hid (1 ≤ k → bts p (k + 1 - 1) = if pre (p.f (k : Int)) = true then bts p (k - 1) ++ one p.f (k : Int) else bts p (k - 1)) := fun h1 => by
        obtain ⟨j, rfl⟩ : ∃ j, k = j + 1 := ⟨k - 1, by omega⟩
        rfl
      have hlen := bts_len hO.out (n := k - 1) (by omega)
      obtain ⟨a, ha⟩ : ∃ a, a = (p.f (k : Int)).st := ⟨_, rfl⟩
      obtain ⟨u, hu2⟩ : ∃ a, a = (p.f (k : Int)).cu := ⟨_, rfl⟩
      obtain ⟨t, ht⟩ : ∃ a, a = (p.f (k : Int)).am := ⟨_, rfl⟩
      have hcell : Hid (cell (p.f (k : Int)) = .agg #[.int .i64 a, .int .i64 0, .int .i64 0, .int .i64 u, .int .i64 t]) := by unfold Hid cell; rw [ha, hu2, ht]
      rw [← ha, ← hu2, ← ht] at hbd hone
      have hpre : Hid (pre (p.f (k : Int)) = !decide (a = 0)) := by unfold Hid pre; rw [ha]
      have ha0 : Hid (k = 0 → a = 0) := fun e => by rw [ha, hz e]; rfl
      have i1 : (k : Int) < 201 := by omega
      replace hone := Lib.hid hone
      replace hbd := Lib.hid hbd
      have hlen' := Lib.hid hlen
      clear ha hu2 ht hz hlen
      obtain ⟨W4, hW4⟩ : ∃ W, W = wr.alloc (.cells #[.int .i64 a, .int .i64 0, .int .i64 0, .int .i64 u, .int .i64 t] 37) := ⟨_, rfl⟩
      have b4 : Hid (Below wr.heap.size wr W4) := by rw [hW4]; exact (Below.refl _ _).alloc (Nat.le_refl _) _
      have G4 : W4.heap[wr.heap.size]? = some (.cells #[.int .i64 a, .int .i64 0, .int .i64 0, .int .i64 u, .int .i64 t] 37 (0, 0)) := by rw [hW4]; exact heap_alloc_new _ _
      have e0 : W4.cell? ⟨wr.heap.size, 0, none⟩ = some (.int .i64 a) := one_at (i := 0) G4
      have e3 : W4.cell? ⟨wr.heap.size, 3, none⟩ = some (.int .i64 u) := one_at (i := 3) G4
      have e4 : W4.cell? ⟨wr.heap.size, 4, none⟩ = some (.int .i64 t) := one_at (i := 4) G4
      replace hW4 := Lib.hid hW4
      clear G4
      by_cases hst : a = 0
      · have gs : (a != 0) = false := by simp [hst]
        have gs' : (a == 0) = true := by simp [hst]
        have nx : Hid (BtAt w w2 p u3 (.int .i64 ((k + 1 : Nat) : Int)) W4) := by
          refine ⟨k + 1, rfl, by omega, ?_, hgu.out.trans (Gu.of_below b4.out), Nat.le_trans hbs.out b4.out.size⟩
          have e : bts p (k + 1 - 1) = bts p (k - 1) := by
            by_cases h0 : k = 0
            · subst h0; rfl
            · rw [hbs1.out (by omega), hpre.out, decide_eq_true hst, if_neg (by decide)]
          rw [e]
          exact rb_below hrow.out b4.out
        clear hst hrow hgu hone hbd ha0
        go_upto_region 7 with (refine wpList_index10 rfl (.tmp 16) (.tmp 17) rfl p.f k hlt rfl rfl ?_; rw [hcell.out])
        rw [← hW4.out]
        go_wp2
        exact ⟨nx.out, by simp [intOf]; omega⟩
      · have gs : (a != 0) = true := by simp [hst]
        have gs' : (a == 0) = false := by simp [hst]
        have hk0 : 1 ≤ k := Decidable.byContradiction fun h => hst (ha0.out (by omega))
        obtain ⟨W5, hW5⟩ : ∃ W, W = W4.alloc (.cells #[.int .i64 (k : Int), .int .i64 a, .int .i64 u, .int .i64 t] 2) := ⟨_, rfl⟩
        have g5 : Gu w.heap.size wr W5 := by rw [hW5]; exact Gu.of_below (b4.out.alloc b4.out.size _)
        have h5 : W5.heap[W4.heap.size]? = some (.cells #[.int .i64 (k : Int), .int .i64 a, .int .i64 u, .int .i64 t] 2 (0, 0)) := by rw [hW5]; exact heap_alloc_new _ _
        have o5 : RowB W5 w.heap.size u3 (bts p (k - 1)) := by rw [hW5]; exact (rb_below hrow.out b4.out).alloc _
        have CA : Hid (Calls Tryz.prog 228 #[u3, .slice (some ⟨W4.heap.size, 0, none⟩) 4 4] W5 fun e w' => ∃ v, e = .returned v ∧ BtAt w w2 p v (.int .i64 ((k + 1 : Nat) : Int)) w') := by
          refine (appendInts_any w.heap.size W5 u3 _ o5 (by have := g5.size; have := hbs.out; omega) ⟨W4.heap.size, 0, none⟩ 4 [(k : Int), a, u, t] rfl ⟨lt_some h5, .inr fun cs fr e => by
            rw [h5] at e
            injection e with e
            injection e with _ e _
            exact absurd e (by decide), fun j y hj => by
            rw [add0, one_at h5]
            match j, hj with
            | 0, hj => simp at hj; subst hj; rfl
            | 1, hj => simp at hj; subst hj; rfl
            | 2, hj => simp at hj; subst hj; rfl
            | 3, hj => simp at hj; subst hj; rfl
            | j + 4, hj => simp at hj⟩ (fun y hy => by have := hbd.out; simp at hy; omega) (by have := hlen'.out; omega) (by omega)).mono ?_
          rintro e w' ⟨v, rfl, o6, g6, s6⟩
          refine ⟨v, rfl, k + 1, rfl, by omega, ?_, (hgu.out.trans g5).trans g6, s6⟩
          rw [hbs1.out hk0, hpre.out, decide_eq_false hst, if_pos (by decide), hone.out]
          exact o6
        replace hW5 := Lib.hid hW5
        clear hst hrow hgu hone hbd ha0 g5 h5 o5
        go_upto_region 7 with (refine wpList_index10 rfl (.tmp 16) (.tmp 17) rfl p.f k hlt rfl rfl ?_; rw [hcell.out])
        rw [← hW4.out]
        go_wp2_with fail
        rw [← hW5.out]
        refine CA.out.mono ?_
        rintro e w6 ⟨v6, rfl, h6⟩
        replace h6 := Lib.hid h6
        clear CA hW5 e0 e3 e4
        go_wp2
        exact ⟨h6.out, by simp [intOf]; omega⟩
    · have F : Hid (ByTo w (bts p 200) (.returned u3) wr) := by
        obtain rfl : k = 201 := by omega
        exact ⟨u3, rfl, hrow.out, hBr.out⟩
      have i1 : ¬ (k : Int) < 201 := by omega
      go_wp2
      go_ret
      exact F.out
end Pu
end Go.Proofs.YtpkdigegkemogaaGreatDoor
