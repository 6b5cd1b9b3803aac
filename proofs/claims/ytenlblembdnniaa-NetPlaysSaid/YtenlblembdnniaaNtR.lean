/- The document's net in memory; node, Send, Double. -/
import Derived.Test.YtenlblembdnniaaNtQ
namespace Go.Proofs.Ytenlblembdnniaa
set_option maxRecDepth 100000
open Go.RowKit
open Go.Proofs.Ytenlblembdnniaa.Pk (Rb one_at one_free one_set lt_some grown_set grown_trans below_grown grown_refl)
namespace Nt

def dcs (n most : Nat) (v : Value) (ds : List Bool) : Array Value := (.int .i64 n :: .int .i64 most :: v :: ds.map Value.bool).toArray
/-- The document's net at d. -/
structure Dn (w : World) (d most : Nat) (us ds : List Bool) (L : List Ms) (v : Value) : Prop where
  cells : w.heap[d]? = some (.cells (dcs us.length most v ds) 31 (0, 0))
  row : RowE w 0 40 v L.length L
  few : L.length ≤ most
  top : most ≤ 4096
  wide : us.length ≤ 16
  dl : ds.length = 16
  link : ∀ (k : Nat) (b : Bool), us[k]? = some b → ds[k]? = some (!b)
  wf : ∀ m ∈ L, wf us.length m
def din (d : Nat) (v : Value) : Nat → Prop := fun g => g = d ∨ v.ownBlock = some g
def DnTo (w : World) (d most : Nat) (us ds : List Bool) (L : List Ms) (v : Value) (w' : World) : Prop :=
  ∃ v', Dn w' d most us ds L v' ∧ Kq (din d v) w w' ∧ ∀ g, v'.ownBlock = some g → v.ownBlock = some g ∨ w.heap.size ≤ g
section
variable {w w' w6 : World} {d most : Nat} {us ds : List Bool} {L L' : List Ms} {v : Value}
theorem Dn.keep (D : Dn w d most us ds L v) (hk : ∀ g, din d v g → w'.heap[g]? = w.heap[g]?) : Dn w' d most us ds L v :=
  ⟨(hk d (.inl rfl)).trans D.cells, re_same D.row fun g hg => hk g (.inr hg), D.few, D.top, D.wide, D.dl, D.link, D.wf⟩
theorem Dn.lt (D : Dn w d most us ds L v) : ∀ g, din d v g → g < w.heap.size := by
  rintro g (rfl | hg)
  · exact lt_some D.cells
  · exact lt_some (re_block D.row hg).2.choose_spec
theorem Dn.below (D : Dn w d most us ds L v) (hb : Below w.heap.size w w') : Dn w' d most us ds L v := D.keep fun g hg => hb.block g (D.lt g hg)
theorem Dn.row_ne (D : Dn w d most us ds L v) : v.ownBlock ≠ some d := fun e => by
  obtain ⟨_, cur, h⟩ := re_block D.row e
  refine no_two h D.cells fun e => ?_
  injection e with _ e
  exact absurd e (by decide)
theorem DnTo.of_below (D : Dn w d most us ds L v) (hb : Below w.heap.size w w') : DnTo w d most us ds L v w' := ⟨v, D.below hb, .of_below hb, fun _ h => .inl h⟩
theorem Dn.at3 (D : Dn w d most us ds L v) : w.cell? ⟨d, 0, none⟩ = some (.int .i64 us.length) ∧ w.cell? ⟨d, 1, none⟩ = some (.int .i64 most) ∧ w.cell? ⟨d, 2, none⟩ = some v :=
  ⟨one_at (i := 0) D.cells, one_at (i := 1) D.cells, one_at (i := 2) D.cells⟩
theorem Dn.down (D : Dn w d most us ds L v) {k : Nat} {b : Bool} (h : us[k]? = some b) : w.cell? ⟨d, 3 + k, none⟩ = some (.bool !b) := by
  rw [one_at D.cells]
  unfold dcs
  have := D.link k b h
  rw [show 3 + k = k + 1 + 1 + 1 from by omega]
  simp [this]
/-- A row stored. -/
theorem Dn.row_store {A : Option Addr} {c n : Nat} (D0 : Dn w d most us ds L v) (hb : Below w.heap.size w w6) {w7 : World} {o : Option Nat} (hg : w6.grownBy w7 o) (ho : ∀ g, o = some g → v.ownBlock = some g ∨ w.heap.size ≤ g) (R : RowE w7 0 40 (.slice A n c) n L')
    (hA : ∀ g, (Value.slice A n c).ownBlock = some g → v.ownBlock = some g ∨ w.heap.size ≤ g) (few : L'.length ≤ most) (hw : ∀ m ∈ L', Nt.wf us.length m) :
    w7.cell? ⟨d, 2, none⟩ = some v ∧ w7.frozen? ⟨d, 2, none⟩ = false ∧ DnTo w d most us ds L' v (w7.setCell ⟨d, 2, none⟩ (.slice A n c)) := by
  have D := D0.below hb
  have hn := re_len R
  subst hn
  have hd : d < w.heap.size := lt_some D0.cells
  have hq7 : w7.heap[d]? = some (.cells (dcs us.length most v ds) 31 (0, 0)) := (hg.block d (lt_some D.cells) (fun e => by
    rcases ho d e.symm with h | h
    · exact D0.row_ne h
    · omega)).trans D.cells
  have G := grown_set w7 d 2 (.slice A L'.length c)
  refine ⟨one_at (i := 2) hq7, one_free hq7, .slice A L'.length c, ⟨one_set hq7 (.slice A L'.length c), re_same R fun g h => G.block g (lt_some (re_block R h).2.choose_spec) (fun e => ?_), few, D.top, D.wide, D.dl, D.link, hw⟩, ((Kq.of_below hb).trans (Kq.of_grown (S := fun g => o = some g) hg fun g h => h) fun g h => ?_).trans' (.of_grown G fun g h => ?_), hA⟩
  · injection e with e
    subst e
    obtain ⟨_, cur, h2⟩ := re_block R h
    refine no_two h2 hq7 fun e => ?_
    injection e with _ e
    exact absurd e (by decide)
  · rcases ho g h with h | h
    · exact .inl (.inr h)
    · exact .inr h
  · injection h with h
    exact .inl h.symm
set_option maxHeartbeats 800000 in
theorem dnode (w : World) (d n : Nat) (k : Int) (c0 : w.cell? ⟨d, 0, none⟩ = some (.int .i64 n)) : Calls Try.prog 23 #[.pointer (some ⟨d, 0, none⟩), .int .i64 k] w fun e w' => e = .returned (.bool (node n k)) ∧ w = w' := by
  unfold node
  cases e1 : decide (0 ≤ k) with
  | false =>
    go_enter Try.func23, Try.ntmps23
    go_wp2
    go_ret
    exact ⟨rfl, rfl⟩
  | true =>
    go_enter Try.func23, Try.ntmps23
    go_wp2
    go_ret
    exact ⟨by simp, rfl⟩
/-- An append whose run is known. -/
theorem wpList_run_app {w : World} {ops : Array Oper} {rest : List Oper} {o : Oper} {a : Act} {Q : Exit → Act → World → Prop} {t : TypeId} (hgd : o.guard = none) (s x : Operand) (ho : o.op = .call { callee := .builtin .append, args := #[s, x], argTypes := #[t, t] }) (hty : o.type = t)
    (v0 x0 : Value) (hs : a.eval s = v0) (hx : a.eval x = x0) {v' : Value} {w' : World} (hrun : (Builtin.append_ #[t, t] t #[v0, x0]).run Try.prog w = .ok v' w') (h : wpList Try.prog ops Q rest (a.put o.dst v') w') :
    wpList Try.prog ops Q (o :: rest) a w := by
  refine wpList_plain hgd fun K hK' => ?_
  unfold Oper.wp execOp
  simp only [ho, resolve, invoke, builtin, Sem.run_bind, Sem.run_pure, Result.andThen_ok, List.map_toArray, List.map_cons, List.map_nil, hs, hx, hty, hrun]
  exact hK' _ _ h
theorem dms_append : Try.prog.underlying 28 = some (.slice 40) := Try.underlying28
theorem dmsg_info : (Try.prog.info? 40).map (fun i => (i.zero, i.size, i.bytes)) = some (some (am m0), 3, 32) := by kernel_rfl
set_option maxHeartbeats 3200000 in
theorem dsend (D : Dn w d most us ds L v) (f t : Int) (bs : List UInt8) (hbs : bs.length ≤ 1000) : Calls Try.prog 10 #[.pointer (some ⟨d, 0, none⟩), .int .i64 f, .int .i64 t, .string (str bs)] w fun e w' => e = .returned (.int .i64 (sendC us most L f t)) ∧ DnTo w d most us ds (sendS us most L ⟨f, t, bs⟩) v w' := by
  obtain ⟨c0, c1, c2⟩ := D.at3
  obtain ⟨A, c, rfl, _⟩ := re_form D.row
  obtain ⟨z, hz⟩ : ∃ z, z = us.length := ⟨_, rfl⟩
  rw [← hz] at c0
  have N1 := Lib.hid (dnode w d z f c0)
  have N2 := Lib.hid (dnode w d z t c0)
  unfold sendC sendS
  simp only
  rw [← hz]
  have E := Lib.hid (DnTo.of_below D (Below.refl _ _))
  cases h1 : node z f with
  | false =>
    rw [h1] at N1
    simp only [Bool.false_and, Bool.false_eq_true, if_false]
    clear D N2 h1 hz c0 c1 c2
    go_enter Try.func10, Try.ntmps10
    go_wp2_with fail
    refine N1.out.mono ?_
    rintro e w1 ⟨rfl, rfl⟩
    clear N1
    go_wp2
    go_ret
    exact ⟨rfl, E.out⟩
  | true =>
    rw [h1] at N1
    rw [Bool.true_and]
    cases h2 : node z t with
    | false =>
      rw [h2] at N2
      simp only [Bool.false_eq_true, if_false]
      clear D h1 h2 hz c0 c1 c2
      go_enter Try.func10, Try.ntmps10
      go_wp2_with fail
      refine N1.out.mono ?_
      rintro e w1 ⟨rfl, rfl⟩
      clear N1
      go_wp2_with fail
      refine N2.out.mono ?_
      rintro e w1 ⟨rfl, rfl⟩
      clear N2
      go_wp2
      go_ret
      exact ⟨rfl, E.out⟩
    | true =>
      rw [h2] at N2
      simp only [if_true]
      obtain ⟨g1, g2⟩ := node_iff.1 h2
      unfold addC addS
      obtain ⟨n, hn⟩ : ∃ z, z = L.length := ⟨_, rfl⟩
      rw [← hn] at c2 ⊢
      have hn4 : n ≤ 4096 := by rw [hn]; exact Nat.le_trans D.few D.top
      by_cases hlt : n < most
      · simp only [if_pos hlt]
        have d1 : ¬ most ≤ n := by omega
        have d3 : ¬ (most : Int) ≤ (n : Int) := by omega
        have e0 : Below w.heap.size w w.drew := (Below.refl _ _).drew
        have b2 : Below w.heap.size w (w.drew.alloc (.cells #[.int .i64 f, .int .i64 t, .string (str bs)] 40)) := e0.alloc (Nat.le_refl _) _
        have h2 : (w.drew.alloc (.cells #[.int .i64 f, .int .i64 t, .string (str bs)] 40)).heap[w.heap.size]? = some (.cells #[.int .i64 f, .int .i64 t, .string (str bs)] 40 (0, 0)) := heap_alloc_new _ _
        have R2 := (D.below b2).row
        rw [← hn] at R2
        obtain ⟨A3, c3, W3, r3, R3, g3, h3⟩ := row_app1 dms_append dmsg_info _ 0 _ n L R2 ⟨f, t, bs⟩ w.heap.size h2 (by omega) (Nat.zero_le _)
        obtain ⟨f2, z2, E2⟩ := Dn.row_store D b2 g3 (fun g h => .inl (by rw [← hn]; exact h)) R3 (fun g h => by
          rcases h3 with e | e
          · exact .inl (by rw [← hn, ← e]; exact h)
          · right
            rw [h] at e
            injection e with e
            rw [e]
            exact b2.size) (by simp; omega) (fun y hy => by
          rcases List.mem_append.1 hy with h | h
          · exact D.wf y h
          · have : y = ⟨f, t, bs⟩ := by simpa using h
            rw [this]
            exact ⟨⟨g1, by rw [← hz]; exact g2⟩, hbs⟩)
        rw [← hn] at f2 E2
        replace E2 := Lib.hid E2
        clear D E R2 R3 g3 h3 h2 b2 e0 h1 hz hn hlt g1 g2 c0 hn4
        go_enter Try.func10, Try.ntmps10
        go_wp2_with fail
        refine N1.out.mono ?_
        rintro e w1 ⟨rfl, rfl⟩
        clear N1
        go_wp2_with fail
        refine N2.out.mono ?_
        rintro e w1 ⟨rfl, rfl⟩
        clear N2
        go_upto_region 3 with fail
        go_region
        go_wp2_with (at_builtin; refine wpList_run_app rfl (.tmp 33) (.tmp 38) rfl rfl _ _ rfl rfl r3 ?_)
        go_ret
        exact ⟨rfl, E2.out⟩
      · simp only [if_neg hlt]
        have d1 : most ≤ n := by omega
        have d3 : (most : Int) ≤ (n : Int) := by omega
        have E := Lib.hid (DnTo.of_below D (Below.refl _ w).drew)
        rw [← hn] at E
        clear D h1 hz hn hlt g1 g2 c0 hn4
        go_enter Try.func10, Try.ntmps10
        go_wp2_with fail
        refine N1.out.mono ?_
        rintro e w1 ⟨rfl, rfl⟩
        clear N1
        go_wp2_with fail
        refine N2.out.mono ?_
        rintro e w1 ⟨rfl, rfl⟩
        clear N2
        go_upto_region 3 with fail
        go_region
        go_wp2
        go_ret
        exact ⟨rfl, E.out⟩
set_option maxHeartbeats 3200000 in
theorem ddouble (D : Dn w d most us ds L v) (k : Int) : Calls Try.prog 14 #[.pointer (some ⟨d, 0, none⟩), .int .i64 k] w fun e w' => e = .returned (.int .i64 (dblC most L k)) ∧ DnTo w d most us ds (dblS most L k) v w' := by
  obtain ⟨c0, c1, c2⟩ := D.at3
  obtain ⟨A, c, rfl, hc, hmx, _⟩ := re_form D.row
  obtain ⟨n, hn⟩ : ∃ z, z = L.length := ⟨_, rfl⟩
  have hn4 : n ≤ 4096 := by rw [hn]; exact Nat.le_trans D.few D.top
  unfold dblC dblS
  have E0 := Lib.hid (DnTo.of_below D (Below.refl _ _))
  have R := D.row
  rw [← hn] at c2 R E0 ⊢
  by_cases h1 : k < 0
  · have d1 : decide (k < 0) = true := decide_eq_true h1
    have hf : node n k = false := by simp [node]; omega
    rw [hf]
    simp only [Bool.false_eq_true, if_false]
    clear D R hn hf h1 c0 c1 c2
    go_enter Try.func14, Try.ntmps14
    go_wp2
    go_ret
    exact ⟨rfl, E0.out⟩
  · have d1 : decide (k < 0) = false := decide_eq_false h1
    obtain ⟨j, rfl⟩ : ∃ j : Nat, k = j := ⟨k.toNat, by omega⟩
    by_cases h2 : j < n
    · have hf : node n (j : Int) = true := node_iff.2 ⟨by omega, by omega⟩
      rw [hf]
      simp only [if_true]
      rw [show ((j : Int)).toNat = j from by omega]
      have d2 : ¬ n ≤ j := by omega
      have d3 : ¬ (n : Int) ≤ (j : Int) := by omega
      have i1 : (j : Int) < (n : Int) := by omega
      have i2 : (0 : Int) ≤ (j : Int) := by omega
      obtain ⟨g, c', hv, _⟩ := re_some R (by omega)
      injection hv with hA _ hcc
      subst hA; subst hcc
      obtain ⟨k0, k1, k2⟩ := re_cell R h2
      have wfm := D.wf (mt L j) (by rw [mt_eq (by omega)]; exact List.getElem_mem _)
      unfold addC addS
      rw [← hn]
      generalize mt L j = m at *
      by_cases hlt : n < most
      · simp only [if_pos hlt]
        have d4 : ¬ most ≤ n := by omega
        have d5 : ¬ (most : Int) ≤ (n : Int) := by omega
        have ba : Below w.heap.size w (w.alloc (.cells #[.int .i64 m.fr, .int .i64 m.to_, .string (str m.tx)] 40)) := (Below.refl _ _).alloc (Nat.le_refl _) _
        obtain ⟨W2, hW2⟩ : ∃ z, z = (w.alloc (.cells #[.int .i64 m.fr, .int .i64 m.to_, .string (str m.tx)] 40)).drew.drew := ⟨_, rfl⟩
        have b2 : Below w.heap.size w W2 := by rw [hW2]; exact ba.drew.drew
        have h2 : W2.heap[w.heap.size]? = some (.cells #[.int .i64 m.fr, .int .i64 m.to_, .string (str m.tx)] 40 (0, 0)) := by rw [hW2]; exact heap_alloc_new _ _
        have e2 : (w.alloc (.cells #[.int .i64 m.fr, .int .i64 m.to_, .string (str m.tx)] 40)).cell? ⟨d, 2, none⟩ = some (.slice (some ⟨g, 0, none⟩) n c) := by rw [hn]; exact (D.below ba).at3.2.2
        have R2 := (D.below b2).row
        rw [← hn] at R2
        obtain ⟨A3, c3, W3, r3, R3, g3, h3⟩ := row_app1 dms_append dmsg_info W2 0 _ n L R2 m w.heap.size h2 (by omega) (Nat.zero_le _)
        obtain ⟨f2, z2, E2⟩ := Dn.row_store D b2 g3 (fun g h => .inl (by rw [← hn]; exact h)) R3 (fun g h => by
          rcases h3 with e | e
          · exact .inl (by rw [← hn, ← e]; exact h)
          · right
            rw [h] at e
            injection e with e
            rw [e]
            exact b2.size) (by simp; omega) (fun y hy => by
          rcases List.mem_append.1 hy with h | h
          · exact D.wf y h
          · have : y = m := by simpa using h
            rw [this]
            exact wfm)
        rw [← hn] at f2 E2
        replace E2 := Lib.hid E2
        rw [hW2] at r3
        clear D E0 R R2 R3 g3 h3 h2 b2 hW2 ba hn hlt c0 hn4 wfm hf
        go_enter Try.func14, Try.ntmps14
        go_upto_region 3 with fail
        go_region
        go_upto_region 5 with fail
        go_region_law (refine step_run_app rfl (.tmp 30) (.tmp 38) rfl rfl (.slice (some ⟨g, 0, none⟩) n c) (.slice (some ⟨w.heap.size, 0, none⟩) 1 1) rfl rfl r3 ?_)
        all_goals
          go_wp2
          go_ret
          exact ⟨rfl, E2.out⟩
      · simp only [if_neg hlt]
        have d4 : most ≤ n := by omega
        have d5 : (most : Int) ≤ (n : Int) := by omega
        have E := Lib.hid (DnTo.of_below D (Below.refl _ w).drew)
        rw [← hn] at E
        clear D R hn hlt c0 hn4 wfm hf E0
        go_enter Try.func14, Try.ntmps14
        go_upto_region 3 with fail
        go_region
        go_wp2
        go_ret
        exact ⟨rfl, E.out⟩
    · have hf : node n (j : Int) = false := by simp [node]; omega
      rw [hf]
      simp only [Bool.false_eq_true, if_false]
      have d2 : n ≤ j := by omega
      have d3 : (n : Int) ≤ (j : Int) := by omega
      clear D R hn hf c0 c1 h2
      go_enter Try.func14, Try.ntmps14
      go_wp2
      go_ret
      exact ⟨rfl, E0.out⟩
end
end Nt
end Go.Proofs.Ytenlblembdnniaa
