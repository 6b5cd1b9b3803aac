/- Proved: many small turns of a wheel are one great one (WheelTurns), for any numbers. -/
import Derived.Test.YtnfakkinaockiaaLsB
import Derived.Deep.CutBlock
import Derived.Deep.CutRange
namespace Go.Proofs.Ytnfakkinaockiaa.wheelTurns
open Go.ChangeShapes Go.WideShapes Go.ChangeAt Go.WideMaps Go.WideElems Go.RowKit
open Go.Proofs.Ytnfakkinaockiaa.Pk (one_at one_free one_set lt_some grown_set)
open Go.Proofs.Ytnfakkinaockiaa.Wh

def ids (S : List Tm) : List Int := S.map (·.1)
/-- So many timers have been set. -/
def SoAt (B : World) (qa qb : Nat) (i : Value) (wr : World) (n : Nat) : Prop := ∃ (k : Nat) (S : List Tm), i = .int .i64 k ∧ k ≤ n ∧ S.length = k ∧ (∀ t ∈ S, 100 - (k : Int) < t.1 ∧ 0 ≤ t.2 ∧ t.2 ≤ 300) ∧ Tw B qa qb 0 0 S S (fun g => g < B.heap.size) wr
theorem so_step {S : List Tm} {k : Nat} {a : Int} (hl : S.length = k) (h : ∀ t ∈ S, 100 - (k : Int) < t.1 ∧ 0 ≤ t.2 ∧ t.2 ≤ 300) (h0 : 0 ≤ a) (h1 : a ≤ 300) : (sSet (100 - (k : Int), a) S).length = k + 1 ∧ ∀ t ∈ sSet (100 - (k : Int), a) S, 100 - ((k + 1 : Nat) : Int) < t.1 ∧ 0 ≤ t.2 ∧ t.2 ≤ 300 := by
  refine ⟨?_, fun t ht => ?_⟩
  · rw [(sSet_perm _ _).length_eq, List.length_cons, without_none fun t ht => ?_, hl]
    have := h t ht
    simp only
    omega
  · rcases mem_sSet.1 ht with rfl | ⟨ht, _⟩
    · simp only
      omega
    · have := h t ht
      omega
/-- What has gone off of the second wheel. -/
structure Tu (B : World) (qa qb : Nat) (va : Value) (S : List Tm) (N : Int) (done Sb : List Tm) (vg : Value) (W : World) : Prop where
  tw : Tw B qb qa N 300 Sb [] (fun g => va.ownBlock = some g ∨ vg.ownBlock = some g) W
  all : RowI W B.heap.size va S.length (nums (ids S))
  got : RowI W B.heap.size vg done.length (nums (ids done))
  eq : S = done ++ Sb
  ne : ∀ g, va.ownBlock = some g → vg.ownBlock ≠ some g
def TuAt (B : World) (qa qb : Nat) (va : Value) (S : List Tm) (vg vn i : Value) (wr : World) : Prop := ∃ (k : Nat) (N : Int) (done Sb : List Tm), i = .int .i64 k ∧ k ≤ 40 ∧ vn = .int .i64 N ∧ 0 ≤ N ∧ N ≤ 300 ∧ Tu B qa qb va S N done Sb vg wr
theorem Tu.below {B W W' : World} {qa qb : Nat} {va vg : Value} {S done Sb : List Tm} {N : Int} (T : Tu B qa qb va S N done Sb vg W) (hb : Below W.heap.size W W') : Tu B qa qb va S N done Sb vg W' :=
  ⟨T.tw.below hb, ri_same T.all fun g hg => hb.block g (T.tw.xs g (.inl hg)), ri_same T.got fun g hg => hb.block g (T.tw.xs g (.inr hg)), T.eq, T.ne⟩
/-- Behind a turn and the append of what went off. -/
theorem Tu.step {B W W1 W2 : World} {qa qb m c : Nat} {va vg vg' : Value} {S done Sb : List Tm} {N n : Int} {A : Option Addr} (T : Tu B qa qb va S N done Sb vg W) (hm : m = (offs n Sb).length)
    (tw : Tw B qb qa n 300 (left n Sb) [] (fun g => (va.ownBlock = some g ∨ vg.ownBlock = some g) ∨ (Value.slice A m c).ownBlock = some g) W1) (hk : ∀ g, (va.ownBlock = some g ∨ vg.ownBlock = some g) → W1.heap[g]? = W.heap[g]?)
    (R2 : RowI W2 B.heap.size vg' (done.length + m) (nums (ids done ++ (offs n Sb).map (·.1)))) (g2 : W1.grownBy W2 vg.ownBlock) (hv : vg'.ownBlock = vg.ownBlock ∨ vg'.ownBlock = some W1.heap.size) :
    Tu B qa qb va S n (done ++ offs n Sb) (left n Sb) vg' W2 := by
  have hall : RowI W1 B.heap.size va S.length (nums (ids S)) := ri_same T.all fun g hg => hk g (.inl hg)
  have hne : ∀ g, va.ownBlock = some g → vg'.ownBlock ≠ some g := fun g hg e => by
    rcases hv with h | h
    · exact T.ne g hg (h ▸ e)
    · have h1 := tw.xs g (.inl (.inl hg))
      rw [h] at e
      injection e with e
      omega
  have hnew : ∀ k, vg'.ownBlock = some k → vg.ownBlock = some k ∨ (W1.heap.size ≤ k ∧ k < W2.heap.size) := fun k hk => by
    rcases hv with h | h
    · exact .inl (h ▸ hk)
    · refine .inr ⟨?_, lt_some (ri_block R2 hk).2.choose_spec⟩
      rw [h] at hk
      injection hk with hk
      omega
  refine ⟨((tw.less (X' := fun g => va.ownBlock = some g ∨ vg.ownBlock = some g) fun g hg => .inl hg).grown g2 (fun k hk => ⟨.inr hk, (ri_block T.got hk).1⟩) hnew).less fun g hg => ?_, ?_, ?_, ?_, hne⟩
  · rcases hg with hg | hg
    · exact .inl (.inl hg)
    · exact .inr hg
  · exact ri_same hall fun g hg => g2.block g (tw.xs g (.inl (.inl hg))) (fun e => T.ne g hg e.symm)
  · rw [List.length_append, ← hm]
    have : ids (done ++ offs n Sb) = ids done ++ (offs n Sb).map (·.1) := by simp [ids]
    rw [this]
    exact R2
  · rw [List.append_assoc, offs_left]
    exact T.eq
set_option maxHeartbeats 12800000 in
set_option maxRecDepth 100000 in
theorem walk (w : World) (A1 A2 : Option Addr) (n c m e : Nat) (xs ys : List Int) (R1 : Rr w (fun g => g < w.heap.size) A1 n xs) (R2 : Rr w (fun g => g < w.heap.size) A2 m ys) (hm : m ≤ 9223372036854775807) :
    Calls Try.prog 3 #[.slice A1 n c, .slice A2 m e] w fun e w' => e = .returned (.bool true) ∧ Below w.heap.size w w' := by
  have TA := Lib.hid told_any
  by_cases hbig : 40 < n
  · have d1 : decide ((40 : Int) < (n : Int)) = true := decide_eq_true (by omega)
    clear hbig R1 R2
    go_enter Try.func3, Try.ntmps3
    go_wp2_with fail
    refine (TA.out _).mono ?_
    rintro e w2 ⟨rfl, hb⟩
    replace hb := Lib.hid hb
    go_wp2
    go_ret
    exact ⟨rfl, hb.out⟩
  · have d1 : decide ((40 : Int) < (n : Int)) = false := decide_eq_false (by omega)
    have NW := Lib.hid (lw_new (B := w) 0 (by decide) (Below.refl _ w))
    have i3 : (n : Int) ≤ 40 := by omega
    have hn40 := Lib.hid hbig
    replace R1 := Lib.hid R1
    replace R2 := Lib.hid R2
    clear hbig
    go_enter Try.func3, Try.ntmps3
    go_wp2_with fail
    refine NW.out.mono ?_
    rintro e w1 ⟨qa, rfl, L1, b1⟩
    have NW2 := Lib.hid (lw_new (B := w) (w := w1) 0 (by decide) L1.be)
    replace L1 := Lib.hid L1
    clear NW b1
    go_wp2_with fail
    refine NW2.out.mono ?_
    rintro e w2 ⟨qb, rfl, L2, b2⟩
    have st : Hid (SoAt w qa qb (.int .i64 0) w2 n) := by
      obtain ⟨fa, Wa, ha⟩ := L1.out.wh
      obtain ⟨fb, Wb, hb⟩ := L2.wh
      refine ⟨0, [], rfl, Nat.zero_le _, rfl, fun t ht => (nomatch ht), ⟨⟨fa, fb, Wa.below b2, Wb, fun g hg hg2 => (hb g hg2).2 (Wa.size g hg), fun g hg => ?_⟩, L2.be, fun g hg => Nat.lt_of_lt_of_le hg L2.be.size⟩⟩
      rcases hg with hg | hg
      · exact ⟨(ha g hg).1, by have := (ha g hg).1; omega⟩
      · exact ⟨(hb g hg).1, by have := (hb g hg).1; omega⟩
    clear NW2 L1 L2 b2
    go_wp2_with fail
    clear d1
    go_loopw [9] (fun i wr => SoAt w qa qb i wr n) (fun i _ => n - (intOf i).toNat)
    case atStart => exact st.out
    case round =>
      clear st
      obtain ⟨k, S, rfl, hk, hl, hS, T⟩ := hrel
      by_cases hlt : k < n
      · have i1 : (k : Int) < (n : Int) := by omega
        have i2 : (0 : Int) ≤ (k : Int) := by omega
        have hk40 : (k : Int) ≤ 40 := by omega
        obtain ⟨a1, rfl, _, _⟩ := R1.out.at_ (by omega)
        obtain ⟨x, hx⟩ : ∃ x, xs[k]? = some x := ⟨_, List.getElem?_eq_getElem (by rw [R1.out.len]; omega)⟩
        have c1 := (R1.out.below T.be).cell hx
        have ux : wrap64 ((IntKind.u64.wrap x).tmod 301) = (usm x 301 : Int) := usm_slot x (n := 301) (by omega) (by omega)
        have htx := usm_lt x (n := 301) (by omega)
        go_upto_region 11 with fail
        rw [ux]
        obtain ⟨t, ht⟩ : ∃ t, t = usm x 301 := ⟨_, rfl⟩
        rw [← ht] at htx ⊢
        obtain ⟨hs1, hs2⟩ := so_step (a := (t : Int)) hl hS (by omega) (by omega)
        have tk : tick (t : Int) = true := tick_iff.2 (by omega)
        have CA := tw_set T (100 - (k : Int)) (t : Int) (by omega) (by omega)
        unfold setE setS at CA
        rw [tk, if_pos rfl, if_pos rfl] at CA
        replace CA := Lib.hid CA
        have few : Hid (S.length + 1 ≤ 100000) := by show _ ≤ _; omega
        have NX : Hid (∀ W, Tw w qb qa 0 0 (sSet (100 - (k : Int), (t : Int)) S) (sSet (100 - (k : Int), (t : Int)) S) (fun g => g < w.heap.size) W → SoAt w qa qb (.int .i64 ((k : Int) + 1)) W n) := fun W T2 => ⟨k + 1, _, by simp, by omega, hs1, hs2, T2.symm⟩
        clear T hx ux c1 ht hs1 hs2 hl hS hk
        replace tk := Lib.hid tk
        go_wp2_with fail
        refine CA.out.mono ?_
        rintro e w5 ⟨rfl, T5, _⟩
        have CB := tw_set T5.symm (100 - (k : Int)) (t : Int) (by omega) few.out
        unfold setE setS at CB
        rw [tk.out, if_pos rfl, if_pos rfl] at CB
        replace CB := Lib.hid CB
        clear CA T5
        go_wp2_with fail
        refine CB.out.mono ?_
        rintro e w6 ⟨rfl, T6, _⟩
        have nx := Lib.hid (NX.out w6 T6)
        clear CB T6 NX
        go_wp2
        exact ⟨nx.out, by simp [intOf]; omega⟩
      · obtain rfl : k = n := by omega
        have dJ : decide ((k : Int) < (k : Int)) = false := by simp
        have hb300 : Hid (∀ t ∈ S, t.2 ≤ 300) := fun t ht => (hS t ht).2.2
        have hof := Lib.hid (offs_all hb300.out)
        have TT := Lib.hid (tw_turn (T.less (X' := fun _ => False) fun g hg => hg.elim) 300 (by decide) (by decide))
        have hS40 : Hid (S.length ≤ 40) := by have := hn40.out; show _ ≤ _; omega
        have hSn : Hid (S.length = k) := hl
        have hof1 : Hid (w.heap.size ≤ wr.heap.size) := T.be.size
        clear T hS hlt hk hl
        go_wp2_with fail
        refine TT.out.mono ?_
        rintro e w3 ⟨A3, m3, c3, rfl, hm3, R3, tw3, _⟩
        rw [hof.out.1] at hm3 R3
        rw [hof.out.2] at tw3
        obtain ⟨va, hva⟩ : ∃ z, z = Value.slice A3 m3 c3 := ⟨_, rfl⟩
        rw [← hva] at R3 tw3
        have st2 : Hid (TuAt w qa qb va S (.slice none 0 0) (.int .i64 0) (.int .i64 0) w3) := ⟨0, 0, [], S, rfl, by omega, rfl, by omega, by omega, tw3.symm.less fun g hg => by
            rcases hg with hg | hg
            · exact .inr hg
            · simp [Value.ownBlock] at hg, by rw [← hm3]; exact ri_mono R3 hof1.out, World.ownsRow_nil _ _ _ _, rfl, fun g _ => by simp [Value.ownBlock]⟩
        rw [← hva]
        replace hva := Lib.hid hva
        clear TT hof R3 tw3 hm3 dJ
        go_wp2_with fail
        go_loopw [12, 13, 14] (fun vg vn i wr => TuAt w qa qb va S vg vn i wr) (fun _ _ i _ => 40 - (intOf i).toNat)
        case atStart => exact st2.out
        case round =>
          clear st2
          obtain ⟨j, N, T0, Sb, rfl, hj, rfl, hN0, hN1, T⟩ := hrel
          have hST := Lib.hid T.eq
          obtain ⟨vg, hvg⟩ : ∃ z, z = u12 := ⟨_, rfl⟩
          rw [← hvg] at T ⊢
          clear hvg
          replace T := Lib.hid T
          by_cases hjm : j < m
          · have i1 : (j : Int) < (m : Int) := by omega
            have i2 : (0 : Int) ≤ (j : Int) := by omega
            by_cases hj4 : j < 40
            · have i4 : (j : Int) < 40 := by omega
              obtain ⟨a2, rfl, _, _⟩ := R2.out.at_ (by omega)
              obtain ⟨y, hy⟩ : ∃ y, ys[j]? = some y := ⟨_, List.getElem?_eq_getElem (by rw [R2.out.len]; omega)⟩
              have c2 := (R2.out.below T.out.tw.be).cell hy
              have uy : wrap64 ((IntKind.u64.wrap y).tmod 40) = (usm y 40 : Int) := usm_slot y (n := 40) (by omega) (by omega)
              have hty := usm_lt y (n := 40) (by omega)
              go_upto_region 20 with fail
              obtain ⟨N2, hN2⟩ : ∃ z, z = (if 300 < N + (usm y 40 : Int) then 300 else N + (usm y 40 : Int)) := ⟨_, rfl⟩
              rw [← hN2]
              have g1 : N ≤ N2 ∧ N2 ≤ 300 := by rw [hN2]; split <;> omega
              have TT := Lib.hid (tw_turn T.out.tw N2 g1.1 (tick_iff.2 (by omega)))
              have g2 : Hid (0 ≤ N2 ∧ N2 ≤ 300) := ⟨by omega, g1.2⟩
              clear hN2 uy hty c2 hy g1
              go_wp2_with fail
              refine TT.out.mono ?_
              rintro e w5 ⟨A5, m5, c5, rfl, hm5, R5, tw5, hk5⟩
              have hgot : RowI w5 w.heap.size vg T0.length (nums (ids T0)) := ri_same T.out.got fun g hg => hk5 g (.inr hg)
              have hsz := Lib.hid tw5.be.size
              have hfl : Hid (T0.length + m5 ≤ 1000000) := by
                have h1 := congrArg List.length T.out.eq
                rw [List.length_append] at h1
                have h2 := congrArg List.length (offs_left N2 Sb)
                rw [List.length_append] at h2
                have := hS40.out
                show _ ≤ _
                omega
              have ST : Hid (∀ vg' W2, RowI W2 w.heap.size vg' (T0.length + m5) (nums (ids T0 ++ (offs N2 Sb).map (·.1))) → w5.grownBy W2 vg.ownBlock → (vg'.ownBlock = vg.ownBlock ∨ vg'.ownBlock = some w5.heap.size) → TuAt w qa qb va S vg' (.int .i64 N2) (.int .i64 ((j : Int) + 1)) W2) := fun vg' W2 R2 g2' hv => ⟨j + 1, N2, T0 ++ offs N2 Sb, left N2 Sb, by simp, by omega, rfl, g2.out.1, g2.out.2, T.out.step hm5 tw5 hk5 R2 g2' hv⟩
              have R5' := Lib.hid (Rr.of_row R5)
              replace hgot := Lib.hid hgot
              clear TT hm5 R5 tw5 hk5 T
              go_wp2_with (at_builtin; go_loud (refine wpList_append_i w5 rfl (.tmp 90) (.tmp 93) rfl w.heap.size vg T0.length (ids T0) rfl hgot.out rfl R5'.out hfl.out hsz.out ?_); intro v6 w6 h6 g6 b6; have T6 := Lib.hid (ST.out v6 w6 h6 g6 b6); clear h6 g6 b6)
              exact ⟨T6.out, by simp [intOf]; omega⟩
            · have d4 : decide ((j : Int) < 40) = false := decide_eq_false (by omega)
              replace hN1 := Lib.hid hN1
              clear hN0 hj hjm hj4
              have TT := Lib.hid (tw_turn T.out.tw 300 hN1.out (by decide))
              go_wp2_with fail
              refine TT.out.mono ?_
              rintro e w5 ⟨A5, m5, c5, rfl, hm5, R5, tw5, hk5⟩
              have hgot : RowI w5 w.heap.size vg T0.length (nums (ids T0)) := ri_same T.out.got fun g hg => hk5 g (.inr hg)
              have hsz := Lib.hid tw5.be.size
              have hfl : Hid (T0.length + m5 ≤ 1000000) := by
                have h1 := congrArg List.length T.out.eq
                rw [List.length_append] at h1
                have h2 := congrArg List.length (offs_left 300 Sb)
                rw [List.length_append] at h2
                have := hS40.out
                show _ ≤ _
                omega
              have ST : Hid (∀ vg' W2, RowI W2 w.heap.size vg' (T0.length + m5) (nums (ids T0 ++ (offs 300 Sb).map (·.1))) → w5.grownBy W2 vg.ownBlock → (vg'.ownBlock = vg.ownBlock ∨ vg'.ownBlock = some w5.heap.size) → Tu w qa qb va S 300 (T0 ++ offs 300 Sb) (left 300 Sb) vg' W2) := fun vg' W2 R2 g2 hv => T.out.step hm5 tw5 hk5 R2 g2 hv
              have R5' := Lib.hid (Rr.of_row R5)
              replace hgot := Lib.hid hgot
              clear TT hm5 R5 tw5 hk5 T
              go_upto_region 22 with (at_builtin; go_loud (refine wpList_append_i w5 rfl (.tmp 95) (.tmp 97) rfl w.heap.size vg T0.length (ids T0) rfl hgot.out rfl R5'.out hfl.out hsz.out ?_); intro v6 w6 h6 g6 b6; have T6 := Lib.hid (ST.out v6 w6 h6 g6 b6); clear h6 g6 b6)
              have hl0 : left 300 Sb = [] := (offs_all fun t ht => hb300.out t (by rw [hST.out]; exact List.mem_append_right _ ht)).2
              have ho0 : T0 ++ offs 300 Sb = S := by rw [(offs_all fun t ht => hb300.out t (by rw [hST.out]; exact List.mem_append_right _ ht)).1]; exact hST.out.symm
              rw [hl0, ho0] at T6
              clear ST R5' hgot hsz hfl hl0 ho0
              go_wp2_with fail
              refine (TA.out _).mono ?_
              rintro e w7 ⟨rfl, b7⟩
              have T7 := Lib.hid (T6.out.below b7)
              obtain ⟨A7, c7, hv7, hc71, hc72, _⟩ := ri_form T7.out.got
              obtain ⟨A8, c8, hv8, hc81, hc82, _⟩ := ri_form T7.out.all
              have IN := ints_any w7 A8 A7 S.length c8 S.length c7 (ids S) (ids S) (Rr.of_row (by have := T7.out.all; rw [hv8] at this; exact this)) (Rr.of_row (by have := T7.out.got; rw [hv7] at this; exact this)) (fun g hg => T7.out.tw.xs g (.inl (by rw [hv8]; exact hg))) (fun g hg => T7.out.tw.xs g (.inr (by rw [hv7]; exact hg))) (by have := hS40.out; omega) (by have := hS40.out; omega)
              have dd : decide (ids S = ids S) = true := decide_eq_true rfl
              rw [dd] at IN
              replace IN := Lib.hid IN
              rw [hSn.out] at IN hv8 hv7
              rw [hv8, hv7]
              replace hv8 := Lib.hid hv8
              replace hv7 := Lib.hid hv7
              clear T6 b7 dd hc71 hc72 hc81 hc82
              go_wp2_with fail
              refine IN.out.mono ?_
              rintro e w8 ⟨rfl, b8⟩
              have T8 := Lib.hid (T7.out.below b8)
              have LA := Lib.hid (tw_len T8.out.tw.symm)
              clear IN T7 b8
              go_wp2_with fail
              refine LA.out.mono ?_
              rintro e w9 ⟨rfl, b9⟩
              have T9 := Lib.hid (T8.out.below b9)
              have LB := Lib.hid (tw_len T9.out.tw)
              have z0 : ((([] : List Tm).length : Nat) : Int) = 0 := rfl
              rw [z0]
              clear LA T8 b9
              go_wp2_with fail
              refine LB.out.mono ?_
              rintro e w10 ⟨rfl, b10⟩
              rw [z0]
              have E := Lib.hid (T9.out.tw.be.trans (b10.mono T9.out.tw.be.size))
              clear LB T9 b10 z0 hv8 hv7
              go_wp2
              go_ret
              exact ⟨rfl, E.out⟩
          · have d4 : decide (j < m) = false := decide_eq_false (by omega)
            replace hN1 := Lib.hid hN1
            clear hN0 hj hjm
            have TT := Lib.hid (tw_turn T.out.tw 300 hN1.out (by decide))
            go_wp2_with fail
            refine TT.out.mono ?_
            rintro e w5 ⟨A5, m5, c5, rfl, hm5, R5, tw5, hk5⟩
            have hgot : RowI w5 w.heap.size vg T0.length (nums (ids T0)) := ri_same T.out.got fun g hg => hk5 g (.inr hg)
            have hsz := Lib.hid tw5.be.size
            have hfl : Hid (T0.length + m5 ≤ 1000000) := by
              have h1 := congrArg List.length T.out.eq
              rw [List.length_append] at h1
              have h2 := congrArg List.length (offs_left 300 Sb)
              rw [List.length_append] at h2
              have := hS40.out
              show _ ≤ _
              omega
            have ST : Hid (∀ vg' W2, RowI W2 w.heap.size vg' (T0.length + m5) (nums (ids T0 ++ (offs 300 Sb).map (·.1))) → w5.grownBy W2 vg.ownBlock → (vg'.ownBlock = vg.ownBlock ∨ vg'.ownBlock = some w5.heap.size) → Tu w qa qb va S 300 (T0 ++ offs 300 Sb) (left 300 Sb) vg' W2) := fun vg' W2 R2 g2 hv => T.out.step hm5 tw5 hk5 R2 g2 hv
            have R5' := Lib.hid (Rr.of_row R5)
            replace hgot := Lib.hid hgot
            clear TT hm5 R5 tw5 hk5 T
            go_upto_region 22 with (at_builtin; go_loud (refine wpList_append_i w5 rfl (.tmp 95) (.tmp 97) rfl w.heap.size vg T0.length (ids T0) rfl hgot.out rfl R5'.out hfl.out hsz.out ?_); intro v6 w6 h6 g6 b6; have T6 := Lib.hid (ST.out v6 w6 h6 g6 b6); clear h6 g6 b6)
            have hl0 : left 300 Sb = [] := (offs_all fun t ht => hb300.out t (by rw [hST.out]; exact List.mem_append_right _ ht)).2
            have ho0 : T0 ++ offs 300 Sb = S := by rw [(offs_all fun t ht => hb300.out t (by rw [hST.out]; exact List.mem_append_right _ ht)).1]; exact hST.out.symm
            rw [hl0, ho0] at T6
            clear ST R5' hgot hsz hfl hl0 ho0
            go_wp2_with fail
            refine (TA.out _).mono ?_
            rintro e w7 ⟨rfl, b7⟩
            have T7 := Lib.hid (T6.out.below b7)
            obtain ⟨A7, c7, hv7, hc71, hc72, _⟩ := ri_form T7.out.got
            obtain ⟨A8, c8, hv8, hc81, hc82, _⟩ := ri_form T7.out.all
            have IN := ints_any w7 A8 A7 S.length c8 S.length c7 (ids S) (ids S) (Rr.of_row (by have := T7.out.all; rw [hv8] at this; exact this)) (Rr.of_row (by have := T7.out.got; rw [hv7] at this; exact this)) (fun g hg => T7.out.tw.xs g (.inl (by rw [hv8]; exact hg))) (fun g hg => T7.out.tw.xs g (.inr (by rw [hv7]; exact hg))) (by have := hS40.out; omega) (by have := hS40.out; omega)
            have dd : decide (ids S = ids S) = true := decide_eq_true rfl
            rw [dd] at IN
            replace IN := Lib.hid IN
            rw [hSn.out] at IN hv8 hv7
            rw [hv8, hv7]
            replace hv8 := Lib.hid hv8
            replace hv7 := Lib.hid hv7
            clear T6 b7 dd hc71 hc72 hc81 hc82
            go_wp2_with fail
            refine IN.out.mono ?_
            rintro e w8 ⟨rfl, b8⟩
            have T8 := Lib.hid (T7.out.below b8)
            have LA := Lib.hid (tw_len T8.out.tw.symm)
            clear IN T7 b8
            go_wp2_with fail
            refine LA.out.mono ?_
            rintro e w9 ⟨rfl, b9⟩
            have T9 := Lib.hid (T8.out.below b9)
            have LB := Lib.hid (tw_len T9.out.tw)
            have z0 : ((([] : List Tm).length : Nat) : Int) = 0 := rfl
            rw [z0]
            clear LA T8 b9
            go_wp2_with fail
            refine LB.out.mono ?_
            rintro e w10 ⟨rfl, b10⟩
            rw [z0]
            have E := Lib.hid (T9.out.tw.be.trans (b10.mono T9.out.tw.be.size))
            clear LB T9 b10 z0 hv8 hv7
            go_wp2
            go_ret
            exact ⟨rfl, E.out⟩
theorem walkd (v0 : Value) (a0 : List Int) {W : World} (w0 : Src W v0 a0) (v1 : Value) (a1 : List Int) (w1 : Src W v1 a1) (W' : World) (hW : W' = W) :
    Calls Try.prog 3 #[v0, v1] W' fun e w' => e = .returned (.bool true) ∧ Below W'.heap.size W' w' := by
  subst hW
  obtain ⟨A, n, c, rfl, h1, h2, R, _⟩ := w0
  obtain ⟨B, m, d, rfl, h3, h4, R', _⟩ := w1
  exact walk _ A B n c m d a0 a1 R R' (by omega)

/-! The row: every input. -/
set_option linter.unusedVariables false
set_option maxRecDepth 100000 in
theorem lifted (os : Os) (started : os.Started) (H : Type) (enc : TypeId × Value → H) :
    ReturnsInHanded {} Try.checked os 3 .any (Rows.wheelTurnsSpec.pre6 enc Try.prog Try.f3 Rows.wheelTurnsRow.domain false) (Rows.wheelTurnsSpec.post enc Try.prog Try.f3 false true false false) := by
  refine returnsInHanded_of_change (C := Try.checked) own started (by kernel_rfl) Try.func3
    (ChangeSpec.witness6 (enc := enc) (C := Try.checked) false ⟨#[], #[.slice none 0 0, .slice none 0 0], []⟩ 8 (by kernel_rfl) (by kernel_rfl) (by kernel_rfl) (by kernel_rfl)) ?_
  intro W base args ds gs before hval0 hW _ _
  have hval : ∀ (j : Nat) t v, Try.f3.params[j]? = some t → args[j]? = some v → Value.okWide Try.prog W .any base t v := hval0
  have hW' := hW
  obtain ⟨p, q, hA0, hV, rfl, hfz, hnd⟩ := hW
  have hA : DataW.TrodAll enc Try.prog W 0 (fun _ => true) true Try.f3.params.toList args.toList ds p := hA0
  rw [Try.params3] at hA hval
  obtain ⟨v0, vs0, d0, ds0, p0, q0, hargs, rfl, rfl, h0, r0⟩ := trodAll_cons hA
  obtain ⟨v1, vs1, d1, ds1, p1, q1, rfl, rfl, rfl, h1, r1⟩ := trodAll_cons r0
  obtain ⟨rfl, rfl, rfl⟩ := trodAll_nil r1
  obtain rfl : args = #[v0, v1] := by cases args; simp_all
  obtain ⟨rfl, rfl⟩ := trodVars_none hV
  obtain ⟨a0, w0⟩ := view_nums (hval 0 22 v0 rfl rfl) h0
  obtain ⟨a1, w1⟩ := view_nums (hval 1 22 v1 rfl rfl) h1
  clear hA0 hval0
  simp only [List.append_nil] at hW'
  refine (walkd v0 a0 w0 v1 a1 w1 W rfl).mono fun e W' ⟨he, hb⟩ => ?_
  subst he
  exact ⟨_, rfl, post_below (pa := p0 ++ (p1 ++ [])) (pv := []) hW' (fun _ _ _ => (trodAll_cons_mk (shut_bool Try.underlying4 _) trodAll_mk0)) (fun sp hsp => (trodAll_cons_mk (Trod_stays laidOut (by kernel_rfl) (of_decide_eq_true (by kernel_rfl)) h0 (fun x hx => hb.same (hW'.lt x (by simp [hx]))) (fun x hx => hsp x (by simp [hx]))) (trodAll_cons_mk (Trod_stays laidOut (by kernel_rfl) (of_decide_eq_true (by kernel_rfl)) h1 (fun x hx => hb.same (hW'.lt x (by simp [hx]))) (fun x hx => hsp x (by simp [hx]))) trodAll_mk0))) (fun _ _ => rfl) (by simp)
    hb (ok_one (by kernel_rfl) rfl (okWide_bool_mk Try.underlying4 _))⟩

theorem proved : Rows.WheelTurnsSaid :=
  OpenClaim.holds_of_wide 3 Try.f3 rfl rfl rfl rfl rfl rfl rfl ⟨rfl, rfl, rfl, rfl, rfl⟩ rfl rfl rfl rfl rfl (by kernel_rfl) Try.func3 (by kernel_rfl)
    (of_decide_eq_true (by kernel_rfl)) (by unfold Func.isWrapper; first | (rw [if_pos (by decide +kernel)]; kernel_rfl) | (rw [if_neg (by decide +kernel)]; exact ⟨rfl, rfl⟩))
    (fun os started H enc _ => lifted os started H enc)
#print axioms proved

end Go.Proofs.Ytnfakkinaockiaa.wheelTurns
