/- Proved: each message is taken as it was sent, as often as it was doubled and one, and nothing else comes (NetTakes), for any numbers and truths. -/
import Derived.Test.YtenlblembdnniaaNtQ
import Derived.Deep.CutBlock
import Derived.Deep.CutRange
namespace Go.Proofs.Ytenlblembdnniaa.netTakes
open Go.ChangeShapes Go.WideShapes Go.ChangeAt Go.WideMaps Go.WideElems Go.RowKit
open Go.Proofs.Ytenlblembdnniaa.Pk (Rb)
open Go.Proofs.Ytenlblembdnniaa.Nt

theorem u8_j {j : Nat} (h : j < 30) : (j : Int) = ((UInt8.ofNat j).toNat : Int) := by
  have : (UInt8.ofNat j).toNat = j := by simp; omega
  rw [this]
def SeAt (w : World) (q d n : Nat) (zs : List Int) (all i : Value) (wr : World) : Prop := ∃ (j : Nat) (I : List Nat), i = .int .i64 j ∧ all = .int .i64 (I.length : Nat) ∧ j ≤ n ∧ I.length ≤ 2 * j ∧ (∀ y ∈ I, y < j) ∧ St w q d (I.map (ms4 zs)) (cnt I) wr
def TkAt (w : World) (q d n : Nat) (zs : List Int) (all i : Value) (wr : World) : Prop := ∃ (r : Nat) (I : List Nat), i = .int .i64 r ∧ all = .int .i64 (I.length : Nat) ∧ r + I.length ≤ 60 ∧ (∀ y ∈ I, y < n) ∧ St w q d (I.map (ms4 zs)) (cnt I) wr
set_option maxHeartbeats 12800000 in
set_option maxRecDepth 100000 in
theorem walk (w : World) (A1 A2 A3 : Option Addr) (n c tn tc m e : Nat) (zs ys : List Int) (b : Nat → Bool) (R : Rr w (fun g => g < w.heap.size) A1 n zs) (Bb : Bo w (fun g => g < w.heap.size) A2 tn b) (O : Rr w (fun g => g < w.heap.size) A3 m ys) (_hn : n ≤ 9223372036854775807) (_ht : tn ≤ 9223372036854775807) (_hm : m ≤ 9223372036854775807) :
    Calls Try.prog 4 #[.slice A1 n c, .slice A2 tn tc, .slice A3 m e] w fun e w' => e = .returned (.bool true) ∧ Below w.heap.size w w' := by
  have TA := Lib.hid told_any
  have NW := Lib.hid (new_yes w 4 100 (by decide) (by decide) (by decide))
  by_cases hbig : 30 < n
  · have d1 : decide ((30 : Int) < (n : Int)) = true := decide_eq_true (by omega)
    clear R Bb O
    go_enter Try.func4, Try.ntmps4
    go_wp2_with fail
    refine NW.out.mono ?_
    rintro e w1 ⟨q, rfl, V1⟩
    have b1 := Lib.hid V1.be
    clear NW V1
    go_wp2_with fail
    refine (TA.out _).mono ?_
    rintro e w2 ⟨rfl, hb⟩
    have E := Lib.hid (b1.out.trans (hb.mono b1.out.size))
    clear hb b1
    go_wp2
    go_ret
    exact ⟨rfl, E.out⟩
  · have d1 : decide ((30 : Int) < (n : Int)) = false := decide_eq_false (by omega)
    have i3 : (n : Int) ≤ 30 := by omega
    have hn30 : Hid (n ≤ 30) := by show _ ≤ _; omega
    replace R := Lib.hid R
    replace Bb := Lib.hid Bb
    replace O := Lib.hid O
    go_enter Try.func4, Try.ntmps4
    go_wp2_with fail
    refine NW.out.mono ?_
    rintro e w1 ⟨q, rfl, V1⟩
    obtain ⟨d, hd⟩ : ∃ d, d = w1.heap.size := ⟨_, rfl⟩
    obtain ⟨w2, hw2⟩ : ∃ z, z = w1.alloc (.cells (arr (List.replicate 30 0)) 50) := ⟨_, rfl⟩
    have b2 : Below w1.heap.size w1 w2 := by rw [hw2]; exact (Below.refl _ _).alloc (Nat.le_refl _) _
    have s2 : Hid (SeAt w q d n zs (.int .i64 0) (.int .i64 0) w2) := ⟨0, [], rfl, rfl, Nat.zero_le _, Nat.zero_le _, fun y hy => (nomatch hy), (V1.more b2).less fun g hg => by
        rcases hg with hg | hg
        · exact .inr ⟨by omega, by rw [hw2, hg, hd]; simp⟩
        · exact .inl hg, by rw [hw2, hd, cnt_nil]; exact heap_alloc_new _ _, by rw [hd]; exact V1.be.size⟩
    replace hw2 := Lib.hid hw2
    replace hd := Lib.hid hd
    have aE : Hid (arr (List.replicate 30 0) = #[.int .i64 0, .int .i64 0, .int .i64 0, .int .i64 0, .int .i64 0, .int .i64 0, .int .i64 0, .int .i64 0, .int .i64 0, .int .i64 0, .int .i64 0, .int .i64 0, .int .i64 0, .int .i64 0, .int .i64 0, .int .i64 0, .int .i64 0, .int .i64 0, .int .i64 0, .int .i64 0, .int .i64 0, .int .i64 0, .int .i64 0, .int .i64 0, .int .i64 0, .int .i64 0, .int .i64 0, .int .i64 0, .int .i64 0, .int .i64 0]) := rfl
    rw [aE.out] at hw2
    clear NW V1 b2 aE
    go_upto_region 7 with fail
    rw [← hw2.out, ← hd.out]
    clear hw2 hd d1
    go_wp2_with fail
    go_loopw [10, 11] (fun all i wr => SeAt w q d n zs all i wr) (fun _ i _ => n - (intOf i).toNat)
    case atStart => exact s2.out
    case round =>
      clear s2
      obtain ⟨j, I, rfl, rfl, hj, hI, hlt', st⟩ := hrel
      by_cases hlt : j < n
      · have i1 : (j : Int) < (n : Int) := by omega
        have i2 : (0 : Int) ≤ (j : Int) := by omega
        obtain ⟨x, hx⟩ : ∃ x, zs[j]? = some x := ⟨_, List.getElem?_eq_getElem (by rw [R.out.len]; omega)⟩
        obtain ⟨a, rfl, _, _⟩ := R.out.at_ (by omega)
        have c1 := (R.out.below st.ln.be).cell hx
        have ux : wrap64 ((IntKind.u64.wrap x).tmod 4) = (usm x 4 : Int) := usm_slot x (n := 4) (by omega) (by omega)
        have a3 : bits .and .i64 (j : Int) 3 = ((j % 4 : Nat) : Int) := by rw [i64_and3]; omega
        have hzx : zs.getD j 0 = x := by simp [List.getD, hx]
        have hn3 := hn30.out
        have ba : Below wr.heap.size wr (wr.alloc (.cells #[.int .u8 (j : Int)] 5)) := (Below.refl _ _).alloc (Nat.le_refl _) _
        have SE := ln_send (st.below ba).ln ((j % 4 : Nat) : Int) (usm x 4 : Nat) (c := 1) (rb_one wr (j : Int) (UInt8.ofNat j) (u8_j (by omega)) (0, 0)) (by simp)
        have ms := send4 zs (I.map (ms4 zs)) j (by simp; omega)
        have me : (⟨((j % 4 : Nat) : Int), (usm x 4 : Nat), [UInt8.ofNat j]⟩ : Ms) = ms4 zs j := by unfold ms4; rw [hzx]
        unfold u4 at ms
        rw [me, ms.1] at SE
        rw [hzx] at ms
        rw [ms.2] at SE
        have em : ((j % 4 : Nat) : Int) = (j : Int) % 4 := by omega
        rw [em] at SE
        replace SE := Lib.hid SE
        have SB : Hid (∀ w', LnTo w (wr.alloc (.cells #[.int .u8 (j : Int)] 5)) q 100 [true, true, true, true] (I.map (ms4 zs) ++ [ms4 zs j]) (fun g => g = d ∨ g < w.heap.size) w' → St w q d ((I ++ [j]).map (ms4 zs)) (cnt I) w') := fun w' h => by
          have := (st.below ba).of h
          rwa [List.map_append]
        have hc0 : (cnt I)[j]? = some 0 := by rw [cnt_at (by omega), count_new hlt']; rfl
        have S1 : Hid ((cnt I).set j 1 = cnt (I ++ [j])) := cnt_set (by rw [count_snoc, count_new hlt', if_pos rfl]; rfl) (fun y hy => by rw [count_snoc, if_neg (fun e => hy e.symm)]; omega)
        have hS2 : Hid ((cnt (I ++ [j])).set j 2 = cnt (I ++ [j] ++ [j])) := cnt_set (by rw [count_snoc, count_snoc, count_new hlt', if_pos rfl]; rfl) (fun y hy => by rw [count_snoc (I ++ [j]), if_neg (fun e => hy e.symm)]; omega)
        have hc1 : (cnt (I ++ [j]))[j]? = some 1 := by rw [cnt_at (by omega), count_snoc, count_new hlt', if_pos rfl]; rfl
        have hlt2 : Hid (∀ y ∈ I ++ [j], y < j + 1) := fun y hy => by
          rcases List.mem_append.1 hy with h | h
          · have := hlt' y h; omega
          · have : y = j := by simpa using h
            omega
        have D4 := dbl4 (I.map (ms4 zs)) (ms4 zs j) (by simp; omega)
        rw [List.length_map] at D4
        replace D4 := Lib.hid D4
        obtain ⟨N, hN⟩ : ∃ N, N = I.length := ⟨_, rfl⟩
        rw [← hN] at hI D4 ⊢
        obtain ⟨N1, hN1⟩ : ∃ N1, N1 = N + 1 := ⟨_, rfl⟩
        obtain ⟨N2, hN2⟩ : ∃ N2, N2 = N1 + 1 := ⟨_, rfl⟩
        have l1 : Hid ((I ++ [j]).length = N1) := by show _ = _; simp [hN1, hN]
        have l2 : Hid ((I ++ [j] ++ [j]).length = N2) := by show _ = _; simp [hN2, hN1, hN]
        have e1 : (N : Int) + 1 = (N1 : Int) := by omega
        have e2 : (N1 : Int) + 1 = (N2 : Int) := by omega
        have e3 : (N1 : Int) - 1 = (N : Int) := by omega
        have i5 : (N : Int) ≤ 1000 := by omega
        have i6 : (N1 : Int) ≤ 1000 := by omega
        have i7 : (0 : Int) ≤ (N : Int) := by omega
        have i8 : (0 : Int) ≤ (N1 : Int) := by omega
        have i9 : (j : Int) < 30 := by omega
        have b1 : Hid (N1 ≤ 2 * (j + 1)) := by show _ ≤ _; omega
        have b2 : Hid (N2 ≤ 2 * (j + 1)) := by show _ ≤ _; omega
        replace hlt := Lib.hid hlt
        clear st ba ms me em hzx hx hlt' hI hn3 hN hN1 hN2
        go_wp2_with fail
        refine SE.out.mono ?_
        rintro e w3 ⟨rfl, h3⟩
        have s3 := Lib.hid (SB.out w3 h3)
        obtain ⟨k1, f1⟩ := s3.out.cell hc0
        have s4 := Lib.hid (s3.out.set j 1)
        rw [S1.out] at s4
        obtain ⟨w4, hw4⟩ : ∃ z, z = w3.setCell ⟨d, j, none⟩ (.int .i64 1) := ⟨_, rfl⟩
        rw [← hw4] at s4
        clear SE h3 SB s3 c1 ux a3
        go_upto_region 15 with fail
        rw [← hw4]
        clear hw4 k1 f1
        have nx1 : Hid (SeAt w q d n zs (.int .i64 (N1 : Int)) (.int .i64 ((j : Int) + 1)) w4) := ⟨j + 1, I ++ [j], by simp, by rw [l1.out], hlt.out, by rw [l1.out]; exact b1.out, hlt2.out, s4.out⟩
        by_cases ht : j < tn
        · have t1 : (j : Int) < (tn : Int) := by omega
          obtain ⟨ab, rfl, hab, hcb⟩ := Bb.out (by omega)
          have c2 : w4.cell? (ab.add j) = some (.bool (b j)) := (World.cell?_of_block (by rw [Go.Proofs.Ytenlblembdnniaa.Pk.adr_block]; exact s4.out.ln.be.block _ hab)).trans (hcb j ht)
          cases hbj : b j with
          | false =>
            rw [hbj] at c2
            clear hab hcb s4 ht
            go_wp2
            exact ⟨nx1.out, by simp [intOf]; omega⟩
          | true =>
            rw [hbj] at c2
            have DB := ln_double s4.out.ln (N : Int)
            rw [List.map_append, List.map_singleton, D4.out.1, D4.out.2] at DB
            replace DB := Lib.hid DB
            have SC : Hid (∀ w', LnTo w w4 q 100 [true, true, true, true] (I.map (ms4 zs) ++ [ms4 zs j] ++ [ms4 zs j]) (fun g => g = d ∨ g < w.heap.size) w' → St w q d ((I ++ [j] ++ [j]).map (ms4 zs)) (cnt (I ++ [j])) w') := fun w' h => by
              have := s4.out.of h
              rwa [List.map_append, List.map_append]
            clear hab hcb s4 ht nx1
            go_wp2_with fail
            refine DB.out.mono ?_
            rintro e w5 ⟨rfl, h5⟩
            have s5 := Lib.hid (SC.out w5 h5)
            obtain ⟨k1, f1⟩ := s5.out.cell hc1
            have s6 := Lib.hid (s5.out.set j 2)
            rw [hS2.out] at s6
            have nx : Hid (SeAt w q d n zs (.int .i64 (N2 : Int)) (.int .i64 ((j : Int) + 1)) (w5.setCell ⟨d, j, none⟩ (.int .i64 2))) := ⟨j + 1, I ++ [j] ++ [j], by simp, by rw [l2.out], hlt.out, by rw [l2.out]; exact b2.out, fun y hy => by
              rcases List.mem_append.1 hy with h | h
              · exact hlt2.out y h
              · have : y = j := by simpa using h
                omega, s6.out⟩
            clear DB h5 SC s5 s6 c2
            go_wp2
            exact ⟨nx.out, by simp [intOf]; omega⟩
        · have t1 : ¬ (j : Int) < (tn : Int) := by omega
          have t2 : decide ((j : Int) < (tn : Int)) = false := decide_eq_false t1
          clear s4 ht
          go_wp2
          exact ⟨nx1.out, by simp [intOf]; omega⟩
      · obtain rfl : j = n := by omega
        have t0 : Hid (TkAt w q d j zs (.int .i64 (I.length : Nat)) (.int .i64 0) wr) := ⟨0, I, rfl, rfl, by have := hn30.out; omega, hlt', st⟩
        generalize I.length = N at t0 ⊢
        clear st hI hlt' I
        go_wp2_with fail
        go_loopw [10, 12] (fun all i wr => TkAt w q d j zs all i wr) (fun all _ _ => (intOf all).toNat)
        case atStart => exact t0.out
        case round =>
          clear t0
          obtain ⟨r, I, rfl, rfl, hr, hlt', st⟩ := hrel
          by_cases h0 : 0 < I.length
          · by_cases ho : r < m
            · have o1 : (r : Int) < (m : Int) := by omega
              have o2 : (0 : Int) ≤ (r : Int) := by omega
              obtain ⟨y, hy⟩ : ∃ y, ys[r]? = some y := ⟨_, List.getElem?_eq_getElem (by rw [O.out.len]; omega)⟩
              obtain ⟨oa, rfl, _, _⟩ := O.out.at_ (by omega)
              have c1 := (O.out.below st.ln.be).cell hy
              have uy : wrap64 ((IntKind.u64.wrap y).tmod (I.length : Nat)) = (usm y I.length : Int) := usm_slot y (n := I.length) h0 (by omega)
              obtain ⟨kk, hkk⟩ : ∃ kk, kk = usm y I.length := ⟨_, rfl⟩
              have hkl : kk < I.length := by rw [hkk]; exact usm_lt y h0
              rw [← hkk] at uy
              clear hy hkk
              obtain ⟨x, hx⟩ : ∃ x, x = I[kk] := ⟨_, rfl⟩
              have hxI : x ∈ I := by rw [hx]; exact List.getElem_mem _
              have hxj : x < j := hlt' x hxI
              have T4 := take4 zs hkl
              unfold u4 at T4
              rw [← hx] at T4
              have TK := ln_take st.ln (kk : Int)
              rw [T4.1, T4.2] at TK
              replace TK := Lib.hid TK
              have cx : (cnt I)[x]? = some ((I.count x : Nat) : Int) := cnt_at (by have := hn30.out; omega)
              have cpos : 0 < I.count x := List.count_pos_iff.2 hxI
              obtain ⟨cz, hcz⟩ : ∃ cz, cz = I.count x := ⟨_, rfl⟩
              rw [← hcz] at cx cpos
              have SZ : Hid ((cnt I).set x ((cz : Int) - 1) = cnt (delN I kk)) := cnt_set (by have := delN_count hkl x; rw [← hx, if_pos rfl] at this; omega) (fun y hy => by have := delN_count hkl y; rw [← hx, if_neg (fun e => hy e.symm)] at this; omega)
              obtain ⟨z, hz⟩ : ∃ z, zs[x]? = some z := ⟨_, List.getElem?_eq_getElem (by rw [R.out.len]; omega)⟩
              have hzx : zs.getD x 0 = z := by simp [List.getD, hz]
              have mx : ms4 zs x = ⟨(x % 4 : Nat), (usm z 4 : Nat), [UInt8.ofNat x]⟩ := by unfold ms4; rw [hzx]
              have em : ((x % 4 : Nat) : Int) = (x : Int) % 4 := by omega
              rw [em] at mx
              rw [mx] at TK
              have u8 := Lib.hid (u8_j (j := x) (by have := hn30.out; omega))
              have S5 : Hid (∀ w', Ln w w' q 100 [true, true, true, true] ((delN I kk).map (ms4 zs)) (fun g => (g = d ∨ g < w.heap.size) ∨ (wr.heap.size ≤ g ∧ g < w'.heap.size)) → (∀ g, (g = d ∨ g < w.heap.size) → w'.heap[g]? = wr.heap[g]?) → St w q d ((delN I kk).map (ms4 zs)) (cnt I) w') := fun w' h k => ⟨h.less fun g hg => .inl hg, (k d (.inl rfl)).trans st.at_, st.ge⟩
              obtain ⟨ad, rfl, _, _⟩ := R.out.at_ (by omega)
              have RC : Hid (∀ w', St w q d ((delN I kk).map (ms4 zs)) (cnt I) w' → w'.cell? (ad.add x) = some (.int .i64 z)) := fun w' s => (R.out.below s.ln.be).cell hz
              have dm : Hid (∀ y ∈ delN I kk, y < j) := fun y hy => hlt' y (delN_mem hy)
              have dl := delN_len hkl
              obtain ⟨N, hN⟩ : ∃ N, N = I.length := ⟨_, rfl⟩
              obtain ⟨N1, hN1⟩ : ∃ N1, N1 = (delN I kk).length := ⟨_, rfl⟩
              rw [← hN, ← hN1] at dl
              rw [← hN] at hr h0 uy ⊢
              have e1 : (N : Int) - 1 = (N1 : Int) := by omega
              have i5 : (N : Int) ≤ 1000 := by omega
              have i6 : (0 : Int) < (N : Int) := by omega
              have i7 : ((N : Int) == 0) = false := by simp; omega
              have hrr : Hid (r + 1 + N1 ≤ 60) := by show _ ≤ _; omega
              have ux : wrap64 ((IntKind.u64.wrap z).tmod 4) = (usm z 4 : Int) := usm_slot z (n := 4) (by omega) (by omega)
              have x1 : (x : Int) < (j : Int) := by omega
              have x2 : (0 : Int) ≤ (x : Int) := by omega
              have x3 : ((x : Int) ≥ (j : Int)) = False := by simp; omega
              have x4 : (x : Int) < 30 := by omega
              have a3 : bits .and .i64 (x : Int) 3 = (x : Int) % 4 := i64_and3 _
              have cz1 : ((cz : Int) == 0) = false := by simp; omega
              have czb : (cz : Int) ≤ 1000 := by have : cz ≤ I.length := by rw [hcz]; exact List.count_le_length
                                                 omega
              replace hN1 := Lib.hid hN1
              clear T4 hx hxI hcz hz hzx mx em hkl hlt' hN dl st hxj cpos
              go_upto_region 26 with fail
              rw [uy]
              clear uy c1
              go_wp2_with fail
              refine TK.out.mono ?_
              rintro e w3 ⟨A5, c5, rfl, R5, _, _, V5, k5, _⟩
              have s5 := Lib.hid (S5.out w3 V5 k5)
              simp only [List.length_singleton] at R5 ⊢
              obtain ⟨b5, rfl, _, hc5⟩ := R5.at_ (by omega)
              have c0 := hc5 0 _ rfl
              rw [Addr.add_zero', ← u8.out] at c0
              have c2 := RC.out w3 s5.out
              obtain ⟨k1, f1⟩ := s5.out.cell cx
              have s6 := Lib.hid (s5.out.set x ((cz : Int) - 1))
              rw [SZ.out] at s6
              have nx : Hid (TkAt w q d j zs (.int .i64 (N1 : Int)) (.int .i64 ((r : Int) + 1)) (w3.setCell ⟨d, x, none⟩ (.int .i64 ((cz : Int) - 1)))) := ⟨r + 1, delN I kk, by simp, by rw [← hN1.out], by rw [← hN1.out]; exact hrr.out, dm.out, s6.out⟩
              clear TK V5 k5 R5 hc5 S5 s5 s6 RC cx
              have q1 : ∀ v : Int, (v != v) = false := fun v => by simp
              generalize usm z 4 = tz at *
              go_wp2
              exact ⟨nx.out, by simp [intOf]; omega⟩
            · have o1 : ¬ (r : Int) < (m : Int) := by omega
              have o2 : decide ((r : Int) < (m : Int)) = false := decide_eq_false o1
              obtain ⟨kk, hkk⟩ : ∃ kk, kk = 0 := ⟨_, rfl⟩
              have hkl : kk < I.length := by rw [hkk]; exact h0
              have hkz : Hid ((kk : Int) = 0) := by show _ = _; rw [hkk]; rfl
              clear hkk
              obtain ⟨x, hx⟩ : ∃ x, x = I[kk] := ⟨_, rfl⟩
              have hxI : x ∈ I := by rw [hx]; exact List.getElem_mem _
              have hxj : x < j := hlt' x hxI
              have T4 := take4 zs hkl
              unfold u4 at T4
              rw [← hx] at T4
              have TK := ln_take st.ln (kk : Int)
              rw [T4.1, T4.2] at TK
              rw [hkz.out] at TK
              replace TK := Lib.hid TK
              have cx : (cnt I)[x]? = some ((I.count x : Nat) : Int) := cnt_at (by have := hn30.out; omega)
              have cpos : 0 < I.count x := List.count_pos_iff.2 hxI
              obtain ⟨cz, hcz⟩ : ∃ cz, cz = I.count x := ⟨_, rfl⟩
              rw [← hcz] at cx cpos
              have SZ : Hid ((cnt I).set x ((cz : Int) - 1) = cnt (delN I kk)) := cnt_set (by have := delN_count hkl x; rw [← hx, if_pos rfl] at this; omega) (fun y hy => by have := delN_count hkl y; rw [← hx, if_neg (fun e => hy e.symm)] at this; omega)
              obtain ⟨z, hz⟩ : ∃ z, zs[x]? = some z := ⟨_, List.getElem?_eq_getElem (by rw [R.out.len]; omega)⟩
              have hzx : zs.getD x 0 = z := by simp [List.getD, hz]
              have mx : ms4 zs x = ⟨(x % 4 : Nat), (usm z 4 : Nat), [UInt8.ofNat x]⟩ := by unfold ms4; rw [hzx]
              have em : ((x % 4 : Nat) : Int) = (x : Int) % 4 := by omega
              rw [em] at mx
              rw [mx] at TK
              have u8 := Lib.hid (u8_j (j := x) (by have := hn30.out; omega))
              have S5 : Hid (∀ w', Ln w w' q 100 [true, true, true, true] ((delN I kk).map (ms4 zs)) (fun g => (g = d ∨ g < w.heap.size) ∨ (wr.heap.size ≤ g ∧ g < w'.heap.size)) → (∀ g, (g = d ∨ g < w.heap.size) → w'.heap[g]? = wr.heap[g]?) → St w q d ((delN I kk).map (ms4 zs)) (cnt I) w') := fun w' h k => ⟨h.less fun g hg => .inl hg, (k d (.inl rfl)).trans st.at_, st.ge⟩
              obtain ⟨ad, rfl, _, _⟩ := R.out.at_ (by omega)
              have RC : Hid (∀ w', St w q d ((delN I kk).map (ms4 zs)) (cnt I) w' → w'.cell? (ad.add x) = some (.int .i64 z)) := fun w' s => (R.out.below s.ln.be).cell hz
              have dm : Hid (∀ y ∈ delN I kk, y < j) := fun y hy => hlt' y (delN_mem hy)
              have dl := delN_len hkl
              obtain ⟨N, hN⟩ : ∃ N, N = I.length := ⟨_, rfl⟩
              obtain ⟨N1, hN1⟩ : ∃ N1, N1 = (delN I kk).length := ⟨_, rfl⟩
              rw [← hN, ← hN1] at dl
              rw [← hN] at hr h0 ⊢
              have e1 : (N : Int) - 1 = (N1 : Int) := by omega
              have i5 : (N : Int) ≤ 1000 := by omega
              have i6 : (0 : Int) < (N : Int) := by omega
              have i7 : ((N : Int) == 0) = false := by simp; omega
              have hrr : Hid (r + 1 + N1 ≤ 60) := by show _ ≤ _; omega
              have ux : wrap64 ((IntKind.u64.wrap z).tmod 4) = (usm z 4 : Int) := usm_slot z (n := 4) (by omega) (by omega)
              have x1 : (x : Int) < (j : Int) := by omega
              have x2 : (0 : Int) ≤ (x : Int) := by omega
              have x3 : ((x : Int) ≥ (j : Int)) = False := by simp; omega
              have x4 : (x : Int) < 30 := by omega
              have a3 : bits .and .i64 (x : Int) 3 = (x : Int) % 4 := i64_and3 _
              have cz1 : ((cz : Int) == 0) = false := by simp; omega
              have czb : (cz : Int) ≤ 1000 := by have : cz ≤ I.length := by rw [hcz]; exact List.count_le_length
                                                 omega
              replace hN1 := Lib.hid hN1
              clear T4 hx hxI hcz hz hzx mx em hkl hlt' hN dl st hxj cpos
              go_upto_region 26 with fail
              go_wp2_with fail
              refine TK.out.mono ?_
              rintro e w3 ⟨A5, c5, rfl, R5, _, _, V5, k5, _⟩
              have s5 := Lib.hid (S5.out w3 V5 k5)
              simp only [List.length_singleton] at R5 ⊢
              obtain ⟨b5, rfl, _, hc5⟩ := R5.at_ (by omega)
              have c0 := hc5 0 _ rfl
              rw [Addr.add_zero', ← u8.out] at c0
              have c2 := RC.out w3 s5.out
              obtain ⟨k1, f1⟩ := s5.out.cell cx
              have s6 := Lib.hid (s5.out.set x ((cz : Int) - 1))
              rw [SZ.out] at s6
              have nx : Hid (TkAt w q d j zs (.int .i64 (N1 : Int)) (.int .i64 ((r : Int) + 1)) (w3.setCell ⟨d, x, none⟩ (.int .i64 ((cz : Int) - 1)))) := ⟨r + 1, delN I kk, by simp, by rw [← hN1.out], by rw [← hN1.out]; exact hrr.out, dm.out, s6.out⟩
              clear TK V5 k5 R5 hc5 S5 s5 s6 RC cx
              have q1 : ∀ v : Int, (v != v) = false := fun v => by simp
              generalize usm z 4 = tz at *
              go_wp2
              exact ⟨nx.out, by simp [intOf]; omega⟩
          · obtain rfl : I = [] := List.eq_nil_of_length_eq_zero (by omega)
            have LV := Lib.hid st.ln
            clear st hlt' hr h0
            go_wp2_with fail
            refine (TA.out _).mono ?_
            rintro e w2 ⟨rfl, hb⟩
            have LN := Lib.hid (ln_len (LV.out.below hb))
            have E := Lib.hid (LV.out.below hb).be
            clear LV hb TA
            go_wp2_with fail
            refine LN.out.mono ?_
            rintro e w2 ⟨rfl, rfl⟩
            clear LN
            go_wp2
            go_ret
            exact ⟨rfl, E.out⟩
theorem walkd (v0 : Value) (a0 : List Int) {W : World} (w0 : Src W v0 a0) (v1 : Value) (a1 : Nat → Bool) (w1 : SrcB W v1 a1) (v2 : Value) (a2 : List Int) (w2 : Src W v2 a2) (W' : World) (hW : W' = W) :
    Calls Try.prog 4 #[v0, v1, v2] W' fun e w' => e = .returned (.bool true) ∧ Below W'.heap.size W' w' := by
  subst hW
  obtain ⟨A, n, c, rfl, h1, h2, R, _⟩ := w0
  obtain ⟨A2, n2, c2, rfl, k1, k2, R2⟩ := w1
  obtain ⟨A3, n3, c3, rfl, l1, l2, R3, _⟩ := w2
  exact walk W' A A2 A3 n c n2 c2 n3 c3 a0 a2 a1 R R2 R3 (by omega) (by omega) (by omega)

/-! The row: every input. -/
set_option linter.unusedVariables false
set_option maxRecDepth 100000 in
theorem lifted (os : Os) (started : os.Started) (H : Type) (enc : TypeId × Value → H) :
    ReturnsInHanded {} Try.checked os 4 .any (Rows.netTakesSpec.pre6 enc Try.prog Try.f4 Rows.netTakesRow.domain false) (Rows.netTakesSpec.post enc Try.prog Try.f4 false true false false) := by
  refine returnsInHanded_of_change (C := Try.checked) own started (by kernel_rfl) Try.func4
    (ChangeSpec.witness6 (enc := enc) (C := Try.checked) false ⟨#[], #[.slice none 0 0, .slice none 0 0, .slice none 0 0], []⟩ 8 (by kernel_rfl) (by kernel_rfl) (by kernel_rfl) (by kernel_rfl)) ?_
  intro W base args ds gs before hval0 hW _ _
  have hval : ∀ (j : Nat) t v, Try.f4.params[j]? = some t → args[j]? = some v → Value.okWide Try.prog W .any base t v := hval0
  have hW' := hW
  obtain ⟨p, q, hA0, hV, rfl, hfz, hnd⟩ := hW
  have hA : DataW.TrodAll enc Try.prog W 0 (fun _ => true) true Try.f4.params.toList args.toList ds p := hA0
  rw [Try.params4] at hA hval
  obtain ⟨v0, vs0, d0, ds0, p0, q0, hargs, rfl, rfl, h0, r0⟩ := trodAll_cons hA
  obtain ⟨v1, vs1, d1, ds1, p1, q1, rfl, rfl, rfl, h1, r1⟩ := trodAll_cons r0
  obtain ⟨v2, vs2, d2, ds2, p2, q2, rfl, rfl, rfl, h2, r2⟩ := trodAll_cons r1
  obtain ⟨rfl, rfl, rfl⟩ := trodAll_nil r2
  obtain rfl : args = #[v0, v1, v2] := by cases args; simp_all
  obtain ⟨rfl, rfl⟩ := trodVars_none hV
  obtain ⟨a0, w0⟩ := view_nums (hval 0 48 v0 rfl rfl) h0
  obtain ⟨a1, w1⟩ := view_bools (hval 1 49 v1 rfl rfl) h1
  obtain ⟨a2, w2⟩ := view_nums (hval 2 48 v2 rfl rfl) h2
  clear hA0 hval0
  simp only [List.append_nil] at hW'
  refine (walkd v0 a0 w0 v1 a1 w1 v2 a2 w2 W rfl).mono fun e W' ⟨he, hb⟩ => ?_
  subst he
  exact ⟨_, rfl, post_below (pa := p0 ++ (p1 ++ (p2 ++ []))) (pv := []) hW' (fun _ _ _ => (trodAll_cons_mk (shut_bool Try.underlying4 _) trodAll_mk0)) (fun sp hsp => (trodAll_cons_mk (Trod_stays laidOut (by kernel_rfl) (of_decide_eq_true (by kernel_rfl)) h0 (fun x hx => hb.same (hW'.lt x (by simp [hx]))) (fun x hx => hsp x (by simp [hx]))) (trodAll_cons_mk (Trod_stays laidOut (by kernel_rfl) (of_decide_eq_true (by kernel_rfl)) h1 (fun x hx => hb.same (hW'.lt x (by simp [hx]))) (fun x hx => hsp x (by simp [hx]))) (trodAll_cons_mk (Trod_stays laidOut (by kernel_rfl) (of_decide_eq_true (by kernel_rfl)) h2 (fun x hx => hb.same (hW'.lt x (by simp [hx]))) (fun x hx => hsp x (by simp [hx]))) trodAll_mk0)))) (fun _ _ => rfl) (by simp)
    hb (ok_one (by kernel_rfl) rfl (okWide_bool_mk Try.underlying4 _))⟩

theorem proved : Rows.NetTakesSaid :=
  OpenClaim.holds_of_wide 4 Try.f4 rfl rfl rfl rfl rfl rfl rfl ⟨rfl, rfl, rfl, rfl, rfl⟩ rfl rfl rfl rfl rfl (by kernel_rfl) Try.func4 (by kernel_rfl)
    (of_decide_eq_true (by kernel_rfl)) (by unfold Func.isWrapper; first | (rw [if_pos (by decide +kernel)]; kernel_rfl) | (rw [if_neg (by decide +kernel)]; exact ⟨rfl, rfl⟩))
    (fun os started H enc _ => lifted os started H enc)
#print axioms proved

end Go.Proofs.Ytenlblembdnniaa.netTakes
