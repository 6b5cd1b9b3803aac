/- Proved: timers do what the document says (WheelPlays), for any beginning, any steps. -/
import Derived.Test.YtnfakkinaockiaaDwI
import Derived.Deep.CutBlock
import Derived.Deep.CutRange
namespace Go.Proofs.Ytnfakkinaockiaa.wheelPlays
open Go.ChangeShapes Go.WideShapes Go.ChangeAt Go.WideMaps Go.WideElems Go.RowKit
open Go.Sort (grow)
open Go.Proofs.Ytnfakkinaockiaa.Pk (one_at one_free one_set lt_some grown_set)
open Go.Proofs.Ytnfakkinaockiaa.Wh

def PlAt (B : World) (q d n : Nat) (i : Value) (wr : World) : Prop := ∃ k now S, i = .int .i64 (k : Nat) ∧ k ≤ n ∧ k ≤ 80 ∧ S.length ≤ k ∧ tick now = true ∧ Pw B q d now S wr
section
variable {B W : World} {q d ob : Nat} {o : Wp} {now n1 n2 : Int} {S S1 S2 : List Tm} {X : Nat → Prop}
theorem at_box (M : Mw B q d ob o n1 n2 S1 S2 X W) : W.cell? ⟨ob, 0, none⟩ = some (.int .i64 o.kind) ∧ W.cell? ⟨ob, 1, none⟩ = some (.int .i64 o.id) ∧ W.cell? ⟨ob, 2, none⟩ = some (.int .i64 o.at_) := ⟨one_at (i := 0) M.box, one_at (i := 1) M.box, one_at (i := 2) M.box⟩
theorem m_len (M : Mw B q d ob o n1 n2 S1 S2 X W) : Calls Try.prog 13 #[.pointer (some ⟨q, 0, none⟩)] W (fun e w' => e = .returned (.int .i64 (S1.length : Nat)) ∧ Below W.heap.size W w') := by
  obtain ⟨A, c, L, D⟩ := M.wh
  exact lw_len L
theorem m_now (M : Mw B q d ob o n1 n2 S1 S2 X W) : Calls Try.prog 21 #[.pointer (some ⟨q, 0, none⟩)] W (fun e w' => e = .returned (.int .i64 n1) ∧ Below W.heap.size W w') := by
  obtain ⟨A, c, L, D⟩ := M.wh
  exact (lw_now L).mono fun e w' h => ⟨h.1, by rw [← h.2]; exact Below.refl _ _⟩
theorem at_last (M : Mw B q d ob o now now S S X W) : ∃ A c, S.length ≤ c ∧ c ≤ 9223372036854775807 ∧ W.heap[d]? = some (.cells #[.int .i64 now, .slice A S.length c] 36 (0, 0)) ∧
    ((S.head?.isSome = false ∧ S.length = 0 ∧ tm2 S.head? = 0) ∨ (S.head?.isSome = true ∧ 0 < S.length ∧ ∃ g oo, A = some ⟨g, oo, none⟩ ∧ g < W.heap.size ∧ W.cell? ⟨g, oo + 1, none⟩ = some (.int .i64 (tm2 S.head?)))) := by
  obtain ⟨A, c, h1, h2, h3, h4, _⟩ := M.ends
  refine ⟨A, c, h1, h2, h3, ?_⟩
  cases S with
  | nil => exact .inl ⟨rfl, rfl, rfl⟩
  | cons s r =>
    obtain ⟨g, oo, e, hc⟩ := h4 s r rfl
    exact .inr ⟨rfl, by simp, g, oo, e, lt_of_cell hc, hc⟩
end
set_option maxHeartbeats 12800000 in
set_option maxRecDepth 100000 in
theorem walk (now : Int) (A : Option Addr) (n c : Nat) (l : List Wp) (w : World) (S : Wops w w.heap.size A n l) (hnc : n ≤ c) (hcm : c ≤ 9223372036854775807) :
    Calls Try.prog 4 #[.int .i64 now, .slice A n c] w fun e w' => e = .returned (.bool true) ∧ Below w.heap.size w w' := by
  have TA := Lib.hid told_any
  by_cases h0 : tick now = true
  · have N0 := Lib.hid (lw_new (B := w) now h0 (Below.refl _ w))
    have ht0 := Lib.hid h0
    simp only [tick, Bool.and_eq_true, decide_eq_true_eq] at h0
    have q0 : decide (now < 0) = false := decide_eq_false (by omega)
    have q1 : decide (1099511627776 < now) = false := decide_eq_false (by omega)
    have hn9 : (n : Int) ≤ 9223372036854775807 := by omega
    replace S := Lib.hid S
    clear h0 hnc hcm
    go_enter Try.func4, Try.ntmps4
    go_wp2_with fail
    refine N0.out.mono ?_
    rintro e w1 ⟨q, rfl, L1, _⟩
    have P0 := Pw.start (L1.less (X' := fun _ => False) fun g h => h.elim)
    have st : Hid (PlAt w q w1.heap.size n (.int .i64 0) (w1.alloc (.cells #[.int .i64 now, .slice none 0 0] 36 (0, 0)))) := ⟨0, now, [], rfl, Nat.zero_le _, Nat.zero_le _, Nat.le_refl _, ht0.out, P0⟩
    clear N0 L1 P0 ht0
    go_upto_region 7 with fail
    generalize w1.alloc (.cells #[.int .i64 now, .slice none 0 0] 36 (0, 0)) = w2 at *
    generalize w1.heap.size = d at *
    clear q0 q1
    go_wp2_with fail
    go_loopw [8] (fun i wr => PlAt w q d n i wr) (fun i _ => n - (intOf i).toNat)
    case atStart => exact st.out
    case round =>
      clear st
      obtain ⟨k, now', T, rfl, hkn, hk80, hT, htk, hP⟩ := hrel
      have BE : Below w.heap.size w wr := hP.be
      by_cases hlt : k < n ∧ k < 80
      · have hk1 : Hid (k < n) := hlt.1
        have hk2 : Hid (k < 80) := hlt.2
        have i1 : (k : Int) < (n : Int) := by omega
        have i2 : decide ((k : Int) < 80) = true := decide_eq_true (by omega)
        have i3 : (0 : Int) ≤ (k : Int) := by omega
        obtain ⟨ad, hA, hadb, hcell⟩ := S.out.at_ (by omega)
        subst hA
        obtain ⟨o, ho⟩ : ∃ o, l[k]? = some o := ⟨_, List.getElem?_eq_getElem (by have := S.out.len; omega)⟩
        have hok := S.out.ok o (List.mem_of_getElem? ho)
        obtain ⟨c0, c1, c2⟩ := (hcell k o ho).same (w' := wr) (BE.block _ hadb)
        have M0 := Lib.hid (hP.enter o)
        have hTk : Hid (T.length ≤ k) := hT
        have hT9 : Hid (T.length ≤ 80) := by unfold Hid; omega
        have b1 := Lib.hid hok.1
        replace htk := Lib.hid htk
        clear hlt hcell hadb ho hok hP hkn hk80 hT BE
        go_upto_region 11 with fail
        clear c0 c1 c2
        generalize wr.alloc (.cells #[.int .i64 o.kind, .int .i64 o.id, .int .i64 o.at_] 38 (0, 0)) = W at *
        generalize wr.heap.size = ob at *
        have e0 := (at_box M0.out).1
        have hnd : Hid (Nd T) := M0.out.srt.2
        go_upto_block 2 with fail
        clear e0
        go_cut [5] from 46 to 171 (fun s5 wx => s5 = .pointer (some ⟨q, 0, none⟩) ∧ ∃ n' S', Mw w q d ob o n' n' S' S' (fun _ => False) wx ∧ S'.length ≤ T.length + 1 ∧ tick n' = true)
        case first =>
          by_cases k0 : o.kind = 0
          · have d0 : (o.kind == 0) = true := by simpa using k0
            clear k0
            have QD : Hid (∀ S2 w', Mw w q d ob o now' now' T S2 (fun _ => False) w' → Calls Try.prog 10 #[.pointer (some ⟨q, 0, none⟩), .int .i64 o.id, .int .i64 o.at_] w' fun e w'' => e = .returned (.int .i64 (setE o.at_)) ∧ Mw w q d ob o now' now' (setS o.id o.at_ T) S2 (fun _ => False) w'') := fun S2 w' h => m_set h o.id o.at_ b1.out (by have := hT9.out; omega)
            have QX : Hid (∀ S1 w', Mw w q d ob o now' now' S1 T (fun _ => False) w' → Calls Try.prog 14 #[.pointer (some ⟨d, 0, none⟩), .int .i64 o.id, .int .i64 o.at_] w' fun e w'' => e = .returned (.int .i64 (setE o.at_)) ∧ Mw w q d ob o now' now' S1 (setS o.id o.at_ T) (fun _ => False) w'') := fun S1 w' h => x_set h o.id o.at_ hnd.out (by have := hT9.out; omega)
            have SA : Hid (∀ S1 S2 w', Mw w q d ob o now' now' S1 S2 (fun _ => False) w' → w'.cell? ⟨ob, 1, none⟩ = some (.int .i64 o.id) ∧ w'.cell? ⟨ob, 2, none⟩ = some (.int .i64 o.at_)) := fun S1 S2 w' h => (at_box h).2
            have hlen : Hid ((setS o.id o.at_ T).length ≤ T.length + 1) := setS_len _ _ _
            have m0 := M0.out.drew
            have s0 := SA.out _ _ _ m0
            generalize setE o.at_ = er at *
            generalize setS o.id o.at_ T = T' at *
            have q9 : (er != er) = false := by simp
            clear M0 b1 hnd hT9
            go_wp2_with fail
            go_region_held3 (fun w' => w'.cell? ⟨ob, 1, none⟩ = some (.int .i64 o.id) ∧ w'.cell? ⟨ob, 2, none⟩ = some (.int .i64 o.at_)) (first | assumption | exact s0 | go_keep)
              ((first
                | (go_at_call 10; refine (QD.out _ _ (by assumption)).mono ?_; rintro e w6 ⟨rfl, hM⟩; have sr := SA.out _ _ _ hM)
                | (go_at_call 14; refine (QX.out _ _ (by assumption)).mono ?_; rintro e w6 ⟨rfl, hM⟩; have sr := SA.out _ _ _ hM)))
            all_goals
              go_wp2
              go_meet
              case rel => exact ⟨rfl, now', T', by assumption, hlen.out, htk.out⟩
          · have d0 : (o.kind == 0) = false := by simpa using k0
            clear k0
            by_cases k1 : o.kind = 1
            · have d1 : (o.kind == 1) = true := by simpa using k1
              clear k1
              have QD : Hid (∀ S2 w', Mw w q d ob o now' now' T S2 (fun _ => False) w' → Calls Try.prog 15 #[.pointer (some ⟨q, 0, none⟩), .int .i64 o.id] w' fun e w'' => e = .returned (.bool (fnd o.id T).isSome) ∧ Mw w q d ob o now' now' (without o.id T) S2 (fun _ => False) w'') := fun S2 w' h => m_off h o.id b1.out
              have QX : Hid (∀ S1 w', Mw w q d ob o now' now' S1 T (fun _ => False) w' → Calls Try.prog 16 #[.pointer (some ⟨d, 0, none⟩), .int .i64 o.id] w' fun e w'' => e = .returned (.bool (fnd o.id T).isSome) ∧ Mw w q d ob o now' now' S1 (without o.id T) (fun _ => False) w'') := fun S1 w' h => x_off h o.id hnd.out (by have := hT9.out; omega)
              have SA : Hid (∀ S1 S2 w', Mw w q d ob o now' now' S1 S2 (fun _ => False) w' → w'.cell? ⟨ob, 1, none⟩ = some (.int .i64 o.id)) := fun S1 S2 w' h => (at_box h).2.1
              have hlen : Hid ((without o.id T).length ≤ T.length + 1) := Nat.le_succ_of_le (without_len _ _)
              have m0 := M0.out.drew
              have s0 := SA.out _ _ _ m0
              generalize (fnd o.id T).isSome = er at *
              generalize without o.id T = T' at *
              have q9 : (er != er) = false := by simp
              clear M0 b1 hnd hT9
              go_wp2_with fail
              go_region_held3 (fun w' => w'.cell? ⟨ob, 1, none⟩ = some (.int .i64 o.id)) (first | assumption | exact s0 | go_keep)
                ((first
                  | (go_at_call 15; refine (QD.out _ _ (by assumption)).mono ?_; rintro e w6 ⟨rfl, hM⟩; have sr := SA.out _ _ _ hM)
                  | (go_at_call 16; refine (QX.out _ _ (by assumption)).mono ?_; rintro e w6 ⟨rfl, hM⟩; have sr := SA.out _ _ _ hM)))
              all_goals
                go_wp2
                go_meet
                case rel => exact ⟨rfl, now', T', by assumption, hlen.out, htk.out⟩
            · have d1 : (o.kind == 1) = false := by simpa using k1
              clear k1
              have QD : Hid (∀ w', Mw w q d ob o now' now' T T (fun _ => False) w' → Calls Try.prog 11 #[.pointer (some ⟨q, 0, none⟩), .int .i64 o.at_] w' fun e w'' => ∃ A m c, e = .returned (.slice A m c) ∧ MtTo w q d ob o (tuN now' o.at_) now' (tuS now' o.at_ T) T (tuO now' o.at_ T) A m w'') := fun w' h => m_turn h o.at_ htk.out
              have QX : Hid (∀ n1 S1 zs A1 m1 w', MtTo w q d ob o n1 now' S1 T zs A1 m1 w' → Calls Try.prog 17 #[.pointer (some ⟨d, 0, none⟩), .int .i64 o.at_] w' fun e w'' => ∃ A m c, e = .returned (.slice A m c) ∧ MtTo w q d ob o n1 (tuN now' o.at_) S1 (tuS now' o.at_ T) zs A1 m1 w'' ∧ m ≤ 9223372036854775807 ∧ Rr w'' (fun g => g < w''.heap.size) A m (tuO now' o.at_ T)) := fun n1 S1 zs A1 m1 w' h => x_turn h o.at_ (by have := hT9.out; omega)
              have hlen : Hid ((tuS now' o.at_ T).length ≤ T.length + 1) := Nat.le_succ_of_le (tuS_len _ _ _)
              have htn : Hid (tick (tuN now' o.at_) = true) := tuN_tick htk.out
              have SA : Hid (∀ n1 n2 S1 S2 X w', Mw w q d ob o n1 n2 S1 S2 X w' → w'.cell? ⟨ob, 2, none⟩ = some (.int .i64 o.at_)) := fun n1 n2 S1 S2 X w' h => (at_box h).2.2
              have SB : Hid (∀ n1 n2 S1 S2 zs A m w', MtTo w q d ob o n1 n2 S1 S2 zs A m w' → w'.cell? ⟨ob, 2, none⟩ = some (.int .i64 o.at_)) := fun n1 n2 S1 S2 zs A m w' h => by
                obtain ⟨X, h⟩ := h.out
                exact (at_box h).2.2
              have m0 := M0.out.drew
              have s0 := SA.out _ _ _ _ _ _ m0
              generalize tuN now' o.at_ = n' at *
              generalize tuS now' o.at_ T = T' at *
              generalize tuO now' o.at_ T = zs at *
              have QI : Hid (∀ A1 m1 c1 A2 m2 c2 w', MtTo w q d ob o n' n' T' T' zs A1 m1 w' → m2 ≤ 9223372036854775807 → Rr w' (fun g => g < w'.heap.size) A2 m2 zs → Calls Try.prog 12 #[.slice A1 m1 c1, .slice A2 m2 c2] w' fun e w'' => e = .returned (.bool true) ∧ Mw w q d ob o n' n' T' T' (fun _ => False) w'') := fun A1 m1 c1 A2 m2 c2 w' h hm R => m_ints h c1 c2 hm R rfl
              clear M0 b1 hnd hT9 htk
              go_wp2_with fail
              go_region_held3 (fun w' => w'.cell? ⟨ob, 2, none⟩ = some (.int .i64 o.at_)) (first | assumption | exact s0 | go_keep)
                ((first
                  | (go_at_call 11; refine (QD.out _ (by assumption)).mono ?_; rintro e w6 ⟨A1, m1, e1, rfl, hM⟩; have sr := SB.out _ _ _ _ _ _ _ _ hM)
                  | (go_at_call 17; refine (QX.out _ _ _ _ _ _ (by assumption)).mono ?_; rintro e w7 ⟨A2, m2, e2, rfl, hM, hm2, hR2⟩; have sr := SB.out _ _ _ _ _ _ _ _ hM)
                  | (go_at_call 12; refine (QI.out _ _ _ _ _ _ _ (by assumption) (by assumption) (by assumption)).mono ?_; rintro e w8 ⟨rfl, hM⟩; have sr := SA.out _ _ _ _ _ _ hM)))
              all_goals
                go_wp2
                go_meet
                case rel => exact ⟨rfl, n', T', by assumption, hlen.out, htn.out⟩
        case rest =>
          obtain ⟨rfl, n', S', hM, hL', ht'⟩ := hcut
          replace hL' := Lib.hid hL'
          replace ht' := Lib.hid ht'
          have C1 := Lib.hid (m_at hM o.id b1.out)
          have e1 := (at_box hM).2.1
          obtain ⟨x1, hx1⟩ : ∃ z, z = tm2 (fnd o.id S') := ⟨_, rfl⟩
          obtain ⟨p1, hp1⟩ : ∃ z, z = (fnd o.id S').isSome := ⟨_, rfl⟩
          obtain ⟨x2, hx2⟩ : ∃ z, z = tm2 S'.head? := ⟨_, rfl⟩
          obtain ⟨p2, hp2⟩ : ∃ z, z = S'.head?.isSome := ⟨_, rfl⟩
          obtain ⟨m, hm⟩ : ∃ z, z = S'.length := ⟨_, rfl⟩
          rw [← hx1, ← hp1] at C1
          have X1 : Hid (∀ W, Mw w q d ob o n' n' S' S' (fun _ => False) W → Calls Try.prog 19 #[.pointer (some ⟨d, 0, none⟩), .int .i64 o.id] W fun e w' => e = .returned (.tuple #[.int .i64 x1, .bool p1]) ∧ W = w') := fun W h => by rw [hx1, hp1]; exact x_find h o.id
          have X2 : Hid (∀ W, Mw w q d ob o n' n' S' S' (fun _ => False) W → Calls Try.prog 20 #[.pointer (some ⟨q, 0, none⟩)] W fun e w' => e = .returned (.tuple #[.int .i64 x2, .bool p2]) ∧ Mw w q d ob o n' n' S' S' (fun _ => False) w') := fun W h => by rw [hx2, hp2]; exact m_next h
          have X3 : Hid (∀ W, Mw w q d ob o n' n' S' S' (fun _ => False) W → Calls Try.prog 13 #[.pointer (some ⟨q, 0, none⟩)] W fun e w' => e = .returned (.int .i64 (m : Nat)) ∧ Below W.heap.size W w') := fun W h => by rw [hm]; exact m_len h
          have X4 : Hid (∀ W, Mw w q d ob o n' n' S' S' (fun _ => False) W → Calls Try.prog 21 #[.pointer (some ⟨q, 0, none⟩)] W fun e w' => e = .returned (.int .i64 n') ∧ Below W.heap.size W w') := fun W h => m_now h
          have X5 : Hid (∀ W, Mw w q d ob o n' n' S' S' (fun _ => False) W → ∃ A c, m ≤ c ∧ c ≤ 9223372036854775807 ∧ W.heap[d]? = some (.cells #[.int .i64 n', .slice A m c] 36 (0, 0)) ∧
              ((p2 = false ∧ m = 0 ∧ x2 = 0) ∨ (p2 = true ∧ 0 < m ∧ ∃ g oo, A = some ⟨g, oo, none⟩ ∧ g < W.heap.size ∧ W.cell? ⟨g, oo + 1, none⟩ = some (.int .i64 x2)))) := fun W h => by rw [hx2, hp2, hm]; exact at_last h
          have NX : Hid (∀ W, Mw w q d ob o n' n' S' S' (fun _ => False) W → PlAt w q d n (.int .i64 ((k : Int) + 1)) W) := fun W h => ⟨k + 1, n', S', by simp, hk1.out, hk2.out, by have h1 := hL'.out; have h2 := hTk.out; omega, ht'.out, h.leave⟩
          clear hM hx1 hp1 hx2 hp2 hm hL' ht' hTk hT9 htk hnd M0
          go_wp2_with fail
          refine C1.out.mono ?_
          rintro e w3 ⟨rfl, hM⟩
          have C2 := Lib.hid (X1.out _ hM)
          have e2 := (at_box hM).2.1
          replace hM := Lib.hid hM
          clear C1 e1
          go_wp2_with fail
          refine C2.out.mono ?_
          rintro e w4 ⟨rfl, rfl⟩
          have C3 := Lib.hid (X2.out _ hM.out)
          clear C2 hM e2
          go_wp2_with fail
          refine C3.out.mono ?_
          rintro e w5 ⟨rfl, hM⟩
          obtain ⟨A', c', hc1, hc2, hD, HD⟩ := X5.out _ hM
          have f0 : w5.cell? ⟨d, 0, none⟩ = some (.int .i64 n') := one_at (i := 0) hD
          have f1 : w5.cell? ⟨d, 1, none⟩ = some (.slice A' m c') := one_at (i := 1) hD
          have hdl := lt_some hD
          have t0 : ∀ dr os, (grow (redrawn w5 dr) os).cell? ⟨d, 0, none⟩ = some (.int .i64 n') := fun dr os => (World.cell?_of_block ((below_regrown w5 dr os).block d hdl)).trans f0
          have t1 : ∀ dr os, (grow (redrawn w5 dr) os).cell? ⟨d, 1, none⟩ = some (.slice A' m c') := fun dr os => (World.cell?_of_block ((below_regrown w5 dr os).block d hdl)).trans f1
          have Q3 := fun dr os => Calls.regrown_of (X3.out _ (hM.below (below_regrown w5 dr os)))
          have Q4 := fun dr os => Calls.regrown_of (X4.out _ (hM.below (below_regrown w5 dr os)))
          have i9 : (m : Int) ≤ 9223372036854775807 := by omega
          have r1 : (x1 != x1) = false := by simp
          have r2 : (p1 != p1) = false := by simp
          have r3 : (x2 != x2) = false := by simp
          have r4 : ((m : Int) != (m : Int)) = false := by simp
          have r5 : (n' != n') = false := by simp
          have hMH := Lib.hid hM
          have tt := Lib.hid t0
          have tu := Lib.hid t1
          replace Q3 := Lib.hid Q3
          replace Q4 := Lib.hid Q4
          clear C3 hM X1 X2 X3 X4 X5 hc1 hc2 hD hdl t0 t1
          rcases HD with ⟨rfl, rfl, rfl⟩ | ⟨rfl, hm0, g, oo, rfl, hg, hcl⟩
          · go_upto_region 26 with fail
            have t0 := tt.out
            have t1 := tu.out
            have Q3 := Q3.out
            have Q4 := Q4.out
            clear tt tu f0 f1
            refine wp_region_quiet_below (by kernel_rfl) (by kernel_rfl) ?_
            repeat (go_big_quiet_step (first | with_reducible exact Q3 _ _ | with_reducible exact Q4 _ _))
            refine wpQuiet_nil ?_
            intro w7 hw'
            obtain ⟨⟨dq, osq⟩, hw7⟩ := hw'
            have nx : Hid (PlAt w q d n (.int .i64 ((k : Int) + 1)) w7) := by rw [hw7]; exact NX.out _ (hMH.out.below (below_regrown w5 dq osq))
            clear hw7 t0 t1 Q3 Q4 hMH NX
            go_wp2
            exact ⟨nx.out, by have := hk1.out; simp [intOf]; omega⟩
          · have i1' : (0 : Int) < (m : Int) := by omega
            clear hm0 hg
            go_upto_region 26 with fail
            clear hcl
            have t0 := tt.out
            have t1 := tu.out
            have Q3 := Q3.out
            have Q4 := Q4.out
            clear tt tu f0 f1
            refine wp_region_quiet_below (by kernel_rfl) (by kernel_rfl) ?_
            repeat (go_big_quiet_step (first | with_reducible exact Q3 _ _ | with_reducible exact Q4 _ _))
            refine wpQuiet_nil ?_
            intro w7 hw'
            obtain ⟨⟨dq, osq⟩, hw7⟩ := hw'
            have nx : Hid (PlAt w q d n (.int .i64 ((k : Int) + 1)) w7) := by rw [hw7]; exact NX.out _ (hMH.out.below (below_regrown w5 dq osq))
            clear hw7 t0 t1 Q3 Q4 hMH NX
            go_wp2
            exact ⟨nx.out, by have := hk1.out; simp [intOf]; omega⟩
      · by_cases hk : k < n
        · have i1 : (k : Int) < (n : Int) := by omega
          have i2 : decide ((k : Int) < 80) = false := decide_eq_false (by omega)
          clear hlt hk hkn hk80 S hP
          go_wp2_with fail
          refine (TA.out _).mono ?_
          rintro e w2 ⟨rfl, hb⟩
          have b2 : Hid (Below w.heap.size w w2) := BE.trans (hb.mono BE.size)
          clear hb
          go_wp2
          go_ret
          exact ⟨rfl, b2.out⟩
        · have i1 : decide (k < n) = false := decide_eq_false (by omega)
          clear hlt hk hkn hk80 S hP
          go_wp2_with fail
          refine (TA.out _).mono ?_
          rintro e w2 ⟨rfl, hb⟩
          have b2 : Hid (Below w.heap.size w w2) := BE.trans (hb.mono BE.size)
          clear hb
          go_wp2
          go_ret
          exact ⟨rfl, b2.out⟩
  · have N0 := Lib.hid (new_no w now (by simpa using h0))
    simp only [tick, Bool.and_eq_true, decide_eq_true_eq] at h0
    by_cases h1 : now < 0
    · have i1 : decide (now < 0) = true := decide_eq_true h1
      clear h0 h1 S hnc hcm
      go_enter Try.func4, Try.ntmps4
      go_wp2_with fail
      refine N0.out.mono ?_
      rintro e w1 ⟨rfl, rfl⟩
      clear N0
      go_wp2_with fail
      refine (TA.out _).mono ?_
      rintro e w2 ⟨rfl, hb⟩
      replace hb := Lib.hid hb
      go_wp2
      go_ret
      exact ⟨rfl, hb.out⟩
    · have i1 : decide (now < 0) = false := decide_eq_false h1
      have i2 : decide (1099511627776 < now) = true := decide_eq_true (by omega)
      clear h0 h1 S hnc hcm
      go_enter Try.func4, Try.ntmps4
      go_wp2_with fail
      refine N0.out.mono ?_
      rintro e w1 ⟨rfl, rfl⟩
      clear N0
      go_wp2_with fail
      refine (TA.out _).mono ?_
      rintro e w2 ⟨rfl, hb⟩
      replace hb := Lib.hid hb
      go_wp2
      go_ret
      exact ⟨rfl, hb.out⟩
theorem walkd (a0 : Int) (_w0 : (Lit.int .i64 a0).wf = true) (v1 : Value) (a1 : List Wp) {W : World} (w1 : Wsrc W v1 a1) (W' : World) (hW : W' = W) :
    Calls Try.prog 4 #[.int .i64 a0, v1] W' fun e w' => e = .returned (.bool true) ∧ Below W'.heap.size W' w' := by
  subst hW
  obtain ⟨A, n, c, rfl, h1, h2, R⟩ := w1
  exact walk a0 A n c a1 W' R h1 h2

/-! The row: every input. -/
set_option linter.unusedVariables false
set_option maxRecDepth 100000 in
theorem lifted (os : Os) (started : os.Started) (H : Type) (enc : TypeId × Value → H) :
    ReturnsInHanded {} Try.checked os 4 .any (Rows.wheelPlaysSpec.pre6 enc Try.prog Try.f4 Rows.wheelPlaysRow.domain false) (Rows.wheelPlaysSpec.post enc Try.prog Try.f4 false true false false) := by
  refine returnsInHanded_of_change (C := Try.checked) own started (by kernel_rfl) Try.func4
    (ChangeSpec.witness6 (enc := enc) (C := Try.checked) false ⟨#[], #[.int .i64 0, .slice none 0 0], []⟩ 8 (by kernel_rfl) (by kernel_rfl) (by kernel_rfl) (by kernel_rfl)) ?_
  intro W base args ds gs before hval0 hW _ _
  have hval : ∀ (j : Nat) t v, Try.f4.params[j]? = some t → args[j]? = some v → Value.okWide Try.prog W .any base t v := hval0
  have hW' := hW
  obtain ⟨p, q, hA0, hV, rfl, hfz, hnd⟩ := hW
  have hA : DataW.TrodAll enc Try.prog W 0 (fun _ => true) true Try.f4.params.toList args.toList ds p := hA0
  rw [Try.params4] at hA hval
  obtain ⟨v0, vs0, d0, ds0, p0, q0, hargs, rfl, rfl, h0, r0⟩ := trodAll_cons hA
  obtain ⟨v1, vs1, d1, ds1, p1, q1, rfl, rfl, rfl, h1, r1⟩ := trodAll_cons r0
  obtain ⟨rfl, rfl, rfl⟩ := trodAll_nil r1
  obtain rfl : args = #[v0, v1] := by cases args; simp_all
  obtain ⟨rfl, rfl⟩ := trodVars_none hV
  obtain ⟨a0, rfl, rfl, rfl, w0⟩ := open_int Try.underlying3 (hval 0 3 v0 rfl rfl) h0
  obtain ⟨a1, w1⟩ := view_wops (hval 1 32 v1 rfl rfl) h1
  clear hA0 hval0
  simp only [List.append_nil] at hW'
  refine (walkd a0 w0 v1 a1 w1 W rfl).mono fun e W' ⟨he, hb⟩ => ?_
  subst he
  exact ⟨_, rfl, post_below (pa := [] ++ (p1 ++ [])) (pv := []) hW' (fun _ _ _ => (trodAll_cons_mk (shut_bool Try.underlying4 _) trodAll_mk0)) (fun sp hsp => (trodAll_cons_mk (shut_int Try.underlying3 w0) (trodAll_cons_mk (Trod_stays laidOut (by kernel_rfl) (of_decide_eq_true (by kernel_rfl)) h1 (fun x hx => hb.same (hW'.lt x (by simp [hx]))) (fun x hx => hsp x (by simp [hx]))) trodAll_mk0))) (fun _ _ => rfl) (by simp)
    hb (ok_one (by kernel_rfl) rfl (okWide_bool_mk Try.underlying4 _))⟩

theorem proved : Rows.WheelPlaysSaid :=
  OpenClaim.holds_of_wide 4 Try.f4 rfl rfl rfl rfl rfl rfl rfl ⟨rfl, rfl, rfl, rfl, rfl⟩ rfl rfl rfl rfl rfl (by kernel_rfl) Try.func4 (by kernel_rfl)
    (of_decide_eq_true (by kernel_rfl)) (by unfold Func.isWrapper; first | (rw [if_pos (by decide +kernel)]; kernel_rfl) | (rw [if_neg (by decide +kernel)]; exact ⟨rfl, rfl⟩))
    (fun os started H enc _ => lifted os started H enc)
#print axioms proved

end Go.Proofs.Ytnfakkinaockiaa.wheelPlays
