/- DiskPlays, walked. -/
import Derived.Test.YtpkjeplhdnbihaaDpC
import Derived.Deep.CutBlock
import Derived.Deep.CutRange
namespace Go.Proofs.Ytpkjeplhdnbihaa.diskPlays
open Go.ChangeShapes Go.WideShapes Go.ChangeAt Go.WideElems Go.RowKit
open Go.Proofs.Ytpkjeplhdnbihaa.Pk Go.Proofs.Ytpkjeplhdnbihaa.Dk

def PAt (B : World) (q r n : Nat) (d i : Value) (wr : World) : Prop := ∃ k p L v, i = .int .i64 (k : Nat) ∧ d = .pointer (some ⟨p, 0, none⟩) ∧ k ≤ n ∧ k ≤ 60 ∧ L.length ≤ k ∧ Bo B p q r L v wr
theorem bo_new {w w1 : World} {p r : Nat} (V : Live w w1 p r [] (fun _ => False)) : Bo w p w1.heap.size r [] (.slice none 0 0) (w1.alloc (.cells #[.int .i64 (r : Nat), .slice none 0 0] 30 (0, 0))) := by
  have hb := below_alloc w1 (.cells #[.int .i64 (r : Nat), .slice none 0 0] 30 (0, 0))
  refine ⟨(V.more hb).less fun g hg => ?_, ⟨heap_alloc_new _ _, ⟨rfl, .inl ⟨rfl, rfl⟩⟩⟩, V.be.size, fun g hg => by simp [Value.ownBlock] at hg⟩
  rcases hg with rfl | hg
  · exact .inr ⟨Nat.le_refl _, by simp⟩
  · simp [Value.ownBlock] at hg
theorem Mx.drew {B w : World} {p q room ob : Nat} {o : Stp} {Ld Lx : Dk.St} (h : Mx B p q room ob o Ld Lx w) : Mx B p q room ob o Ld Lx w.drew := by
  obtain ⟨v, h⟩ := h
  exact ⟨v, h.below ⟨rfl, rfl, rfl, Nat.le_refl _, fun _ _ => rfl⟩⟩
set_option maxHeartbeats 6400000 in
set_option maxRecDepth 100000 in
theorem walk (room : Int) (A : Option Addr) (n c : Nat) (l : List Stp) (w : World) (S : Stps w w.heap.size A n l) (hnc : n ≤ c) (hcm : c ≤ 9223372036854775807) :
    Calls Try.prog 3 #[.int .i64 room, .slice A n c] w fun e w' => e = .returned (.bool true) ∧ Below w.heap.size w w' := by
  have TA := Lib.hid told_any
  by_cases h0 : 0 ≤ room ∧ room ≤ 1000000
  · obtain ⟨r, rfl⟩ : ∃ r : Nat, room = r := ⟨room.toNat, by omega⟩
    have N0 := Lib.hid (l_new w r (by omega) (Below.refl w.heap.size w))
    have q0 : decide ((r : Int) < 0) = false := decide_eq_false (by omega)
    have q1 : decide ((1000000 : Int) < (r : Int)) = false := decide_eq_false (by omega)
    have hn9 : (n : Int) ≤ 9223372036854775807 := by omega
    replace S := Lib.hid S
    clear h0 hnc hcm
    go_enter Try.func3, Try.ntmps3
    go_wp2_with fail
    refine N0.out.mono ?_
    rintro e w1 ⟨p, rfl, V1⟩
    have B0 := bo_new V1
    have st : Hid (PAt w w1.heap.size r n (.pointer (some ⟨p, 0, none⟩)) (.int .i64 0) (w1.alloc (.cells #[.int .i64 (r : Nat), .slice none 0 0] 30 (0, 0)))) := ⟨0, p, [], _, rfl, rfl, Nat.zero_le _, Nat.zero_le _, Nat.le_refl _, B0⟩
    clear N0 V1 B0
    go_upto_region 7 with fail
    generalize w1.heap.size = q at *
    generalize w1.alloc (.cells #[.int .i64 (r : Nat), .slice none 0 0] 30 (0, 0)) = w2 at *
    clear q0 q1
    go_wp2_with fail
    go_loopw [5, 8] (fun d i wr => PAt w q r n d i wr) (fun _ i _ => n - (intOf i).toNat)
    case atStart => exact st.out
    case round =>
      clear st
      obtain ⟨k, p, L, v, rfl, rfl, hkn, hk60, hL, hB⟩ := hrel
      have BE : Below w.heap.size w wr := hB.live.be
      by_cases hlt : k < n ∧ k < 60
      · have hk1 : Hid (k < n) := hlt.1
        have hk2 : Hid (k < 60) := hlt.2
        have i1 : (k : Int) < (n : Int) := by omega
        have i2 : decide ((k : Int) < 60) = true := decide_eq_true (by omega)
        have i3 : (0 : Int) ≤ (k : Int) := by omega
        obtain ⟨ad, hA, hadb, hcell⟩ := S.out.at_ (by omega)
        subst hA
        obtain ⟨o, ho⟩ : ∃ o, l[k]? = some o := ⟨_, List.getElem?_eq_getElem (by have := S.out.len; omega)⟩
        have hok := S.out.ok o (List.mem_of_getElem? ho)
        obtain ⟨c0, c1, c2, c3, c4⟩ := (hcell k o ho).same (w' := wr) (BE.block _ hadb)
        have M0 := Lib.hid (hB.enter o)
        unfold Stp.cells at M0
        have hLk : Hid (L.length ≤ k) := hL
        have hLb : Hid (L.length ≤ 60) := by unfold Hid; omega
        have n1 := Lib.hid hok.n1
        have n2 := Lib.hid hok.n2
        have hs1 := Lib.hid hok.s1
        have hrb := Lib.hid hok.rb
        have hmm := Lib.hid hok.rb.len
        clear hlt hcell hadb ho hok hB hkn hk60 hL
        go_upto_region 11 with fail
        clear c0 c1 c2 c3 c4
        have MX : Hid (∃ W, W = wr.alloc (.cells #[.int .i64 o.kind, .int .i64 o.n, .string o.name, .string o.to, .slice o.A o.m o.c] 33 (0, 0)) ∧ Mx w p q r wr.heap.size o L L W) := ⟨_, rfl, _, M0.out⟩
        generalize wr.alloc (.cells #[.int .i64 o.kind, .int .i64 o.n, .string o.name, .string o.to, .slice o.A o.m o.c] 33 (0, 0)) = W at *
        generalize wr.heap.size = ob at *
        replace BE : Below w.heap.size w W := M0.out.live.be
        have e0 : W.cell? ⟨ob, 0, none⟩ = some (.int .i64 o.kind) := one_at (i := 0) M0.out.cells
        have e2 := M0.out.at2
        have e3 := M0.out.at3
        have e4 := M0.out.at4
        have F := Lib.hid (M0.out.fit (by have := hLb.out; omega))
        clear MX
        have MX : Hid (Mx w p q r ob o L L W) := ⟨_, M0.out⟩
        clear M0
        by_cases hs : 30 < o.name.size
        · have d0 : decide ((30 : Int) < (o.name.size : Int)) = true := decide_eq_true (by omega)
          clear hs
          go_wp2_with fail
          refine (TA.out _).mono ?_
          rintro e w2 ⟨rfl, hb⟩
          have b2 : Hid (Below w.heap.size w w2) := BE.trans (hb.mono BE.size)
          clear hb
          go_wp2
          go_ret
          exact ⟨rfl, b2.out⟩
        have d1 : decide ((30 : Int) < (o.name.size : Int)) = false := decide_eq_false (by omega)
        by_cases ht : 30 < o.to.size
        · have d0 : decide ((30 : Int) < (o.to.size : Int)) = true := decide_eq_true (by omega)
          clear hs ht
          go_wp2_with fail
          refine (TA.out _).mono ?_
          rintro e w2 ⟨rfl, hb⟩
          have b2 : Hid (Below w.heap.size w w2) := BE.trans (hb.mono BE.size)
          clear hb
          go_wp2
          go_ret
          exact ⟨rfl, b2.out⟩
        have d2 : decide ((30 : Int) < (o.to.size : Int)) = false := decide_eq_false (by omega)
        by_cases hm : 60 < o.m
        · have d0 : decide ((60 : Int) < (o.m : Int)) = true := decide_eq_true (by omega)
          clear hs ht hm
          go_wp2_with fail
          refine (TA.out _).mono ?_
          rintro e w2 ⟨rfl, hb⟩
          have b2 : Hid (Below w.heap.size w w2) := BE.trans (hb.mono BE.size)
          clear hb
          go_wp2
          go_ret
          exact ⟨rfl, b2.out⟩
        have d3 : decide ((60 : Int) < (o.m : Int)) = false := decide_eq_false (by omega)
        have hm6 : Hid (o.m ≤ 60) := by unfold Hid; omega
        have hbl : Hid (o.bs.length ≤ 60) := by unfold Hid; have := hmm.out; omega
        clear hs ht hm
        replace hm := hm6
        clear hm6 hmm
        go_upto_block 2 with fail
        clear d1 d2 d3 e0 e2 e3 e4
        go_cut [5, 10, 11, 12] from 79 to 162 (fun s5 s10 s11 _ wx => ∃ p' L' er, s5 = .pointer (some ⟨p', 0, none⟩) ∧ s10 = .int .i64 er ∧ s11 = .int .i64 er ∧ Mx w p' q r ob o L' L' wx ∧ L'.length ≤ L.length + 1)
        case first =>
          by_cases k0 : o.kind = 0
          · have d0 : (o.kind == 0) = true := by simpa using k0
            clear k0
            have QD : Hid (∀ Lx w', Mx w p q r ob o L Lx w' → Calls Try.prog 11 #[.pointer (some ⟨p, 0, none⟩), .string o.name, .slice o.A o.m o.c] w' fun e w'' => e = .returned (.int .i64 (sApp r L (nm o.name) o.bs).1) ∧ Mx w p q r ob o (sApp r L (nm o.name) o.bs).2 Lx w'') := fun Lx w' h => d_app (Lx := Lx) F.out hrb.out hm.out h
            have QX : Hid (∀ Ld w', Mx w p q r ob o Ld L w' → Calls Try.prog 12 #[.pointer (some ⟨q, 0, none⟩), .string o.name, .string (str o.bs)] w' fun e w'' => e = .returned (.int .i64 (sApp r L (nm o.name) o.bs).1) ∧ Mx w p q r ob o Ld (sApp r L (nm o.name) o.bs).2 w'') := fun Ld w' h => x_app (Ld := Ld) F.out hbl.out h
            have SA : Hid (∀ Ld Lx w', Mx w p q r ob o Ld Lx w' → w'.cell? ⟨ob, 2, none⟩ = some (.string o.name) ∧ w'.cell? ⟨ob, 4, none⟩ = some (.slice o.A o.m o.c) ∧ (convert 31 9 (.slice o.A o.m o.c)).run Try.prog w' = .ok (.string (str o.bs)) w') := fun Ld Lx w' h => ⟨(Mx.at_ h).2.1, (Mx.at_ h).2.2.2, Mx.src h hrb.out⟩
            have hlen : Hid ((sApp r L (nm o.name) o.bs).2.length ≤ L.length + 1) := len_app
            have m0 : Mx w p q r ob o L L W.drew := Mx.drew MX.out
            have s0 := SA.out _ _ _ m0
            generalize (sApp r L (nm o.name) o.bs).1 = er at *
            generalize (sApp r L (nm o.name) o.bs).2 = L' at *
            clear MX F hs1 hrb hm hbl n1 n2
            go_wp2_with fail
            go_region_held3 (fun w' => w'.cell? ⟨ob, 2, none⟩ = some (.string o.name) ∧ w'.cell? ⟨ob, 4, none⟩ = some (.slice o.A o.m o.c) ∧ (convert 31 9 (.slice o.A o.m o.c)).run Try.prog w' = .ok (.string (str o.bs)) w') (first | assumption | exact s0 | go_keep)
              ((first
                | (go_at_call 11; refine (QD.out _ _ (by assumption)).mono ?_; rintro e w6 ⟨rfl, hM⟩; have sr := SA.out _ _ _ hM)
                | (go_at_call 12; refine (QX.out _ _ (by assumption)).mono ?_; rintro e w6 ⟨rfl, hM⟩; have sr := SA.out _ _ _ hM)))
            all_goals
              go_wp2
              go_meet
              case rel => exact ⟨p, L', er, rfl, rfl, rfl, by assumption, hlen.out⟩
          · have d0 : (o.kind == 0) = false := by simpa using k0
            clear k0
            by_cases k1 : o.kind = 1
            · have d1 : (o.kind == 1) = true := by simpa using k1
              clear k1
              have QD : Hid (∀ Lx w', Mx w p q r ob o L Lx w' → Calls Try.prog 13 #[.pointer (some ⟨p, 0, none⟩), .string o.name] w' fun e w'' => e = .returned (.int .i64 (sSync L (nm o.name)).1) ∧ Mx w p q r ob o (sSync L (nm o.name)).2 Lx w'') := fun Lx w' h => d_sync (Lx := Lx) F.out hs1.out h
              have QX : Hid (∀ Ld w', Mx w p q r ob o Ld L w' → Calls Try.prog 14 #[.pointer (some ⟨q, 0, none⟩), .string o.name] w' fun e w'' => e = .returned (.int .i64 (sSync L (nm o.name)).1) ∧ Mx w p q r ob o Ld (sSync L (nm o.name)).2 w'') := fun Ld w' h => x_sync (Ld := Ld) F.out h
              have SA : Hid (∀ Ld Lx w', Mx w p q r ob o Ld Lx w' → w'.cell? ⟨ob, 2, none⟩ = some (.string o.name)) := fun Ld Lx w' h => (Mx.at_ h).2.1
              have hlen : Hid ((sSync L (nm o.name)).2.length ≤ L.length + 1) := len_sync F.out.rise
              have m0 : Mx w p q r ob o L L W.drew := Mx.drew MX.out
              have s0 := SA.out _ _ _ m0
              generalize (sSync L (nm o.name)).1 = er at *
              generalize (sSync L (nm o.name)).2 = L' at *
              clear MX F hs1 hrb hm hbl n1 n2
              go_wp2_with fail
              go_region_held3 (fun w' => w'.cell? ⟨ob, 2, none⟩ = some (.string o.name)) (first | assumption | exact s0 | go_keep)
                ((first
                  | (go_at_call 13; refine (QD.out _ _ (by assumption)).mono ?_; rintro e w6 ⟨rfl, hM⟩; have sr := SA.out _ _ _ hM)
                  | (go_at_call 14; refine (QX.out _ _ (by assumption)).mono ?_; rintro e w6 ⟨rfl, hM⟩; have sr := SA.out _ _ _ hM)))
              all_goals
                go_wp2
                go_meet
                case rel => exact ⟨p, L', er, rfl, rfl, rfl, by assumption, hlen.out⟩
            · have d1 : (o.kind == 1) = false := by simpa using k1
              clear k1
              by_cases k2 : o.kind = 2
              · have d2 : (o.kind == 2) = true := by simpa using k2
                clear k2
                have QD : Hid (∀ Lx w', Mx w p q r ob o L Lx w' → Calls Try.prog 15 #[.pointer (some ⟨p, 0, none⟩), .string o.name, .int .i64 o.n] w' fun e w'' => e = .returned (.int .i64 (sCut L (nm o.name) o.n).1) ∧ Mx w p q r ob o (sCut L (nm o.name) o.n).2 Lx w'') := fun Lx w' h => d_cut (Lx := Lx) F.out hs1.out h
                have QX : Hid (∀ Ld w', Mx w p q r ob o Ld L w' → Calls Try.prog 16 #[.pointer (some ⟨q, 0, none⟩), .string o.name, .int .i64 o.n] w' fun e w'' => e = .returned (.int .i64 (sCut L (nm o.name) o.n).1) ∧ Mx w p q r ob o Ld (sCut L (nm o.name) o.n).2 w'') := fun Ld w' h => x_cut (Ld := Ld) F.out h
                have SA : Hid (∀ Ld Lx w', Mx w p q r ob o Ld Lx w' → w'.cell? ⟨ob, 2, none⟩ = some (.string o.name) ∧ w'.cell? ⟨ob, 1, none⟩ = some (.int .i64 o.n)) := fun Ld Lx w' h => ⟨(Mx.at_ h).2.1, (Mx.at_ h).1⟩
                have hlen : Hid ((sCut L (nm o.name) o.n).2.length ≤ L.length + 1) := len_cut F.out.rise
                have m0 : Mx w p q r ob o L L W.drew := Mx.drew MX.out
                have s0 := SA.out _ _ _ m0
                generalize (sCut L (nm o.name) o.n).1 = er at *
                generalize (sCut L (nm o.name) o.n).2 = L' at *
                clear MX F hs1 hrb hm hbl n1 n2
                go_wp2_with fail
                go_region_held3 (fun w' => w'.cell? ⟨ob, 2, none⟩ = some (.string o.name) ∧ w'.cell? ⟨ob, 1, none⟩ = some (.int .i64 o.n)) (first | assumption | exact s0 | go_keep)
                  ((first
                    | (go_at_call 15; refine (QD.out _ _ (by assumption)).mono ?_; rintro e w6 ⟨rfl, hM⟩; have sr := SA.out _ _ _ hM)
                    | (go_at_call 16; refine (QX.out _ _ (by assumption)).mono ?_; rintro e w6 ⟨rfl, hM⟩; have sr := SA.out _ _ _ hM)))
                all_goals
                  go_wp2
                  go_meet
                  case rel => exact ⟨p, L', er, rfl, rfl, rfl, by assumption, hlen.out⟩
              · have d2 : (o.kind == 2) = false := by simpa using k2
                clear k2
                by_cases k3 : o.kind = 3
                · have d3 : (o.kind == 3) = true := by simpa using k3
                  clear k3
                  have QD : Hid (∀ Lx w', Mx w p q r ob o L Lx w' → Calls Try.prog 17 #[.pointer (some ⟨p, 0, none⟩), .string o.name, .string o.to] w' fun e w'' => e = .returned (.int .i64 (sRen L (nm o.name) (nm o.to)).1) ∧ Mx w p q r ob o (sRen L (nm o.name) (nm o.to)).2 Lx w'') := fun Lx w' h => d_ren (Lx := Lx) F.out hs1.out h
                  have QX : Hid (∀ Ld w', Mx w p q r ob o Ld L w' → Calls Try.prog 18 #[.pointer (some ⟨q, 0, none⟩), .string o.name, .string o.to] w' fun e w'' => e = .returned (.int .i64 (sRen L (nm o.name) (nm o.to)).1) ∧ Mx w p q r ob o Ld (sRen L (nm o.name) (nm o.to)).2 w'') := fun Ld w' h => x_ren (Ld := Ld) F.out h
                  have SA : Hid (∀ Ld Lx w', Mx w p q r ob o Ld Lx w' → w'.cell? ⟨ob, 2, none⟩ = some (.string o.name) ∧ w'.cell? ⟨ob, 3, none⟩ = some (.string o.to)) := fun Ld Lx w' h => ⟨(Mx.at_ h).2.1, (Mx.at_ h).2.2.1⟩
                  have hlen : Hid ((sRen L (nm o.name) (nm o.to)).2.length ≤ L.length + 1) := len_ren
                  have m0 : Mx w p q r ob o L L W.drew := Mx.drew MX.out
                  have s0 := SA.out _ _ _ m0
                  generalize (sRen L (nm o.name) (nm o.to)).1 = er at *
                  generalize (sRen L (nm o.name) (nm o.to)).2 = L' at *
                  clear MX F hs1 hrb hm hbl n1 n2
                  go_wp2_with fail
                  go_region_held3 (fun w' => w'.cell? ⟨ob, 2, none⟩ = some (.string o.name) ∧ w'.cell? ⟨ob, 3, none⟩ = some (.string o.to)) (first | assumption | exact s0 | go_keep)
                    ((first
                      | (go_at_call 17; refine (QD.out _ _ (by assumption)).mono ?_; rintro e w6 ⟨rfl, hM⟩; have sr := SA.out _ _ _ hM)
                      | (go_at_call 18; refine (QX.out _ _ (by assumption)).mono ?_; rintro e w6 ⟨rfl, hM⟩; have sr := SA.out _ _ _ hM)))
                  all_goals
                    go_wp2
                    go_meet
                    case rel => exact ⟨p, L', er, rfl, rfl, rfl, by assumption, hlen.out⟩
                · have d3 : (o.kind == 3) = false := by simpa using k3
                  clear k3
                  by_cases k4 : o.kind = 4
                  · have d4 : (o.kind == 4) = true := by simpa using k4
                    clear k4
                    have QD : Hid (∀ Lx w', Mx w p q r ob o L Lx w' → Calls Try.prog 19 #[.pointer (some ⟨p, 0, none⟩), .string o.name] w' fun e w'' => e = .returned (.int .i64 (sRem L (nm o.name)).1) ∧ Mx w p q r ob o (sRem L (nm o.name)).2 Lx w'') := fun Lx w' h => d_rem (Lx := Lx) F.out hs1.out h
                    have QX : Hid (∀ Ld w', Mx w p q r ob o Ld L w' → Calls Try.prog 20 #[.pointer (some ⟨q, 0, none⟩), .string o.name] w' fun e w'' => e = .returned (.int .i64 (sRem L (nm o.name)).1) ∧ Mx w p q r ob o Ld (sRem L (nm o.name)).2 w'') := fun Ld w' h => x_rem (Ld := Ld) F.out h
                    have SA : Hid (∀ Ld Lx w', Mx w p q r ob o Ld Lx w' → w'.cell? ⟨ob, 2, none⟩ = some (.string o.name)) := fun Ld Lx w' h => (Mx.at_ h).2.1
                    have hlen : Hid ((sRem L (nm o.name)).2.length ≤ L.length + 1) := len_rem
                    have m0 : Mx w p q r ob o L L W.drew := Mx.drew MX.out
                    have s0 := SA.out _ _ _ m0
                    generalize (sRem L (nm o.name)).1 = er at *
                    generalize (sRem L (nm o.name)).2 = L' at *
                    clear MX F hs1 hrb hm hbl n1 n2
                    go_wp2_with fail
                    go_region_held3 (fun w' => w'.cell? ⟨ob, 2, none⟩ = some (.string o.name)) (first | assumption | exact s0 | go_keep)
                      ((first
                        | (go_at_call 19; refine (QD.out _ _ (by assumption)).mono ?_; rintro e w6 ⟨rfl, hM⟩; have sr := SA.out _ _ _ hM)
                        | (go_at_call 20; refine (QX.out _ _ (by assumption)).mono ?_; rintro e w6 ⟨rfl, hM⟩; have sr := SA.out _ _ _ hM)))
                    all_goals
                      go_wp2
                      go_meet
                      case rel => exact ⟨p, L', er, rfl, rfl, rfl, by assumption, hlen.out⟩
                  · have d4 : (o.kind == 4) = false := by simpa using k4
                    clear k4
                    by_cases k5 : o.kind = 5
                    · have d5 : (o.kind == 5) = true := by simpa using k5
                      clear k5
                      have C1 := Lib.hid (d_crash F.out n1.out n2.out MX.out)
                      have hlen : Hid ((sCrash o.n L).length ≤ L.length + 1) := len_crash
                      have e1 := (Mx.at_ MX.out).1
                      go_wp2_with fail
                      refine C1.out.mono ?_
                      rintro e w6 ⟨rfl, hM⟩
                      have C2 := Lib.hid (x_crash F.out n1.out n2.out hM)
                      have e2 := (Mx.at_ hM).1
                      clear C1 MX hM e1
                      go_wp2_with fail
                      refine C2.out.mono ?_
                      rintro e w7 ⟨rfl, hM⟩
                      replace hM := Lib.hid hM
                      clear C2 e2
                      go_wp2
                      go_meet
                      case rel => exact ⟨p, _, 0, rfl, rfl, rfl, hM.out, hlen.out⟩
                    · have d5 : (o.kind == 5) = false := by simpa using k5
                      clear k5
                      have C1 := Lib.hid (d_copy F.out MX.out)
                      have kc := fun (w : World) (C : Array Value) (n c : Nat) => Lib.run_convert_bytes_const (P := Try.prog) w 31 5 C n c Try.underlying31 Try.underlying5
                      go_wp2_with fail
                      refine C1.out.mono ?_
                      rintro e w6 ⟨p', rfl, hC⟩
                      have C2 := Lib.hid (fun n c fr hn hs => c_app F.out ⟨#[103, 111, 110, 101]⟩ [103, 111, 110, 101] n c fr hn hs hC)
                      clear C1 MX hC
                      go_wp2_with fail
                      refine (C2.out 4 4 (4, 5) rfl (by omega)).mono ?_
                      rintro e w7 ⟨⟨z, rfl⟩, Lp, hLp, hC⟩
                      have C3 := Lib.hid (c_crash hLp hC)
                      clear C2 hC hLp kc
                      go_wp2_with fail
                      refine C3.out.mono ?_
                      rintro e w8 ⟨rfl, hM⟩
                      replace hM := Lib.hid hM
                      clear C3
                      go_wp2
                      go_meet
                      case rel => exact ⟨p', L, 0, rfl, rfl, rfl, hM.out, Nat.le_succ _⟩
        case rest =>
          obtain ⟨p', L', er, rfl, rfl, rfl, hM, hL'⟩ := hcut
          have F' : Fit r L' := by
            obtain ⟨v', h⟩ := hM
            exact h.fit (by have := hLb.out; omega)
          replace F' := Lib.hid F'
          have C1 := Lib.hid (m_same F'.out hM)
          clear hM
          go_wp2_with fail
          refine C1.out.mono ?_
          rintro e w3 ⟨rfl, hM⟩
          have C2 := Lib.hid (d_read hs1.out hM)
          have e1 := (Mx.at_ hM).2.1
          clear C1 hM
          go_wp2_with fail
          refine C2.out.mono ?_
          rintro e w4 ⟨⟨z4, rfl⟩, hM⟩
          have C3 := Lib.hid (x_read F'.out hM)
          have e2 := (Mx.at_ hM).2.1
          clear C2 hM e1
          go_wp2_with fail
          refine C3.out.mono ?_
          rintro e w5 ⟨⟨z5, rfl⟩, hM⟩
          have nx : Hid (PAt w q r n (.pointer (some ⟨p', 0, none⟩)) (.int .i64 ((k : Int) + 1)) w5) := by
            obtain ⟨v', h⟩ := hM
            exact ⟨k + 1, p', L', v', by simp, rfl, by have := hk1.out; omega, by have := hk2.out; omega, by have := hLk.out; omega, h.leave⟩
          generalize (Dk.look (nm o.name) L').elim (5 : Int) (fun _ => 0) = ea at *
          clear C3 hM e2 F'
          go_wp2
          exact ⟨nx.out, by simp [intOf]; omega⟩
      · clear hB hL
        by_cases hk : k < n
        · have i1 : (k : Int) < (n : Int) := by omega
          have i2 : decide ((k : Int) < 60) = false := decide_eq_false (by omega)
          clear hlt hk hkn hk60 S
          go_wp2_with fail
          refine (TA.out _).mono ?_
          rintro e w2 ⟨rfl, hb⟩
          have b2 : Hid (Below w.heap.size w w2) := BE.trans (hb.mono BE.size)
          clear hb
          go_wp2
          go_ret
          exact ⟨rfl, b2.out⟩
        · have i1 : decide (k < n) = false := decide_eq_false (by omega)
          clear hlt hk hkn hk60 S
          go_wp2_with fail
          refine (TA.out _).mono ?_
          rintro e w2 ⟨rfl, hb⟩
          have b2 : Hid (Below w.heap.size w w2) := BE.trans (hb.mono BE.size)
          clear hb
          go_wp2
          go_ret
          exact ⟨rfl, b2.out⟩
  · have N0 := Lib.hid (new_no w room h0)
    by_cases h1 : room < 0
    · have i1 : decide (room < 0) = true := decide_eq_true h1
      clear h0 h1 S hnc hcm
      go_enter Try.func3, Try.ntmps3
      go_wp2_with fail
      refine N0.out.mono ?_
      rintro e w1 ⟨rfl, rfl⟩
      clear N0
      go_wp2_with fail
      refine (TA.out _).mono ?_
      rintro e w2 ⟨rfl, hb⟩
      replace hb := Lib.hid hb
      go_wp2
      go_ret
      exact ⟨rfl, hb.out⟩
    · have i1 : decide (room < 0) = false := decide_eq_false h1
      have i2 : decide (1000000 < room) = true := decide_eq_true (by omega)
      clear h0 h1 S hnc hcm
      go_enter Try.func3, Try.ntmps3
      go_wp2_with fail
      refine N0.out.mono ?_
      rintro e w1 ⟨rfl, rfl⟩
      clear N0
      go_wp2_with fail
      refine (TA.out _).mono ?_
      rintro e w2 ⟨rfl, hb⟩
      replace hb := Lib.hid hb
      go_wp2
      go_ret
      exact ⟨rfl, hb.out⟩
theorem walkd {W : World} (a0 : Int) (_w0 : (Lit.int .i64 a0).wf = true) (v1 : Value) (A1 : Option Addr) (n1 c1 : Nat) (a1 : List Stp) (e1 : v1 = .slice A1 n1 c1) (lc1 : n1 ≤ c1) (uc1 : c1 ≤ 9223372036854775807) (w1 : Stps W W.heap.size A1 n1 a1) (W' : World) (hW : W' = W) :
    Calls Try.prog 3 #[.int .i64 a0, v1] W' fun e w' => e = .returned (.bool true) ∧ Below W'.heap.size W' w' := by
  subst hW
  subst e1
  exact walk a0 A1 n1 c1 a1 W' w1 lc1 uc1

end Go.Proofs.Ytpkjeplhdnbihaa.diskPlays
