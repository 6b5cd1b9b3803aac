/- Proved: what is on its way does what the document says (NetPlays), for any number of nodes, any bound, any steps. -/
import Derived.Test.YtenlblembdnniaaNtX
import Derived.Deep.CutBlock
import Derived.Deep.CutRange
namespace Go.Proofs.Ytenlblembdnniaa.netPlays
open Go.ChangeShapes Go.WideShapes Go.ChangeAt Go.WideMaps Go.WideElems Go.RowKit
open Go.Sort (grow)
open Go.Proofs.Ytenlblembdnniaa.Pk (Rb one_at one_free one_set lt_some grown_set)
open Go.Proofs.Ytenlblembdnniaa.Nt

def PlAt (B : World) (q d N P n : Nat) (i : Value) (wr : World) : Prop := ∃ k us L, i = .int .i64 (k : Nat) ∧ k ≤ n ∧ k ≤ 80 ∧ us.length = N ∧ Pn B q d P us L wr
section
variable {B W : World} {q d ob most : Nat} {o : Stp} {us1 us2 : List Bool} {L1 L2 : List Ms} {X : Nat → Prop}
theorem at_box (M : Mn B q d ob most o us1 us2 L1 L2 X W) : W.cell? ⟨ob, 0, none⟩ = some (.int .i64 o.kind) ∧ W.cell? ⟨ob, 1, none⟩ = some (.int .i64 o.fr) ∧ W.cell? ⟨ob, 2, none⟩ = some (.int .i64 o.to_) ∧ W.cell? ⟨ob, 3, none⟩ = some (.int .i64 o.k) ∧ W.cell? ⟨ob, 4, none⟩ = some (.slice o.A o.m o.c) ∧ W.cell? ⟨ob, 5, none⟩ = some (.bool o.up) :=
  ⟨one_at (i := 0) M.box, one_at (i := 1) M.box, one_at (i := 2) M.box, one_at (i := 3) M.box, one_at (i := 4) M.box, one_at (i := 5) M.box⟩
end
def TuAt (B : World) (q d ob P : Nat) (o : Stp) (us : List Bool) (L : List Ms) (base : Nat) (A : Option Addr) (m c : Nat) (i : Value) (wr : World) : Prop :=
  ∃ (j : Nat) (xs : List Value), i = .int .i64 j ∧ j ≤ m ∧ (∀ x ∈ xs, ∃ z, x = .int .u8 z) ∧ Mb B q d ob P o us L L base (.slice A m c) m xs wr
def ToAt (B : World) (q d ob P : Nat) (o : Stp) (us : List Bool) (L : List Ms) (i : Value) (wr : World) : Prop := ∃ z : Int, i = .int .i64 z ∧ -1 ≤ z ∧ z ≤ (L.length : Int) + 1 ∧ Mn B q d ob P o us us L L (fun _ => False) wr
def IsAt (B : World) (q d ob P : Nat) (o : Stp) (us : List Bool) (L : List Ms) (i : Value) (wr : World) : Prop := ∃ j : Nat, i = .int .i64 j ∧ j ≤ us.length ∧ Mn B q d ob P o us us L L (fun _ => False) wr
set_option maxHeartbeats 12800000 in
set_option maxRecDepth 100000 in
theorem walk (nodes most : Int) (A : Option Addr) (n c : Nat) (l : List Stp) (w : World) (S : Ops w w.heap.size A n l) (hnc : n ≤ c) (hcm : c ≤ 9223372036854775807) :
    Calls Try.prog 3 #[.int .i64 nodes, .int .i64 most, .slice A n c] w fun e w' => e = .returned (.bool true) ∧ Below w.heap.size w w' := by
  have TA := Lib.hid told_any
  by_cases h0 : newOk nodes most = true
  · obtain ⟨⟨⟨h1, h2⟩, h3⟩, h4⟩ := newOk_iff.1 h0
    obtain ⟨N, rfl⟩ : ∃ N : Nat, nodes = N := ⟨nodes.toNat, by omega⟩
    obtain ⟨P, rfl⟩ : ∃ P : Nat, most = P := ⟨most.toNat, by omega⟩
    have N0 := Lib.hid (new_yes w N P (by omega) (by omega) (by omega))
    have q0 : decide ((N : Int) < 1) = false := decide_eq_false (by omega)
    have q1 : decide (16 < (N : Int)) = false := decide_eq_false (by omega)
    have q2 : decide ((P : Int) < 0) = false := decide_eq_false (by omega)
    have q3 : decide (4096 < (P : Int)) = false := decide_eq_false (by omega)
    have hn9 : (n : Int) ≤ 9223372036854775807 := by omega
    have hN16 : Hid (N ≤ 16) := by show _ ≤ _; omega
    replace S := Lib.hid S
    clear h0 h1 h2 h3 h4 hnc hcm
    go_enter Try.func3, Try.ntmps3
    go_wp2_with fail
    refine N0.out.mono ?_
    rintro e w1 ⟨q, rfl, V1⟩
    have P0 := Pn.start V1 hN16.out
    have st : Hid (PlAt w q w1.heap.size N P n (.int .i64 0) (w1.alloc (.cells (dcs N P (.slice none 0 0) (List.replicate 16 false)) 31 (0, 0)))) := ⟨0, _, _, rfl, Nat.zero_le _, Nat.zero_le _, List.length_replicate, P0⟩
    have hdc : Hid (dcs N P (.slice none 0 0) (List.replicate 16 false) = #[.int .i64 N, .int .i64 P, .slice none 0 0, .bool false, .bool false, .bool false, .bool false, .bool false, .bool false, .bool false, .bool false, .bool false, .bool false, .bool false, .bool false, .bool false, .bool false, .bool false, .bool false]) := rfl
    rw [hdc.out] at st
    clear N0 V1 P0 hdc
    go_upto_region 7 with fail
    generalize w1.alloc (.cells #[.int .i64 N, .int .i64 P, .slice none 0 0, .bool false, .bool false, .bool false, .bool false, .bool false, .bool false, .bool false, .bool false, .bool false, .bool false, .bool false, .bool false, .bool false, .bool false, .bool false, .bool false] 31 (0, 0)) = w2 at *
    generalize w1.heap.size = d at *
    clear q0 q1 q2 q3
    go_wp2_with fail
    go_loopw [10] (fun i wr => PlAt w q d N P n i wr) (fun i _ => n - (intOf i).toNat)
    case atStart => exact st.out
    case round =>
      clear st
      obtain ⟨k, us, L, rfl, hkn, hk80, hus, hP⟩ := hrel
      have BE : Below w.heap.size w wr := hP.be
      by_cases hlt : k < n ∧ k < 80
      · have hk1 : Hid (k < n) := hlt.1
        have hk2 : Hid (k < 80) := hlt.2
        have i1 : (k : Int) < (n : Int) := by omega
        have i2 : decide ((k : Int) < 80) = true := decide_eq_true (by omega)
        have i3 : (0 : Int) ≤ (k : Int) := by omega
        obtain ⟨ad, hA, hadb, hcell⟩ := S.out.at_ (by omega)
        subst hA
        obtain ⟨o, ho⟩ : ∃ o, l[k]? = some o := ⟨_, List.getElem?_eq_getElem (by have := S.out.len; omega)⟩
        have hok := S.out.ok o (List.mem_of_getElem? ho)
        obtain ⟨c0, c1, c2, c3, c4, c5⟩ := (hcell k o ho).same (w' := wr) (BE.block _ hadb)
        have M0 := Lib.hid (hP.enter o)
        have ROK : Hid (OpOk w w.heap.size o) := hok
        clear hlt hcell hadb ho hok hP hkn hk80
        replace BE := Lib.hid BE
        have hus' := Lib.hid hus
        clear hus
        go_upto_region 11 with fail
        clear c0 c1 c2 c3 c4 c5
        have hcs : o.cells = #[.int .i64 o.kind, .int .i64 o.fr, .int .i64 o.to_, .int .i64 o.k, .slice o.A o.m o.c, .bool o.up] := rfl
        rw [hcs] at M0
        clear hcs
        generalize wr.alloc (.cells #[.int .i64 o.kind, .int .i64 o.fr, .int .i64 o.to_, .int .i64 o.k, .slice o.A o.m o.c, .bool o.up] 34 (0, 0)) = W at *
        generalize wr.heap.size = ob at *
        have e0 := (at_box M0.out).1
        have e4 := (at_box M0.out).2.2.2.2.1
        by_cases hbig : 60 < o.m
        · have g1 : decide ((60 : Int) < (o.m : Int)) = true := decide_eq_true (by omega)
          have b1 : Hid (Below w.heap.size w W) := M0.out.be
          clear M0
          go_wp2_with fail
          refine (TA.out _).mono ?_
          rintro e w2 ⟨rfl, hb⟩
          have b2 : Hid (Below w.heap.size w w2) := b1.out.trans (hb.mono b1.out.size)
          clear hb
          go_wp2
          go_ret
          exact ⟨rfl, b2.out⟩
        · have g1 : decide ((60 : Int) < (o.m : Int)) = false := decide_eq_false (by omega)
          have hm60 : Hid (o.m ≤ 60) := by show _ ≤ _; omega
          go_upto_block 2 with fail
          clear e0 e4 hbig
          go_cut [7] from 63 to 273 (fun s7 wx => s7 = .pointer (some ⟨q, 0, none⟩) ∧ ∃ us' L', us'.length = N ∧ Mn w q d ob P o us' us' L' L' (fun _ => False) wx)
          case first =>
            by_cases k0 : o.kind = 0
            · have d0 : (o.kind == 0) = true := by simpa using k0
              clear k0
              as_aux_lemma =>
                have e4 := (at_box M0.out).2.2.2.2.1
                have hob : ob < W.heap.size := lt_some M0.out.box
                have RW : Hid (Rb W (fun g => g < w.heap.size) o.A o.m o.bs) := ROK.out.rb.keep (fun g hg => M0.out.be.block g hg) (fun _ h => h)
                obtain ⟨A', c', W', r1, RB, bW⟩ := b_copy W RW.out (fun g hg => Nat.lt_of_lt_of_le hg M0.out.be.size) ROK.out.nil_ ROK.out.mc (by have := hm60.out; omega)
                have B0 := Lib.hid (Mb.start M0.out bW RB)
                have hbs : Hid (o.bs.length ≤ 1000) := by show _ ≤ _; have := RW.out.len; have := hm60.out; omega
                have hmn : Hid (o.m ≤ 9223372036854775807) := by show _ ≤ _; have := hm60.out; omega
                obtain ⟨base, hbase⟩ : ∃ z, z = W.heap.size := ⟨_, rfl⟩
                rw [← hbase] at B0 r1
                have hob2 : (W.alloc (.cells #[] 5)).cell? ⟨ob, 4, none⟩ = some (.slice o.A o.m o.c) := (World.cell?_of_block (heap_alloc_old W _ hob)).trans e4
                have QD : Hid (∀ L2 w', Mb w q d ob P o us L L2 base (.slice A' o.m c') o.m (Go.Proofs.Ytenlblembdnniaa.Pk.u8s o.bs) w' → Calls Try.prog 9 #[.pointer (some ⟨q, 0, none⟩), .int .i64 o.fr, .int .i64 o.to_, .slice A' o.m c'] w' fun e w'' => e = .returned (.int .i64 (sendC us P L o.fr o.to_)) ∧ Mb w q d ob P o us (sendS us P L ⟨o.fr, o.to_, o.bs⟩) L2 base (.slice A' o.m c') o.m (Go.Proofs.Ytenlblembdnniaa.Pk.u8s o.bs) w'') := fun L2 w' h => mb_send h o.fr o.to_ hbs.out
                have QX : Hid (∀ L1 w', Mb w q d ob P o us L1 L base (.slice A' o.m c') o.m (Go.Proofs.Ytenlblembdnniaa.Pk.u8s o.bs) w' → Calls Try.prog 10 #[.pointer (some ⟨d, 0, none⟩), .int .i64 o.fr, .int .i64 o.to_, .string (str o.bs)] w' fun e w'' => e = .returned (.int .i64 (sendC us P L o.fr o.to_)) ∧ Mb w q d ob P o us L1 (sendS us P L ⟨o.fr, o.to_, o.bs⟩) base (.slice A' o.m c') o.m (Go.Proofs.Ytenlblembdnniaa.Pk.u8s o.bs) w'') := fun L1 w' h => xb_send h o.fr o.to_ hbs.out
                have SA : Hid (∀ L1 L2 w', Mb w q d ob P o us L1 L2 base (.slice A' o.m c') o.m (Go.Proofs.Ytenlblembdnniaa.Pk.u8s o.bs) w' → w'.cell? ⟨ob, 1, none⟩ = some (.int .i64 o.fr) ∧ w'.cell? ⟨ob, 2, none⟩ = some (.int .i64 o.to_) ∧ w'.cell? ⟨ob, 4, none⟩ = some (.slice o.A o.m o.c) ∧ (convert 32 9 (.slice o.A o.m o.c)).run Try.prog w' = .ok (.string (str o.bs)) w') := fun L1 L2 w' h =>
                  ⟨(at_box h.mn).2.1, (at_box h.mn).2.2.1, (at_box h.mn).2.2.2.2.1, str_run (ROK.out.rb.keep (T' := fun g => g < w.heap.size) (fun g hg => h.mn.be.block g hg) (fun _ h => h))⟩
                have m0 := B0.out.drew
                have s0 := SA.out _ _ _ m0
                generalize sendC us P L o.fr o.to_ = er at *
                generalize sendS us P L ⟨o.fr, o.to_, o.bs⟩ = L' at *
                have q9 : (er != er) = false := by simp
                have i9 : (o.m : Int) ≤ 60 := by have := hm60.out; omega
                clear M0 RB bW
                go_upto_region 20 with fail
                rw [hbase] at r1
                go_wp2_with (at_builtin; refine wpList_run_app rfl (.tmp 123) (.tmp 125) rfl rfl _ _ rfl rfl r1 ?_)
                clear r1 e4
                go_cut [143] from 127 to 143 (fun s143 wx => s143 = .bool false ∧ Mb w q d ob P o us L' L' base (.slice A' o.m c') o.m (Go.Proofs.Ytenlblembdnniaa.Pk.u8s o.bs) wx)
                case first =>
                  go_region_held3 (fun w' => w'.cell? ⟨ob, 1, none⟩ = some (.int .i64 o.fr) ∧ w'.cell? ⟨ob, 2, none⟩ = some (.int .i64 o.to_) ∧ w'.cell? ⟨ob, 4, none⟩ = some (.slice o.A o.m o.c) ∧ (convert 32 9 (.slice o.A o.m o.c)).run Try.prog w' = .ok (.string (str o.bs)) w') (first | assumption | exact s0 | go_keep)
                    ((first
                      | (go_at_call 9; refine (QD.out _ _ (by assumption)).mono ?_; rintro e w6 ⟨rfl, hM⟩; have sr := SA.out _ _ _ hM)
                      | (go_at_call 10; refine (QX.out _ _ (by assumption)).mono ?_; rintro e w6 ⟨rfl, hM⟩; have sr := SA.out _ _ _ hM)))
                  all_goals
                    go_wp2
                    go_meet
                    case rel => exact ⟨by simp, by assumption⟩
                case rest =>
                  obtain ⟨rfl, hB⟩ := hcut
                  have st : Hid (TuAt w q d ob P o us L' base A' o.m c' (.int .i64 0) wc) := ⟨0, _, rfl, Nat.zero_le _, u8s_all o.bs, hB⟩
                  clear hB QD QX SA m0 s0 q9
                  go_wp2_with fail
                  go_loopw [13] (fun i wr => TuAt w q d ob P o us L' base A' o.m c' i wr) (fun i _ => o.m - (intOf i).toNat)
                  case atStart => exact st.out
                  case round =>
                    clear st
                    obtain ⟨j, xs, rfl, hj, hx, hB⟩ := hrel
                    by_cases hlt : j < o.m
                    · have j1 : (j : Int) < (o.m : Int) := by omega
                      have j2 : (0 : Int) ≤ (j : Int) := by omega
                      obtain ⟨g, z, rfl, hmc, cz, fz, nz⟩ := hB.store hx hlt
                      have nx : Hid (∀ z', TuAt w q d ob P o us L' base (some ⟨g, 0, none⟩) o.m c' (.int .i64 ((j : Int) + 1)) (wr.setCell ⟨g, j, none⟩ (.int .u8 z'))) := fun z' => by
                        obtain ⟨ys, h1, h2⟩ := nz z'
                        exact ⟨j + 1, ys, by simp, by omega, h1, h2⟩
                      clear hB hx nz
                      go_wp2
                      exact ⟨nx.out _, by simp [intOf]; omega⟩
                    · obtain rfl : j = o.m := by omega
                      have E := Lib.hid (hB.mn.less (X' := fun _ => False) fun g h => h.elim)
                      clear hB hx
                      go_wp2
                      go_meet
                      case rel => exact ⟨rfl, us, L', hus'.out, E.out⟩
            · have d0 : (o.kind == 0) = false := by simpa using k0
              clear k0
              by_cases k1 : o.kind = 1
              · have d1 : (o.kind == 1) = true := by simpa using k1
                clear k1
                as_aux_lemma =>
                  have e3 := (at_box M0.out).2.2.2.1
                  have QT := m_take M0.out o.k
                  have QX : Hid (∀ T w', Mn w q d ob P o us us (outS L o.k) L T w' → Calls Try.prog 12 #[.pointer (some ⟨d, 0, none⟩), .int .i64 o.k] w' fun e w'' => e = .returned (.tuple #[am (tkR us L o.k).1, .int .i64 (tkR us L o.k).2]) ∧ Mn w q d ob P o us us (outS L o.k) (outS L o.k) T w'' ∧ ∀ g, T g → w''.heap[g]? = w'.heap[g]?) := fun T w' h => x_take h o.k
                  generalize tkR us L o.k = r at *
                  generalize outS L o.k = L' at *
                  obtain ⟨m, cd⟩ := r
                  simp only at QT QX
                  unfold am at QX
                  have q9 : ∀ x : Int, (x != x) = false := fun x => by simp
                  replace QT := Lib.hid QT
                  clear M0 ROK hm60
                  go_wp2_with fail
                  refine QT.out.mono ?_
                  rintro e w6 ⟨A5, c5, rfl, T, R5, hM⟩
                  have e3' := (at_box hM).2.2.2.1
                  have QX6 := Lib.hid (QX.out T w6 hM)
                  replace R5 := Lib.hid R5
                  have hT := Lib.hid hM.xlt
                  clear QT QX e3 hM
                  go_wp2_with fail
                  refine QX6.out.mono ?_
                  rintro e w7 ⟨rfl, hM, kx⟩
                  have R7 := R5.out.keep (w' := w7) (T' := T) (fun g hg => kx g hg) (fun _ h => h)
                  have ba : Below w7.heap.size w7 (w7.alloc (.cells #[.int .i64 m.fr, .int .i64 m.to_, .string (str m.tx)] 40)) := (Below.refl _ _).alloc (Nat.le_refl _) _
                  have sv : (convert 32 9 (.slice A5 m.tx.length c5)).run Try.prog (w7.alloc (.cells #[.int .i64 m.fr, .int .i64 m.to_, .string (str m.tx)] 40)) = .ok (.string (str m.tx)) (w7.alloc (.cells #[.int .i64 m.fr, .int .i64 m.to_, .string (str m.tx)] 40)) := str_run (R7.keep (T' := T) (fun g hg => ba.block g (hM.xlt g hg)) (fun _ h => h))
                  have E := Lib.hid ((hM.less (X' := fun _ => False) fun g h => h.elim).below ba)
                  clear QX6 hM kx R7 R5 e3' ba hT
                  go_wp2
                  go_meet
                  case rel => exact ⟨rfl, us, L', hus'.out, E.out⟩
              · have d1 : (o.kind == 1) = false := by simpa using k1
                clear k1
                by_cases k2 : o.kind = 2
                · have d2 : (o.kind == 2) = true := by simpa using k2
                  clear k2
                  as_aux_lemma =>
                    have QD : Hid (∀ L2 w', Mn w q d ob P o us us L L2 (fun _ => False) w' → Calls Try.prog 13 #[.pointer (some ⟨q, 0, none⟩), .int .i64 o.k] w' fun e w'' => e = .returned (.int .i64 (dblC P L o.k)) ∧ Mn w q d ob P o us us (dblS P L o.k) L2 (fun _ => False) w'') := fun L2 w' h => m_double h o.k
                    have QX : Hid (∀ L1 w', Mn w q d ob P o us us L1 L (fun _ => False) w' → Calls Try.prog 14 #[.pointer (some ⟨d, 0, none⟩), .int .i64 o.k] w' fun e w'' => e = .returned (.int .i64 (dblC P L o.k)) ∧ Mn w q d ob P o us us L1 (dblS P L o.k) (fun _ => False) w'') := fun L1 w' h => x_double h o.k
                    have SA : Hid (∀ L1 L2 w', Mn w q d ob P o us us L1 L2 (fun _ => False) w' → w'.cell? ⟨ob, 3, none⟩ = some (.int .i64 o.k)) := fun L1 L2 w' h => (at_box h).2.2.2.1
                    have m0 := M0.out.drew
                    have s0 := SA.out _ _ _ m0
                    generalize dblC P L o.k = er at *
                    generalize dblS P L o.k = L' at *
                    have q9 : (er != er) = false := by simp
                    clear M0 ROK hm60
                    go_wp2_with fail
                    go_region_held3 (fun w' => w'.cell? ⟨ob, 3, none⟩ = some (.int .i64 o.k)) (first | assumption | exact s0 | go_keep)
                      ((first
                        | (go_at_call 13; refine (QD.out _ _ (by assumption)).mono ?_; rintro e w6 ⟨rfl, hM⟩; have sr := SA.out _ _ _ hM)
                        | (go_at_call 14; refine (QX.out _ _ (by assumption)).mono ?_; rintro e w6 ⟨rfl, hM⟩; have sr := SA.out _ _ _ hM)))
                    all_goals
                      go_wp2
                      go_meet
                      case rel => exact ⟨rfl, us, L', hus'.out, by assumption⟩
                · have d2 : (o.kind == 2) = false := by simpa using k2
                  clear k2
                  by_cases k3 : o.kind = 3
                  · have d3 : (o.kind == 3) = true := by simpa using k3
                    clear k3
                    as_aux_lemma =>
                      have QD : Hid (∀ L2 w', Mn w q d ob P o us us L L2 (fun _ => False) w' → Calls Try.prog 15 #[.pointer (some ⟨q, 0, none⟩), .int .i64 o.k] w' fun e w'' => e = .returned (.int .i64 (dropC L o.k)) ∧ Mn w q d ob P o us us (outS L o.k) L2 (fun _ => False) w'') := fun L2 w' h => m_drop h o.k
                      have QX : Hid (∀ L1 w', Mn w q d ob P o us us L1 L (fun _ => False) w' → Calls Try.prog 16 #[.pointer (some ⟨d, 0, none⟩), .int .i64 o.k] w' fun e w'' => e = .returned (.int .i64 (dropC L o.k)) ∧ Mn w q d ob P o us us L1 (outS L o.k) (fun _ => False) w'') := fun L1 w' h => x_drop h o.k
                      have SA : Hid (∀ L1 L2 w', Mn w q d ob P o us us L1 L2 (fun _ => False) w' → w'.cell? ⟨ob, 3, none⟩ = some (.int .i64 o.k)) := fun L1 L2 w' h => (at_box h).2.2.2.1
                      have m0 := M0.out.drew
                      have s0 := SA.out _ _ _ m0
                      generalize dropC L o.k = er at *
                      generalize outS L o.k = L' at *
                      have q9 : (er != er) = false := by simp
                      clear M0 ROK hm60
                      go_wp2_with fail
                      go_region_held3 (fun w' => w'.cell? ⟨ob, 3, none⟩ = some (.int .i64 o.k)) (first | assumption | exact s0 | go_keep)
                        ((first
                          | (go_at_call 15; refine (QD.out _ _ (by assumption)).mono ?_; rintro e w6 ⟨rfl, hM⟩; have sr := SA.out _ _ _ hM)
                          | (go_at_call 16; refine (QX.out _ _ (by assumption)).mono ?_; rintro e w6 ⟨rfl, hM⟩; have sr := SA.out _ _ _ hM)))
                      all_goals
                        go_wp2
                        go_meet
                        case rel => exact ⟨rfl, us, L', hus'.out, by assumption⟩
                  · have d3 : (o.kind == 3) = false := by simpa using k3
                    clear k3
                    as_aux_lemma =>
                      have QU := m_up M0.out o.to_ o.up
                      unfold upC upS at QU
                      by_cases hnode : node us.length o.to_ = true
                      · rw [if_pos hnode, if_pos hnode] at QU
                        obtain ⟨t, ht⟩ : ∃ t : Nat, o.to_ = t := ⟨o.to_.toNat, by have := (node_iff.1 hnode).1; omega⟩
                        have e2 := (at_box M0.out).2.2.1
                        have e5 := (at_box M0.out).2.2.2.2.2
                        have htu : t < us.length := by have := (node_iff.1 hnode).2; omega
                        rw [show o.to_.toNat = t from by omega] at QU
                        have BX : Hid (∀ us1 us2 L1 L2 w', Mn w q d ob P o us1 us2 L1 L2 (fun _ => False) w' → w'.cell? ⟨ob, 2, none⟩ = some (.int .i64 (t : Int)) ∧ w'.cell? ⟨ob, 5, none⟩ = some (.bool o.up)) := fun us1 us2 L1 L2 w' h => ⟨by rw [← ht]; exact (at_box h).2.2.1, (at_box h).2.2.2.2.2⟩
                        have MK : Hid (∀ w', Mn w q d ob P o (us.set t o.up) us L L (fun _ => False) w' → ∃ b, w'.cell? ⟨d, 3 + t, none⟩ = some (.bool b) ∧ w'.frozen? ⟨d, 3 + t, none⟩ = false ∧ Mn w q d ob P o (us.set t o.up) (us.set t o.up) L L (fun _ => False) (w'.setCell ⟨d, 3 + t, none⟩ (.bool !o.up))) := fun w' h => ⟨_, h.mark htu o.up⟩
                        rw [ht] at QU e2
                        replace QU := Lib.hid QU
                        have hN := hus'.out
                        have i1' : (t : Int) < (N : Int) := by omega
                        have i2' : (0 : Int) ≤ (t : Int) := by omega
                        have i4' : (t : Int) < 16 := by have := hN16.out; omega
                        have hus2 : Hid ((us.set t o.up).length = N) := by show _ = _; rw [List.length_set]; exact hN
                        generalize us.set t o.up = us' at *
                        clear M0 ROK hm60 hnode ht htu hN
                        go_wp2_with fail
                        refine QU.out.mono ?_
                        rintro e w6 ⟨rfl, hM⟩
                        have bx := BX.out _ _ _ _ _ hM
                        have s2 := bx.1
                        have s5 := bx.2
                        obtain ⟨b, mc, mf, _⟩ := MK.out _ hM
                        have E := Lib.hid (MK.out _ hM.drew).choose_spec.2.2
                        clear QU hM bx BX MK e2 e5
                        go_upto_region 18 with fail
                        go_region
                        go_wp2
                        go_meet
                        case rel => exact ⟨rfl, us', L, hus2.out, E.out⟩
                      · rw [if_neg hnode, if_neg hnode] at QU
                        replace QU := Lib.hid QU
                        have e2 := (at_box M0.out).2.2.1
                        have e5 := (at_box M0.out).2.2.2.2.2
                        have BX : Hid (∀ w', Mn w q d ob P o us us L L (fun _ => False) w' → w'.cell? ⟨ob, 2, none⟩ = some (.int .i64 o.to_)) := fun w' h => (at_box h).2.2.1
                        have hN := hus'.out
                        have hno : ¬ (0 ≤ o.to_ ∧ o.to_ < (N : Int)) := fun h => hnode (node_iff.2 (by rw [hN]; exact h))
                        by_cases ht : 0 ≤ o.to_
                        · have t1 : decide (0 ≤ o.to_) = true := decide_eq_true ht
                          have t2 : decide (o.to_ < (N : Int)) = false := decide_eq_false (fun h => hno ⟨ht, h⟩)
                          clear M0 ROK hm60 hnode hN hno ht
                          go_wp2_with fail
                          refine QU.out.mono ?_
                          rintro e w6 ⟨rfl, hM⟩
                          have s2 := BX.out _ hM
                          replace hM := Lib.hid hM
                          clear QU BX e2 e5
                          go_wp2
                          go_meet
                          case rel => exact ⟨rfl, us, L, hus'.out, hM.out⟩
                        · have t1 : decide (0 ≤ o.to_) = false := decide_eq_false ht
                          clear M0 ROK hm60 hnode hN hno ht
                          go_wp2_with fail
                          refine QU.out.mono ?_
                          rintro e w6 ⟨rfl, hM⟩
                          have s2 := BX.out _ hM
                          replace hM := Lib.hid hM
                          clear QU BX e2 e5
                          go_wp2
                          go_meet
                          case rel => exact ⟨rfl, us, L, hus'.out, hM.out⟩
          case rest =>
            obtain ⟨rfl, us', L', hus', hM⟩ := hcut
            replace hus' := Lib.hid hus'
            replace hM := Lib.hid hM
            clear M0 hm60 ROK
            as_aux_lemma =>
              obtain ⟨⟨A1, c1, k2, _⟩, _, _, _, _, _⟩ := hM.out.reads
              have LN : Hid (∀ W', Mn w q d ob P o us' us' L' L' (fun _ => False) W' → Calls Try.prog 18 #[.pointer (some ⟨q, 0, none⟩)] W' (fun e w' => e = .returned (.int .i64 (L'.length : Nat)) ∧ W' = w')) := fun W' h => h.reads.2.2.2.1
              have TO : Hid (∀ W', Mn w q d ob P o us' us' L' L' (fun _ => False) W' → ∀ z, Calls Try.prog 19 #[.pointer (some ⟨q, 0, none⟩), .int .i64 z] W' (fun e w' => e = .returned (.int .i64 (toE L' z)) ∧ W' = w')) := fun W' h => h.reads.2.2.2.2.1
              have IS : Hid (∀ W', Mn w q d ob P o us' us' L' L' (fun _ => False) W' → ∀ z, Calls Try.prog 20 #[.pointer (some ⟨q, 0, none⟩), .int .i64 z] W' (fun e w' => e = .returned (.bool (upE us' z)) ∧ W' = w')) := fun W' h => h.reads.2.2.2.2.2
              have RW : Hid (∀ W', Mn w q d ob P o us' us' L' L' (fun _ => False) W' → ∃ A c, W'.cell? ⟨d, 2, none⟩ = some (.slice A L'.length c) ∧ (0 < L'.length → ∃ g, A = some ⟨g, 0, none⟩ ∧ g < W'.heap.size ∧ ∀ j, j < L'.length → W'.cell? ⟨g, j * 3 + 1, none⟩ = some (.int .i64 (mt L' j).to_))) := fun W' h => h.reads.1
              have DN : Hid (∀ W', Mn w q d ob P o us' us' L' L' (fun _ => False) W' → ∀ (j : Nat) (b : Bool), us'[j]? = some b → W'.cell? ⟨d, 3 + j, none⟩ = some (.bool !b)) := fun W' h => h.reads.2.2.1
              have few : Hid (L'.length ≤ 4096) := Nat.le_trans hM.out.few.1 hM.out.few.2
              have m0 := hM.out.drew
              obtain ⟨m, hm⟩ : ∃ m, m = L'.length := ⟨_, rfl⟩
              rw [← hm] at k2 few
              have LN2 := LN
              rw [← hm] at LN2
              have i9 : (m : Int) ≤ 4096 := by have := few.out; omega
              have r4 : ((m : Int) != (m : Int)) = false := by simp
              go_upto_region 38 with fail
              go_cut [225] from 218 to 225 (fun s225 wx => s225 = .bool false ∧ Mn w q d ob P o us' us' L' L' (fun _ => False) wx)
              case first =>
                go_region_held3 (fun w' => w'.cell? ⟨d, 2, none⟩ = some (.slice A1 m c1)) (first | assumption | exact k2 | go_keep)
                  ((first
                    | (go_at_call 18; refine (LN2.out _ (by assumption)).mono ?_; rintro e w6 ⟨rfl, rfl⟩)))
                all_goals
                  go_wp2
                  go_meet
                  case rel => exact ⟨by simp, by assumption⟩
              case rest =>
                obtain ⟨rfl, hM2⟩ := hcut
                have st : Hid (ToAt w q d ob P o us' L' (.int .i64 (-1)) wc) := ⟨-1, rfl, by omega, by omega, hM2⟩
                clear hM2 m0 k2 hM LN LN2
                go_wp2_with fail
                go_loopw [21] (fun i wr => ToAt w q d ob P o us' L' i wr) (fun i _ => ((m : Int) + 1 - intOf i).toNat)
                case atStart => exact st.out
                case round =>
                  clear st
                  obtain ⟨z, rfl, hz1, hz2, hM⟩ := hrel
                  obtain ⟨A2, c2, k2, hrow⟩ := RW.out _ hM
                  have TOz := TO.out _ hM z
                  rw [← hm] at hz2 k2 hrow
                  by_cases hz : z ≤ (m : Int)
                  · have dz : decide (z ≤ (m : Int)) = true := decide_eq_true hz
                    have nx : Hid (ToAt w q d ob P o us' L' (.int .i64 (z + 1)) wr) := ⟨z + 1, rfl, by omega, by rw [← hm]; omega, hM⟩
                    replace hm := Lib.hid hm
                    by_cases h0 : 0 ≤ z
                    · by_cases h1 : z < (m : Int)
                      · obtain ⟨j, rfl⟩ : ∃ j : Nat, z = j := ⟨z.toNat, by omega⟩
                        obtain ⟨g, rfl, _, hcell⟩ := hrow (by omega)
                        have cz := hcell j (by omega)
                        rw [show toE L' (j : Int) = (mt L' j).to_ from by unfold toE; rw [if_pos (node_iff.2 ⟨h0, by rw [← hm.out]; exact h1⟩), show ((j : Int)).toNat = j from by omega]] at TOz
                        generalize (mt L' j).to_ = tv at *
                        have q9 : (tv != tv) = false := by simp
                        replace TOz := Lib.hid TOz
                        clear hM hcell hrow
                        go_wp2_with fail
                        refine TOz.out.mono ?_
                        rintro e w6 ⟨rfl, rfl⟩
                        clear TOz
                        go_wp2
                        exact ⟨nx.out, by simp [intOf]; omega⟩
                      · have dz2 : decide (z < (m : Int)) = false := decide_eq_false h1
                        have dz3 : decide (0 ≤ z) = true := decide_eq_true h0
                        rw [show toE L' z = -1 from by unfold toE; rw [if_neg (fun h => h1 (by have := (node_iff.1 h).2; rw [← hm.out] at this; exact this))]] at TOz
                        replace TOz := Lib.hid TOz
                        clear hM hrow
                        go_wp2_with fail
                        refine TOz.out.mono ?_
                        rintro e w6 ⟨rfl, rfl⟩
                        clear TOz
                        go_wp2
                        exact ⟨nx.out, by simp [intOf]; omega⟩
                    · have dz3 : decide (0 ≤ z) = false := decide_eq_false h0
                      rw [show toE L' z = -1 from by unfold toE; rw [if_neg (fun h => h0 (node_iff.1 h).1)]] at TOz
                      replace TOz := Lib.hid TOz
                      clear hM hrow
                      go_wp2_with fail
                      refine TOz.out.mono ?_
                      rintro e w6 ⟨rfl, rfl⟩
                      clear TOz
                      go_wp2
                      exact ⟨nx.out, by simp [intOf]; omega⟩
                  · have dz : decide (z ≤ (m : Int)) = false := decide_eq_false hz
                    have st : Hid (IsAt w q d ob P o us' L' (.int .i64 0) wr) := ⟨0, rfl, Nat.zero_le _, hM⟩
                    have NX : Hid (∀ W', Mn w q d ob P o us' us' L' L' (fun _ => False) W' → PlAt w q d N P n (.int .i64 ((k : Int) + 1)) W') := fun W' h => ⟨k + 1, us', L', by simp, hk1.out, hk2.out, hus'.out, h.leave⟩
                    clear hM hrow TOz TO RW hm
                    go_wp2_with fail
                    go_loopw [23] (fun i wr => IsAt w q d ob P o us' L' i wr) (fun i _ => N - (intOf i).toNat)
                    case atStart => exact st.out
                    case round =>
                      clear st
                      obtain ⟨j, rfl, hj, hM⟩ := hrel
                      rw [hus'.out] at hj
                      by_cases hjn : j < N
                      · have j1 : (j : Int) < (N : Int) := by omega
                        have j2 : (0 : Int) ≤ (j : Int) := by omega
                        have j3 : (j : Int) < 16 := by have := hN16.out; omega
                        obtain ⟨b, hb⟩ : ∃ b, us'[j]? = some b := ⟨_, List.getElem?_eq_getElem (by have := hus'.out; omega)⟩
                        have s0 := DN.out _ hM j b hb
                        have IS2 : Hid (∀ W', Mn w q d ob P o us' us' L' L' (fun _ => False) W' → Calls Try.prog 20 #[.pointer (some ⟨q, 0, none⟩), .int .i64 (j : Int)] W' (fun e w' => e = .returned (.bool b) ∧ W' = w')) := fun W' h => by
                          have := IS.out W' h (j : Int)
                          rwa [show upE us' (j : Int) = b from by unfold upE; rw [show node us'.length (j : Int) = true from node_iff.2 ⟨j2, by rw [hus'.out]; exact j1⟩, Bool.true_and, show ((j : Int)).toNat = j from by omega, hb]; rfl] at this
                        have m0 := hM.drew
                        have bb : (b == !b) = false := by cases b <;> rfl
                        clear hM
                        go_upto_region 51 with fail
                        go_cut [273] from 264 to 273 (fun s273 wx => s273 = .bool false ∧ Mn w q d ob P o us' us' L' L' (fun _ => False) wx)
                        case first =>
                          go_region_held3 (fun w' => w'.cell? ⟨d, 3 + j, none⟩ = some (.bool !b)) (first | assumption | exact s0 | go_keep)
                            ((first
                              | (go_at_call 20; refine (IS2.out _ (by assumption)).mono ?_; rintro e w6 ⟨rfl, rfl⟩)))
                          all_goals
                            go_wp2
                            go_meet
                            case rel => exact ⟨by simp, by assumption⟩
                        case rest =>
                          obtain ⟨rfl, hM2⟩ := hcut
                          have nx : Hid (IsAt w q d ob P o us' L' (.int .i64 ((j : Int) + 1)) wc) := ⟨j + 1, by simp, by rw [hus'.out]; omega, hM2⟩
                          clear hM2 m0 s0 IS2
                          go_wp2
                          exact ⟨nx.out, by simp [intOf]; omega⟩
                      · have dj : decide ((j : Int) < (N : Int)) = false := decide_eq_false (by omega)
                        have nx := Lib.hid (NX.out _ hM)
                        clear hM
                        go_wp2
                        exact ⟨nx.out, by have := hk1.out; simp [intOf]; omega⟩
      · have V : ∃ X, Ln w wr q P us L X := by
          obtain ⟨ds, v, V, _⟩ := hP
          exact ⟨_, V⟩
        obtain ⟨X, V⟩ := V
        have u1 : upE us (-1) = false := rfl
        have u2 : upE us (N : Int) = false := by
          unfold upE
          rw [show node us.length (N : Int) = false from by simp [node]; omega]
          rfl
        have I1 : Hid (∀ W', Below wr.heap.size wr W' → Calls Try.prog 20 #[.pointer (some ⟨q, 0, none⟩), .int .i64 (-1)] W' (fun e w' => e = .returned (.bool false) ∧ W' = w') ∧ Calls Try.prog 20 #[.pointer (some ⟨q, 0, none⟩), .int .i64 (N : Int)] W' (fun e w' => e = .returned (.bool false) ∧ W' = w')) := fun W' hb => by
          have h1 := ln_is (V.below hb) (-1)
          have h2 := ln_is (V.below hb) (N : Int)
          rw [u1] at h1
          rw [u2] at h2
          exact ⟨h1, h2⟩
        replace BE := Lib.hid BE
        by_cases hk : k < n
        · have i1 : (k : Int) < (n : Int) := by omega
          have i2 : decide ((k : Int) < 80) = false := decide_eq_false (by omega)
          clear hlt hk hkn hk80 S hP V u1 u2
          go_wp2_with fail
          refine (TA.out _).mono ?_
          rintro e w2 ⟨rfl, hb⟩
          have b2 : Hid (Below w.heap.size w w2) := BE.out.trans (hb.mono BE.out.size)
          obtain ⟨I2, I3⟩ := I1.out _ hb
          replace I2 := Lib.hid I2
          replace I3 := Lib.hid I3
          clear hb I1
          go_wp2_with fail
          refine I2.out.mono ?_
          rintro e w3 ⟨rfl, rfl⟩
          clear I2
          go_wp2_with fail
          refine I3.out.mono ?_
          rintro e w3 ⟨rfl, rfl⟩
          clear I3
          go_wp2
          go_ret
          exact ⟨rfl, b2.out⟩
        · have i1 : decide (k < n) = false := decide_eq_false (by omega)
          clear hlt hk hkn hk80 S hP V u1 u2
          go_wp2_with fail
          refine (TA.out _).mono ?_
          rintro e w2 ⟨rfl, hb⟩
          have b2 : Hid (Below w.heap.size w w2) := BE.out.trans (hb.mono BE.out.size)
          obtain ⟨I2, I3⟩ := I1.out _ hb
          replace I2 := Lib.hid I2
          replace I3 := Lib.hid I3
          clear hb I1
          go_wp2_with fail
          refine I2.out.mono ?_
          rintro e w3 ⟨rfl, rfl⟩
          clear I2
          go_wp2_with fail
          refine I3.out.mono ?_
          rintro e w3 ⟨rfl, rfl⟩
          clear I3
          go_wp2
          go_ret
          exact ⟨rfl, b2.out⟩
  · have N0 := Lib.hid (new_no w nodes most (by simpa using h0))
    have nok : ¬ (1 ≤ nodes ∧ nodes ≤ 16 ∧ 0 ≤ most ∧ most ≤ 4096) := fun h => h0 (newOk_iff.2 ⟨⟨⟨h.1, h.2.1⟩, h.2.2.1⟩, h.2.2.2⟩)
    cases e1 : decide (nodes < 1) with
    | true =>
      clear h0 nok S hnc hcm
      go_enter Try.func3, Try.ntmps3
      go_wp2_with fail
      refine N0.out.mono ?_
      rintro e w1 ⟨rfl, rfl⟩
      clear N0
      go_wp2_with fail
      refine (TA.out _).mono ?_
      rintro e w2 ⟨rfl, hb⟩
      replace hb := Lib.hid hb
      go_wp2
      go_ret
      exact ⟨rfl, hb.out⟩
    | false =>
      cases e2 : decide (16 < nodes) with
      | true =>
        clear h0 nok S hnc hcm
        go_enter Try.func3, Try.ntmps3
        go_wp2_with fail
        refine N0.out.mono ?_
        rintro e w1 ⟨rfl, rfl⟩
        clear N0
        go_wp2_with fail
        refine (TA.out _).mono ?_
        rintro e w2 ⟨rfl, hb⟩
        replace hb := Lib.hid hb
        go_wp2
        go_ret
        exact ⟨rfl, hb.out⟩
      | false =>
        cases e3 : decide (most < 0) with
        | true =>
          clear h0 nok S hnc hcm
          go_enter Try.func3, Try.ntmps3
          go_wp2_with fail
          refine N0.out.mono ?_
          rintro e w1 ⟨rfl, rfl⟩
          clear N0
          go_wp2_with fail
          refine (TA.out _).mono ?_
          rintro e w2 ⟨rfl, hb⟩
          replace hb := Lib.hid hb
          go_wp2
          go_ret
          exact ⟨rfl, hb.out⟩
        | false =>
          have n1 := of_decide_eq_false e1
          have n2 := of_decide_eq_false e2
          have n3 := of_decide_eq_false e3
          have e4 : decide (4096 < most) = true := decide_eq_true (by omega)
          clear n1 n2 n3
          clear h0 nok S hnc hcm
          go_enter Try.func3, Try.ntmps3
          go_wp2_with fail
          refine N0.out.mono ?_
          rintro e w1 ⟨rfl, rfl⟩
          clear N0
          go_wp2_with fail
          refine (TA.out _).mono ?_
          rintro e w2 ⟨rfl, hb⟩
          replace hb := Lib.hid hb
          go_wp2
          go_ret
          exact ⟨rfl, hb.out⟩
theorem walkd (nodes : Int) (_hi : (Lit.int .i64 nodes).wf = true) (most : Int) (_ha : (Lit.int .i64 most).wf = true) (v2 : Value) (a2 : List Stp) {W : World} (w2 : Osrc W v2 a2) (W' : World) (hW : W' = W) :
    Calls Try.prog 3 #[.int .i64 nodes, .int .i64 most, v2] W' fun e w' => e = .returned (.bool true) ∧ Below W'.heap.size W' w' := by
  subst hW
  obtain ⟨A, n, c, rfl, h1, h2, R⟩ := w2
  exact walk nodes most A n c a2 W' R h1 h2

/-! The row: every input. -/
set_option linter.unusedVariables false
set_option maxRecDepth 100000 in
theorem lifted (os : Os) (started : os.Started) (H : Type) (enc : TypeId × Value → H) :
    ReturnsInHanded {} Try.checked os 3 .any (Rows.netPlaysSpec.pre6 enc Try.prog Try.f3 Rows.netPlaysRow.domain false) (Rows.netPlaysSpec.post enc Try.prog Try.f3 false true false false) := by
  refine returnsInHanded_of_change (C := Try.checked) own started (by kernel_rfl) Try.func3
    (ChangeSpec.witness6 (enc := enc) (C := Try.checked) false ⟨#[], #[.int .i64 0, .int .i64 0, .slice none 0 0], []⟩ 8 (by kernel_rfl) (by kernel_rfl) (by kernel_rfl) (by kernel_rfl)) ?_
  intro W base args ds gs before hval0 hW _ _
  have hval : ∀ (j : Nat) t v, Try.f3.params[j]? = some t → args[j]? = some v → Value.okWide Try.prog W .any base t v := hval0
  have hW' := hW
  obtain ⟨p, q, hA0, hV, rfl, hfz, hnd⟩ := hW
  have hA : DataW.TrodAll enc Try.prog W 0 (fun _ => true) true Try.f3.params.toList args.toList ds p := hA0
  rw [Try.params3] at hA hval
  obtain ⟨v0, vs0, d0, ds0, p0, q0, hargs, rfl, rfl, h0, r0⟩ := trodAll_cons hA
  obtain ⟨v1, vs1, d1, ds1, p1, q1, rfl, rfl, rfl, h1, r1⟩ := trodAll_cons r0
  obtain ⟨v2, vs2, d2, ds2, p2, q2, rfl, rfl, rfl, h2, r2⟩ := trodAll_cons r1
  obtain ⟨rfl, rfl, rfl⟩ := trodAll_nil r2
  obtain rfl : args = #[v0, v1, v2] := by cases args; simp_all
  obtain ⟨rfl, rfl⟩ := trodVars_none hV
  obtain ⟨a0, rfl, rfl, rfl, w0⟩ := open_int Try.underlying3 (hval 0 3 v0 rfl rfl) h0
  obtain ⟨a1, rfl, rfl, rfl, w1⟩ := open_int Try.underlying3 (hval 1 3 v1 rfl rfl) h1
  obtain ⟨a2, w2⟩ := view_ops (hval 2 22 v2 rfl rfl) h2
  clear hA0 hval0
  simp only [List.append_nil] at hW'
  refine (walkd a0 w0 a1 w1 v2 a2 w2 W rfl).mono fun e W' ⟨he, hb⟩ => ?_
  subst he
  exact ⟨_, rfl, post_below (pa := [] ++ ([] ++ (p2 ++ []))) (pv := []) hW' (fun _ _ _ => (trodAll_cons_mk (shut_bool Try.underlying4 _) trodAll_mk0)) (fun sp hsp => (trodAll_cons_mk (shut_int Try.underlying3 w0) (trodAll_cons_mk (shut_int Try.underlying3 w1) (trodAll_cons_mk (Trod_stays laidOut (by kernel_rfl) (of_decide_eq_true (by kernel_rfl)) h2 (fun x hx => hb.same (hW'.lt x (by simp [hx]))) (fun x hx => hsp x (by simp [hx]))) trodAll_mk0)))) (fun _ _ => rfl) (by simp)
    hb (ok_one (by kernel_rfl) rfl (okWide_bool_mk Try.underlying4 _))⟩

theorem proved : Rows.NetPlaysSaid :=
  OpenClaim.holds_of_wide 3 Try.f3 rfl rfl rfl rfl rfl rfl rfl ⟨rfl, rfl, rfl, rfl, rfl⟩ rfl rfl rfl rfl rfl (by kernel_rfl) Try.func3 (by kernel_rfl)
    (of_decide_eq_true (by kernel_rfl)) (by unfold Func.isWrapper; first | (rw [if_pos (by decide +kernel)]; kernel_rfl) | (rw [if_neg (by decide +kernel)]; exact ⟨rfl, rfl⟩))
    (fun os started H enc _ => lifted os started H enc)
#print axioms proved

end Go.Proofs.Ytenlblembdnniaa.netPlays
