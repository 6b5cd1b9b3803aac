/- Part of the claim: LwFTimes -/
import Derived.Deep.CutRange
import Derived.Sort.OwnSorted
import Derived.Test.YtpkdigegkemogaaGreatDoorFoXdT
namespace Go.Proofs.YtpkdigegkemogaaGreatDoor.foldTimes
set_option maxRecDepth 100000
open Go.RowKit
open Go.Proofs.YtpkdigegkemogaaGreatDoor.Pk (one_at one_free one_set lt_some Copied)
open Go.Proofs.YtpkdigegkemogaaGreatDoor.Re (Rec rcc rcv r0 o0 BoxR wpList_rload wpList_rload_g wpList_rstore rec_size)
open Go.Proofs.YtpkdigegkemogaaGreatDoor.Fo
open Go.Proofs.YtpkdigegkemogaaGreatDoor.Ho (ans isNew asked hbts)
open Go.Proofs.YtpkdigegkemogaaGreatDoor.Wt (Opn mayOp)
open Go.Proofs.YtpkdigegkemogaaGreatDoor.Pl (wpList_store_row setRow_below)

theorem conf_size : (Tryz.prog.info? 29).map (·.size) = some 10 := by kernel_rfl
def At1 (w : World) (kc d nn : Nat) (n : Int) (v t i : Value) (wr : World) : Prop :=
  ∃ (k : Nat) (nw : Int) (s : Ho.S) (gl : List Rec), t = .int .i64 nw ∧ i = .int .i64 (k : Int) ∧ 0 ≤ nw ∧ nw ≤ 49 * (k : Int) ∧ k ≤ nn ∧ k ≤ 20 ∧ gl.length = k ∧ Tr w d n kc (s, gl) v wr ∧ apl (apH 40 0) Ho.sz gl = some s ∧ Fresh s k
set_option maxHeartbeats 12800000 in
theorem walk (P : PrgT) (w : World) (ht : P.tb w) (A : Option Addr) (nn c : Nat) (l : List Int) (hnc : nn ≤ c) (hc : c ≤ 9223372036854775807) (R : Zin w A nn l) (a1 : Int) :
    Calls Tryz.prog 3 #[.slice A nn c, .int .i64 a1] w fun e w' => e = .returned (.bool true) ∧ Below w.heap.size w w' := by
  obtain ⟨n, hnd⟩ : ∃ z : Int, z = usm a1 3 := ⟨_, rfl⟩
  have n3 : Hid (0 ≤ n ∧ n ≤ 2) := by have := usm_lt a1 (n := 3) (by omega); show _ ∧ _; omega
  have nx : wrap64 ((IntKind.u64.wrap a1).tmod 3) = n := by rw [hnd]; exact usm_slot a1 (n := 3) (by omega) (by omega)
  clear hnd
  have hlen := R.len
  have hl : Hid (l.length = nn ∧ nn ≤ c ∧ c ≤ 9223372036854775807) := ⟨hlen, hnc, hc⟩
  have hR : Hid (Zin w A nn l) := R
  have htb : Hid (P.tb w) := ht
  clear R hlen hnc hc ht
  go_enter Tryz.func3, Tryz.ntmps3
  go_upto_region 3 with (refine wpList_store_row rfl 29 (.tmp 6) (.tmp 28) rfl w.heap.size #[.int .i64 40, .int .i64 0, .int .i64 40, .int .i64 0, .int .i64 40, .int .i64 0, .int .i64 0, .int .i64 0, .int .i64 0, .int .i64 0] rfl rfl 29 _ (heap_alloc_new _ _) conf_size rfl (by simp [Value.oneCell']) ?_)
  obtain ⟨w1, e1⟩ : ∃ z, z = (w.alloc (.cells #[.int .i64 0, .int .i64 0, .int .i64 0, .int .i64 0, .int .i64 0, .int .i64 0, .int .i64 0, .int .i64 0, .int .i64 0, .int .i64 0] 29)).setRow w.heap.size #[.int .i64 40, .int .i64 0, .int .i64 40, .int .i64 0, .int .i64 40, .int .i64 0, .int .i64 0, .int .i64 0, .int .i64 0, .int .i64 0] := ⟨_, rfl⟩
  rw [← e1]
  have b1 : Hid (Below w.heap.size w w1) := by rw [e1]; exact ((Below.refl _ _).alloc (Nat.le_refl _) _).trans (setRow_below _ (Nat.le_refl _))
  have c1 : Hid (w1.heap[w.heap.size]? = some (.cells cf40 29 (0, 0))) := by rw [e1]; exact setRow_heap _ _ _ _ _ _ (heap_alloc_new _ _)
  clear e1
  have d0 : w1.cell? ⟨w.heap.size, 0, none⟩ = some (.int .i64 40) := one_at c1.out
  have d1 : w1.cell? ⟨w.heap.size, 1, none⟩ = some (.int .i64 0) := one_at c1.out
  have d2 : w1.cell? ⟨w.heap.size, 2, none⟩ = some (.int .i64 40) := one_at c1.out
  have d3 : w1.cell? ⟨w.heap.size, 3, none⟩ = some (.int .i64 0) := one_at c1.out
  have d4 : w1.cell? ⟨w.heap.size, 4, none⟩ = some (.int .i64 40) := one_at c1.out
  have d5 : w1.cell? ⟨w.heap.size, 5, none⟩ = some (.int .i64 0) := one_at c1.out
  have d6 : w1.cell? ⟨w.heap.size, 6, none⟩ = some (.int .i64 0) := one_at c1.out
  have d7 : w1.cell? ⟨w.heap.size, 7, none⟩ = some (.int .i64 0) := one_at c1.out
  have d8 : w1.cell? ⟨w.heap.size, 8, none⟩ = some (.int .i64 0) := one_at c1.out
  have d9 : w1.cell? ⟨w.heap.size, 9, none⟩ = some (.int .i64 0) := one_at c1.out
  have lk := lt_some c1.out
  have NW := Lib.hid (newst_any w1 n n3.out.1 n3.out.2)
  go_wp2_with fail
  refine NW.out.mono ?_
  rintro e w2 ⟨d, rfl, hd, S, b2⟩
  have O0 : Ho.Ok 40 0 Ho.sz := ⟨St.ok_z (by decide) (by decide) (by decide) (by decide), Tb.ok_z⟩
  have T2 : Hid (Tr w d n w.heap.size (Ho.sz, []) (.slice none 0 0) w2) := ⟨b1.out.trans (b2.mono b1.out.size), S, O0, World.ownsRow_nil _ _ _ _, by simp [Value.ownBlock], (b2.block _ (lt_some c1.out)).trans c1.out, Nat.le_refl _, Nat.le_trans b1.out.size hd, by have := lt_some c1.out; omega⟩
  have st : Hid (At1 w w.heap.size d nn n (.slice none 0 0) (.int .i64 0) (.int .i64 0) w2) := ⟨0, 0, Ho.sz, [], rfl, rfl, by omega, by omega, by omega, by omega, rfl, T2.out, rfl, fresh_z⟩
  clear NW lk hd S b2 O0 b1 c1 T2 d0 d1 d2 d3 d4 d5 d6 d7 d8 d9
  go_wp2_with fail
  go_loopw [8, 9, 10] (fun v t i wr => At1 w w.heap.size d nn n v t i wr) (fun _ _ i _ => 20 - (intOf i).toNat)
  case atStart => exact st.out
  case round =>
    clear st
    obtain ⟨k, nw, s, gl, rfl, rfl, n0, n1, hkn, hk20, hgl, T, hap, F⟩ := hrel
    replace T := Lib.hid T
    replace hap := Lib.hid hap
    replace F := Lib.hid F
    replace hgl := Lib.hid hgl
    obtain ⟨bb, hbb⟩ : ∃ b : Bool, b = (decide (k < nn) && decide (k < 20)) := ⟨_, rfl⟩
    go_upto_region 9 with fail
    go_cut [41] from 34 to 41 (fun s41 wx => s41 = .bool bb ∧ wx = wr)
    case first =>
      by_cases h1 : k < nn
      · by_cases h2 : k < 20
        · have i1 : (k : Int) < 20 := by omega
          have G : Hid (bb = true) := by unfold Hid; rw [hbb, decide_eq_true h1, decide_eq_true h2]; rfl
          clear hbb T F hap
          go_wp2
          go_meet
          case rel => exact ⟨by rw [G.out], rfl⟩
        · have i1 : ¬ (k : Int) < 20 := by omega
          have G : Hid (bb = false) := by unfold Hid; rw [hbb, decide_eq_true h1, decide_eq_false h2]; rfl
          clear hbb T F hap
          go_wp2
          go_meet
          case rel => exact ⟨by rw [G.out], rfl⟩
      · have G : Hid (bb = false) := by unfold Hid; rw [hbb, decide_eq_false h1]; rfl
        clear hbb T F hap
        go_wp2
        go_meet
        case rel => exact ⟨by rw [G.out], rfl⟩
    case rest =>
    obtain ⟨rfl, rfl⟩ := hcut
    obtain ⟨wr, ewr⟩ : ∃ x, x = wc := ⟨_, rfl⟩
    subst ewr
    cases bb with
    | true =>
      have hk := hbb.symm
      rw [Bool.and_eq_true, decide_eq_true_iff, decide_eq_true_iff] at hk
      obtain ⟨hk1, hk2⟩ := hk
      clear hbb
      have i1 : (k : Int) < (nn : Int) := by omega
      have i0 : (0 : Int) ≤ (k : Int) := by omega
      obtain ⟨a, rfl, hT, ha⟩ := hR.out.at_ (by omega)
      obtain ⟨z, hz⟩ : ∃ z, l[k]? = some z := ⟨_, List.getElem?_eq_getElem (by have := hl.out; omega)⟩
      have ZA : Hid (w.cell? (a.add k) = some (.int .i64 z)) := ha k z hz
      have ab : Hid ((a.add k).block < w.heap.size) := by show (a.add k).block < _; rw [add_block]; exact hT
      clear ha hz hT
      have za := (World.cell?_of_block (a := a.add k) (T.out.be.block _ ab.out)).trans ZA.out
      obtain ⟨u, hu⟩ : ∃ u, u = usm z 50 := ⟨_, rfl⟩
      have u1 : u < 50 := by rw [hu]; exact usm_lt _ (by omega)
      have uz : wrap64 ((IntKind.u64.wrap z).tmod 50) = (u : Int) := by rw [hu]; exact usm_slot z (n := 50) (by omega) (by omega)
      clear hu
      obtain ⟨nw2, hnw⟩ : ∃ x : Int, x = nw + (u : Int) := ⟨_, rfl⟩
      have m0 : 0 ≤ nw2 := by omega
      have m1 : nw2 ≤ 49 * ((k : Int) + 1) := by omega
      go_upto_region 12 with fail
      rw [← hnw]
      clear uz hnw za
      have km : (k : Int).tmod 3 = ((k % 3 : Nat) : Int) := by rw [Int.tmod_eq_emod_of_nonneg (by omega)]; omega
      have kq : (k : Int).tdiv 3 = ((k / 3 : Nat) : Int) := by rw [Int.tdiv_eq_ediv_of_nonneg (by omega)]; omega
      obtain ⟨oo, hoo⟩ : ∃ x, x = opI k (unI k z) := ⟨_, rfl⟩
      have e1 : oo.kind = 1 + (k : Int) % 3 := by rw [hoo]; simp [opI]
      have e2 : oo.book = 1 + (k : Int) / 3 := by rw [hoo]; simp [opI]
      have e3 : oo.cust = 0 ∧ oo.amount = 0 ∧ oo.units = unI k z := by rw [hoo]; exact ⟨rfl, rfl, rfl⟩
      go_upto_region 13 with fail
      rw [← e1, ← e2]
      obtain ⟨wa, ea⟩ : ∃ x, x = wr.alloc (.cells #[.int .i64 oo.kind, .int .i64 oo.book, .int .i64 0, .int .i64 0, .int .i64 0] 34) := ⟨_, rfl⟩
      rw [← ea]
      have ba : Below wr.heap.size wr wa := by rw [ea]; exact (Below.refl _ _).alloc (Nat.le_refl _) _
      have oa : wa.heap[wr.heap.size]? = some (.cells #[.int .i64 oo.kind, .int .i64 oo.book, .int .i64 0, .int .i64 0, .int .i64 0] 34 (0, 0)) := by rw [ea]; exact heap_alloc_new _ _
      clear ea
      obtain ⟨ob, hob⟩ : ∃ x, x = wr.heap.size := ⟨_, rfl⟩
      rw [← hob] at oa ⊢
      have za := (World.cell?_of_block (a := a.add k) ((T.out.below ba).be.block _ ab.out)).trans ZA.out
      have u9 := usm_slot z (n := 9) (by omega) (by omega)
      have u9b := usm_lt z (n := 9) (by omega)
      obtain ⟨y, hy⟩ : ∃ y, y = usm z 9 := ⟨_, rfl⟩
      rw [← hy] at u9 u9b
      have u9' : wrap64 ((IntKind.u64.wrap z).tmod 9) = (y : Int) := u9
      clear u9
      have c0 : wa.cell? ⟨ob, 0, none⟩ = some (.int .i64 oo.kind) := one_at oa
      have c2 : wa.cell? ⟨ob, 2, none⟩ = some (.int .i64 0) := one_at oa
      have f2 : wa.frozen? ⟨ob, 2, none⟩ = false := one_free oa
      have lo := lt_some oa
      have hun : oo.units = if k % 3 = 0 then 1 + (y : Int) else 0 := by rw [e3.2.2, hy]; rfl
      replace oa := Lib.hid oa
      replace ba := Lib.hid ba
      replace hob := Lib.hid hob
      replace e3 := Lib.hid e3
      replace hun := Lib.hid hun
      replace hoo := Lib.hid hoo
      clear e2 hy
      by_cases hk3 : k % 3 = 0
      · have ek : oo.kind = 1 := by rw [e1]; omega
        have eu := hun.out
        rw [if_pos hk3] at eu
        rw [ek] at c0
        obtain ⟨wb, ewb⟩ : ∃ x, x = wa.setCell ⟨ob, 2, none⟩ (.int .i64 (1 + (y : Int))) := ⟨_, rfl⟩
        have OB : Hid (wb.heap[ob]? = some (.cells #[.int .i64 oo.kind, .int .i64 oo.book, .int .i64 oo.units, .int .i64 oo.cust, .int .i64 oo.amount] 34 (0, 0))) := by
          rw [ewb]
          have := Go.Proofs.YtpkdigegkemogaaGreatDoor.Pk.one_set (i := 2) oa.out (.int .i64 (1 + (y : Int)))
          show (wa.setCell ⟨ob, 2, none⟩ (.int .i64 (1 + (y : Int)))).heap[ob]? = _
          rw [this, e3.out.1, e3.out.2.1, eu]
          rfl
        have bb2 : Hid (Below wr.heap.size wr wb) := by rw [ewb]; exact ba.out.setCell (by rw [hob.out]; exact Nat.le_refl _) _
        clear ba oa e1 eu hun e3 hk3
        replace ewb := Lib.hid ewb
        go_upto_region 15 with fail
        rw [← ewb.out]
        clear ewb za u9' u9b c0 c2 f2 lo ek
        have T5 := Lib.hid (T.out.below bb2.out)
        have obl : Hid (wr.heap.size ≤ ob ∧ ob < wb.heap.size) := ⟨by rw [hob.out]; exact Nat.le_refl _, lt_some OB.out⟩
        clear T bb2 hob
        have v0 : wb.cell? ⟨ob, 0, none⟩ = some (.int .i64 oo.kind) := one_at OB.out
        have v1 : wb.cell? ⟨ob, 1, none⟩ = some (.int .i64 oo.book) := one_at OB.out
        have v2 : wb.cell? ⟨ob, 2, none⟩ = some (.int .i64 oo.units) := one_at OB.out
        have v3 : wb.cell? ⟨ob, 3, none⟩ = some (.int .i64 oo.cust) := one_at OB.out
        have v4 : wb.cell? ⟨ob, 4, none⟩ = some (.int .i64 oo.amount) := one_at OB.out
        have lo := lt_some OB.out
        have MO := Lib.hid (Wt.refmayop_any wb oo)
        have hmo : mayOp oo = true := by rw [hoo.out]; exact opi_may hk2
        rw [hmo] at MO
        clear hmo
        go_wp2_with fail
        refine MO.out.mono ?_
        rintro e w5 ⟨rfl, h⟩
        have T6 := Lib.hid (T5.out.below h)
        have OB6 : Hid (w5.heap[ob]? = some (.cells #[.int .i64 oo.kind, .int .i64 oo.book, .int .i64 oo.units, .int .i64 oo.cust, .int .i64 oo.amount] 34 (0, 0))) := (h.block _ (lt_some OB.out)).trans OB.out
        clear MO h T5 OB v0 v1 v2 v3 v4 lo
        have RG := Lib.hid (sx_range T6.out.sx)
        have ld := T6.out.sx.lt
        go_upto_region 18 with (first | (refine wpList_load_mid rfl 46 (.tmp 77) rfl d 1 rfl (hcs 40 0 s) _ RG.out Tryz.underlying46 rfl (hcs_info2 40 0 s) ?_) | (refine wpList_allocH rfl rfl ?_) | (refine wpList_store_row rfl 46 (.tmp 12) (.tmp 78) rfl w5.heap.size (hcs 40 0 s).toArray rfl rfl 46 zhost (heap_alloc_new _ _) (hcs_info 40 0 s) (zhost_size 40 0 s) (hcs_one 40 0 s) ?_))
        obtain ⟨u6, eu⟩ : ∃ z, z = (w5.alloc (.cells zhost 46)).setRow w5.heap.size (hcs 40 0 s).toArray := ⟨_, rfl⟩
        rw [← eu]
        have b6 : Below w5.heap.size w5 u6 := by rw [eu]; exact ((Below.refl _ _).alloc (Nat.le_refl _) _).trans (setRow_below _ (Nat.le_refl _))
        have DH : Hid (Ho.Dh u6 w5.heap.size 40 0 s) := by rw [eu]; exact dh_box (setRow_heap _ _ _ _ _ _ (heap_alloc_new _ _))
        have T7 := Lib.hid (T6.out.below b6)
        have OB7 : Hid (u6.heap[ob]? = some (.cells #[.int .i64 oo.kind, .int .i64 oo.book, .int .i64 oo.units, .int .i64 oo.cust, .int .i64 oo.amount] 34 (0, 0))) := (b6.block _ (lt_some OB6.out)).trans OB6.out
        obtain ⟨g, eg⟩ : ∃ g, g = w5.heap.size := ⟨_, rfl⟩
        have gl1 : Hid (d < g ∧ ob < g ∧ w.heap.size ≤ g) := by rw [eg]; exact ⟨T6.out.sx.lt, lt_some OB6.out, T6.out.be.size⟩
        rw [← eg] at DH ⊢
        have b6g : Hid (Below g w5 u6) := by rw [eg]; exact b6
        replace eg := Lib.hid eg
        clear eu b6 RG ld
        have v0 : u6.cell? ⟨ob, 0, none⟩ = some (.int .i64 oo.kind) := one_at OB7.out
        have v1 : u6.cell? ⟨ob, 1, none⟩ = some (.int .i64 oo.book) := one_at OB7.out
        have v2 : u6.cell? ⟨ob, 2, none⟩ = some (.int .i64 oo.units) := one_at OB7.out
        have v3 : u6.cell? ⟨ob, 3, none⟩ = some (.int .i64 oo.cust) := one_at OB7.out
        have v4 : u6.cell? ⟨ob, 4, none⟩ = some (.int .i64 oo.amount) := one_at OB7.out
        have lo := lt_some OB7.out
        have AK := Lib.hid (Ho.refask_any u6 g 40 0 s DH.out T7.out.ok oo nw2)
        go_wp2_with fail
        refine AK.out.mono ?_
        rintro e w7 ⟨rfl, -, K7⟩
        have b7 : Below w5.heap.size w5 w7 := by rw [← eg.out]; exact b6g.out.trans (K7.below (fun x hx => by rw [hx]; exact Nat.le_refl _) (by rw [eg.out]; exact b6g.out.size))
        have T8 := Lib.hid (T6.out.below b7)
        have OB8 : Hid (w7.heap[ob]? = some (.cells #[.int .i64 oo.kind, .int .i64 oo.book, .int .i64 oo.units, .int .i64 oo.cust, .int .i64 oo.amount] 34 (0, 0))) := (b7.block _ (lt_some OB6.out)).trans OB6.out
        clear AK K7 b7 T6 T7 OB6 OB7 DH gl1 b6g eg v0 v1 v2 v3 v4 lo
        have v0 : w7.cell? ⟨ob, 0, none⟩ = some (.int .i64 oo.kind) := one_at OB8.out
        have v1 : w7.cell? ⟨ob, 1, none⟩ = some (.int .i64 oo.book) := one_at OB8.out
        have v2 : w7.cell? ⟨ob, 2, none⟩ = some (.int .i64 oo.units) := one_at OB8.out
        have v3 : w7.cell? ⟨ob, 3, none⟩ = some (.int .i64 oo.cust) := one_at OB8.out
        have v4 : w7.cell? ⟨ob, 4, none⟩ = some (.int .i64 oo.amount) := one_at OB8.out
        have lo := lt_some OB8.out
        go_upto_region 20 with (refine wpList_rstore rfl (.tmp 15) (.tmp 88) rfl w7.heap.size rfl ⟨1, nw2, ans 40 0 s oo nw2, oo, Sg.sz⟩ rfl r0 (heap_alloc_new _ _) ?_)
        obtain ⟨w8, e8⟩ : ∃ z, z = (w7.alloc (.cells #[.int .i64 0, .int .i64 0, .int .i64 0, .int .i64 0, .int .i64 0, .int .i64 0, .int .i64 0, .int .i64 0, .int .i64 0, .int .i64 0, .int .i64 0, .int .i64 0, .int .i64 0, .int .i64 0, .int .i64 0, .int .i64 0, .int .i64 0, .int .i64 0, .int .i64 0] 64)).setRow w7.heap.size (rcc ⟨1, nw2, ans 40 0 s oo nw2, oo, Sg.sz⟩) := ⟨_, rfl⟩
        rw [← e8]
        have b8 : Below w7.heap.size w7 w8 := by rw [e8]; exact ((Below.refl _ _).alloc (Nat.le_refl _) _).trans (setRow_below _ (Nat.le_refl _))
        have T9 := Lib.hid (T8.out.below b8)
        have RB : Hid (BoxR w8 w7.heap.size ⟨1, nw2, ans 40 0 s oo nw2, oo, Sg.sz⟩) := by rw [e8]; exact setRow_heap _ _ _ _ _ _ (heap_alloc_new _ _)
        obtain ⟨rb, erb⟩ : ∃ z, z = w7.heap.size := ⟨_, rfl⟩
        have rbn : Hid (∀ (W' : World) (cs : Array Value), Tr w d n w.heap.size (s, gl) u8 W' → W' = w8 → Tr w d n w.heap.size (s, gl) u8 (W'.setRow rb cs)) := by
          intro W' cs T' eW
          subst eW
          have h1 := T8.out.sx.lt
          have h2 := lt_some T8.out.cf
          have h3 := T8.out.be.size
          have K : ∀ g, g < rb → (W'.setRow rb cs).heap[g]? = W'.heap[g]? := fun g hg => setRow_other _ _ _ _ (by omega)
          exact ⟨T'.be.trans (setRow_below _ (by rw [erb]; exact h3)), T'.sx.keep (K d (by rw [erb]; exact h1)), T'.ok, rr_same T'.row (fun g hg => K g (by rw [erb]; exact rr_lt T8.out.row hg)), T'.far, (K _ (by rw [erb]; exact h2)).trans T'.cf, T'.kl, T'.dl, T'.kd⟩
        have rbd : Hid (rb ≠ d) := by have := T8.out.sx.lt; show _ ≠ _; omega
        rw [← erb] at RB ⊢
        clear e8 b8 T8 OB8 erb v0 v1 v2 v3 v4 lo
        have za := (World.cell?_of_block (a := a.add k) (T9.out.be.block _ ab.out)).trans ZA.out
        obtain ⟨bq, hbq⟩ : ∃ b, (bits .and .i64 z 1 == 1) = b := ⟨_, rfl⟩
        have ST := step_rec (cap := 40) (over := 0) (b := bq) (z := z) F.out hk2 m0 (by omega) T9.out.ok
        rw [← hoo.out] at ST
        cases bq with
        | true =>
          have ST2 : (apH 40 0 s ⟨2, nw2, 0, o0, Sg.sz⟩).1 = true ∧ Fresh (apH 40 0 s ⟨2, nw2, 0, o0, Sg.sz⟩).2 (k + 1) ∧ Ho.Ok 40 0 (apH 40 0 s ⟨2, nw2, 0, o0, Sg.sz⟩).2 := ST
          clear ST
          have TX := rbn.out w8 (rcc ⟨2, nw2, 0, o0, Sg.sz⟩) T9.out rfl
          have RX : BoxR (w8.setRow rb (rcc ⟨2, nw2, 0, o0, Sg.sz⟩)) rb ⟨2, nw2, 0, o0, Sg.sz⟩ := setRow_heap _ _ _ _ _ _ RB.out
          replace TX := Lib.hid TX
          replace RX := Lib.hid RX
          replace ST2 := Lib.hid ST2
          go_upto_region 22 with (refine wpList_rstore rfl (.tmp 15) (.tmp 96) rfl rb rfl ⟨2, nw2, 0, o0, Sg.sz⟩ rfl ⟨1, nw2, ans 40 0 s oo nw2, oo, Sg.sz⟩ RB.out ?_)
          obtain ⟨w9, e9⟩ : ∃ z, z = w8.setRow rb (rcc ⟨2, nw2, 0, o0, Sg.sz⟩) := ⟨_, rfl⟩
          rw [← e9] at TX RX ⊢
          clear e9 T9 RB rbn za hbq
          obtain ⟨rr, hrr⟩ : ∃ rr : Rec, rr = ⟨2, nw2, 0, o0, Sg.sz⟩ := ⟨_, rfl⟩
          have ST3 : Hid ((apH 40 0 s rr).1 = true ∧ Fresh (apH 40 0 s rr).2 (k + 1) ∧ Ho.Ok 40 0 (apH 40 0 s rr).2) := by rw [hrr]; exact ST2.out
          have RX2 : Hid (BoxR w9 rb rr) := by rw [hrr]; exact RX.out
          clear ST2 RX hrr
          have AP := Lib.hid (dapply_any w9 d n 40 0 s n3.out.1 n3.out.2 TX.out.sx TX.out.ok rr)
          have hgl2 : Hid (gl.length = k) := hgl
          have hap2 : Hid (apl (apH 40 0) Ho.sz (gl ++ [rr]) = some (apH 40 0 s rr).2) := by
            show _ = _
            rw [apl_app, hap.out]
            show apl (apH 40 0) s [rr] = _
            unfold apl
            rw [if_pos ST3.out.1]
            rfl
          clear F hap
          go_wp2_with (refine wpList_rload rfl (.tmp 15) rfl rb rfl rr RX2.out ?_)
          refine AP.out.mono ?_
          rintro e wA ⟨rfl, SA, KA⟩
          have RA : Hid (BoxR wA rb rr) := (KA.block _ RX2.out.lt rbd.out).trans RX2.out
          generalize apH 40 0 s rr = yy at *
          obtain ⟨ok, s'⟩ := yy
          simp only at SA
          obtain ⟨f1, f2, f3⟩ := ST3.out
          simp only at f1 f2 f3
          subst f1
          have TA := Lib.hid (TX.out.put SA f3 KA)
          replace f2 := Lib.hid f2
          clear AP SA KA RX2 TX ST3 f3 rbd
          obtain ⟨A5, c5, w5, hap5, T5⟩ := TA.out.app rr (by rw [hgl2.out]; omega)
          simp only [hgl2.out] at hap5 T5
          replace T5 := Lib.hid T5
          have RAo := RA
          clear TA
          go_wp2_with (first | (refine wpList_rload rfl (.tmp 15) rfl rb rfl rr RA.out ?_) | (refine wpList_bslice1 rfl (.tmp 102) rr rfl ?_) | (refine wpList_app rfl (.tmp 101) (.tmp 103) rfl rfl u8 (.slice (some ⟨wA.heap.size, 0, none⟩) 1 1) rfl rfl hap5 ?_))
          go_roundw
          case rel => exact ⟨k + 1, nw2, s', gl ++ [rr], rfl, by simp, m0, by have := m1; omega, by omega, by omega, by rw [List.length_append, hgl2.out]; rfl, T5.out, hap2.out, f2.out⟩
          case measure => simp [intOf]; omega
        | false =>
          have ST2 : (apH 40 0 s ⟨1, nw2, ans 40 0 s oo nw2, oo, Sg.sz⟩).1 = true ∧ Fresh (apH 40 0 s ⟨1, nw2, ans 40 0 s oo nw2, oo, Sg.sz⟩).2 (k + 1) ∧ Ho.Ok 40 0 (apH 40 0 s ⟨1, nw2, ans 40 0 s oo nw2, oo, Sg.sz⟩).2 := ST
          clear ST
          replace ST2 := Lib.hid ST2
          go_upto_region 22 with fail
          have TX := T9
          have RX := RB
          obtain ⟨w9, e9⟩ : ∃ z, z = w8 := ⟨_, rfl⟩
          rw [← e9] at TX RX ⊢
          clear e9 T9 RB rbn za hbq
          obtain ⟨rr, hrr⟩ : ∃ rr : Rec, rr = ⟨1, nw2, ans 40 0 s oo nw2, oo, Sg.sz⟩ := ⟨_, rfl⟩
          have ST3 : Hid ((apH 40 0 s rr).1 = true ∧ Fresh (apH 40 0 s rr).2 (k + 1) ∧ Ho.Ok 40 0 (apH 40 0 s rr).2) := by rw [hrr]; exact ST2.out
          have RX2 : Hid (BoxR w9 rb rr) := by rw [hrr]; exact RX.out
          clear ST2 RX hrr
          have AP := Lib.hid (dapply_any w9 d n 40 0 s n3.out.1 n3.out.2 TX.out.sx TX.out.ok rr)
          have hgl2 : Hid (gl.length = k) := hgl
          have hap2 : Hid (apl (apH 40 0) Ho.sz (gl ++ [rr]) = some (apH 40 0 s rr).2) := by
            show _ = _
            rw [apl_app, hap.out]
            show apl (apH 40 0) s [rr] = _
            unfold apl
            rw [if_pos ST3.out.1]
            rfl
          clear F hap
          go_wp2_with (refine wpList_rload rfl (.tmp 15) rfl rb rfl rr RX2.out ?_)
          refine AP.out.mono ?_
          rintro e wA ⟨rfl, SA, KA⟩
          have RA : Hid (BoxR wA rb rr) := (KA.block _ RX2.out.lt rbd.out).trans RX2.out
          generalize apH 40 0 s rr = yy at *
          obtain ⟨ok, s'⟩ := yy
          simp only at SA
          obtain ⟨f1, f2, f3⟩ := ST3.out
          simp only at f1 f2 f3
          subst f1
          have TA := Lib.hid (TX.out.put SA f3 KA)
          replace f2 := Lib.hid f2
          clear AP SA KA RX2 TX ST3 f3 rbd
          obtain ⟨A5, c5, w5, hap5, T5⟩ := TA.out.app rr (by rw [hgl2.out]; omega)
          simp only [hgl2.out] at hap5 T5
          replace T5 := Lib.hid T5
          have RAo := RA
          clear TA
          go_wp2_with (first | (refine wpList_rload rfl (.tmp 15) rfl rb rfl rr RA.out ?_) | (refine wpList_bslice1 rfl (.tmp 102) rr rfl ?_) | (refine wpList_app rfl (.tmp 101) (.tmp 103) rfl rfl u8 (.slice (some ⟨wA.heap.size, 0, none⟩) 1 1) rfl rfl hap5 ?_))
          go_roundw
          case rel => exact ⟨k + 1, nw2, s', gl ++ [rr], rfl, by simp, m0, by have := m1; omega, by omega, by omega, by rw [List.length_append, hgl2.out]; rfl, T5.out, hap2.out, f2.out⟩
          case measure => simp [intOf]; omega
      · have ek : (oo.kind == 1) = false := by simp; omega
        have eu := hun.out
        rw [if_neg hk3] at eu
        have OBa : Hid (wa.heap[ob]? = some (.cells #[.int .i64 oo.kind, .int .i64 oo.book, .int .i64 oo.units, .int .i64 oo.cust, .int .i64 oo.amount] 34 (0, 0))) := by show wa.heap[ob]? = _; rw [oa.out, e3.out.1, e3.out.2.1, eu]
        clear oa e1 eu hun e3 hk3
        go_upto_region 15 with fail
        clear za u9' u9b c0 c2 f2 lo ek
        obtain ⟨wb, ewb⟩ : ∃ x, x = wa := ⟨_, rfl⟩
        have OB : Hid (wb.heap[ob]? = some (.cells #[.int .i64 oo.kind, .int .i64 oo.book, .int .i64 oo.units, .int .i64 oo.cust, .int .i64 oo.amount] 34 (0, 0))) := by rw [ewb]; exact OBa
        have bb2 : Hid (Below wr.heap.size wr wb) := by rw [ewb]; exact ba.out
        rw [← ewb]
        clear ewb OBa ba
        have T5 := Lib.hid (T.out.below bb2.out)
        have obl : Hid (wr.heap.size ≤ ob ∧ ob < wb.heap.size) := ⟨by rw [hob.out]; exact Nat.le_refl _, lt_some OB.out⟩
        clear T bb2 hob
        have v0 : wb.cell? ⟨ob, 0, none⟩ = some (.int .i64 oo.kind) := one_at OB.out
        have v1 : wb.cell? ⟨ob, 1, none⟩ = some (.int .i64 oo.book) := one_at OB.out
        have v2 : wb.cell? ⟨ob, 2, none⟩ = some (.int .i64 oo.units) := one_at OB.out
        have v3 : wb.cell? ⟨ob, 3, none⟩ = some (.int .i64 oo.cust) := one_at OB.out
        have v4 : wb.cell? ⟨ob, 4, none⟩ = some (.int .i64 oo.amount) := one_at OB.out
        have lo := lt_some OB.out
        have MO := Lib.hid (Wt.refmayop_any wb oo)
        have hmo : mayOp oo = true := by rw [hoo.out]; exact opi_may hk2
        rw [hmo] at MO
        clear hmo
        go_wp2_with fail
        refine MO.out.mono ?_
        rintro e w5 ⟨rfl, h⟩
        have T6 := Lib.hid (T5.out.below h)
        have OB6 : Hid (w5.heap[ob]? = some (.cells #[.int .i64 oo.kind, .int .i64 oo.book, .int .i64 oo.units, .int .i64 oo.cust, .int .i64 oo.amount] 34 (0, 0))) := (h.block _ (lt_some OB.out)).trans OB.out
        clear MO h T5 OB v0 v1 v2 v3 v4 lo
        have RG := Lib.hid (sx_range T6.out.sx)
        have ld := T6.out.sx.lt
        go_upto_region 18 with (first | (refine wpList_load_mid rfl 46 (.tmp 77) rfl d 1 rfl (hcs 40 0 s) _ RG.out Tryz.underlying46 rfl (hcs_info2 40 0 s) ?_) | (refine wpList_allocH rfl rfl ?_) | (refine wpList_store_row rfl 46 (.tmp 12) (.tmp 78) rfl w5.heap.size (hcs 40 0 s).toArray rfl rfl 46 zhost (heap_alloc_new _ _) (hcs_info 40 0 s) (zhost_size 40 0 s) (hcs_one 40 0 s) ?_))
        obtain ⟨u6, eu⟩ : ∃ z, z = (w5.alloc (.cells zhost 46)).setRow w5.heap.size (hcs 40 0 s).toArray := ⟨_, rfl⟩
        rw [← eu]
        have b6 : Below w5.heap.size w5 u6 := by rw [eu]; exact ((Below.refl _ _).alloc (Nat.le_refl _) _).trans (setRow_below _ (Nat.le_refl _))
        have DH : Hid (Ho.Dh u6 w5.heap.size 40 0 s) := by rw [eu]; exact dh_box (setRow_heap _ _ _ _ _ _ (heap_alloc_new _ _))
        have T7 := Lib.hid (T6.out.below b6)
        have OB7 : Hid (u6.heap[ob]? = some (.cells #[.int .i64 oo.kind, .int .i64 oo.book, .int .i64 oo.units, .int .i64 oo.cust, .int .i64 oo.amount] 34 (0, 0))) := (b6.block _ (lt_some OB6.out)).trans OB6.out
        obtain ⟨g, eg⟩ : ∃ g, g = w5.heap.size := ⟨_, rfl⟩
        have gl1 : Hid (d < g ∧ ob < g ∧ w.heap.size ≤ g) := by rw [eg]; exact ⟨T6.out.sx.lt, lt_some OB6.out, T6.out.be.size⟩
        rw [← eg] at DH ⊢
        have b6g : Hid (Below g w5 u6) := by rw [eg]; exact b6
        replace eg := Lib.hid eg
        clear eu b6 RG ld
        have v0 : u6.cell? ⟨ob, 0, none⟩ = some (.int .i64 oo.kind) := one_at OB7.out
        have v1 : u6.cell? ⟨ob, 1, none⟩ = some (.int .i64 oo.book) := one_at OB7.out
        have v2 : u6.cell? ⟨ob, 2, none⟩ = some (.int .i64 oo.units) := one_at OB7.out
        have v3 : u6.cell? ⟨ob, 3, none⟩ = some (.int .i64 oo.cust) := one_at OB7.out
        have v4 : u6.cell? ⟨ob, 4, none⟩ = some (.int .i64 oo.amount) := one_at OB7.out
        have lo := lt_some OB7.out
        have AK := Lib.hid (Ho.refask_any u6 g 40 0 s DH.out T7.out.ok oo nw2)
        go_wp2_with fail
        refine AK.out.mono ?_
        rintro e w7 ⟨rfl, -, K7⟩
        have b7 : Below w5.heap.size w5 w7 := by rw [← eg.out]; exact b6g.out.trans (K7.below (fun x hx => by rw [hx]; exact Nat.le_refl _) (by rw [eg.out]; exact b6g.out.size))
        have T8 := Lib.hid (T6.out.below b7)
        have OB8 : Hid (w7.heap[ob]? = some (.cells #[.int .i64 oo.kind, .int .i64 oo.book, .int .i64 oo.units, .int .i64 oo.cust, .int .i64 oo.amount] 34 (0, 0))) := (b7.block _ (lt_some OB6.out)).trans OB6.out
        clear AK K7 b7 T6 T7 OB6 OB7 DH gl1 b6g eg v0 v1 v2 v3 v4 lo
        have v0 : w7.cell? ⟨ob, 0, none⟩ = some (.int .i64 oo.kind) := one_at OB8.out
        have v1 : w7.cell? ⟨ob, 1, none⟩ = some (.int .i64 oo.book) := one_at OB8.out
        have v2 : w7.cell? ⟨ob, 2, none⟩ = some (.int .i64 oo.units) := one_at OB8.out
        have v3 : w7.cell? ⟨ob, 3, none⟩ = some (.int .i64 oo.cust) := one_at OB8.out
        have v4 : w7.cell? ⟨ob, 4, none⟩ = some (.int .i64 oo.amount) := one_at OB8.out
        have lo := lt_some OB8.out
        go_upto_region 20 with (refine wpList_rstore rfl (.tmp 15) (.tmp 88) rfl w7.heap.size rfl ⟨1, nw2, ans 40 0 s oo nw2, oo, Sg.sz⟩ rfl r0 (heap_alloc_new _ _) ?_)
        obtain ⟨w8, e8⟩ : ∃ z, z = (w7.alloc (.cells #[.int .i64 0, .int .i64 0, .int .i64 0, .int .i64 0, .int .i64 0, .int .i64 0, .int .i64 0, .int .i64 0, .int .i64 0, .int .i64 0, .int .i64 0, .int .i64 0, .int .i64 0, .int .i64 0, .int .i64 0, .int .i64 0, .int .i64 0, .int .i64 0, .int .i64 0] 64)).setRow w7.heap.size (rcc ⟨1, nw2, ans 40 0 s oo nw2, oo, Sg.sz⟩) := ⟨_, rfl⟩
        rw [← e8]
        have b8 : Below w7.heap.size w7 w8 := by rw [e8]; exact ((Below.refl _ _).alloc (Nat.le_refl _) _).trans (setRow_below _ (Nat.le_refl _))
        have T9 := Lib.hid (T8.out.below b8)
        have RB : Hid (BoxR w8 w7.heap.size ⟨1, nw2, ans 40 0 s oo nw2, oo, Sg.sz⟩) := by rw [e8]; exact setRow_heap _ _ _ _ _ _ (heap_alloc_new _ _)
        obtain ⟨rb, erb⟩ : ∃ z, z = w7.heap.size := ⟨_, rfl⟩
        have rbn : Hid (∀ (W' : World) (cs : Array Value), Tr w d n w.heap.size (s, gl) u8 W' → W' = w8 → Tr w d n w.heap.size (s, gl) u8 (W'.setRow rb cs)) := by
          intro W' cs T' eW
          subst eW
          have h1 := T8.out.sx.lt
          have h2 := lt_some T8.out.cf
          have h3 := T8.out.be.size
          have K : ∀ g, g < rb → (W'.setRow rb cs).heap[g]? = W'.heap[g]? := fun g hg => setRow_other _ _ _ _ (by omega)
          exact ⟨T'.be.trans (setRow_below _ (by rw [erb]; exact h3)), T'.sx.keep (K d (by rw [erb]; exact h1)), T'.ok, rr_same T'.row (fun g hg => K g (by rw [erb]; exact rr_lt T8.out.row hg)), T'.far, (K _ (by rw [erb]; exact h2)).trans T'.cf, T'.kl, T'.dl, T'.kd⟩
        have rbd : Hid (rb ≠ d) := by have := T8.out.sx.lt; show _ ≠ _; omega
        rw [← erb] at RB ⊢
        clear e8 b8 T8 OB8 erb v0 v1 v2 v3 v4 lo
        have za := (World.cell?_of_block (a := a.add k) (T9.out.be.block _ ab.out)).trans ZA.out
        obtain ⟨bq, hbq⟩ : ∃ b, (bits .and .i64 z 1 == 1) = b := ⟨_, rfl⟩
        have ST := step_rec (cap := 40) (over := 0) (b := bq) (z := z) F.out hk2 m0 (by omega) T9.out.ok
        rw [← hoo.out] at ST
        cases bq with
        | true =>
          have ST2 : (apH 40 0 s ⟨2, nw2, 0, o0, Sg.sz⟩).1 = true ∧ Fresh (apH 40 0 s ⟨2, nw2, 0, o0, Sg.sz⟩).2 (k + 1) ∧ Ho.Ok 40 0 (apH 40 0 s ⟨2, nw2, 0, o0, Sg.sz⟩).2 := ST
          clear ST
          have TX := rbn.out w8 (rcc ⟨2, nw2, 0, o0, Sg.sz⟩) T9.out rfl
          have RX : BoxR (w8.setRow rb (rcc ⟨2, nw2, 0, o0, Sg.sz⟩)) rb ⟨2, nw2, 0, o0, Sg.sz⟩ := setRow_heap _ _ _ _ _ _ RB.out
          replace TX := Lib.hid TX
          replace RX := Lib.hid RX
          replace ST2 := Lib.hid ST2
          go_upto_region 22 with (refine wpList_rstore rfl (.tmp 15) (.tmp 96) rfl rb rfl ⟨2, nw2, 0, o0, Sg.sz⟩ rfl ⟨1, nw2, ans 40 0 s oo nw2, oo, Sg.sz⟩ RB.out ?_)
          obtain ⟨w9, e9⟩ : ∃ z, z = w8.setRow rb (rcc ⟨2, nw2, 0, o0, Sg.sz⟩) := ⟨_, rfl⟩
          rw [← e9] at TX RX ⊢
          clear e9 T9 RB rbn za hbq
          obtain ⟨rr, hrr⟩ : ∃ rr : Rec, rr = ⟨2, nw2, 0, o0, Sg.sz⟩ := ⟨_, rfl⟩
          have ST3 : Hid ((apH 40 0 s rr).1 = true ∧ Fresh (apH 40 0 s rr).2 (k + 1) ∧ Ho.Ok 40 0 (apH 40 0 s rr).2) := by rw [hrr]; exact ST2.out
          have RX2 : Hid (BoxR w9 rb rr) := by rw [hrr]; exact RX.out
          clear ST2 RX hrr
          have AP := Lib.hid (dapply_any w9 d n 40 0 s n3.out.1 n3.out.2 TX.out.sx TX.out.ok rr)
          have hgl2 : Hid (gl.length = k) := hgl
          have hap2 : Hid (apl (apH 40 0) Ho.sz (gl ++ [rr]) = some (apH 40 0 s rr).2) := by
            show _ = _
            rw [apl_app, hap.out]
            show apl (apH 40 0) s [rr] = _
            unfold apl
            rw [if_pos ST3.out.1]
            rfl
          clear F hap
          go_wp2_with (refine wpList_rload rfl (.tmp 15) rfl rb rfl rr RX2.out ?_)
          refine AP.out.mono ?_
          rintro e wA ⟨rfl, SA, KA⟩
          have RA : Hid (BoxR wA rb rr) := (KA.block _ RX2.out.lt rbd.out).trans RX2.out
          generalize apH 40 0 s rr = yy at *
          obtain ⟨ok, s'⟩ := yy
          simp only at SA
          obtain ⟨f1, f2, f3⟩ := ST3.out
          simp only at f1 f2 f3
          subst f1
          have TA := Lib.hid (TX.out.put SA f3 KA)
          replace f2 := Lib.hid f2
          clear AP SA KA RX2 TX ST3 f3 rbd
          obtain ⟨A5, c5, w5, hap5, T5⟩ := TA.out.app rr (by rw [hgl2.out]; omega)
          simp only [hgl2.out] at hap5 T5
          replace T5 := Lib.hid T5
          have RAo := RA
          clear TA
          go_wp2_with (first | (refine wpList_rload rfl (.tmp 15) rfl rb rfl rr RA.out ?_) | (refine wpList_bslice1 rfl (.tmp 102) rr rfl ?_) | (refine wpList_app rfl (.tmp 101) (.tmp 103) rfl rfl u8 (.slice (some ⟨wA.heap.size, 0, none⟩) 1 1) rfl rfl hap5 ?_))
          go_roundw
          case rel => exact ⟨k + 1, nw2, s', gl ++ [rr], rfl, by simp, m0, by have := m1; omega, by omega, by omega, by rw [List.length_append, hgl2.out]; rfl, T5.out, hap2.out, f2.out⟩
          case measure => simp [intOf]; omega
        | false =>
          have ST2 : (apH 40 0 s ⟨1, nw2, ans 40 0 s oo nw2, oo, Sg.sz⟩).1 = true ∧ Fresh (apH 40 0 s ⟨1, nw2, ans 40 0 s oo nw2, oo, Sg.sz⟩).2 (k + 1) ∧ Ho.Ok 40 0 (apH 40 0 s ⟨1, nw2, ans 40 0 s oo nw2, oo, Sg.sz⟩).2 := ST
          clear ST
          replace ST2 := Lib.hid ST2
          go_upto_region 22 with fail
          have TX := T9
          have RX := RB
          obtain ⟨w9, e9⟩ : ∃ z, z = w8 := ⟨_, rfl⟩
          rw [← e9] at TX RX ⊢
          clear e9 T9 RB rbn za hbq
          obtain ⟨rr, hrr⟩ : ∃ rr : Rec, rr = ⟨1, nw2, ans 40 0 s oo nw2, oo, Sg.sz⟩ := ⟨_, rfl⟩
          have ST3 : Hid ((apH 40 0 s rr).1 = true ∧ Fresh (apH 40 0 s rr).2 (k + 1) ∧ Ho.Ok 40 0 (apH 40 0 s rr).2) := by rw [hrr]; exact ST2.out
          have RX2 : Hid (BoxR w9 rb rr) := by rw [hrr]; exact RX.out
          clear ST2 RX hrr
          have AP := Lib.hid (dapply_any w9 d n 40 0 s n3.out.1 n3.out.2 TX.out.sx TX.out.ok rr)
          have hgl2 : Hid (gl.length = k) := hgl
          have hap2 : Hid (apl (apH 40 0) Ho.sz (gl ++ [rr]) = some (apH 40 0 s rr).2) := by
            show _ = _
            rw [apl_app, hap.out]
            show apl (apH 40 0) s [rr] = _
            unfold apl
            rw [if_pos ST3.out.1]
            rfl
          clear F hap
          go_wp2_with (refine wpList_rload rfl (.tmp 15) rfl rb rfl rr RX2.out ?_)
          refine AP.out.mono ?_
          rintro e wA ⟨rfl, SA, KA⟩
          have RA : Hid (BoxR wA rb rr) := (KA.block _ RX2.out.lt rbd.out).trans RX2.out
          generalize apH 40 0 s rr = yy at *
          obtain ⟨ok, s'⟩ := yy
          simp only at SA
          obtain ⟨f1, f2, f3⟩ := ST3.out
          simp only at f1 f2 f3
          subst f1
          have TA := Lib.hid (TX.out.put SA f3 KA)
          replace f2 := Lib.hid f2
          clear AP SA KA RX2 TX ST3 f3 rbd
          obtain ⟨A5, c5, w5, hap5, T5⟩ := TA.out.app rr (by rw [hgl2.out]; omega)
          simp only [hgl2.out] at hap5 T5
          replace T5 := Lib.hid T5
          have RAo := RA
          clear TA
          go_wp2_with (first | (refine wpList_rload rfl (.tmp 15) rfl rb rfl rr RA.out ?_) | (refine wpList_bslice1 rfl (.tmp 102) rr rfl ?_) | (refine wpList_app rfl (.tmp 101) (.tmp 103) rfl rfl u8 (.slice (some ⟨wA.heap.size, 0, none⟩) 1 1) rfl rfl hap5 ?_))
          go_roundw
          case rel => exact ⟨k + 1, nw2, s', gl ++ [rr], rfl, by simp, m0, by have := m1; omega, by omega, by omega, by rw [List.length_append, hgl2.out]; rfl, T5.out, hap2.out, f2.out⟩
          case measure => simp [intOf]; omega
    | false =>
      clear hbb F
      obtain ⟨A8, c8, hv8, hc1, hc2, hc3⟩ := rr_form T.out.row
      simp only at hv8 hc1
      have hin := T.out.row
      rw [hv8] at hin
      have RI := Lib.hid ((rr_in hin).keep (T' := fun g => g < wr.heap.size) (fun g _ => rfl) (fun g hg => rr_lt hin hg))
      clear hin
      subst hv8
      have g20 : gl.length ≤ 1000 := by have := hgl.out; omega
      have FD := Lib.hid (P.fold wr (P.tb_sub htb.out T.out.be (P.tb_lt htb.out)) n n3.out.1 n3.out.2 A8 gl.length c8 gl s RI.out g20 hc1 hc2 hc3 hap.out)
      go_wp2_with (refine wpList_load_row rfl 29 (.tmp 6) rfl w.heap.size rfl 29 cf40 (0, 0) _ T.out.cf Tryz.underlying29 rfl conf_size ?_)
      refine FD.out.mono ?_
      rintro e w3 ⟨q1, rfl, H1, hb⟩
      have T3 := Lib.hid (T.out.below hb)
      have RI3 := Lib.hid (RI.out.keep (T' := fun g => g < w3.heap.size) (fun g hg => hb.block g hg) (fun g hg => Nat.lt_of_lt_of_le hg hb.size))
      replace H1 := Lib.hid H1
      clear FD hb T RI
      have FD := Lib.hid (P.fold w3 (P.tb_sub htb.out T3.out.be (P.tb_lt htb.out)) n n3.out.1 n3.out.2 A8 gl.length c8 gl s RI3.out g20 hc1 hc2 hc3 hap.out)
      go_wp2_with (refine wpList_load_row rfl 29 (.tmp 6) rfl w.heap.size rfl 29 cf40 (0, 0) _ T3.out.cf Tryz.underlying29 rfl conf_size ?_)
      refine FD.out.mono ?_
      rintro e w4 ⟨q2, rfl, H2, hb⟩
      have T4 := Lib.hid (T3.out.below hb)
      have H14 := Lib.hid (P.below H1.out hb)
      replace H2 := Lib.hid H2
      clear FD hb T3 RI3 H1 hap
      go_upto_region 29 with fail
      have TB := P.tb_sub htb.out T4.out.be (P.tb_lt htb.out)
      have tbs : ∀ w', Below w4.heap.size w4 w' → P.tb w' := fun w' h => P.tb_sub TB h (P.tb_lt TB)
      have FT : Hid (∀ w', Below w4.heap.size w4 w' → Calls Tryz.prog 10 #[] w' fun e w'' => e = .returned (.bool true) ∧ Below w4.heap.size w4 w'') := fun w' h => (P.told w' (tbs w' h)).mono fun _ _ x => ⟨x.1, h.trans (x.2.mono h.size)⟩
      have FB : ∀ q, P.Bh w4 q s → ∀ w', Below w4.heap.size w4 w' → Calls Tryz.prog 11 #[.pointer (some ⟨q, 0, none⟩)] w' fun e w'' => ∃ A c, e = .returned (.slice A (hbts 40 0 s).length c) ∧ w''.ownsRow w4.heap.size 5 1 (.slice A (hbts 40 0 s).length c) (hbts 40 0 s).length (Pk.u8s (hbts 40 0 s)) ∧ Below w4.heap.size w4 w'' := fun q H w' h => (P.bytes (tbs w' h) (P.below H h)).mono fun e w'' x => by
        obtain ⟨v, rfl, x1, x2⟩ := x
        obtain ⟨A, c, rfl⟩ := Pk.own_form x1
        exact ⟨A, c, rfl, Wt.own_mono x1 h.size, h.trans (x2.mono h.size)⟩
      have FD : Hid (∀ w', Below w4.heap.size w4 w' → Calls Tryz.prog 12 #[.pointer (some ⟨d, 0, none⟩)] w' fun e w'' => e = .returned (.string (Pk.str (hbts 40 0 s))) ∧ Below w'.heap.size w' w'' ∧ Below w4.heap.size w4 w'') := fun w' h => (stbytes_any w' d n 40 0 s n3.out.2 (T4.out.sx.below h) T4.out.ok).mono fun _ _ x => ⟨x.1, x.2, h.trans (x.2.mono h.size)⟩
      have F1 := Lib.hid (FB q1 H14.out)
      have F2 := Lib.hid (FB q2 H2.out)
      have be4 := Lib.hid T4.out.be
      clear FB tbs TB T4 H14 H2
      refine ft29 _ _ _ _ _ _ _ _ _ _ _ _ _ _ _ _ _ _ _ _ _ _ _ _ _ _ _ _ _ _ _ _ _ _ _ _ _ _ _ _ _ _ _ _ _ _ _ _ _ _ _ _ _ _ _ _ _ _ _ _ _ _ _ _ _ _ _ _ _ _ _ _ _ _ _ _ _ _ _ _ _ _ _ _ _ _ _ _ _ _ _ _ _ _ _ _ _ _ _ _ _ _ _ _ _ _ _ _ _ _ _ _ _ _ _ _ _ _ _ _ _ _ _ _ _ _ _ _ _ _ _ _ _ _ _ _ _ _ _ _ _ _ _ _ _ _ _ w4 d q1 q2 (hbts 40 0 s) FT F1 F2 FD _ (fun _ _ d _ _ h => by cases d <;> exact h) (fun _ _ _ _ _ _ _ _ _ _ _ _ _ _ _ _ _ w5 h5 => ?_)
      have be5 := Lib.hid (be4.out.trans (h5.mono be4.out.size))
      clear FT F1 F2 FD h5
      go_wp2
      go_ret
      exact ⟨rfl, be5.out⟩
end Go.Proofs.YtpkdigegkemogaaGreatDoor.foldTimes
