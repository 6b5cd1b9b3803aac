/- Save. -/
import Derived.Test.YtbolcapgocjgcaaGreatDoorSeF
namespace Go.Proofs.YtbolcapgocjgcaaGreatDoor
set_option maxRecDepth 100000
open Go.RowKit
open Go.Proofs.YtbolcapgocjgcaaGreatDoor.Pk
namespace Se
open Dk (Bs Live LTo nm used sApp sCut)
open Fr (frames)

theorem len_rep {room : Nat} {L : Dk.St} {g : Int} {b : Bs} : (pRep room L g b).2.length ≤ L.length + 3 := by
  unfold pRep
  have h1 := len_rem (L := L) (n := nextN)
  have h2 := len_app (room := room) (L := (Dk.sRem L nextN).2) (n := nextN) (b := sealOf g b)
  simp only
  split
  · have h3 := len_sync (L := (sApp room (Dk.sRem L nextN).2 nextN (sealOf g b)).2) (n := nextN)
    have h4 := len_ren (L := (Dk.sSync (sApp room (Dk.sRem L nextN).2 nextN (sealOf g b)).2 nextN).2) (n := nextN) (m := snapN)
    simp only
    omega
  · omega

set_option maxHeartbeats 3200000 in
theorem save_any {B w : World} {p room q n : Nat} {L : Dk.St} {X : Nat → Prop} (G : Lg B w p room L X q n) (hB : Tab B) (v : Value) (st : List Bs) (R : Fr.Lr w v st) (hst : st.length ≤ 100) (hsm : ∀ r ∈ st, r.length ≤ 9223372036854775807) (hl : L.length ≤ 900) (hgen : genOf L < 4611686018427387904) :
    Calls Tryz.prog 13 #[.pointer (some ⟨q, 0, none⟩), v] w fun e w' => e = .returned (.int .i64 (pSave room L n st).1) ∧ LgTo B w p room (pSave room L n st).2.1 X q (pSave room L n st).2.2 w' := by
  have ht := G.live.tab hB
  have N := Lib.hid (none_no w q p n G.at_)
  have FR := Lib.hid (frames_any w v st R ht hst hsm)
  have hgd : -1 ≤ genOf L := (rdf_bd (bof snapN L)).1
  have hps : pSave room L n st = if ∀ r ∈ st, 1 ≤ r.length ∧ r.length ≤ 1000 then (if (pRep room L (genOf L + 1) (frames st)).1 = 0 then (0, (sCut (pRep room L (genOf L + 1) (frames st)).2 logN 0).2, 0) else ((pRep room L (genOf L + 1) (frames st)).1, (pRep room L (genOf L + 1) (frames st)).2, n)) else (1, L, n) := rfl
  obtain ⟨gn, hgn⟩ : ∃ z, z = genOf L := ⟨_, rfl⟩
  rw [← hgn] at hgd hgen hps
  obtain ⟨A0, c0', hv⟩ : ∃ A c, v = .slice A st.length c := by
    obtain ⟨A, c, e, _⟩ := R
    exact ⟨A, c, e⟩
  subst hv
  obtain ⟨n0, hn0⟩ : ∃ z, z = st.length := ⟨_, rfl⟩
  have hstl : Hid (st.length ≤ 100) := hst
  rw [← hn0] at FR hst ⊢
  replace G := Lib.hid G
  replace ht := Lib.hid ht
  replace hgn := Lib.hid hgn
  replace hps := Lib.hid hps
  clear R hsm hn0
  go_enter Tryz.func13, Tryz.ntmps13
  go_wp2_with fail
  refine N.out.mono ?_
  rintro e w' ⟨rfl, rfl⟩
  go_wp2_with fail
  refine FR.out.mono ?_
  rintro e w1 (⟨hok, A, m, c, rfl, hm, ho, hb⟩ | ⟨hno, rfl, hb⟩)
  · have hps1 : Hid (pSave room L n st = (if (pRep room L (gn + 1) (frames st)).1 = 0 then (0, (sCut (pRep room L (gn + 1) (frames st)).2 logN 0).2, 0) else ((pRep room L (gn + 1) (frames st)).1, (pRep room L (gn + 1) (frames st)).2, n))) := by have := hps.out; rwa [if_pos hok] at this
    have hm2 : m ≤ 900000 := by
      have h1 := Fr.frames_len_le st hok
      have h3 : st.length * (1000 + 6) ≤ 100 * 1006 := Nat.mul_le_mul_right _ hstl.out
      omega
    have G1 := G.out.more hb
    have hqw := lt_some G.out.at_
    have xsw : Hid (∀ g, X g → g < w.heap.size) := G.out.live.xs
    have b1 : Hid (Below w.heap.size w w1) := hb
    have t1 := ht.out.below hb
    obtain ⟨X1, hX1⟩ : ∃ z, z = fun g => X g ∨ (w.heap.size ≤ g ∧ g < w1.heap.size) := ⟨_, rfl⟩
    rw [← hX1] at G1
    have xin : Hid (∀ g, X g → X1 g) := fun g hg => by rw [hX1]; exact .inl hg
    have R1 : Hid (Rb w1 (fun k => X1 k ∧ k ≠ q) A m (frames st)) := (Rb.of_own ho).keep (fun _ _ => rfl) (fun k hk => ⟨by rw [hX1]; exact .inr ⟨hk.1, hk.2.lt⟩, by have := hk.1; omega⟩)
    have xq : Hid (X q) := G.out.inx
    have Gn := gen_any G1 t1
    rw [← hgn.out] at Gn
    replace Gn := Lib.hid Gn
    replace G1 := Lib.hid G1
    clear hX1 hb ho hm FR N hps ht t1 G hgn hok hqw
    go_wp2_with fail
    refine Gn.out.mono ?_
    rintro e w2 ⟨rfl, hb2⟩
    have G2 := G1.out.below hb2
    have R2 := R1.out.keep (w' := w2) (fun k hk => hb2.block k (G1.out.live.xs k hk.1)) (fun _ h => h)
    have b2 : Hid (Below w.heap.size w w2) := b1.out.trans (hb2.mono b1.out.size)
    have RP := rep_any G2 hB (gn + 1) A m c (frames st) R2 (fun _ h => h) (by omega) (by omega) hm2 (by omega)
    have hl2 := len_rep (room := room) (L := L) (g := gn + 1) (b := frames st)
    obtain ⟨er, her⟩ : ∃ z, z = (pRep room L (gn + 1) (frames st)).1 := ⟨_, rfl⟩
    obtain ⟨L2, hL2⟩ : ∃ z, z = (pRep room L (gn + 1) (frames st)).2 := ⟨_, rfl⟩
    have hps2 : Hid (pSave room L n st = if er = 0 then (0, (sCut L2 logN 0).2, 0) else (er, L2, n)) := by have := hps1.out; rwa [← her, ← hL2] at this
    rw [← her, ← hL2] at RP
    rw [← hL2] at hl2
    replace RP := Lib.hid RP
    clear her hL2 hps1 R2 R1 Gn hb2 G2 G1 b1
    go_wp2_with fail
    refine RP.out.mono ?_
    rintro e w3 ⟨rfl, h3⟩
    have T3 : Hid (LgTo B w p room L2 X q n w3) := (h3.less xin.out xq.out).of_below b2.out xsw.out
    clear h3 RP xin b2
    by_cases hz : er = 0
    · subst hz
      have hps3 : Hid (pSave room L n st = (0, (sCut L2 logN 0).2, 0)) := by have := hps2.out; rwa [if_pos rfl] at this
      have C := Dk.l_cut T3.out.1.live ⟨#[108, 111, 103]⟩ 0 (by decide) (by omega)
      rw [show nm ⟨#[108, 111, 103]⟩ = logN from rfl] at C
      obtain ⟨e4, he4⟩ : ∃ z, z = (sCut L2 logN 0).1 := ⟨_, rfl⟩
      obtain ⟨L4, hL4⟩ : ∃ z, z = (sCut L2 logN 0).2 := ⟨_, rfl⟩
      rw [← he4, ← hL4] at C
      rw [← hL4] at hps3
      replace C := Lib.hid C
      have k0 : w3.cell? ⟨q, 0, none⟩ = some (.pointer (some ⟨p, 0, none⟩)) := Pk.one_at T3.out.1.at_
      clear he4 hL4 hps2
      go_wp2_with fail
      refine C.out.mono ?_
      rintro e w4 ⟨rfl, h4⟩
      have T4 := T3.out.trans (Lg.of_lto T3.out.1 h4)
      have fr := Pk.one_free (i := 1) T4.1.at_
      have k1 : w4.cell? ⟨q, 1, none⟩ = some (.int .i64 n) := Pk.one_at T4.1.at_
      have T5 : Hid (LgTo B w p room L4 X q 0 (w4.setCell ⟨q, 1, none⟩ (.int .i64 0))) := by
        have := T4.trans (T4.1.set 0)
        unfold Hid
        simpa using this
      clear T4 h4 C T3 k0
      go_wp2
      go_ret
      exact ⟨by rw [hps3.out]; rfl, by rw [hps3.out]; exact T5.out⟩
    · have d : (er == 0) = false := by simpa using hz
      have hps3 : Hid (pSave room L n st = (er, L2, n)) := by have := hps2.out; rwa [if_neg hz] at this
      clear hz hps2
      go_wp2
      go_ret
      exact ⟨by rw [hps3.out]; rfl, by rw [hps3.out]; exact T3.out⟩
  · have hps1 : Hid (pSave room L n st = (1, L, n)) := by have := hps.out; rwa [if_neg hno] at this
    have F : Hid (LgTo B w p room L X q n w1) := G.out.lgto hb
    clear hno hb FR N G ht hps
    go_wp2
    go_ret
    exact ⟨by rw [hps1.out]; rfl, by rw [hps1.out]; exact F.out⟩
end Se
end Go.Proofs.YtbolcapgocjgcaaGreatDoor
