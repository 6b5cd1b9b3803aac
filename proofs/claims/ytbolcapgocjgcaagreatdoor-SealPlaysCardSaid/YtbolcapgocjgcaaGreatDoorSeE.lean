/- Put, Sync. -/
import Derived.Test.YtbolcapgocjgcaaGreatDoorSeD
namespace Go.Proofs.YtbolcapgocjgcaaGreatDoor
set_option maxRecDepth 100000
open Go.RowKit
open Go.Proofs.YtbolcapgocjgcaaGreatDoor.Pk
namespace Se
open Dk (Bs Live LTo nm used sApp)
open Fr (frame)

set_option maxHeartbeats 3200000 in
theorem put_any {B w : World} {p room q n : Nat} {L : Dk.St} {X : Nat → Prop} (G : Lg B w p room L X q n) (hB : Tab B) {T : Nat → Prop} (A : Option Addr) (m c : Nat) (b : Bs) (R : Rb w T A m b) (hT : ∀ g, T g → g < w.heap.size) (hm : m ≤ 9223372036854775807) (hl : L.length ≤ 1000) (hn : n ≤ 1000000) :
    Calls Tryz.prog 9 #[.pointer (some ⟨q, 0, none⟩), .slice A m c] w fun e w' => e = .returned (.int .i64 (pPut room L n b).1) ∧ LgTo B w p room (pPut room L n b).2.1 X q (pPut room L n b).2.2 w' := by
  have ht := G.live.tab hB
  have N := Lib.hid (none_no w q p n G.at_)
  have hbl := R.len
  by_cases hg : 1 ≤ m ∧ m ≤ 1000
  · have P := Lib.hid (Fr.put_yes w A m c b R hT ht hg.1 hg.2)
    have hp0 : pPut room L n b = ((sApp room L logN (if emptyOf n L then sealOf (genOf L) (frame b) else frame b)).1, (sApp room L logN (if emptyOf n L then sealOf (genOf L) (frame b) else frame b)).2, if (sApp room L logN (if emptyOf n L then sealOf (genOf L) (frame b) else frame b)).1 = 0 then n + 1 else n) := by
      unfold pPut
      rw [if_pos (by omega)]
    have xs : Hid (∀ g, X g → g < w.heap.size) := G.live.xs
    obtain ⟨em, hem⟩ : ∃ z, z = emptyOf n L := ⟨_, rfl⟩
    rw [← hem] at hp0
    have hgd := rdf_bd (bof snapN L)
    have hgd' : -1 ≤ genOf L ∧ genOf L ≤ 9223372036854775807 := hgd
    obtain ⟨gn, hgn⟩ : ∃ z, z = genOf L := ⟨_, rfl⟩
    rw [← hgn] at hp0 hgd'
    replace hgn := Lib.hid hgn
    replace hem := Lib.hid hem
    replace hp0 := Lib.hid hp0
    obtain ⟨hg1, hg2⟩ := hg
    replace G := Lib.hid G
    replace ht := Lib.hid ht
    have hfl : Hid ((frame b).length = m + 6) := by show _ = _; rw [Fr.frame_len, hbl]
    have Gw : Hid (∀ w', Below w.heap.size w w' → Lg B w' p room L X q n) := fun w' hb => G.out.below hb
    clear R hT hgd
    go_enter Tryz.func9, Tryz.ntmps9
    go_wp2_with fail
    refine N.out.mono ?_
    rintro e w' ⟨rfl, rfl⟩
    go_wp2_with fail
    refine P.out.mono ?_
    rintro e w1 ⟨v1, rfl, ho1, hb1⟩
    rw [hbl] at ho1
    obtain ⟨A1, c1, rfl⟩ := own_form ho1
    have G1 := G.out.below hb1
    have E := Lib.hid (empty_any G1)
    rw [← hem.out] at E
    have R1 : Hid (Rb w1 (fun k => w.heap.size ≤ k ∧ k < w1.heap.size) A1 (m + 6) (frame b)) := (Rb.of_own ho1).keep (fun _ _ => rfl) (fun k hk => ⟨hk.1, hk.2.lt⟩)
    have t1 : Hid (Tab w1) := ht.out.below hb1
    replace hb1 := Lib.hid hb1
    clear G1 ho1 P N G ht hem
    go_wp2_with fail
    refine E.out.mono ?_
    rintro e w2 ⟨rfl, hb2⟩
    have b2 : Hid (Below w.heap.size w w2) := hb1.out.trans (hb2.mono hb1.out.size)
    have R2 : Hid (Rb w2 (fun k => w.heap.size ≤ k ∧ k < w2.heap.size) A1 (m + 6) (frame b)) := R1.out.keep (fun g hg => hb2.block g hg.2) (fun g hg => ⟨hg.1, Nat.lt_of_lt_of_le hg.2 hb2.size⟩)
    have t2 : Hid (Tab w2) := t1.out.below hb2
    have G2 := Gw.out w2 b2.out
    clear E hb2 hb1 R1 t1
    cases em with
    | false =>
    have hp : Hid (pPut room L n b = ((sApp room L logN (frame b)).1, (sApp room L logN (frame b)).2, if (sApp room L logN (frame b)).1 = 0 then n + 1 else n)) := hp0.out
    obtain ⟨x, hx⟩ : ∃ z, z = frame b := ⟨_, rfl⟩
    obtain ⟨mf, hmf0⟩ : ∃ z, z = m + 6 := ⟨_, rfl⟩
    rw [← hx] at hp R2
    rw [← hmf0] at R2
    have hmf : Hid (mf ≤ 2000) := by show _ ≤ _; omega
    obtain ⟨w3, hw3⟩ : ∃ z, z = w2 := ⟨_, rfl⟩
    obtain ⟨Af, hAf⟩ : ∃ z, z = A1 := ⟨_, rfl⟩
    obtain ⟨cf, hcf⟩ : ∃ z, z = c1 := ⟨_, rfl⟩
    subst hw3
    subst hAf
    subst hcf
    have Rf := R2
    have G3 := G2
    have b3 := b2
    clear R2 G2 b2
    clear hp0 hx hgn hgd' hfl t2 Gw hg1 hg2
    rw [← hmf0]
    clear hmf0 hbl
    have C := Dk.l_append G3.live ⟨#[108, 111, 103]⟩ Af mf cf x Rf.out (fun _ h => h.2) (by have := hmf.out; omega) (by omega)
    rw [show nm ⟨#[108, 111, 103]⟩ = logN from rfl] at C
    obtain ⟨er, her⟩ : ∃ z, z = (sApp room L logN x).1 := ⟨_, rfl⟩
    obtain ⟨L', hL'⟩ : ∃ z, z = (sApp room L logN x).2 := ⟨_, rfl⟩
    rw [← her, ← hL'] at C
    have c0 : w3.cell? ⟨q, 0, none⟩ = some (.pointer (some ⟨p, 0, none⟩)) := Pk.one_at G3.at_
    have F : Hid (pPut room L n b = (er, L', if er = 0 then n + 1 else n)) := by
      have h := hp.out
      rw [← her, ← hL'] at h
      exact h
    replace C := Lib.hid C
    have T3 : Hid (LgTo B w p room L X q n w3) := ⟨G3, fun g hg _ => b3.out.block g (xs.out g hg), b3.out.size⟩
    clear her hL' hp Rf b3 hmf
    go_wp2_with fail
    refine C.out.mono ?_
    rintro e w4 ⟨rfl, hto⟩
    have T4 := T3.out.trans (Lg.of_lto G3 hto)
    clear hto C T3 c0 G3
    have fr := Pk.one_free (i := 1) T4.1.at_
    have c1 : w4.cell? ⟨q, 1, none⟩ = some (.int .i64 n) := Pk.one_at T4.1.at_
    by_cases hz : er = 0
    · subst hz
      have T5 : Hid (LgTo B w p room L' X q (n + 1) (w4.setCell ⟨q, 1, none⟩ (.int .i64 ((n : Int) + 1)))) := by
        have := T4.trans (T4.1.set (n + 1))
        unfold Hid
        simpa using this
      have F2 : Hid (pPut room L n b = (0, L', n + 1)) := by have := F.out; unfold Hid; simpa using this
      clear T4 F
      go_wp2
      go_ret
      exact ⟨by rw [F2.out]; rfl, by rw [F2.out]; exact T5.out⟩
    · have d : (er == 0) = false := by simpa using hz
      have F2 : Hid (pPut room L n b = (er, L', n)) := by have := F.out; unfold Hid; simpa [hz] using this
      replace T4 := Lib.hid T4
      clear F hz fr c1
      go_wp2
      go_ret
      exact ⟨by rw [F2.out]; rfl, by rw [F2.out]; exact T4.out⟩
    | true =>
    have Gn := gen_any G2 t2.out
    rw [← hgn.out] at Gn
    replace Gn := Lib.hid Gn
    clear G2 hgn
    go_wp2_with fail
    refine Gn.out.mono ?_
    rintro e w5 ⟨rfl, hb5⟩
    have R5 := R2.out.keep (w' := w5) (fun g hg => hb5.block g hg.2) (fun g hg => (⟨hg.1, Nat.lt_of_lt_of_le hg.2 hb5.size⟩ : w.heap.size ≤ g ∧ g < w5.heap.size))
    have b5 : Hid (Below w.heap.size w w5) := b2.out.trans (hb5.mono b2.out.size)
    have S := Lib.hid (sealed_any w5 gn A1 (m + 6) c1 (frame b) R5 (fun _ h => h.2) (t2.out.below hb5) (by omega) (by omega) (by omega))
    obtain ⟨x, hx⟩ : ∃ z, z = sealOf gn (frame b) := ⟨_, rfl⟩
    have hp : Hid (pPut room L n b = ((sApp room L logN (sealOf gn (frame b))).1, (sApp room L logN (sealOf gn (frame b))).2, if (sApp room L logN (sealOf gn (frame b))).1 = 0 then n + 1 else n)) := hp0.out
    rw [← hx] at S hp
    have hxl : Hid (x.length ≤ 2000) := by
      show _ ≤ _
      rw [hx, sealOf_len, hfl.out]
      have := encI_len gn (by omega) (by omega)
      omega
    clear Gn hb5 R5 R2 b2 t2 hp0 hx
    go_wp2_with fail
    refine S.out.mono ?_
    rintro e w3 ⟨v3, rfl, ho3, hb3⟩
    obtain ⟨Af, cf, rfl⟩ := own_form ho3
    have b3 : Hid (Below w.heap.size w w3) := b5.out.trans (hb3.mono b5.out.size)
    have G3 := Gw.out w3 b3.out
    have Rf : Hid (Rb w3 (fun k => w5.heap.size ≤ k ∧ k < w3.heap.size) Af x.length x) := (Rb.of_own ho3).keep (fun _ _ => rfl) (fun k hk => ⟨hk.1, hk.2.lt⟩)
    obtain ⟨mf, hmf0⟩ : ∃ z, z = x.length := ⟨_, rfl⟩
    rw [← hmf0] at Rf
    have hmf : Hid (mf ≤ 2000) := by rw [hmf0]; exact hxl.out
    clear S hb3 ho3 b5 hxl hgd' hfl Gw hg1 hg2
    rw [← hmf0]
    clear hmf0 hbl
    have C := Dk.l_append G3.live ⟨#[108, 111, 103]⟩ Af mf cf x Rf.out (fun _ h => h.2) (by have := hmf.out; omega) (by omega)
    rw [show nm ⟨#[108, 111, 103]⟩ = logN from rfl] at C
    obtain ⟨er, her⟩ : ∃ z, z = (sApp room L logN x).1 := ⟨_, rfl⟩
    obtain ⟨L', hL'⟩ : ∃ z, z = (sApp room L logN x).2 := ⟨_, rfl⟩
    rw [← her, ← hL'] at C
    have c0 : w3.cell? ⟨q, 0, none⟩ = some (.pointer (some ⟨p, 0, none⟩)) := Pk.one_at G3.at_
    have F : Hid (pPut room L n b = (er, L', if er = 0 then n + 1 else n)) := by
      have h := hp.out
      rw [← her, ← hL'] at h
      exact h
    replace C := Lib.hid C
    have T3 : Hid (LgTo B w p room L X q n w3) := ⟨G3, fun g hg _ => b3.out.block g (xs.out g hg), b3.out.size⟩
    clear her hL' hp Rf b3 hmf
    go_wp2_with fail
    refine C.out.mono ?_
    rintro e w4 ⟨rfl, hto⟩
    have T4 := T3.out.trans (Lg.of_lto G3 hto)
    clear hto C T3 c0 G3
    have fr := Pk.one_free (i := 1) T4.1.at_
    have c1 : w4.cell? ⟨q, 1, none⟩ = some (.int .i64 n) := Pk.one_at T4.1.at_
    by_cases hz : er = 0
    · subst hz
      have T5 : Hid (LgTo B w p room L' X q (n + 1) (w4.setCell ⟨q, 1, none⟩ (.int .i64 ((n : Int) + 1)))) := by
        have := T4.trans (T4.1.set (n + 1))
        unfold Hid
        simpa using this
      have F2 : Hid (pPut room L n b = (0, L', n + 1)) := by have := F.out; unfold Hid; simpa using this
      clear T4 F
      go_wp2
      go_ret
      exact ⟨by rw [F2.out]; rfl, by rw [F2.out]; exact T5.out⟩
    · have d : (er == 0) = false := by simpa using hz
      have F2 : Hid (pPut room L n b = (er, L', n)) := by have := F.out; unfold Hid; simpa [hz] using this
      replace T4 := Lib.hid T4
      clear F hz fr c1
      go_wp2
      go_ret
      exact ⟨by rw [F2.out]; rfl, by rw [F2.out]; exact T4.out⟩
  · have P := Lib.hid (Fr.put_no w A m c hm (by omega))
    have hp : Hid (pPut room L n b = (1, L, n)) := by
      show _ = _
      unfold pPut
      rw [if_neg (by omega)]
    have F : Hid (LgTo B w p room L X q n w) := G.lgto (Below.refl _ _)
    clear R hT ht G hg hbl
    go_enter Tryz.func9, Tryz.ntmps9
    go_wp2_with fail
    refine N.out.mono ?_
    rintro e w' ⟨rfl, rfl⟩
    go_wp2_with fail
    refine P.out.mono ?_
    rintro e w' ⟨rfl, rfl⟩
    go_wp2
    go_ret
    exact ⟨by rw [hp.out]; rfl, by rw [hp.out]; exact F.out⟩

set_option maxHeartbeats 800000 in
theorem sync_any {B w : World} {p room q n : Nat} {L : Dk.St} {X : Nat → Prop} (G : Lg B w p room L X q n) (hl : L.length ≤ 1000) :
    Calls Tryz.prog 11 #[.pointer (some ⟨q, 0, none⟩)] w fun e w' => e = .returned (.int .i64 0) ∧ LgTo B w p room (pSync L) X q n w' := by
  have N := Lib.hid (none_no w q p n G.at_)
  have c0 : w.cell? ⟨q, 0, none⟩ = some (.pointer (some ⟨p, 0, none⟩)) := Pk.one_at G.at_
  have C := Dk.l_sync G.live ⟨#[108, 111, 103]⟩ (by decide) (by omega)
  rw [show nm ⟨#[108, 111, 103]⟩ = logN from rfl] at C
  have e : (Dk.sSync L logN).2 = pSync L := rfl
  rw [e] at C
  obtain ⟨er, her⟩ : ∃ z, z = (Dk.sSync L logN).1 := ⟨_, rfl⟩
  rw [← her] at C
  replace C := Lib.hid C
  have G' := Lib.hid G
  clear G her e
  go_enter Tryz.func11, Tryz.ntmps11
  go_wp2_with fail
  refine N.out.mono ?_
  rintro e w' ⟨rfl, rfl⟩
  go_wp2_with fail
  refine C.out.mono ?_
  rintro e w1 ⟨rfl, hto⟩
  have F : Hid _ := Lg.of_lto G'.out hto
  clear hto
  go_wp2
  go_ret
  exact ⟨rfl, F.out⟩
end Se
end Go.Proofs.YtbolcapgocjgcaaGreatDoor
