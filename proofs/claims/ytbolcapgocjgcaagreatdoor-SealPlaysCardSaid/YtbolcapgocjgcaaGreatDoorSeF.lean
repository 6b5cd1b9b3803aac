/- replace: a state in the place of the elder one. -/
import Derived.Test.YtbolcapgocjgcaaGreatDoorSeE
namespace Go.Proofs.YtbolcapgocjgcaaGreatDoor
set_option maxRecDepth 100000
open Go.RowKit
open Go.Proofs.YtbolcapgocjgcaaGreatDoor.Pk
namespace Se
open Dk (Bs Live LTo nm used sApp sRem sSync sRen)

section
variable {B w w' w1 w2 : World} {p room q n m : Nat} {L L' : Dk.St} {X X' : Nat → Prop}
theorem Lg.more (h : Lg B w p room L X q n) (hb : Below w.heap.size w w') : Lg B w' p room L (fun g => X g ∨ (w.heap.size ≤ g ∧ g < w'.heap.size)) q n :=
  ⟨h.live.more hb, (hb.block q (lt_some h.at_)).trans h.at_, .inl h.inx, h.base⟩
theorem LgTo.less (h : LgTo B w p room L X' q n w') (hx : ∀ g, X g → X' g) (hq : X q) : LgTo B w p room L X q n w' :=
  ⟨⟨h.1.live.less hx, h.1.at_, hq, h.1.base⟩, fun g hg hne => h.2.1 g (hx g hg) hne, h.2.2⟩
theorem LgTo.of_below (hb : Below w.heap.size w w1) (hx : ∀ g, X g → g < w.heap.size) (h : LgTo B w1 p room L X q n w') : LgTo B w p room L X q n w' :=
  ⟨h.1, fun g hg hne => (h.2.1 g hg hne).trans (hb.block g (hx g hg)), Nat.le_trans hb.size h.2.2⟩
end
theorem len_sync {L : Dk.St} {n : Bs} : (sSync L n).2.length ≤ L.length + 1 := by
  unfold sSync
  cases Dk.look n L with
  | none => exact Nat.le_succ _
  | some a => exact Dk.len_put_le _ _ _
theorem len_app {room : Nat} {L : Dk.St} {n b : Bs} : (sApp room L n b).2.length ≤ L.length + 1 := by
  unfold sApp
  split
  · exact Nat.le_succ _
  · split
    · exact Nat.le_succ _
    · exact Dk.len_put_le _ _ _
theorem len_cut {L : Dk.St} {n : Bs} {k : Int} : (Dk.sCut L n k).2.length ≤ L.length + 1 := by
  unfold Dk.sCut
  cases Dk.look n L with
  | none => exact Nat.le_succ _
  | some a =>
    show (if _ then _ else _ : Int × Dk.St).2.length ≤ _
    split
    · exact Nat.le_succ _
    · exact Dk.len_put_le _ _ _
theorem len_ren {L : Dk.St} {n m : Bs} : (sRen L n m).2.length ≤ L.length + 1 := by
  unfold sRen
  cases Dk.look n L with
  | none => exact Nat.le_succ _
  | some a =>
    show (if _ then _ else _ : Int × Dk.St).2.length ≤ _
    split
    · exact Nat.le_succ _
    · exact Nat.le_trans (Dk.len_put_le _ _ _) (Nat.succ_le_succ (Dk.len_del_le _ _))

set_option maxHeartbeats 3200000 in
theorem rep_any {B w : World} {p room q n : Nat} {L : Dk.St} {X : Nat → Prop} (G : Lg B w p room L X q n) (hB : Tab B) {T : Nat → Prop} (g : Int) (A : Option Addr) (m c : Nat) (bs : Bs) (R : Rb w T A m bs) (hT : ∀ k, T k → X k ∧ k ≠ q) (h1 : -9223372036854775808 ≤ g) (h2 : g ≤ 9223372036854775807) (hm : m ≤ 900000) (hl : L.length ≤ 1000) :
    Calls Tryz.prog 43 #[.pointer (some ⟨q, 0, none⟩), .agg #[.int .i64 g, .slice A m c]] w fun e w' => e = .returned (.int .i64 (pRep room L g bs).1) ∧ LgTo B w p room (pRep room L g bs).2 X q n w' := by
  obtain ⟨w0, hw0⟩ : ∃ z, z = w.alloc (.cells #[.int .i64 g, .slice A m c] 79) := ⟨_, rfl⟩
  have b0 : Below w.heap.size w w0 := by rw [hw0]; exact (Below.refl _ _).alloc (Nat.le_refl _) _
  have hs0 : w0.heap[w.heap.size]? = some (.cells #[.int .i64 g, .slice A m c] 79 (0, 0)) := by rw [hw0]; exact heap_alloc_new _ _
  have hz0 : w0.heap.size = w.heap.size + 1 := by rw [hw0]; simp
  have G0 := G.more b0
  have hqw := lt_some G.at_
  have xsw := G.live.xs
  obtain ⟨X', hX'⟩ : ∃ z, z = fun g => X g ∨ (w.heap.size ≤ g ∧ g < w0.heap.size) := ⟨_, rfl⟩
  rw [← hX'] at G0
  have xin : ∀ g, X g → X' g := fun g hg => by rw [hX']; exact .inl hg
  have xsb : X' w.heap.size := by rw [hX']; exact .inr ⟨Nat.le_refl _, by omega⟩
  have R0 : Rb w0 (fun k => X' k ∧ k ≠ q) A m bs := R.keep (fun k hk => b0.block k (xsw k (hT k hk).1)) (fun k hk => ⟨xin k (hT k hk).1, (hT k hk).2⟩)
  have Fin : Hid (∀ L' w', LgTo B w0 p room L' X' q n w' → LgTo B w p room L' X q n w') := fun L' w' h => (LgTo.less h xin G.inx).of_below b0 xsw
  have C := Dk.l_remove G0.live ⟨#[110, 101, 120, 116]⟩ (by decide) (by omega)
  rw [show nm ⟨#[110, 101, 120, 116]⟩ = nextN from rfl] at C
  have hp0 : pRep room L g bs = if (sApp room (sRem L nextN).2 nextN (sealOf g bs)).1 = 0 then (0, (sRen (sSync (sApp room (sRem L nextN).2 nextN (sealOf g bs)).2 nextN).2 nextN snapN).2) else sApp room (sRem L nextN).2 nextN (sealOf g bs) := rfl
  have hl1 : (sRem L nextN).2.length ≤ 1000 := Nat.le_trans len_rem hl
  obtain ⟨L1, hL1⟩ : ∃ z, z = (sRem L nextN).2 := ⟨_, rfl⟩
  obtain ⟨e1, he1⟩ : ∃ z, z = (sRem L nextN).1 := ⟨_, rfl⟩
  rw [← hL1, ← he1] at C
  rw [← hL1] at hp0 hl1
  have xl : (sealOf g bs).length ≤ 910000 := by
    rw [sealOf_len, R.len]
    have := encI_len g h1 h2
    omega
  obtain ⟨x, hx⟩ : ∃ z, z = sealOf g bs := ⟨_, rfl⟩
  rw [← hx] at hp0 xl
  have hne : w.heap.size ≠ q := by omega
  have SE : Hid (∀ w', Tab w' → Rb w' (fun k => k < w'.heap.size) A m bs → Calls Tryz.prog 34 #[.agg #[.int .i64 g, .slice A m c]] w' (MadeTo w' x)) := fun w' ht hr => by rw [hx]; exact sealed_any w' g A m c bs hr (fun _ h => h) ht h1 h2 hm
  have k0 : w0.cell? ⟨q, 0, none⟩ = some (.pointer (some ⟨p, 0, none⟩)) := Pk.one_at G0.at_
  replace C := Lib.hid C
  replace G0 := Lib.hid G0
  replace hp0 := Lib.hid hp0
  replace xl := Lib.hid xl
  replace hs0 := Lib.hid hs0
  replace R0 := Lib.hid R0
  replace xsb := Lib.hid xsb
  replace hl1 := Lib.hid hl1
  clear G R hT hX' hL1 he1 hx b0 xsw hm h1 h2 xin hz0 hqw
  go_enter Tryz.func43, Tryz.ntmps43
  go_upto_region 1 with (fail)
  rw [← hw0]
  clear hw0
  go_wp2_with fail
  refine C.out.mono ?_
  rintro e w1 ⟨rfl, hto⟩
  have T1 : Hid (LgTo B w0 p room L1 X' q n w1) := Lg.of_lto G0.out hto
  have G1 : Hid (Lg B w1 p room L1 X' q n) := T1.out.1
  have hs1 : Hid (w1.heap[w.heap.size]? = some (.cells #[.int .i64 g, .slice A m c] 79 (0, 0))) := (hto.2.1 _ xsb.out).trans hs0.out
  have R1 : Hid (Rb w1 (fun k => k < w1.heap.size) A m bs) := R0.out.keep (fun k hk => hto.2.1 k hk.1) (fun k hk => hto.1.xs k hk.1)
  have t1 : Hid (Tab w1) := G1.out.live.tab hB
  have SA : Hid (∀ w', Below w1.heap.size w1 w' → w'.cell? ⟨q, 0, none⟩ = some (.pointer (some ⟨p, 0, none⟩)) ∧ w'.cell? ⟨w.heap.size, 0, none⟩ = some (.int .i64 g) ∧ w'.cell? ⟨w.heap.size, 1, none⟩ = some (.slice A m c)) := fun w' hb =>
    ⟨Pk.one_at ((hb.block _ (lt_some G1.out.at_)).trans G1.out.at_), Pk.one_at ((hb.block _ (lt_some hs1.out)).trans hs1.out), Pk.one_at ((hb.block _ (lt_some hs1.out)).trans hs1.out)⟩
  have s0 := SA.out w1.drew ⟨rfl, rfl, rfl, Nat.le_refl _, fun _ _ => rfl⟩
  have SE1 : Hid (Calls Tryz.prog 34 #[.agg #[.int .i64 g, .slice A m c]] w1.drew (MadeTo w1.drew x)) := SE.out w1.drew (t1.out.below ⟨rfl, rfl, rfl, Nat.le_refl _, fun _ _ => rfl⟩) (R1.out.keep (fun _ _ => rfl) (fun _ h => h))
  obtain ⟨er, her⟩ : ∃ z, z = (sApp room L1 nextN x).1 := ⟨_, rfl⟩
  obtain ⟨L2, hL2⟩ : ∃ z, z = (sApp room L1 nextN x).2 := ⟨_, rfl⟩
  have AP : Hid (∀ w2 A2 c2, Below w1.heap.size w1 w2 → w2.ownsRow w1.heap.size 5 1 (.slice A2 x.length c2) x.length (u8s x) → Calls Tryz.prog 36 #[.pointer (some ⟨p, 0, none⟩), .string ⟨#[110, 101, 120, 116]⟩, .slice A2 x.length c2] w2 fun e w' => e = .returned (.int .i64 er) ∧ LgTo B w0 p room L2 X' q n w' ∧ w'.cell? ⟨q, 0, none⟩ = some (.pointer (some ⟨p, 0, none⟩)) ∧ w'.cell? ⟨w.heap.size, 0, none⟩ = some (.int .i64 g) ∧ w'.cell? ⟨w.heap.size, 1, none⟩ = some (.slice A m c)) := fun w2 A2 c2 hb ho => by
    have := Dk.l_append (G1.out.below hb).live ⟨#[110, 101, 120, 116]⟩ A2 x.length c2 x ((Rb.of_own ho).keep (T' := fun k => k < w2.heap.size) (fun _ _ => rfl) (fun _ h => h.2.lt)) (fun _ h => h) (by have := xl.out; omega) (by have := hl1.out; omega)
    rw [show nm ⟨#[110, 101, 120, 116]⟩ = nextN from rfl, ← her, ← hL2] at this
    refine this.mono fun e w' h => ?_
    have T3 := (T1.out.trans (G1.out.lgto hb)).trans (Lg.of_lto (G1.out.below hb) h.2)
    have h3 := (T3.2.1 _ xsb.out hne).trans hs0.out
    exact ⟨h.1, T3, Pk.one_at T3.1.at_, Pk.one_at h3, Pk.one_at h3⟩
  have hl2 : Hid (L2.length ≤ 1001) := by
    show _ ≤ _
    rw [hL2]
    have := len_app (room := room) (L := L1) (n := nextN) (b := x)
    have := hl1.out
    omega
  have hp1 : Hid (pRep room L g bs = if er = 0 then (0, (sRen (sSync L2 nextN).2 nextN snapN).2) else (er, L2)) := by
    have h := hp0.out
    rw [← her, ← hL2] at h
    have e : sApp room L1 nextN x = (er, L2) := by rw [her, hL2]
    rw [e] at h
    exact h
  obtain ⟨nx, hnx⟩ : ∃ z, z = x.length := ⟨_, rfl⟩
  rw [← hnx] at AP
  clear hto R1 t1 SE her hL2 hp0 hs1 R0 G0 C hs0 T1 G1 xl
  replace hnx := Lib.hid hnx
  go_upto_region 2 with (fail)
  go_region_held3 (fun w' => w'.cell? ⟨q, 0, none⟩ = some (.pointer (some ⟨p, 0, none⟩)) ∧ w'.cell? ⟨w.heap.size, 0, none⟩ = some (.int .i64 g) ∧ w'.cell? ⟨w.heap.size, 1, none⟩ = some (.slice A m c)) (first | assumption | exact s0 | go_keep)
    ((first
      | (go_at_call 34; refine SE1.out.mono ?_; rintro e w2 ⟨v2, rfl, ho2, hb2⟩; rw [← hnx.out] at ho2; obtain ⟨A2, c2, rfl⟩ := own_form ho2; have hb3 : Below w1.heap.size w1 w2 := ⟨hb2.os, hb2.tape, hb2.output, hb2.size, hb2.block⟩; have sr := SA.out w2 hb3; have Q := Lib.hid (AP.out w2 A2 c2 hb3 ho2))
      | (go_at_call 36; refine Q.out.mono ?_; rintro e w3 ⟨rfl, T3, sr3⟩)))
  clear s0 SA SE1 AP
  replace T3 := Lib.hid T3
  obtain ⟨c3, _, _⟩ := sr3
  by_cases hz : er = 0
  · subst hz
    have hp2 : Hid (pRep room L g bs = (0, (sRen (sSync L2 nextN).2 nextN snapN).2)) := by have := hp1.out; rwa [if_pos rfl] at this
    have C3 := Dk.l_sync T3.out.1.live ⟨#[110, 101, 120, 116]⟩ (by decide) (by have := hl2.out; omega)
    rw [show nm ⟨#[110, 101, 120, 116]⟩ = nextN from rfl] at C3
    have hl3 := len_sync (L := L2) (n := nextN)
    obtain ⟨e3, he3⟩ : ∃ z, z = (sSync L2 nextN).1 := ⟨_, rfl⟩
    obtain ⟨L3, hL3⟩ : ∃ z, z = (sSync L2 nextN).2 := ⟨_, rfl⟩
    rw [← he3, ← hL3] at C3
    rw [← hL3] at hp2 hl3
    replace C3 := Lib.hid C3
    replace hl3 := Lib.hid hl3
    clear he3 hL3 hp1
    go_wp2_with fail
    refine C3.out.mono ?_
    rintro e w4 ⟨rfl, h4⟩
    have T4 := T3.out.trans (Lg.of_lto T3.out.1 h4)
    have c4 : w4.cell? ⟨q, 0, none⟩ = some (.pointer (some ⟨p, 0, none⟩)) := Pk.one_at T4.1.at_
    have C4 := Dk.l_rename T4.1.live ⟨#[110, 101, 120, 116]⟩ ⟨#[115, 110, 97, 112]⟩ (by decide) (by have := hl3.out; have := hl2.out; omega)
    rw [show nm ⟨#[110, 101, 120, 116]⟩ = nextN from rfl, show nm ⟨#[115, 110, 97, 112]⟩ = snapN from rfl] at C4
    obtain ⟨e4, he4⟩ : ∃ z, z = (sRen L3 nextN snapN).1 := ⟨_, rfl⟩
    obtain ⟨L4, hL4⟩ : ∃ z, z = (sRen L3 nextN snapN).2 := ⟨_, rfl⟩
    rw [← he4, ← hL4] at C4
    rw [← hL4] at hp2
    replace C4 := Lib.hid C4
    replace T4 := Lib.hid T4
    clear he4 hL4 C3 h4 c3 T3
    go_wp2_with fail
    refine C4.out.mono ?_
    rintro e w5 ⟨rfl, h5⟩
    have T5 : Hid _ := Fin.out _ _ (T4.out.trans (Lg.of_lto T4.out.1 h5))
    clear T4 C4 h5 c4
    go_wp2
    go_ret
    exact ⟨by rw [hp2.out]; rfl, by rw [hp2.out]; exact T5.out⟩
  · have d : (er == 0) = false := by simpa using hz
    have hp2 : Hid (pRep room L g bs = (er, L2)) := by have := hp1.out; rwa [if_neg hz] at this
    have T5 : Hid _ := Fin.out _ _ T3.out
    clear hp1 hz T3
    go_wp2
    go_ret
    exact ⟨by rw [hp2.out]; rfl, by rw [hp2.out]; exact T5.out⟩
end Se
end Go.Proofs.YtbolcapgocjgcaaGreatDoor
