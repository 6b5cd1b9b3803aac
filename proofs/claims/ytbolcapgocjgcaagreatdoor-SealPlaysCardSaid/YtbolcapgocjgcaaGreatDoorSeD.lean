/- generation, empty: what a log asks of its disk. -/
import Derived.Test.YtbolcapgocjgcaaGreatDoorSeC
namespace Go.Proofs.YtbolcapgocjgcaaGreatDoor
set_option maxRecDepth 100000
open Go.RowKit
open Go.Sort (grow)
open Go.Proofs.YtbolcapgocjgcaaGreatDoor.Pk
namespace Se
open Dk (Bs Live LTo nm used)

/-- The log in block q on the disk at p: its files L, n records since the state. -/
structure Lg (B w : World) (p room : Nat) (L : Dk.St) (X : Nat → Prop) (q n : Nat) : Prop where
  live : Live B w p room L X
  at_ : LogAt w q p n
  inx : X q
  base : B.heap.size ≤ q
def LgTo (B w : World) (p room : Nat) (L : Dk.St) (X : Nat → Prop) (q n : Nat) (w' : World) : Prop := Lg B w' p room L X q n ∧ (∀ g, X g → g ≠ q → w'.heap[g]? = w.heap[g]?) ∧ w.heap.size ≤ w'.heap.size
section
variable {B w w' w1 w2 : World} {p room q n m : Nat} {L L' : Dk.St} {X : Nat → Prop}
theorem Lg.below (h : Lg B w p room L X q n) (hb : Below w.heap.size w w') : Lg B w' p room L X q n := ⟨h.live.below hb, (hb.block q (lt_some h.at_)).trans h.at_, h.inx, h.base⟩
theorem Lg.lgto (h : Lg B w p room L X q n) (hb : Below w.heap.size w w') : LgTo B w p room L X q n w' := ⟨h.below hb, fun g hg _ => hb.block g (h.live.xs g hg), hb.size⟩
theorem Lg.of_lto (h : Lg B w p room L X q n) (k : LTo B w p room L' X w') : LgTo B w p room L' X q n w' := ⟨⟨k.1, (k.2.1 q h.inx).trans h.at_, h.inx, h.base⟩, fun g hg _ => k.2.1 g hg, k.2.2⟩
theorem LgTo.trans {n' : Nat} (h : LgTo B w p room L X q n w1) (k : LgTo B w1 p room L' X q n' w2) : LgTo B w p room L' X q n' w2 := ⟨k.1, fun g hg hq => (k.2.1 g hg hq).trans (h.2.1 g hg hq), Nat.le_trans h.2.2 k.2.2⟩
theorem live_set (h : Live B w p room L X) (hx : X q) (hq : B.heap.size ≤ q) (i : Nat) (u : Value) : Live B (w.setCell ⟨q, i, none⟩ u) p room L X := by
  obtain ⟨fp, D, hf⟩ := h.dk
  refine ⟨⟨fp, D.keep (by simp [World.setCell]) (fun g hg => Below.heap_setCell _ _ _ _ (fun e => (hf g hg).2 (by subst e; exact hx))), hf⟩, h.be.trans (grown_below (grown_set _ _ _ _) hq h.be.size), fun g hg => ?_⟩
  have := h.xs g hg
  simpa [World.setCell] using this
theorem Lg.set (h : Lg B w p room L X q n) (m : Nat) : LgTo B w p room L X q m (w.setCell ⟨q, 1, none⟩ (.int .i64 (m : Nat))) :=
  ⟨⟨live_set h.live h.inx h.base 1 _, by
    have := Pk.one_set (i := 1) h.at_ (.int .i64 (m : Nat))
    exact this, h.inx, h.base⟩, fun g _ hq => Below.heap_setCell _ _ _ _ (by simp only; omega), by simp [World.setCell]⟩
end

set_option maxHeartbeats 800000 in
theorem gen_any {B w : World} {p room q n : Nat} {L : Dk.St} {X : Nat → Prop} (G : Lg B w p room L X q n) (ht : Tab w) :
    Calls Tryz.prog 35 #[.pointer (some ⟨q, 0, none⟩)] w fun e w' => e = .returned (.int .i64 (genOf L)) ∧ Below w.heap.size w w' := by
  have c0 : w.cell? ⟨q, 0, none⟩ = some (.pointer (some ⟨p, 0, none⟩)) := Pk.one_at G.at_
  have R := read_any G.live ht ⟨#[115, 110, 97, 112]⟩ (by decide)
  have e : genOf L = (rdf (bof (nm ⟨#[115, 110, 97, 112]⟩) L)).1 := rfl
  rw [e]
  obtain ⟨⟨g, l, z⟩, hx⟩ : ∃ x, x = rdf (bof (nm ⟨#[115, 110, 97, 112]⟩) L) := ⟨_, rfl⟩
  rw [← hx] at R ⊢
  replace R := Lib.hid R
  clear e hx G ht
  go_enter Tryz.func35, Tryz.ntmps35
  go_wp2_with fail
  refine R.out.mono ?_
  rintro e w2 ⟨v, rfl, hL, hb⟩
  obtain ⟨A, c, rfl⟩ := hL.form
  have b3 : Hid (Below w.heap.size w (w2.alloc (.cells #[.int .i64 g, .slice A l.length c] 66))) := hb.alloc hb.size _
  clear R hL hb
  simp only
  generalize l.length = k at *
  go_wp2
  go_ret
  exact ⟨rfl, b3.out⟩

set_option maxHeartbeats 1600000 in
theorem empty_any {B w : World} {p room q n : Nat} {L : Dk.St} {X : Nat → Prop} (G : Lg B w p room L X q n) :
    Calls Tryz.prog 33 #[.pointer (some ⟨q, 0, none⟩)] w fun e w' => e = .returned (.bool (emptyOf n L)) ∧ Below w.heap.size w w' := by
  have c0 : w.cell? ⟨q, 0, none⟩ = some (.pointer (some ⟨p, 0, none⟩)) := Pk.one_at G.at_
  have c1 : w.cell? ⟨q, 1, none⟩ = some (.int .i64 n) := Pk.one_at G.at_
  have R := fun (w' : World) (hb : Below w.heap.size w w') => bread ((G.below hb).live) ⟨#[108, 111, 103]⟩ (by decide)
  have hl := bof_len G.live (nm ⟨#[108, 111, 103]⟩)
  have e0 : emptyOf n L = if 0 < n ∧ syn snapN L < used L then false else (bof (nm ⟨#[108, 111, 103]⟩) L).isEmpty := rfl
  unfold BrTo at R
  obtain ⟨bs, hbs⟩ : ∃ z, z = bof (nm ⟨#[108, 111, 103]⟩) L := ⟨_, rfl⟩
  obtain ⟨er, her⟩ : ∃ z : Int, z = if (Dk.look (nm ⟨#[108, 111, 103]⟩) L).isSome then 0 else 5 := ⟨_, rfl⟩
  rw [← hbs] at hl e0
  rw [← hbs, ← her] at R
  replace R := Lib.hid R
  have hemp : bs.isEmpty = ((bs.length : Int) == 0) := by cases bs <;> simp; omega
  rw [hemp] at e0
  clear hbs her hemp
  obtain ⟨b, hb⟩ : ∃ b, b = emptyOf n L := ⟨_, rfl⟩
  rw [← hb] at e0 ⊢
  clear hb
  by_cases hn : 0 < n
  · have d : decide (0 < n) = true := decide_eq_true hn
    have hq : q < w.heap.size := lt_some G.at_
    have k0 : ∀ d os, (grow (redrawn w d) os).cell? ⟨q, 0, none⟩ = some (.pointer (some ⟨p, 0, none⟩)) := fun d os => ((below_regrown w d os).cell (p := ⟨q, 0, none⟩) hq).trans c0
    have k1 : ∀ d os, (grow (redrawn w d) os).cell? ⟨q, 1, none⟩ = some (.int .i64 n) := fun d os => ((below_regrown w d os).cell (p := ⟨q, 1, none⟩) hq).trans c1
    have Q1 := fun d os => Calls.regrown_of (Dk.l_synced (G.live.below (below_regrown w d os)) ⟨#[115, 110, 97, 112]⟩ (by decide))
    have Q2 := fun d os => Calls.regrown_of (Dk.used_below (G.live.below (below_regrown w d os)))
    have hsy : (Dk.look (nm ⟨#[115, 110, 97, 112]⟩) L).elim 0 (·.2) = syn snapN L := rfl
    rw [hsy] at Q1
    generalize syn snapN L = sy at *
    generalize used L = us at *
    by_cases hlt : sy < us
    · have d2 : decide (sy < us) = true := decide_eq_true hlt
      rw [if_pos ⟨hn, hlt⟩] at e0
      subst e0
      clear G hsy hlt hn R hl
      go_enter Tryz.func33, Tryz.ntmps33
      go_upto_region 1 with (fail)
      refine wp_region_quiet_below (by kernel_rfl) (by kernel_rfl) ?_
      repeat (go_big_quiet_step (first | with_reducible exact Q1 _ _ | with_reducible exact Q2 _ _))
      refine wpQuiet_nil ?_
      intro w7 hw'
      obtain ⟨⟨dq, osq⟩, hw7⟩ := hw'
      have be7 : Hid (Below w.heap.size w w7) := by rw [hw7]; exact below_regrown w dq osq
      clear hw7 Q1 Q2 k0 k1
      go_wp2
      go_ret
      exact ⟨rfl, be7.out⟩
    · have d2 : decide (sy < us) = false := decide_eq_false hlt
      rw [if_neg (fun h => hlt h.2)] at e0
      have R0 : Hid _ := fun d os => R.out (grow (redrawn w d) os) (below_regrown w d os)
      replace e0 := Lib.hid e0
      clear G hsy hlt hn R
      go_enter Tryz.func33, Tryz.ntmps33
      go_upto_region 1 with (fail)
      refine wp_region_quiet_below (by kernel_rfl) (by kernel_rfl) ?_
      repeat (go_big_quiet_step (first | with_reducible exact Q1 _ _ | with_reducible exact Q2 _ _))
      refine wpQuiet_nil ?_
      intro w7 hw'
      obtain ⟨⟨dq, osq⟩, hw7⟩ := hw'
      have be7 : Hid (Below w.heap.size w w7) := by rw [hw7]; exact below_regrown w dq osq
      have R1 := R0.out dq osq
      have c7 := k0 dq osq
      rw [← hw7] at R1 c7
      replace R1 := Lib.hid R1
      clear hw7 Q1 Q2 k0 k1 R0 c0 c1
      go_wp2_with fail
      refine R1.out.mono ?_
      rintro e w8 ⟨A, c, rfl, _, _, _, _, hb8⟩
      have b8 : Hid (Below w.heap.size w w8) := be7.out.trans (hb8.mono be7.out.size)
      clear R1 hb8 be7 c7
      have e1 := e0.out
      clear e0
      go_wp2
      go_ret
      exact ⟨by rw [e1]; rfl, b8.out⟩
  · have d : decide (0 < n) = false := decide_eq_false hn
    rw [if_neg (fun h => hn h.1)] at e0
    have R0 := Lib.hid (fun k => R.out (w.drewN k) ⟨rfl, rfl, rfl, Nat.le_refl _, fun _ _ => rfl⟩)
    replace e0 := Lib.hid e0
    clear R G
    go_enter Tryz.func33, Tryz.ntmps33
    go_upto_region 1 with (fail)
    go_quiet (fail)
    go_wp2_with fail
    refine (R0.out _).mono ?_
    rintro e w8 ⟨A, c, rfl, _, _, _, _, hb8⟩
    have b8 : Hid (Below w.heap.size w w8) := ⟨hb8.os, hb8.tape, hb8.output, hb8.size, hb8.block⟩
    clear R0 hb8
    have e1 := e0.out
    clear e0
    go_wp2
    go_ret
    exact ⟨by rw [e1]; rfl, b8.out⟩
end Se
end Go.Proofs.YtbolcapgocjgcaaGreatDoor
