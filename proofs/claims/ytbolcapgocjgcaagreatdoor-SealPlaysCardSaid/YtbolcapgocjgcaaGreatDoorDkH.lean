/- Crash. -/
import Derived.Test.YtbolcapgocjgcaaGreatDoorDkG
namespace Go.Proofs.YtbolcapgocjgcaaGreatDoor
set_option maxRecDepth 100000
open Go.RowKit
open Go.Proofs.YtbolcapgocjgcaaGreatDoor.Pk
namespace Dk

def cr (keep : Int) (a : Bs × Nat) : Bs × Nat := (a.1.take (a.2 + min (max keep 0).toNat (a.1.length - a.2)), a.2 + min (max keep 0).toNat (a.1.length - a.2))
def sCrash (keep : Int) (L : St) : St := vals (cr keep) L
def mix (g : Bs × Nat → Bs × Nat) (k : Nat) (L : St) : St := vals g (L.take k) ++ L.drop k
theorem mix_zero (g : Bs × Nat → Bs × Nat) (L : St) : mix g 0 L = L := rfl
theorem mix_all (g : Bs × Nat → Bs × Nat) (L : St) : mix g L.length L = vals g L := by simp [mix]
theorem mix_names (g : Bs × Nat → Bs × Nat) (k : Nat) (L : St) : (mix g k L).map (·.1) = L.map (·.1) := by
  simp [mix, vals, List.map_map, Function.comp_def]
theorem mix_rise {g : Bs × Nat → Bs × Nat} {k : Nat} {L : St} : Rise (mix g k L) ↔ Rise L := by
  have h := mix_names g k L
  unfold Rise
  rw [← List.pairwise_map (f := fun p : Bs × Bs × Nat => p.1) (R := fun a b => bytesBefore a b = true), ← List.pairwise_map (f := fun p : Bs × Bs × Nat => p.1) (R := fun a b => bytesBefore a b = true), h]
theorem mix_len (g : Bs × Nat → Bs × Nat) (k : Nat) (L : St) : (mix g k L).length = L.length := by
  have := congrArg List.length (mix_names g k L)
  simpa using this
theorem put_mid {α : Type} {x : Bs} {a b : α} : ∀ {X Y : List (Bs × α)}, Rise (X ++ (x, a) :: Y) → put x b (X ++ (x, a) :: Y) = X ++ (x, b) :: Y
  | [], Y, _ => by simp [put]
  | q :: X, Y, h => by
    obtain ⟨h1, h2⟩ := List.pairwise_cons.1 (show (q :: (X ++ (x, a) :: Y)).Pairwise _ from h)
    have hq := h1 (x, a) (by simp)
    have e1 : q.1 ≠ x := bb_ne hq
    have e2 : ¬ bytesBefore x q.1 = true := by rw [bb_asym hq]; simp
    show put x b (q :: (X ++ (x, a) :: Y)) = q :: (X ++ (x, b) :: Y)
    rw [put, if_neg e1, if_neg e2, put_mid h2]
theorem mix_at {g : Bs × Nat → Bs × Nat} {k : Nat} {L : St} {x : Bs} {a : Bs × Nat} (h : L[k]? = some (x, a)) : mix g k L = vals g (L.take k) ++ (x, a) :: L.drop (k + 1) := by
  obtain ⟨hk, e⟩ := List.getElem?_eq_some_iff.1 h
  unfold mix
  rw [List.drop_eq_getElem_cons hk, e]
theorem mix_next {g : Bs × Nat → Bs × Nat} {k : Nat} {L : St} {x : Bs} {a : Bs × Nat} (h : L[k]? = some (x, a)) (hr : Rise L) : put x (g a) (mix g k L) = mix g (k + 1) L := by
  obtain ⟨hk, e⟩ := List.getElem?_eq_some_iff.1 h
  have hr' := (mix_rise (g := g) (k := k)).2 hr
  rw [mix_at h] at hr' ⊢
  rw [put_mid hr']
  unfold mix
  rw [List.take_add_one, h]
  simp [vals]
theorem mix_look {g : Bs × Nat → Bs × Nat} {k : Nat} {L : St} {x : Bs} {a : Bs × Nat} (h : L[k]? = some (x, a)) (hr : Rise L) : look x (mix g k L) = some a :=
  mem_look ((mix_rise (g := g) (k := k)).2 hr) (by rw [mix_at h]; simp)
theorem nm_str (x : Bs) : nm (str x) = x := by simp [nm, str]

set_option maxHeartbeats 800000 in
theorem crash_none (w : World) (keep : Int) : Calls Tryz.prog 16 #[.pointer none, .int .i64 keep] w fun e w' => e = .returned (.tuple #[]) ∧ Below w.heap.size w w' := by
  have N := Lib.hid (names_none w)
  go_enter Tryz.func16, Tryz.ntmps16
  go_wp2_with fail
  refine N.out.mono ?_
  rintro e w1 ⟨v, rfl, hown, hb⟩
  obtain ⟨A, c, rfl⟩ := own_form hown
  replace hb := Lib.hid hb
  clear hown N
  simp only [List.length_nil]
  go_wp2_with fail
  go_loopw [11] (fun i wr => i = .int .i64 0 ∧ Below w.heap.size w wr) (fun _ _ => 0)
  case atStart => exact ⟨rfl, hb.out⟩
  case round =>
    obtain ⟨rfl, hw⟩ := hrel
    replace hw := Lib.hid hw
    go_wp2
    go_end0
    exact ⟨rfl, hw.out⟩

def CrAt (w1 : World) (p room : Nat) (L : St) (fp : Nat → Prop) (keep : Int) (i : Value) (wr : World) : Prop :=
  ∃ k : Nat, i = .int .i64 (k : Nat) ∧ k ≤ L.length ∧ DTo w1 p room fp (mix (cr keep) k L) wr

set_option maxHeartbeats 3200000 in
set_option maxRecDepth 20000 in
theorem crash_any (w : World) (p room : Nat) (L : St) (fp : Nat → Prop) (keep : Int) (D : Disk w p room L fp) (hl : L.length ≤ 1000000) (hk1 : -9223372036854775808 ≤ keep) (hk2 : keep ≤ 9223372036854775807) :
    Calls Tryz.prog 16 #[.pointer (some ⟨p, 0, none⟩), .int .i64 keep] w fun e w' => e = .returned (.tuple #[]) ∧ DTo w p room fp (sCrash keep L) w' := by
  have hrise : Rise L := by obtain ⟨mo, l, D, rfl⟩ := D; exact (rise_vals abs).2 D.rise
  have N : Calls Tryz.prog 45 #[.pointer (some ⟨p, 0, none⟩)] w (NamesTo w (L.map (·.1))) := by
    obtain ⟨mo, l, D, rfl⟩ := D
    have := names_dsk w p room mo l fp D (by rw [len_vals] at hl; exact hl)
    simpa [vals, List.map_map, Function.comp_def] using this
  have hfs : Hid (∀ g, fp g → g < w.heap.size) := by obtain ⟨mo, l, D, _⟩ := D; exact D.size
  replace N := Lib.hid N
  replace D := Lib.hid D
  replace hrise := Lib.hid hrise
  obtain ⟨n, hn⟩ : ∃ n, n = L.length := ⟨_, rfl⟩
  rw [← hn] at hl
  replace hn := Lib.hid hn
  go_enter Tryz.func16, Tryz.ntmps16
  go_wp2_with fail
  refine N.out.mono ?_
  rintro e w1 ⟨v, rfl, hown, hb⟩
  obtain ⟨A, c, rfl⟩ := own_form hown
  rw [List.length_map, ← hn.out] at hown ⊢
  have D1 : Hid (Disk w1 p room L fp) := D.out.below hb
  have st : Hid (CrAt w1 p room L fp keep (.int .i64 0) w1) := ⟨0, rfl, Nat.zero_le _, DTo.of_below D1.out (Below.refl _ _)⟩
  replace hown := Lib.hid hown
  replace hb := Lib.hid hb
  clear N D
  go_wp2_with fail
  go_loopw [11] (fun i wr => CrAt w1 p room L fp keep i wr) (fun i _ => n - (intOf i).toNat)
  case atStart => exact st.out
  case round =>
    obtain ⟨k, rfl, hk, hd⟩ := hrel
    replace hd := Lib.hid hd
    by_cases hlt : k < n
    · obtain ⟨⟨x, a⟩, hx⟩ : ∃ r, L[k]? = some r := ⟨_, List.getElem?_eq_getElem (by have := hn.out; omega)⟩
      have hk0 : 0 < n := by omega
      obtain ⟨g, rfl, hgl, hcell⟩ : ∃ g, A = some ⟨g, 0, none⟩ ∧ (w.heap.size ≤ g ∧ g < w1.heap.size) ∧ w1.cell? ⟨g, k, none⟩ = some (.string (str x)) := by
        have ho := hown.out
        rcases ho.2 with ⟨_, h0⟩ | ⟨g, cap, cur, hv, hb1, hh, _⟩
        · omega
        · injection hv with hA _ _
          subst hA
          refine ⟨g, rfl, ⟨hb1, lt_some hh⟩, ?_⟩
          have := ho.cells (g := g) rfl k (.string (str x)) (by rw [List.map_map, List.getElem?_map, hx]; rfl)
          simpa [Addr.add_lit] using this
      have hkp := hd.out.2
      have e0 : wr.cell? ⟨g, k, none⟩ = some (.string (str x)) := (World.cell?_of_block (hkp.block g hgl.2 (fun e => by have := hfs.out g e; omega))).trans hcell
      obtain ⟨mo, l, d, hL⟩ := hd.out.1
      have hlk := mix_look (g := cr keep) hx hrise.out
      rw [hL, look_vals] at hlk
      cases hf : look x l with
      | none => rw [hf] at hlk; cases hlk
      | some f =>
      rw [hf] at hlk
      have ha : abs f = a := by injection hlk
      have hm := look_mem hf
      obtain ⟨⟨A', c', hv, h1, h2, h3⟩, hn20, hks⟩ := d.head _ hm
      have hrow := (d.rows _ hm (by simp)).1
      simp only at hv h1 hn20 hks
      have hfit := d.fits
      have hz : f.s.length ≤ 1000000 := Nat.le_trans (Nat.le_trans (le_sum use hm) d.fits) d.most
      rw [hv] at hrow
      have R : Rb wr (Row wr) A' f.s.length f.s := (Rb.of_own hrow).keep (fun _ _ => rfl) (fun _ h => h.2)
      have hll : l.length ≤ 1000000 := by have := congrArg List.length hL; rw [mix_len, len_vals] at this; have := hn.out; omega
      have LK : Hid (∀ W : World, Below wr.heap.size wr W → (Instr.lookup 62 (.map mo) (.string (str x)) false).run Tryz.prog W = .ok (.agg #[.slice A' f.s.length c', .int .i64 f.k]) W) := fun W hb => by
        have := look_run W mo l (str x) (d.below hb).map (by have : (str x).size = x.length := by simp [str, ByteArray.size]
                                                             rw [this]; unfold maxLen; omega)
        rw [nm_str, hf] at this
        simp only [Option.elim, cell] at this
        rw [hv] at this
        exact this
      have HC : Hid (∀ W : World, Below wr.heap.size wr W → W.cell? ⟨p, 2, none⟩ = some (.map mo)) := fun W hb => one_at (i := 2) (d.below hb).cells
      obtain ⟨mn, hmn⟩ : ∃ z, z = min (max keep 0).toNat (f.s.length - f.k) := ⟨_, rfl⟩
      obtain ⟨j, hj⟩ : ∃ z, z = f.k + mn := ⟨_, rfl⟩
      have hjl : j ≤ f.s.length := by omega
      have hlen : (f.s.take j).length = j := by rw [List.length_take]; omega
      have hcr : cr keep a = (f.s.take j, j) := by rw [← ha, hj, hmn]; rfl
      have hC : Hid (∀ W : World, Below wr.heap.size wr W → Calls Tryz.prog 47 #[.agg #[.slice A' f.s.length c', .int .i64 f.k], .int .i64 j] W fun e w' => ∃ v, e = .returned (.agg #[v, .int .i64 j]) ∧ w'.ownsRow W.heap.size 5 1 v j (u8s (f.s.take j)) ∧ Below W.heap.size W w') := fun W hb =>
        (first_any W A' _ c' j _ f.s (R.row fun g hg => hb.block g hg.lt) hjl hz h1 h2 h3).mono fun e w' h => by unfold FirstTo at h; rw [hlen] at h; exact h
      have hG : Hid (∀ (W : World) (v : Value), Below wr.heap.size wr W → W.ownsRow wr.heap.size 5 1 v j (u8s (f.s.take j)) →
          Calls Tryz.prog 46 #[.pointer (some ⟨p, 0, none⟩), .string (str x), .agg #[v, .int .i64 j]] W fun e w' => e = .returned (.tuple #[]) ∧ CrAt w1 p room L fp keep (.int .i64 ((k : Int) + 1)) w') := fun W v hb O => by
        obtain ⟨g1, g2⟩ := fits_new (n := x) (k := j) d hb (show W.ownsRow _ _ _ _ (f.s.take j).length _ by rw [hlen]; exact O) hn20 (by omega) (by rw [hf]; simp only [Option.elim, use]; omega)
        have := put_any (str x) W p room mo l (gr (gr fp w1 wr) wr W) ⟨v, f.s.take j, j⟩ (by rw [nm_str]; exact g1) (by rw [nm_str]; exact g2) hll
        refine this.mono fun e w' h => ⟨h.1, k + 1, by simp, by have := hn.out; omega, ?_⟩
        have h2 := h.2.dto (.of_below hb)
        rw [nm_str, ← hL] at h2
        have h3 : put x (abs ⟨v, f.s.take j, j⟩) (mix (cr keep) k L) = mix (cr keep) (k + 1) L := by rw [← mix_next hx hrise.out, hcr]; rfl
        rw [h3] at h2
        exact hd.out.trans h2
      have e1 : wrap64 ((f.s.length : Int) - (f.k : Int)) = ((f.s.length - f.k : Nat) : Int) := by rw [IntWalk.wrap64_in _ (by omega)]; omega
      obtain ⟨tn, htn⟩ : ∃ z, z = f.s.length - f.k := ⟨_, rfl⟩
      rw [← htn] at e1 hmn
      have e2 : max keep 0 = (((max keep 0).toNat : Nat) : Int) := by omega
      have e3 : Hid (min (max keep 0) (tn : Int) = (mn : Int) ∧ (f.k : Int) + (mn : Int) = (j : Int) ∧ j ≤ 1000000) := by
        refine ⟨?_, by omega, by omega⟩
        rw [e2, hmn]
        omega
      have i1 : (k : Int) < (n : Int) := by omega
      have L1 := LK.out wr (Below.refl _ _)
      have c2 := HC.out wr (Below.refl _ _)
      clear hown hx hcell hgl hk0 hkp d hL hlk hf ha hm hv h1 h2 h3 hn20 hks hrow hfit hz R hll hlen hcr hjl htn hj hmn e2 LK HC
      generalize f.s = bs at *
      generalize f.k = ky at *
      go_wp2_with fail
      have e4 : wrap64 ((ky : Int) + min (max keep 0) (tn : Int)) = (j : Int) := by
        obtain ⟨q1, q2, q3⟩ := e3.out
        rw [q1, q2]
        exact IntWalk.wrap64_in _ (by omega)
      rw [e4]
      clear e1 e3 e4 e0 c2 L1
      have B : Hid (Below wr.heap.size wr (wr.alloc (.cells #[.slice A' bs.length c', .int .i64 ky] 88))) := (Below.refl _ _).alloc (Nat.le_refl _) _
      have C := Lib.hid (hC.out _ B.out)
      clear hC
      refine C.out.mono ?_
      rintro e w2 ⟨v, rfl, hown, hb2⟩
      have G := Lib.hid (hG.out w2 v (B.out.trans (hb2.mono B.out.size)) (own_mono hown B.out.size))
      clear hown hb2 C B hG
      go_wp2_with fail
      refine G.out.mono ?_
      rintro e w3 ⟨rfl, nx⟩
      replace nx := Lib.hid nx
      clear G
      go_wp2
      exact ⟨nx.out, by simp [intOf]; omega⟩
    · obtain rfl : k = n := by have := hn.out; omega
      have E : Hid (DTo w p room fp (sCrash keep L) wr) := by
        have := hd.out
        rw [hn.out, mix_all] at this
        obtain ⟨⟨mo, l, d, e⟩, kk⟩ := this
        refine ⟨⟨mo, l, d.mono (fun g hg => ?_) (fun g hg => ?_), e⟩, (Kp.of_below hb.out).trans' kk⟩
        · rcases hg with hg | ⟨h, h'⟩
          · exact .inl hg
          · exact .inr ⟨by have := hb.out.size; omega, h'⟩
        · rcases hg with hg | ⟨_, h'⟩
          · exact d.size g (.inl hg)
          · exact h'
      go_wp2
      go_end0
      exact ⟨rfl, E.out⟩
end Dk
end Go.Proofs.YtbolcapgocjgcaaGreatDoor
