/- A disk and the document's are the same. -/
import Derived.Test.YtpkjeplhdnbihaaRgF
namespace Go.Proofs.Ytpkjeplhdnbihaa
open Go.RowKit
open Go.Proofs.Ytpkjeplhdnbihaa.Pk
namespace Dk

def SmAt (w1 : World) (n : Nat) (i : Value) (wr : World) : Prop := ∃ k : Nat, i = .int .i64 (k : Nat) ∧ k ≤ n ∧ Below w1.heap.size w1 wr
set_option maxHeartbeats 3200000 in
set_option maxRecDepth 20000 in
theorem same_ok {B w : World} {p q room rm : Nat} {L : St} {v : Value} {X : Nat → Prop} (V : Live B w p room L X) (R : Rf w q rm L v) (hl : L.length ≤ 900) :
    Calls Try.prog 24 #[.pointer (some ⟨p, 0, none⟩), .pointer (some ⟨q, 0, none⟩)] w fun e w' => e = .returned (.bool true) ∧ Below w.heap.size w w' := by
  have N := Lib.hid (l_names V (by omega))
  have hu : used L ≤ 1000000 := Nat.le_trans V.fits.1 V.fits.2
  have hd := Lib.hid V.head
  have hrise := Lib.hid V.rise
  obtain ⟨n, hn⟩ : ∃ n, n = L.length := ⟨_, rfl⟩
  have VH := Lib.hid V
  have RH := Lib.hid R
  have hlb : n ≤ 900 := by omega
  replace hn := Lib.hid hn
  replace hu := Lib.hid hu
  clear V R hl
  go_enter Try.func24, Try.ntmps24
  go_wp2_with fail
  refine N.out.mono ?_
  rintro e w1 ⟨vn, rfl, hown, hb⟩
  obtain ⟨An, cn, rfl⟩ := own_form hown
  rw [List.length_map, ← hn.out] at hown ⊢
  have V1 := Lib.hid (VH.out.below hb)
  have R1 := Lib.hid (RH.out.below hb)
  obtain ⟨A, c, rfl, _⟩ := row_form R1.out.row
  rw [← hn.out] at R1 RH
  have c1 : w1.cell? ⟨q, 1, none⟩ = some (.slice A n c) := one_at (i := 1) R1.out.cells
  have U1 := Lib.hid (l_used V1.out)
  have U2 := Lib.hid (rused w1 q rm L _ R1.out hu.out (by rw [← hn.out]; omega))
  obtain ⟨ul, hul⟩ : ∃ z, z = used L := ⟨_, rfl⟩
  rw [← hul] at U1 U2
  replace hown := Lib.hid hown
  replace hb := Lib.hid hb
  clear N hul VH RH
  go_wp2_with fail
  refine U1.out.mono ?_
  rintro e w2 ⟨rfl, rfl⟩
  go_wp2_with fail
  refine U2.out.mono ?_
  rintro e w3 ⟨rfl, rfl⟩
  have st : Hid (SmAt w1 n (.int .i64 0) w1) := ⟨0, rfl, Nat.zero_le _, Below.refl _ _⟩
  clear U1 U2
  go_wp2_with fail
  go_loopw [6] (fun i wr => SmAt w1 n i wr) (fun i _ => n - (intOf i).toNat)
  case atStart => exact st.out
  case round =>
    obtain ⟨k, rfl, hkn, hbr⟩ := hrel
    by_cases hlt : k < n
    · obtain ⟨⟨x, s, y⟩, hx⟩ : ∃ p, L[k]? = some p := ⟨_, List.getElem?_eq_getElem (by have := hn.out; omega)⟩
      have hlk : look (nm (str x)) L = some (s, y) := by rw [nm_str]; exact mem_look hrise.out (List.mem_of_getElem? hx)
      obtain ⟨gn, rfl, hcn⟩ : ∃ g, An = some ⟨g, 0, none⟩ ∧ w1.cell? ⟨g, k, none⟩ = some (.string (str x)) := by
        have ho := hown.out
        rcases ho.2 with ⟨_, h0⟩ | ⟨g, cap, cur, hv, hb1, hh, _⟩
        · omega
        · injection hv with hA _ _
          subst hA
          refine ⟨g, rfl, ?_⟩
          have := ho.cells (g := g) rfl k (.string (str x)) (by rw [List.map_map, List.getElem?_map, hx]; rfl)
          simpa [Addr.add_lit] using this
      have hgn : gn < w1.heap.size := World.block_lt_of_cell? w1 _ hcn
      have hxs : (str x).size ≤ maxLen := by rw [str_size]; have h20 : x.length ≤ 20 := (hd.out _ (List.mem_of_getElem? hx)).1; unfold maxLen; omega
      have CB : ∀ wx, Below w1.heap.size w1 wx → wx.cell? ⟨gn, k, none⟩ = some (.string (str x)) := fun wx hbx => (World.cell?_of_block (hbx.block gn hgn)).trans hcn
      have e0 := CB wr hbr
      obtain ⟨g, c', hv, _, _, _, _, _, _⟩ := R1.out.file hx
      injection hv with hA e4 e5
      subst hA
      clear e4 e5
      have RD := l_read (V1.out.below hbr) (str x) hxs
      rw [hlk] at RD
      replace RD := Lib.hid RD
      have i1 : (k : Int) < (n : Int) := by omega
      have i2 : (0 : Int) ≤ (k : Int) := by omega
      have i3 : (n : Int) ≤ 900 := by omega
      go_wp2_with fail
      refine RD.out.mono ?_
      rintro e wa (⟨h, _⟩ | ⟨s', y', vb, h, rfl, hob, ba⟩)
      · cases h
      obtain ⟨rfl, rfl⟩ : s' = s ∧ y' = y := by
        injection h with h
        injection h with h1 h2
        exact ⟨h1.symm, h2.symm⟩
      obtain ⟨Ab, cb, rfl⟩ := own_form hob
      have bw : Hid (Below w1.heap.size w1 wa) := hbr.trans (ba.mono hbr.size)
      have Pb : Hid (Rb wa (fun g => g < wa.heap.size) Ab s'.length s') := rb_own hob
      have Va := Lib.hid (V1.out.below bw.out)
      have Ra := Lib.hid (R1.out.below bw.out)
      have d0 := CB wa bw.out
      have d1 : wa.cell? ⟨q, 1, none⟩ = some (.slice (some ⟨g, 0, none⟩) n c) := one_at (i := 1) Ra.out.cells
      obtain ⟨f1, f2, f3⟩ : wa.cell? ⟨g, k * 3, none⟩ = some (.string (str x)) ∧ wa.cell? ⟨g, k * 3 + 1, none⟩ = some (.string (str s')) ∧ wa.cell? ⟨g, k * 3 + 2, none⟩ = some (.int .i64 (y' : Nat)) := by
        obtain ⟨g', c'', hv', _, _, e1, e2, e3, _⟩ := Ra.out.file hx
        injection hv' with hA' _ _
        injection hA' with hA'
        injection hA' with hA'
        subst hA'
        exact ⟨e1, e2, e3⟩
      have k0 := cell_regrown d0
      have k1 := cell_regrown d1
      have k2 := cell_regrown f1
      have k3 := cell_regrown f2
      have k4 := cell_regrown f3
      have t1 := fun d os => str_regrown (c := cb) Pb.out d os
      have Q2 := fun d os => Calls.regrown_of (l_synced (Va.out.below (below_regrown wa d os)) (str x) hxs)
      rw [hlk] at Q2
      simp only [Option.elim] at Q2
      have nx : Hid (∀ wx, Below wa.heap.size wa wx → SmAt w1 n (.int .i64 ((k : Int) + 1)) wx) := fun wx hbx => ⟨k + 1, by simp, by omega, bw.out.trans (hbx.mono bw.out.size)⟩
      clear d0 d1 f1 f2 f3 c1
      clear RD hob ba bw Pb Va Ra CB e0 h hcn hlk hx hown hbr
      go_wp2_with fail
      refine wp_region_quiet_below (by kernel_rfl) (by kernel_rfl) ?_
      repeat (go_big_quiet_step (first | with_reducible exact Q2 _ _))
      refine wpQuiet_nil ?_
      intro w7 hw'
      obtain ⟨⟨dq, osq⟩, hw7⟩ := hw'
      have n7 := Lib.hid (nx.out w7 (by rw [hw7]; exact below_regrown wa dq osq))
      clear hw7
      go_wp2
      exact ⟨n7.out, by simp [intOf]; omega⟩
    · obtain rfl : k = n := by omega
      replace hbr := Lib.hid hbr
      have be := Lib.hid (hb.out.trans (hbr.out.mono hb.out.size))
      go_wp2
      go_ret
      exact ⟨rfl, be.out⟩
end Dk
end Go.Proofs.Ytpkjeplhdnbihaa
