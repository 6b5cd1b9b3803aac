/- DiskNames, its first part. -/
import Derived.Test.YtpkjeplhdnbihaaLwDNames2
namespace Go.Proofs.Ytpkjeplhdnbihaa.diskNames
open Go.ChangeShapes Go.WideShapes Go.ChangeAt Go.WideElems Go.RowKit
open Go.Proofs.Ytpkjeplhdnbihaa.Pk Go.Proofs.Ytpkjeplhdnbihaa.Dk

open Go.Sort (grow)
/-- What stands when k names have been gone through. -/
structure Nm (B : World) (p : Nat) (l : List ByteArray) (k : Nat) (L : Dk.St) (wr : World) : Prop where
  live : Live B wr p 1000 L (fun _ => False)
  used : used L = k
  len : L.length ≤ k
  has : ∀ (j : Nat) (s : ByteArray), j < k → l[j]? = some s → ∃ a, Dk.look (nm s) L = some a
  good : ∀ (j : Nat) (s : ByteArray), j < k → l[j]? = some s → Dk.good (nm s) = true
def NmAt (B : World) (p : Nat) (l : List ByteArray) (i : Value) (wr : World) : Prop := ∃ k L, i = .int .i64 (k : Nat) ∧ k ≤ l.length ∧ Nm B p l k L wr
theorem Nm.next {B wr w' : World} {p k : Nat} {l : List ByteArray} {L : Dk.St} {s : ByteArray} {b : Bs} (h : Nm B p l k L wr) (hs : l[k]? = some s) (hg : Dk.good (nm s) = true) (hb : b.length = 1) (hk : k ≤ 900) (V : Live B w' p 1000 (sApp 1000 L (nm s) b).2 (fun _ => False)) :
    (sApp 1000 L (nm s) b).1 = 0 ∧ Nm B p l (k + 1) (sApp 1000 L (nm s) b).2 w' := by
  have e := app_ok (room := 1000) (L := L) (n := nm s) (b := b) hg (by rw [h.used, hb]; omega)
  rw [e] at V ⊢
  have hr := h.live.rise
  refine ⟨rfl, V, ?_, ?_, fun j t hj ht => ?_, fun j t hj ht => ?_⟩
  · have := used_put (n := nm s) (a := ((Dk.look (nm s) L).elim [] (·.1) ++ b, (Dk.look (nm s) L).elim 0 (·.2))) hr
    have h2 := h.used
    rw [List.length_append, hb] at this
    cases e : Dk.look (nm s) L with
    | none => rw [e] at this; simp only [Option.elim, List.length_nil] at this ⊢; omega
    | some q => rw [e] at this; simp only [Option.elim] at this ⊢; omega
  · exact Nat.le_trans (len_put_le _ _ _) (by have := h.len; omega)
  · by_cases et : nm t = nm s
    · rw [et]
      exact ⟨_, look_put_same _ _ _⟩
    · rw [look_put_other et]
      refine h.has j t ?_ ht
      rcases Nat.lt_or_ge j k with hjk | hjk
      · exact hjk
      · obtain rfl : j = k := by omega
        rw [hs] at ht
        injection ht with ht
        exact absurd (by rw [ht]) et
  · rcases Nat.lt_or_ge j k with hjk | hjk
    · exact h.good j t hjk ht
    · obtain rfl : j = k := by omega
      rw [hs] at ht
      injection ht with ht
      rw [← ht]
      exact hg

theorem place (at_ : Int) (L : Nat) (hL : 0 < L) (hm : L ≤ 1000000) : ∃ k : Nat, IntKind.i64.wrap ((IntKind.u64.wrap at_).tmod (L : Int)) = (k : Int) ∧ k < L := by
  have h0 : 0 ≤ IntKind.u64.wrap at_ := by rw [IntKind.wrap_u64]; omega
  have h1 := Int.emod_nonneg (IntKind.u64.wrap at_) (show (L : Int) ≠ 0 by omega)
  have h2 := Int.emod_lt_of_pos (IntKind.u64.wrap at_) (show (0 : Int) < L by omega)
  refine ⟨((IntKind.u64.wrap at_) % (L : Int)).toNat, ?_, by omega⟩
  rw [Int.tmod_eq_emod_of_nonneg h0, IntKind.wrap_i64]
  omega
set_option maxHeartbeats 6400000 in
set_option maxRecDepth 100000 in
theorem walk (A : Option Addr) (n c : Nat) (l : List ByteArray) (x y : Int) (w : World) (S : Strs w w.heap.size A n l) (hnc : n ≤ c) (hcm : c ≤ 9223372036854775807) :
    Calls Try.prog 7 #[.slice A n c, .int .i64 x, .int .i64 y] w fun e w' => e = .returned (.bool true) ∧ Below w.heap.size w w' := by
  have TA := Lib.hid told_any
  have N0 := Lib.hid (l_new w 1000 (by omega) (Below.refl w.heap.size w))
  have hlen := S.len
  by_cases h0 : n < 1
  · have q0 : decide ((n : Int) < 1) = true := decide_eq_true (by omega)
    clear S h0 hlen
    go_enter Try.func7, Try.ntmps7
    go_wp2_with fail
    refine N0.out.mono ?_
    rintro e w1 ⟨p, rfl, V⟩
    replace V := Lib.hid V.be
    go_wp2_with fail
    refine (TA.out _).mono ?_
    rintro e w2 ⟨rfl, hb⟩
    have b2 : Hid (Below w.heap.size w w2) := V.out.trans (hb.mono V.out.size)
    clear hb V
    go_wp2
    go_ret
    exact ⟨rfl, b2.out⟩

  by_cases h1 : 12 < n
  · have q0 : decide ((n : Int) < 1) = false := decide_eq_false (by omega)
    have q1 : decide ((12 : Int) < (n : Int)) = true := decide_eq_true (by omega)
    clear S h0 h1 hlen
    go_enter Try.func7, Try.ntmps7
    go_wp2_with fail
    refine N0.out.mono ?_
    rintro e w1 ⟨p, rfl, V⟩
    replace V := Lib.hid V.be
    go_wp2_with fail
    refine (TA.out _).mono ?_
    rintro e w2 ⟨rfl, hb⟩
    have b2 : Hid (Below w.heap.size w w2) := V.out.trans (hb.mono V.out.size)
    clear hb V
    go_wp2
    go_ret
    exact ⟨rfl, b2.out⟩

  have q0 : decide ((n : Int) < 1) = false := decide_eq_false (by omega)
  have q1 : decide ((12 : Int) < (n : Int)) = false := decide_eq_false (by omega)
  obtain ⟨ad, rfl, hadb, hcell⟩ := S.at_ (by omega)
  replace S := Lib.hid S
  replace hcell := Lib.hid hcell
  replace hadb := Lib.hid hadb
  replace h0 := Lib.hid h0
  replace h1 := Lib.hid h1
  replace hlen := Lib.hid hlen
  go_enter Try.func7, Try.ntmps7
  go_wp2_with fail
  refine N0.out.mono ?_
  rintro e w1 ⟨p, rfl, V1⟩
  have st : Hid (NmAt w p l (.int .i64 0) w1) := ⟨0, [], rfl, Nat.zero_le _, ⟨V1, rfl, Nat.le_refl _, fun j s h => absurd h (by omega), fun j s h => absurd h (by omega)⟩⟩
  clear N0 V1
  go_wp2_with fail
  go_loopw [9] (fun i wr => NmAt w p l i wr) (fun i _ => n - (intOf i).toNat)
  case atStart => exact st.out
  case round =>
    obtain ⟨k, L, rfl, hk, hN⟩ := hrel
    replace hN := Lib.hid hN
    by_cases hlt : k < n
    · obtain ⟨s, hs⟩ : ∃ r, l[k]? = some r := ⟨_, List.getElem?_eq_getElem (by have := hlen.out; omega)⟩
      have hc : wr.cell? (ad.add k) = some (.string s) := (World.cell?_of_block (by rw [adr_block]; exact hN.out.live.be.block _ hadb.out)).trans (hcell.out k s hs)
      have i1 : (k : Int) < (n : Int) := by omega
      have hbe : Hid (Below w.heap.size w wr) := hN.out.live.be
      by_cases hs0 : s.size < 1
      · have q2 : decide ((s.size : Int) < 1) = true := decide_eq_true (by omega)
        clear hs0 hs
        go_wp2_with fail
        refine (TA.out _).mono ?_
        rintro e w2 ⟨rfl, hb⟩
        have b2 : Hid (Below w.heap.size w w2) := hbe.out.trans (hb.mono hbe.out.size)
        clear hb hbe
        go_wp2
        go_ret
        exact ⟨rfl, b2.out⟩

      have q2 : decide ((s.size : Int) < 1) = false := decide_eq_false (by omega)
      by_cases hs1 : 20 < s.size
      · have q3 : decide ((20 : Int) < (s.size : Int)) = true := decide_eq_true (by omega)
        clear hs0 hs1 hs
        go_wp2_with fail
        refine (TA.out _).mono ?_
        rintro e w2 ⟨rfl, hb⟩
        have b2 : Hid (Below w.heap.size w w2) := hbe.out.trans (hb.mono hbe.out.size)
        clear hb hbe
        go_wp2
        go_ret
        exact ⟨rfl, b2.out⟩

      have q3 : decide ((20 : Int) < (s.size : Int)) = false := decide_eq_false (by omega)
      have hg : Hid (Dk.good (nm s) = true) := by
        have := good_nm s
        unfold Hid
        rw [← this]
        simp
        omega
      replace hs := Lib.hid hs
      clear hs0 hs1
      go_wp2_with fail
      have hk8 : ((k : Int) % 256) = ((UInt8.ofNat k).toNat : Int) := by
        rw [UInt8.toNat_ofNat']
        omega
      rw [hk8]
      have Va := hN.out.live.below (below_alloc wr (.cells (u8s [UInt8.ofNat k]).toArray 5 (0, 0)))
      have hL6 : L.length ≤ 1000000 := by have := hN.out.len; have := h1.out; omega
      have C1 := l_append Va s _ 1 1 _ (rb_lit wr [UInt8.ofNat k] (0, 0)) (fun g hg => by subst hg; simp) (by omega) hL6
      have hX : Hid (∀ w', Live w w' p 1000 (sApp 1000 L (nm s) [UInt8.ofNat k]).2 (fun _ => False) → (sApp 1000 L (nm s) [UInt8.ofNat k]).1 = 0 ∧ Nm w p l (k + 1) (sApp 1000 L (nm s) [UInt8.ofNat k]).2 w') := fun w' V => hN.out.next hs.out hg.out rfl (by have := h1.out; omega) V
      generalize (sApp 1000 L (nm s) [UInt8.ofNat k]).1 = ec at *
      generalize (sApp 1000 L (nm s) [UInt8.ofNat k]).2 = L' at *
      refine C1.mono ?_
      rintro e w2 ⟨rfl, V2⟩
      obtain ⟨rfl, N2⟩ := hX.out w2 V2.1
      have nx : Hid (NmAt w p l (.int .i64 ((k : Int) + 1)) w2) := ⟨k + 1, L', by simp, by have := hlen.out; omega, N2⟩
      clear C1 hX V2 N2 Va hL6 hk8 q2 q3
      go_wp2
      exact ⟨nx.out, by simp [intOf]; omega⟩
    · obtain rfl : k = n := by have := hlen.out; omega
      obtain ⟨kx, hKx, hkx⟩ := place x k (by have := h0.out; omega) (by have := h1.out; omega)
      obtain ⟨ky, hKy, hky⟩ := place y k (by have := h0.out; omega) (by have := h1.out; omega)
      obtain ⟨sx, hsx⟩ : ∃ r, l[kx]? = some r := ⟨_, List.getElem?_eq_getElem (by have := hlen.out; omega)⟩
      obtain ⟨sy, hsy⟩ : ∃ r, l[ky]? = some r := ⟨_, List.getElem?_eq_getElem (by have := hlen.out; omega)⟩
      have eU : IntKind.u64.wrap (k : Int) = (k : Int) := by rw [IntKind.wrap_u64]; have := h1.out; omega
      have ez : (k == 0) = false := by have := h0.out; simp; omega
      have ez2 : ((k : Int) == 0) = false := by have := h0.out; simp; omega
      have ez3 : ¬ (k : Int) = 0 := by have := h0.out; omega
      have ez4 : ¬ k = 0 := by have := h0.out; omega
      have i1 : (kx : Int) < (k : Int) := by omega
      have i2 : (ky : Int) < (k : Int) := by omega
      have i3 : (0 : Int) ≤ (kx : Int) := by omega
      have i4 : (0 : Int) ≤ (ky : Int) := by omega
      have v1 : wr.cell? (ad.add kx) = some (.string sx) := (World.cell?_of_block (by rw [adr_block]; exact hN.out.live.be.block _ hadb.out)).trans (hcell.out kx sx hsx)
      have v2 : wr.cell? (ad.add ky) = some (.string sy) := (World.cell?_of_block (by rw [adr_block]; exact hN.out.live.be.block _ hadb.out)).trans (hcell.out ky sy hsy)
      obtain ⟨⟨ax, aky⟩, hax⟩ := hN.out.has kx sx hkx hsx
      obtain ⟨ay, hay⟩ := hN.out.has ky sy hky hsy
      have hgy := Lib.hid (hN.out.good ky sy hky hsy)
      have hszx : Hid (sx.size ≤ maxLen) := S.out.small sx (List.mem_of_getElem? hsx)
      have hszy : Hid (sy.size ≤ maxLen) := S.out.small sy (List.mem_of_getElem? hsy)
      have hLs : Hid (L.length ≤ 1000000) := Nat.le_trans hN.out.len (by have := h1.out; omega)
      have hgx := hN.out.good kx sx hkx hsx
      obtain ⟨L1, L2, L3, by_, hF⟩ := nf_of hN.out.live.rise (by rw [hN.out.used]; have := h1.out; omega) (Nat.le_trans hN.out.len (by have := h1.out; omega)) hax hay hgx hgy.out
      replace hF := Lib.hid hF
      clear st hlt hsx hsy hkx hky hax hay hgx hgy
      go_wp2
      go_quiet (fail)
      rename_i K1 h1
      have V0 : Hid (Live w (wr.drewN nq) p 1000 L (fun _ => False)) := hN.out.live.below ⟨rfl, rfl, rfl, Nat.le_refl _, fun _ _ => rfl⟩
      exact h1 _ _ (part2 _ _ _ _ _ _ _ _ _ _ _ _ _ _ _ _ _ _ _ _ _ _ _ _ _ _ _ _ _ _ _ _ _ _ _ _ _ _ _ _ _ _ _ _ _ _ _ _ _ _ _ _ _ _ _ _ _ _ _ _ _ _ _ _ _ _ _ _ _ _ _ _ _ _ _ _ _ _ _ _ _ _ _ _ _ _ _ _ _ _ _ _ _ _ _ _ _ _ _ _ _ _ _ _ _ _ _ _ _ _ _ _ _ _ _ _ _ _ _ _ _ _ _ _ _ _ _ _ _ _ _ _ _ _ _ _ _ _ _ _ _ _ _ _ _ _ _ _ _ _ _ _ _ _ _ _ _ _ _ _ _ _ _ _ _ _ _ _ _ _ _ _ _ _ _ _ _ _ _ _ _ _ _ _ _ _ _ _ _ _ _ _ _ _ _ _ _ _ _ _ _ _ _ _ _ _ _ _ _ _ _ _ _ _ _ _ _ _ _ w _ p sx sy L L1 L2 L3 ax by_ TA hF V0 hLs.out hszx hszy)
theorem walkd {W : World} (v0 : Value) (A0 : Option Addr) (n0 c0 : Nat) (a0 : List ByteArray) (e0 : v0 = .slice A0 n0 c0) (lc0 : n0 ≤ c0) (uc0 : c0 ≤ 9223372036854775807) (w0 : Strs W W.heap.size A0 n0 a0) (a1 : Int) (_w1 : (Lit.int .i64 a1).wf = true) (a2 : Int) (_w2 : (Lit.int .i64 a2).wf = true) (W' : World) (hW : W' = W) :
    Calls Try.prog 7 #[v0, .int .i64 a1, .int .i64 a2] W' fun e w' => e = .returned (.bool true) ∧ Below W'.heap.size W' w' := by
  subst hW
  subst e0
  exact walk A0 n0 c0 a0 a1 a2 W' w0 lc0 uc0

end Go.Proofs.Ytpkjeplhdnbihaa.diskNames
