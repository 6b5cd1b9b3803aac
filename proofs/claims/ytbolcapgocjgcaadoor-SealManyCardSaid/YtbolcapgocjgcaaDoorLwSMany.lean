/- Proved: states that are saved one behind the other, with records between, each time: the last ones count (SealMany), for any numbers of records between, the package's table being as the program's text lays it. -/
import Derived.Test.YtbolcapgocjgcaaDoorSeQ
import Derived.Lib.QuietBelow
import Derived.Test.YtbolcapgocjgcaaDoorCards
import Derived.Test.YtbolcapgocjgcaaDoorTie
namespace Go.Proofs.YtbolcapgocjgcaaDoor.sealMany
set_option maxRecDepth 100000
open Go.ChangeShapes Go.WideShapes Go.ChangeAt Go.WideElems Go.RowKit
open Go.Proofs.YtbolcapgocjgcaaDoor.Pk Go.Proofs.YtbolcapgocjgcaaDoor.Se
open Go.Proofs.YtbolcapgocjgcaaDoor.Dk (Bs Live LTo nm used sCrash sApp sSync rb_lit below_alloc)
open Go.Proofs.YtbolcapgocjgcaaDoor.Fr (frames frame Txts view_texts)

theorem place (at_ : Int) : ∃ k : Nat, wrap64 ((IntKind.u64.wrap at_).tmod 6) = (k : Int) ∧ k < 6 := by
  have h1 := Int.emod_nonneg (IntKind.u64.wrap at_) (show (6 : Int) ≠ 0 by omega)
  have h2 := Int.emod_lt_of_pos (IntKind.u64.wrap at_) (show (0 : Int) < 6 by omega)
  refine ⟨((IntKind.u64.wrap at_) % 6).toNat, ?_, by omega⟩
  have h0 : 0 ≤ IntKind.u64.wrap at_ := by rw [IntKind.wrap_u64]; omega
  rw [Int.tmod_eq_emod_of_nonneg h0]; unfold wrap64; omega
theorem and1 : ∀ n : Fin 10, bits .and .i64 (n.val : Int) 1 = ((n.val % 2 : Nat) : Int) := by decide
/-- Numbers that came in. -/
structure Iv (w : World) (A : Option Addr) (n : Nat) (zs : List Int) : Prop where
  len : zs.length = n
  at_ : 0 < n → ∃ ad, A = some ad ∧ ad.block < w.heap.size ∧ ∀ j z, zs[j]? = some z → w.cell? (ad.add j) = some (.int .i64 z)
theorem lt_of_cell {w : World} {a : Addr} {v : Value} (h : w.cell? a = some v) : a.block < w.heap.size := by
  rcases Nat.lt_or_ge a.block w.heap.size with e | e
  · exact e
  · simp [World.cell?, Array.getElem?_eq_none e] at h
theorem view_ints {H : Type} {enc : TypeId × Value → H} {W : World} {sp : Nat → Bool} {held : Bool} {v : Value} {d : DataW H} {p : List MemPlace} {r : Reach} {b0 : Nat}
    (hv : Value.okWide Tryd.prog W r b0 50 v) (h : DataW.Trod enc Tryd.prog W 0 sp held 50 v d p) : ∃ A n c zs, v = .slice A n c ∧ n ≤ c ∧ c ≤ 9223372036854775807 ∧ Iv W A n zs := by
  obtain ⟨A, n, c, rfl⟩ := okWide_slice Tryd.underlying50 hv
  obtain ⟨fuel, hf⟩ := h
  have c5 : Tryd.prog.cellsOf 3 = 1 := by kernel_rfl
  rcases open_ints Tryd.underlying50 Tryd.underlying3 c5 hf with ⟨hcs, _⟩ | ⟨a, len, cap, zs, hcs, _, hl, hm, hz, _, hcell, hwz⟩
  · obtain ⟨rfl, rfl, rfl⟩ : A = none ∧ n = 0 ∧ c = 0 := by simpa [Value.cells] using hcs
    exact ⟨none, 0, 0, [], rfl, Nat.le_refl _, by omega, ⟨rfl, fun h => absurd h (by omega)⟩⟩
  · obtain ⟨rfl, rfl, rfl⟩ : A = some a ∧ n = len ∧ c = cap := by simpa [Value.cells] using hcs
    have hle : n ≤ zs.length := by rw [hz]; split <;> omega
    unfold maxLen at hm
    refine ⟨some a, n, c, zs.take n, rfl, hl, by omega, ⟨by simp; omega, fun hn => ⟨a, rfl, ?_, fun j x hj => ?_⟩⟩⟩
    · have := lt_of_cell (hcell 0 (by omega))
      rwa [adr_block] at this
    · rw [List.getElem?_take] at hj
      split at hj
      · have hjz : j < zs.length := by omega
        rw [hcell j hjz, List.getD_eq_getElem?_getD, hj]
        rfl
      · cases hj

/-- So many records of the state k. -/
def rcs (k m : Nat) : List Bs := (List.range m).map fun j => [UInt8.ofNat k, UInt8.ofNat j]
theorem rcs_len (k m : Nat) : (rcs k m).length = m := by simp [rcs]
theorem rcs_snoc (k m : Nat) : rcs k (m + 1) = rcs k m ++ [[UInt8.ofNat k, UInt8.ofNat m]] := by simp [rcs, List.range_succ]
theorem rcs_get {k m j : Nat} (h : j < m) : (rcs k m)[j]? = some [UInt8.ofNat k, UInt8.ofNat j] := by simp [rcs, h]
/-- A small log, of that generation. -/
structure Sm (a : Ab) (k : Nat) : Prop where
  ok : a.Ok
  g : a.g = k
  st : ∀ r ∈ a.st, 1 ≤ r.length ∧ r.length ≤ 2
  st1 : a.st.length ≤ 1
  rc : ∀ r ∈ a.rc, 1 ≤ r.length ∧ r.length ≤ 2
  rc5 : a.rc.length ≤ 5
theorem Sm.used {a : Ab} {k : Nat} (h : Sm a k) (hk : k ≤ 20) : used a.L ≤ 100 := by
  rw [Ab.used_eq]
  have h1 : (a.snp.getD []).length ≤ 24 := by
    have hs := h.st
    have h1 := h.st1
    unfold Ab.st at hs h1
    unfold Ab.snp
    cases e : a.s with
    | none => exact Nat.zero_le _
    | some st =>
      rw [e] at hs h1
      simp only [Option.getD] at hs h1
      have := cnt_le (g := a.g) (M := 2) (by have := h.g; omega) hs
      have h3 : st.length * (2 + 6) ≤ 1 * 8 := Nat.mul_le_mul_right _ h1
      show (cnt a.g (some st)).length ≤ _
      omega
  have h2 : (cnt a.g a.con).length ≤ 56 := by
    have hs := h.rc
    have h1 := h.rc5
    unfold Ab.rc at hs h1
    cases e : a.con with
    | none => exact Nat.zero_le _
    | some l =>
      rw [e] at hs h1
      simp only [Option.getD] at hs h1
      have := cnt_le (g := a.g) (M := 2) (by have := h.g; omega) hs
      have h3 : l.length * (2 + 6) ≤ 5 * 8 := Nat.mul_le_mul_right _ h1
      omega
  omega
theorem Sm.save {a : Ab} {k : Nat} (h : Sm a k) (hk : k ≤ 19) (x : UInt8) : Sm (a.save [[x]]) (k + 1) :=
  ⟨Ab.save_ok (by intro r hr; rw [List.mem_singleton.1 hr]; simp) (by have := h.g; omega), by show a.g + 1 = _; rw [h.g], (by intro r hr; have : r ∈ [[x]] := hr; rw [List.mem_singleton.1 this]; simp), Nat.le_refl _, (by rw [save_rc]; intro r hr; cases hr), (by rw [save_rc]; exact Nat.zero_le _)⟩
theorem Sm.put {a : Ab} {k : Nat} (h : Sm a k) (x y : UInt8) (hn : a.rc.length ≤ 4) : Sm (a.put [x, y]) k :=
  ⟨h.ok.put (by simp), h.g, h.st, h.st1, (by
    intro r hr
    have : r ∈ a.rc ++ [[x, y]] := hr
    rcases List.mem_append.1 this with hr | hr
    · exact h.rc r hr
    · rw [List.mem_singleton.1 hr]; simp), (by show (a.rc ++ [[x, y]]).length ≤ 5; simp; omega)⟩
theorem Sm.sync {a : Ab} {k : Nat} (h : Sm a k) : Sm a.sync k := ⟨h.ok.sync, h.g, h.st, h.st1, (by rw [sync_rc]; exact h.rc), (by rw [sync_rc]; exact h.rc5)⟩
theorem Sm.sfits {a : Ab} {k : Nat} (h : Sm a k) (hk : k ≤ 19) (x : UInt8) : Dk.used a.L + (cnt (a.g + 1) (some [[x]])).length ≤ 1000000 := by
  have h1 := h.used (by omega)
  have h2 := cnt_le (g := a.g + 1) (l := [[x]]) (M := 2) (by have := h.g; omega) (by intro r hr; rw [List.mem_singleton.1 hr]; simp)
  simp at h2
  omega
theorem Sm.pfits {a : Ab} {k : Nat} (h : Sm a k) (hk : k ≤ 20) (x y : UInt8) : Dk.used a.L + a.cost [x, y] ≤ 1000000 := by
  have h1 := h.used hk
  have h2 := (enc_ok a.g (by have := h.g; omega)).2
  have h3 : a.cost [x, y] ≤ (Pk.encI a.g).length + 6 + 8 := by
    unfold Ab.cost
    split
    · exact Nat.le_refl _
    · simp
  omega
theorem sm0 : Sm ab0 0 := ⟨ab0_ok, rfl, (fun r hr => by cases hr), Nat.zero_le _, (fun r hr => by cases hr), Nat.zero_le _⟩
theorem put_rc (a : Ab) (b : Bs) : (a.put b).rc = a.rc ++ [b] := rfl
theorem put_st (a : Ab) (b : Bs) : (a.put b).st = a.st := rfl

def MaAt (w : World) (p : Nat) (l : List Int) (vq vn i : Value) (wr : World) : Prop :=
  ∃ (k q : Nat) (a : Ab) (X : Nat → Prop), i = .int .i64 k ∧ k ≤ l.length ∧ k ≤ 10 ∧ vq = .pointer (some ⟨q, 0, none⟩) ∧ vn = .int .i64 (a.rc.length : Nat) ∧ Sm a k ∧ Lg w wr p 1000000 a.L X q a.rc.length
def PuAt (w : World) (p q k m : Nat) (X : Nat → Prop) (i : Value) (wr : World) : Prop :=
  ∃ (j : Nat) (a : Ab), i = .int .i64 j ∧ j ≤ m ∧ Sm a (k + 1) ∧ a.st = [[UInt8.ofNat k]] ∧ a.rc = rcs k j ∧ Lg w wr p 1000000 a.L X q a.rc.length
def RdAt (m : Nat) (i : Value) : Prop := ∃ j : Nat, i = .int .i64 j ∧ j ≤ m

set_option maxHeartbeats 6400000 in
theorem walk (A0 : Option Addr) (n0 c0 : Nat) (l : List Int) (w : World) (T0 : Iv w A0 n0 l) (ht : Tab w) (hc0 : n0 ≤ 9223372036854775807) :
    Calls Tryd.prog 6 #[.slice A0 n0 c0] w fun e w' => e = .returned (.bool true) ∧ Below w.heap.size w w' := by
  have N0 := Lib.hid (Dk.l_new w 1000000 (by omega) (Below.refl w.heap.size w))
  have TA : Hid (∀ w', Below w.heap.size w w' → Calls Tryd.prog 10 #[] w' fun e w'' => e = .returned (.bool true) ∧ Below w'.heap.size w' w'') := fun w' hb => Se.told_any w' (ht.below hb)
  have y0 := T0.len
  subst y0
  have P0 : Hid (∀ (k : Nat) (z : Int), l[k]? = some z → ∃ ad, A0 = some ad ∧ ∀ w', Below w.heap.size w w' → w'.cell? (ad.add k) = some (.int .i64 z)) := fun k z hk => by
    have hlt : k < l.length := (List.getElem?_eq_some_iff.1 hk).1
    obtain ⟨ad, ha, hab, h2⟩ := T0.at_ (by omega)
    exact ⟨ad, ha, fun w' hb => (World.cell?_of_block (by rw [adr_block]; exact hb.block _ hab)).trans (h2 k z hk)⟩
  replace ht := Lib.hid ht
  clear T0
  go_enter Tryd.func6, Tryd.ntmps6
  go_wp2_with fail
  refine N0.out.mono ?_
  rintro e w1 ⟨p, rfl, V1⟩
  have C1 := Lib.hid (a_open (a := ab0) V1 ab0_ok ht.out)
  clear N0 V1
  go_wp2_with fail
  refine C1.out.mono ?_
  rintro e w2 h2
  obtain ⟨q, B1, d1, B2, d2, X2, rfl, G2, _⟩ := open_lg h2
  rw [show ab0.st.length = 0 from rfl, show ab0.rc.length = 0 from rfl]
  have st : Hid (MaAt w p l (.pointer (some ⟨q, 0, none⟩)) (.int .i64 0) (.int .i64 0) w2) := ⟨0, q, ab0, X2, rfl, Nat.zero_le _, Nat.zero_le _, rfl, rfl, sm0, G2⟩
  clear C1 h2 G2
  go_wp2_with fail
  go_loopw [5, 9, 10] (fun vq vn i wr => MaAt w p l vq vn i wr) (fun _ _ i _ => 10 - (intOf i).toNat)
  case atStart => exact st.out
  case round =>
    obtain ⟨k, q, a, X, rfl, hk, hk10, rfl, rfl, S, G⟩ := hrel
    have b0 : Hid (Below w.heap.size w wr) := G.live.be
    by_cases hlt : k < l.length ∧ k < 10
    · obtain ⟨hl, hl10⟩ := hlt
      obtain ⟨z, hz⟩ : ∃ r, l[k]? = some r := ⟨_, List.getElem?_eq_getElem hl⟩
      obtain ⟨ad, rfl, hc⟩ := P0.out k z hz
      have hcell := hc wr b0.out
      obtain ⟨m, hm, hm6⟩ := place z
      have hx : ((UInt8.ofNat k).toNat : Int) = (k : Int) := by rw [ofNat_toNat (by omega)]
      obtain ⟨wb, hwb⟩ : ∃ z, z = (wr.alloc (.cells #[.int .u8 (k : Int)] 5)).alloc (.cells #[.slice (some ⟨wr.heap.size, 0, none⟩) 1 1] 31) := ⟨_, rfl⟩
      have bwb : Below wr.heap.size wr wb := by rw [hwb]; exact (below_alloc wr _).alloc (by simp) _
      have S7 : Fr.Lr wb (.slice (some ⟨wr.heap.size + 1, 0, none⟩) 1 1) [[UInt8.ofNat k]] := by
        refine ⟨_, _, rfl, fun _ => ⟨_, rfl, ?_, fun i r hi => ?_⟩⟩
        · rw [hwb]; simp
        · match i, hi with
          | 0, hi =>
            simp only [List.getElem?_cons_zero, Option.some.injEq] at hi
            subst hi
            refine ⟨some ⟨wr.heap.size, 0, none⟩, 1, ?_, ?_⟩
            · rw [Addr.add_zero', hwb]
              have := heap_alloc_new (wr.alloc (.cells #[.int .u8 (k : Int)] 5)) (.cells #[.slice (some ⟨wr.heap.size, 0, none⟩) 1 1] 31)
              have hz : (wr.alloc (.cells #[.int .u8 (k : Int)] 5)).heap.size = wr.heap.size + 1 := by simp
              rw [hz] at this
              exact Pk.one_at this
            · rw [hwb]
              have R := rb_one wr (k : Int) (UInt8.ofNat k) hx.symm
              exact R.keep (fun g hg => by subst hg; exact heap_alloc_old _ _ (by simp)) (fun g hg => by subst hg; simp; omega)
      have C3 := Lib.hid (a_save (G.below bwb) S.ok ht.out _ [[UInt8.ofNat k]] S7 (by simp) (by intro r hr; rw [List.mem_singleton.1 hr]; simp) (S.sfits (by omega) _))
      replace hm := Lib.hid hm
      have S1 := Lib.hid (S.save (by omega) (UInt8.ofNat k))
      have hst : Hid ((a.save [[UInt8.ofNat k]]).st = [[UInt8.ofNat k]]) := rfl
      have hrc : Hid ((a.save [[UInt8.ofNat k]]).rc = rcs k 0) := by show _ = _; rw [save_rc]; rfl
      clear hz hc S7 bwb S G hx
      go_upto_region 12 with (fail)
      rw [hm.out]
      clear hm
      go_wp2_with fail
      rw [← hwb]
      clear hwb
      refine C3.out.mono ?_
      rintro e w3 ⟨rfl, T3⟩
      have G3 : Hid (Lg w w3 p 1000000 (a.save [[UInt8.ofNat k]]).L X q (a.save [[UInt8.ofNat k]]).rc.length) := T3.1
      clear C3 T3
      generalize a.save [[UInt8.ofNat k]] = a1 at *
      obtain ⟨wo, ewo⟩ : ∃ x, x = wr := ⟨_, rfl⟩
      subst ewo
      go_wp2_with fail
      go_loopw [11] (fun i wr => PuAt w p q k m X i wr) (fun i _ => m - (intOf i).toNat)
      case atStart => exact ⟨0, a1, rfl, Nat.zero_le _, S1.out, hst.out, hrc.out, G3.out⟩
      case round =>
        obtain ⟨j, a2, rfl, hj, S2, hst2, hrc2, G⟩ := hrel
        clear S1 hst hrc G3
        by_cases hjm : j < m
        · have hlit : (u8s [UInt8.ofNat k, UInt8.ofNat j]).toArray = #[.int .u8 (k : Int), .int .u8 (j : Int)] := by
            simp only [u8s, List.map_cons, List.map_nil]
            rw [ofNat_toNat (by omega), ofNat_toNat (by omega)]
          have R := rb_lit wr [UInt8.ofNat k, UInt8.ofNat j] (0, 0)
          rw [hlit] at R
          have hr4 : a2.rc.length ≤ 4 := by rw [hrc2, rcs_len]; omega
          have C4 := Lib.hid (a_put (G.below (below_alloc wr (.cells #[.int .u8 (k : Int), .int .u8 (j : Int)] 5 (0, 0)))) S2.ok ht.out _ 2 2 [UInt8.ofNat k, UInt8.ofNat j] R (fun g hg => by subst hg; simp) (by omega) (by simp) (S2.pfits (by omega) _ _))
          have S3 := Lib.hid (S2.put (UInt8.ofNat k) (UInt8.ofNat j) hr4)
          have hst3 : Hid ((a2.put [UInt8.ofNat k, UInt8.ofNat j]).st = [[UInt8.ofNat k]]) := hst2
          have hrc3 : Hid ((a2.put [UInt8.ofNat k, UInt8.ofNat j]).rc = rcs k (j + 1)) := by show _ = _; rw [put_rc, hrc2, rcs_snoc]
          clear hlit R S2 hst2 hrc2 G hr4
          go_wp2_with fail
          refine C4.out.mono ?_
          rintro e w4 ⟨rfl, T4⟩
          have nx : Hid (PuAt w p q k m X (.int .i64 ((j : Int) + 1)) w4) := ⟨j + 1, _, by simp, hjm, S3.out, hst3.out, hrc3.out, T4.1⟩
          clear C4 T4 S3 hst3 hrc3
          go_wp2
          exact ⟨nx.out, by simp [intOf]; omega⟩
        · obtain rfl : j = m := by omega
          have LE := len_any wr q p _ G.at_
          rw [hrc2, rcs_len] at LE
          replace LE := Lib.hid LE
          have C5 := Lib.hid (a_sync G)
          have S3 := Lib.hid S2.sync
          have hst3 : Hid (a2.sync.st = [[UInt8.ofNat k]]) := hst2
          have hrc3 : Hid (a2.sync.rc = rcs k j) := by show _ = _; rw [sync_rc, hrc2]
          clear S2 hst2 hrc2 G hjm
          go_wp2_with fail
          refine LE.out.mono ?_
          rintro e w' ⟨rfl, rfl⟩
          go_wp2_with fail
          refine C5.out.mono ?_
          rintro e w5 ⟨rfl, T5⟩
          have G5 : Hid (Lg w w5 p 1000000 a2.sync.L X q a2.sync.rc.length) := T5.1
          have hcr : Hid (sCrash 0 a2.sync.L = a2.sync.L) := crash_all 0 (sync_sy a2)
          have hid2 : Hid (a2.sync.sync = a2.sync) := sync_idem a2
          clear C5 T5 LE
          generalize a2.sync = a3 at *
          have an : bits .and .i64 (k : Int) 1 = ((k % 2 : Nat) : Int) := and1 ⟨k, hl10⟩
          by_cases hodd : k % 2 = 1
          · rw [hodd] at an
            have C6 := Dk.l_crash G5.out.live 0 (by have := a3.len_L; omega) (by omega) (by omega)
            rw [hcr.out] at C6
            replace C6 := Lib.hid C6
            go_wp2_with fail
            refine C6.out.mono ?_
            rintro e w6 ⟨rfl, T6⟩
            have C7 := a_open (Lg.of_lto G5.out T6).1.live S3.out.ok ht.out
            rw [hid2.out, hst3.out, hrc3.out] at C7
            replace C7 := Lib.hid C7
            clear C6 T6 G5 an
            go_wp2_with fail
            refine C7.out.mono ?_
            rintro e w7 h7
            obtain ⟨q2, E1, f1, E2, f2, X4, rfl, G7, _, _, U1, U2, _, _⟩ := open_lg h7
            rw [rcs_len] at G7 U2 ⊢
            rw [show [[UInt8.ofNat k]].length = 1 from rfl] at U1 ⊢
            have xs7 := G7.live.xs
            obtain ⟨_, _, e1, hu1⟩ := U1
            injection e1 with e11 e12 e13
            clear e12
            subst e11 e13
            obtain ⟨ad1, rfl, _, hu1⟩ := hu1 (by simp)
            obtain ⟨Ai, ci, ks, _, _, Rs⟩ := hu1 0 [UInt8.ofNat k] rfl
            obtain ⟨asl, rfl, _, hs0⟩ := Rs.at_ (by simp)
            have ks0 := hs0 0 _ rfl
            rw [ofNat_toNat (by omega), Addr.add_zero'] at ks0
            rw [Addr.add_zero', show [UInt8.ofNat k].length = 1 from rfl] at ks
            have PR : Hid (∀ t, t < j → ∃ adr cr at_, E2 = some adr ∧ w7.cell? (adr.add t) = some (.slice (some at_) 2 cr) ∧ w7.cell? at_ = some (.int .u8 (k : Int)) ∧ w7.cell? ⟨at_.block, at_.off + 1, none⟩ = some (.int .u8 (t : Int))) := fun t hjt => by
              obtain ⟨E2', f2', e2, hu2⟩ := U2
              injection e2 with e21 _ e23
              subst e21 e23
              obtain ⟨adr, hE, _, hu2⟩ := hu2 (by rw [rcs_len]; omega)
              obtain ⟨At, ct, kt, _, _, Rt⟩ := hu2 t _ (rcs_get hjt)
              obtain ⟨at_, hA, _, hs2⟩ := Rt.at_ (by simp)
              subst hA
              have k1 := hs2 0 _ rfl
              have k2 := hs2 1 _ rfl
              rw [ofNat_toNat (by omega), Addr.add_zero'] at k1
              rw [ofNat_toNat (by omega), show at_.add 1 = ⟨at_.block, at_.off + 1, none⟩ by simp [Addr.add]] at k2
              exact ⟨adr, ct, at_, hE, kt, k1, k2⟩
            have LE2 := Lib.hid (len_any w7 q2 p _ G7.at_)
            have nx : Hid (MaAt w p l (.pointer (some ⟨q2, 0, none⟩)) (.int .i64 (j : Nat)) (.int .i64 ((k : Int) + 1)) w7) := ⟨k + 1, q2, a3, X4, by simp, hl, hl10, rfl, by rw [hrc3.out, rcs_len], S3.out, by rw [hrc3.out, rcs_len]; exact G7⟩
            replace PR := Lib.hid PR.out
            replace LE2 := Lib.hid LE2.out
            clear h7 C7 G7 U2 hu1 Rs hs0 xs7 S3 hst3 hrc3 hcr hid2
            go_wp2_with fail
            refine LE2.out.mono ?_
            rintro e w' ⟨rfl, rfl⟩
            go_wp2_with fail
            go_loop [16] (fun i => RdAt j i) (fun i => j - (intOf i).toNat)
            case atStart => exact ⟨0, rfl, Nat.zero_le _⟩
            case round =>
              obtain ⟨t, rfl, htj⟩ := hrel
              by_cases hlt : t < j
              · obtain ⟨adr, cr, at_, rfl, k1, k2, k3⟩ := PR.out t hlt
                have htt : (((t : Nat) : Int) == ((t : Nat) : Int)) = true := by simp
                go_wp2
                exact ⟨⟨t + 1, by simp, hlt⟩, by simp [intOf]; omega⟩
              · obtain rfl : t = j := by omega
                go_wp2
                exact ⟨nx.out, by simp [intOf]; omega⟩
          · have hev : k % 2 = 0 := by omega
            rw [hev] at an
            have nx : Hid (MaAt w p l (.pointer (some ⟨q, 0, none⟩)) (.int .i64 (j : Nat)) (.int .i64 ((k : Int) + 1)) w5) := ⟨k + 1, q, a3, X, by simp, hl, hl10, rfl, by rw [hrc3.out, rcs_len], S3.out, G5.out⟩
            clear G5 hcr hid2 S3 hst3 hrc3
            go_wp2
            exact ⟨nx.out, by simp [intOf]; omega⟩
    · have bo : k = l.length ∨ (k < l.length ∧ k = 10) := by omega
      have LE := Lib.hid (fun w' (hb : Below wr.heap.size wr w') => len_any w' q p a.rc.length ((hb.block q (lt_some G.at_)).trans G.at_))
      have Ca := Lib.hid (TA.out wr b0.out)
      generalize a.rc.length = nn at *
      have heq : (((nn : Nat) : Int) == ((nn : Nat) : Int)) = true := by simp
      clear S G hlt
      rcases bo with rfl | ⟨hl, rfl⟩
      · clear P0
        go_wp2_with fail
        refine Ca.out.mono ?_
        rintro e wa ⟨rfl, ba⟩
        have L2 := Lib.hid (LE.out wa ba)
        have be : Hid (Below w.heap.size w wa) := b0.out.trans (ba.mono b0.out.size)
        clear LE ba Ca b0
        go_wp2_with fail
        refine L2.out.mono ?_
        rintro e w' ⟨rfl, rfl⟩
        clear L2
        go_wp2
        go_ret
        exact ⟨rfl, be.out⟩
      · clear P0
        go_wp2_with fail
        refine Ca.out.mono ?_
        rintro e wa ⟨rfl, ba⟩
        have L2 := Lib.hid (LE.out wa ba)
        have be : Hid (Below w.heap.size w wa) := b0.out.trans (ba.mono b0.out.size)
        clear LE ba Ca b0
        go_wp2_with fail
        refine L2.out.mono ?_
        rintro e w' ⟨rfl, rfl⟩
        clear L2
        go_wp2
        go_ret
        exact ⟨rfl, be.out⟩

theorem walkd (v0 : Value) (A0 : Option Addr) (n0 c0 : Nat) (l0 : List Int) (e0 : v0 = .slice A0 n0 c0) (lc0 : n0 ≤ c0) (uc0 : c0 ≤ 9223372036854775807) {W' : World} (w0 : Iv W' A0 n0 l0) (W : World) (hW : W = W') (ht : Tab W) :
    Calls Tryd.prog 6 #[v0] W fun e w' => e = .returned (.bool true) ∧ Below W.heap.size W w' := by
  subst hW
  subst e0
  exact walk A0 n0 c0 l0 _ w0 ht (by omega)

/-! The row: every input, the listed variable as the condition has it. -/
set_option linter.unusedVariables false
set_option maxRecDepth 100000 in
theorem lifted (os : Os) (started : os.Started) (H : Type) (enc : TypeId × Value → H) :
    ReturnsInHanded {} Tryd.checked os 6 .any (fun w args => (Rows.sealManySpec.pre enc Tryd.prog Tryd.f6 [] false w args ∧ laidMetH Tryd.prog laids w) ∧ sizedMet enc Tryd.prog Tryd.f6 (OpenSpec.ofChange Rows.sealManySpec) false w args)
      (Rows.sealManySpec.post enc Tryd.prog Tryd.f6 false true false false) := by
  refine returnsInHanded_of_change_and (C := Tryd.checked) (X := fun w _ => laidMetH Tryd.prog laids w) (fun _ _ _ hh h => h.of_heap hh) own started (by kernel_rfl) Tryd.func6
    (ChangeSpec.witness_shaped (enc := enc) (C := Tryd.checked) (os := os) (X := fun w _ => laidMetH Tryd.prog laids w) false (World.doorLaid Tryd.prog 400 os) #[.slice none 0 0] 8 rfl (World.shaped_of_RefB (by kernel_rfl) (by kernel_rfl)) (by kernel_rfl) (by kernel_rfl) (by kernel_rfl) (door_met os _)) ?_
  intro W base args ds gs before hval0 hW _ _ hL _
  have hval : ∀ (j : Nat) t v, Tryd.f6.params[j]? = some t → args[j]? = some v → Value.okWide Tryd.prog W .any base t v := hval0
  have hW' := hW
  obtain ⟨p, q, hA0, hV, rfl, hfz, hnd⟩ := hW
  have hA : DataW.TrodAll enc Tryd.prog W 0 (fun _ => true) true Tryd.f6.params.toList args.toList ds p := hA0
  rw [Tryd.params6] at hA hval
  obtain ⟨v0, vs0, d0, ds0, p0, q0, hargs, rfl, rfl, h0, r0⟩ := trodAll_cons hA
  obtain ⟨rfl, rfl, rfl⟩ := trodAll_nil r0
  obtain rfl : args = #[v0] := by cases args; simp_all
  obtain ⟨rfl, rfl⟩ := trodVars_none hV
  obtain ⟨A0, n0, c0, a0, e0, lc0, uc0, w0⟩ := view_ints (hval 0 50 v0 rfl rfl) h0
  clear hA0 hval0
  simp only [List.append_nil] at hW'
  refine (walkd v0 A0 n0 c0 a0 e0 lc0 uc0 w0 W rfl (of_laid hL)).mono fun e W' ⟨he, hb⟩ => ?_
  subst he
  exact ⟨_, rfl, post_below (pa := p0 ++ []) (pv := []) hW' (fun _ _ _ => (trodAll_cons_mk (shut_bool Tryd.underlying4 _) trodAll_mk0)) (fun sp hsp => (trodAll_cons_mk (Trod_stays laidOut (by kernel_rfl) (of_decide_eq_true (by kernel_rfl)) h0 (fun x hx => hb.same (hW'.lt x (by simp [hx]))) (fun x hx => hsp x (by simp [hx]))) trodAll_mk0)) (fun _ _ => rfl) (by simp)
    hb (ok_one (by kernel_rfl) rfl (okWide_bool_mk Tryd.underlying4 _))⟩

theorem over : Rows.sealManyRow.holds Tryd.pinned (OpenSpec.ofChange Rows.sealManySpec) :=
  OpenClaim.holds_of_wide 6 Tryd.f6 rfl rfl rfl rfl rfl rfl rfl ⟨rfl, rfl, rfl, rfl, rfl⟩ rfl rfl rfl rfl rfl (by kernel_rfl) Tryd.func6 (by kernel_rfl)
    (of_decide_eq_true (by kernel_rfl)) (by unfold Func.isWrapper; first | (rw [if_pos (by decide +kernel)]; kernel_rfl) | (rw [if_neg (by decide +kernel)]; exact ⟨rfl, rfl⟩))
    (fun os started H enc _ => lifted os started H enc)

/-- The tied card. -/
theorem proved : Rows.SealManyCardSaid :=
  Claim7.holds_tied_plain_at .later [] [.data] true _ false
    over (fun _ h => by cases h) (by kernel_rfl) (fun _ h => by cases h) sealMany_row_tie rfl ⟨rfl, rfl⟩ (by kernel_rfl) rfl
    (fun f fn hf hfn => by
      obtain rfl : f = 6 := Option.some.inj ((show Tryd.prog.funcNamed "sojourn/sojournlaw6.SealMany" = some 6 by kernel_rfl).symm.trans hf) |>.symm
      obtain rfl : fn = Tryd.f6 := (Option.some.inj (Tryd.func6.symm.trans hfn)).symm
      exact ⟨by kernel_rfl, fun j t ht => by
        rw [Tryd.params6] at ht
        have hm : t ∈ [50] := by simpa using Array.mem_of_getElem? ht
        have hall : ([50].all fun u => !Tryd.prog.wantsStandIn u) = true := by kernel_rfl
        exact (show Tryd.prog.wantsStandIn t = false by simpa using List.all_eq_true.1 hall t hm)⟩)
    (by kernel_rfl)
#print axioms proved

end Go.Proofs.YtbolcapgocjgcaaDoor.sealMany
