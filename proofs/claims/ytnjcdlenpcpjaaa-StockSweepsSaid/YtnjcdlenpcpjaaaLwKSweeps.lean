/- Proved: a sweep takes just the holds that are over, once, and leaves what was confirmed or released (StockSweeps), for any holds, any time of the sweep. -/
import Derived.Test.YtnjcdlenpcpjaaaStS
import Derived.Lib.MinMax
import Derived.JoinedRecord
import Derived.HandedShaped
namespace Go.Proofs.Ytnjcdlenpcpjaaa.stockSweeps
set_option maxRecDepth 100000
open Go.ChangeShapes Go.WideShapes Go.ChangeAt Go.WideMaps Go.WideElems Go.RowKit
open Go.Sort (grow)
open Go.Proofs.Ytnjcdlenpcpjaaa.Pk (Rb adr_block one_at one_free one_set lt_some grown_set grown_trans below_grown grown_refl u8s own_form)
open Go.Proofs.Ytnjcdlenpcpjaaa.St
open Go.Proofs.Ytnjcdlenpcpjaaa.Wt (Opn mayOp)
open Go.Proofs.Ytnjcdlenpcpjaaa.Wt (refmayop_any)

/-- What booking j + 1 has behind its round. -/
def ent (ks : Nat → Int) (j : Nat) : E := if ks j = 0 then ⟨1, 2, (j : Int) + 60⟩ else if ks j = 1 then ⟨2, 2, 0⟩ else eg
def fs (ks : Nat → Int) (n : Nat) : F := fun k => if 1 ≤ k ∧ k ≤ n then ent ks (k - 1).toNat else ez
theorem fs_zero (ks : Nat → Int) : fs ks 0 = fz := by
  funext k
  unfold fs
  rw [if_neg (by omega)]
  rfl
theorem fs_new (ks : Nat → Int) (n : Nat) : fs ks n ((n : Int) + 1) = ez := by
  unfold fs
  rw [if_neg (by omega)]
theorem fs_succ (ks : Nat → Int) (n : Nat) : fs ks (n + 1) = upd (fs ks n) ((n : Int) + 1) (ent ks n) := by
  funext k
  unfold upd
  by_cases h : k = (n : Int) + 1
  · rw [if_pos h]
    unfold fs
    rw [if_pos (by omega), show (k - 1).toNat = n by omega]
  · rw [if_neg h]
    unfold fs
    by_cases h2 : 1 ≤ k ∧ k ≤ (n : Int)
    · rw [if_pos h2, if_pos (by omega)]
    · rw [if_neg h2, if_neg (by omega)]
theorem fs_at (ks : Nat → Int) {i n : Nat} (h : i < n) : fs ks n ((i : Int) + 1) = ent ks i := by
  unfold fs
  rw [if_pos (by omega), show ((i : Int) + 1 - 1).toNat = i by omega]
theorem ent_hu (ks : Nat → Int) (j : Nat) : St.hu 1 (ent ks j) + St.hu 2 (ent ks j) ≤ 2 := by
  unfold ent
  split
  · simp [St.hu]
  · split <;> simp [St.hu, eg]
theorem room_upd2 {cap over b : Int} {f : F} (e : E) (b1 : 1 ≤ b) (b2 : b ≤ 200) : room cap over (upd f b e) = room cap over f - (St.hu 1 e - St.hu 1 (f b)) - (St.hu 2 e - St.hu 2 (f b)) := by
  unfold room
  rw [uni_upd 1 f e b1 b2, uni_upd 2 f e b1 b2]
  omega
theorem fs_room (ks : Nat → Int) (n : Nat) (hn : n ≤ 30) : 1000 - 2 * (n : Int) ≤ room 1000 0 (fs ks n) := by
  induction n with
  | zero => rw [fs_zero, room_z]; omega
  | succ n ih =>
    rw [fs_succ, room_upd2 _ (by omega) (by omega), fs_new]
    have := ih (by omega)
    have := ent_hu ks n
    have z1 : St.hu 1 ez = 0 := by decide
    have z2 : St.hu 2 ez = 0 := by decide
    omega
theorem fs_hold (ks : Nat → Int) {n : Nat} (hn : n < 30) : dstp 1000 0 (fs ks n) ⟨1, (n : Int) + 1, 2, 0, 0⟩ n = (upd (fs ks n) ((n : Int) + 1) ⟨1, 2, (n : Int) + 60⟩, 1) := by
  have := fs_room ks n (by omega)
  exact d_hold_yes (by omega) (by omega) (by omega) (by omega) (tick_of (by omega) (by omega)) (by rw [fs_new]; rfl) (by omega)
theorem sel_pre (p : E → Bool) (f : F) {i m : Nat} (h : i ≤ m) : ∃ r, sel p f m = sel p f i ++ r := by
  induction m with
  | zero =>
    obtain rfl : i = 0 := by omega
    exact ⟨[], by simp⟩
  | succ m ih =>
    by_cases e : i = m + 1
    · rw [e]; exact ⟨[], by simp⟩
    · obtain ⟨r, hr⟩ := ih (by omega)
      rw [sel_succ, hr]
      split
      · exact ⟨r ++ [(m : Int) + 1], by rw [List.append_assoc]⟩
      · exact ⟨r, rfl⟩
theorem sel_get {p : E → Bool} {f : F} {i : Nat} (hi : i < 200) (hp : p (f ((i : Int) + 1)) = true) : (sel p f 200)[(sel p f i).length]? = some ((i : Int) + 1) := by
  obtain ⟨r, hr⟩ := sel_pre p f (i := i + 1) (m := 200) (by omega)
  rw [hr, sel_succ, if_pos hp]
  simp
theorem sel_end {p : E → Bool} {f : F} {n : Nat} (hn : n ≤ 200) (hz : ∀ k : Int, (n : Int) < k → p (f k) = false) : sel p f 200 = sel p f n := by
  refine rise_ext (sel_rise _ _ _) (sel_rise _ _ _) fun x => ?_
  rw [mem_sel, mem_sel]
  constructor
  · rintro ⟨⟨h1, h2⟩, h3⟩
    refine ⟨⟨h1, ?_⟩, h3⟩
    rcases Int.lt_or_le n x with h | h
    · rw [hz x h] at h3; cases h3
    · exact h
  · rintro ⟨⟨h1, h2⟩, h3⟩
    exact ⟨⟨h1, by omega⟩, h3⟩
theorem swl_twice (f : F) (t : Int) : swL (swF f t) t = [] := by
  unfold swL swF
  split
  · unfold ovs sel
    rw [List.filter_eq_nil_iff]
    intro k _
    unfold swp
    split
    · simp [ovr, eg]
    · rename_i h; exact h
  · rfl
def SwAt1 (w : World) (q : Nat) (ks : Nat → Int) (N : Nat) (i : Value) (wr : World) : Prop := ∃ j : Nat, i = .int .i64 j ∧ j ≤ N ∧ Ow w.heap.size (fun g => g < w.heap.size) w wr q 1000 0 (fs ks j)
def SwAt2 (w : World) (q : Nat) (f f2 : F) (t : Int) (N : Nat) (A : Option Addr) (vk i : Value) (wr : World) : Prop := ∃ j : Nat, i = .int .i64 j ∧ j ≤ N ∧ vk = .int .i64 ((sel (ovr t) f j).length : Nat) ∧ Ow w.heap.size (fun g => g < w.heap.size) w wr q 1000 0 f2 ∧ Nz wr A (sel (ovr t) f 200)
theorem kk_of {a : Int} {k : Nat} (h : k < 3) (e : a = k) : a = 0 ∨ a = 1 ∨ a = 2 := by omega
set_option maxHeartbeats 12800000 in
theorem walk (w : World) (A : Option Addr) (n c : Nat) (zs : List Int) (R : Rr w (fun g => g < w.heap.size) A n zs) (hn : n ≤ 9223372036854775807) (a1 : Int) :
    Calls Try.prog 10 #[.slice A n c, .int .i64 a1] w fun e w' => e = .returned (.bool true) ∧ Below w.heap.size w w' := by
  obtain ⟨t', ht'⟩ : ∃ k, k = usm a1 90 := ⟨_, rfl⟩
  have t1' : t' < 90 := by rw [ht']; exact usm_lt _ (by omega)
  have ux : wrap64 ((IntKind.u64.wrap a1).tmod 90) = (t' : Int) := by rw [ht']; exact usm_slot a1 (n := 90) (by omega) (by omega)
  obtain ⟨t, ht⟩ : ∃ t : Int, t = 30 + (t' : Int) := ⟨_, rfl⟩
  have t0 : 30 ≤ t := by omega
  have t1 : t ≤ 120 := by omega
  obtain ⟨N, hN⟩ : ∃ N, N = min n 30 := ⟨_, rfl⟩
  have em : min (n : Int) 30 = (N : Int) := by omega
  have N1 : N ≤ 30 := by omega
  have N2 : N ≤ n := by omega
  obtain ⟨ks, hks⟩ : ∃ ks : Nat → Int, ks = fun j => ((usm (zs.getD j 0) 3 : Nat) : Int) := ⟨_, rfl⟩
  have KS : Hid (∀ j z, zs[j]? = some z → wrap64 ((IntKind.u64.wrap z).tmod 3) = ks j ∧ (ks j = 0 ∨ ks j = 1 ∨ ks j = 2)) := fun j z hz => by
    have e : ks j = (usm z 3 : Nat) := by rw [hks]; simp [List.getD_eq_getElem?_getD, hz]
    refine ⟨by rw [e]; exact usm_slot z (n := 3) (by omega) (by omega), kk_of (usm_lt z (n := 3) (by omega)) e⟩
  have NW := Lib.hid (ow_new w 1000 0 (by decide))
  replace R := Lib.hid R
  replace ht' := Lib.hid ht'
  replace hN := Lib.hid hN
  clear hks
  go_enter Try.func10, Try.ntmps10
  go_wp2_with fail
  refine NW.out.mono ?_
  rintro e w1 ⟨q, rfl, O1⟩
  have st : Hid (SwAt1 w q ks N (.int .i64 0) w1) := ⟨0, rfl, Nat.zero_le _, by rw [fs_zero]; exact O1⟩
  clear NW O1
  go_wp2_with fail
  clear em
  go_loopw [8] (fun i wr => SwAt1 w q ks N i wr) (fun i _ => N - (intOf i).toNat)
  case atStart => exact st.out
  case round =>
    clear st
    obtain ⟨j, rfl, hj, O⟩ := hrel
    by_cases hlt : j < N
    · have i1 : (j : Int) < (N : Int) := by omega
      obtain ⟨z, hz⟩ : ∃ z, zs[j]? = some z := ⟨_, List.getElem?_eq_getElem (by have := R.out.len; omega)⟩
      obtain ⟨ad, rfl, hab, hat⟩ := R.out.at_ (by omega)
      obtain ⟨uz, k3⟩ := KS.out j z hz
      obtain ⟨b, hb⟩ : ∃ b : Int, b = (j : Int) + 1 := ⟨_, rfl⟩
      have D : Calls Try.prog 12 #[.pointer (some ⟨q, 0, none⟩), .agg #[.int .i64 1, .int .i64 b, .int .i64 2, .int .i64 0, .int .i64 0], .int .i64 j] wr fun e w' => e = .returned (.int .i64 1) ∧ OwTo w.heap.size (fun g => g < w.heap.size) w wr q 1000 0 (upd (fs ks j) b ⟨1, 2, (j : Int) + 60⟩) w' := by
        have := ow_do O ⟨1, (j : Int) + 1, 2, 0, 0⟩ j
        rw [fs_hold ks (by omega)] at this
        rw [hb]
        exact this
      have SU := Lib.hid (fs_succ ks j)
      rw [← hb] at SU
      obtain ⟨kk, hkk⟩ : ∃ x, x = ks j := ⟨_, rfl⟩
      have en : Hid (ent ks j = if kk = 0 then ⟨1, 2, (j : Int) + 60⟩ else if kk = 1 then ⟨2, 2, 0⟩ else eg) := by show _ = _; rw [hkk]; rfl
      rw [← hkk] at uz k3
      have bb1 : 1 ≤ b := by omega
      have bb2 : b ≤ 200 := by omega
      replace D := Lib.hid D
      replace hz' := Lib.hid hz
      replace hat := Lib.hid hat
      clear O hkk
      go_wp2_with fail
      rw [← hb]
      refine D.out.mono ?_
      rintro e w2 ⟨rfl, O2, _⟩
      have q0 : w2.cell? (ad.add j) = some (.int .i64 z) := (World.cell?_of_block (by rw [adr_block]; exact O2.be.block _ hab)).trans (hat.out j z hz)
      clear D hz
      go_upto_region 11 with fail
      rw [uz]
      clear uz q0
      have tj : tick (j : Int) = true := tick_of (by omega) (by omega)
      have O3 := Lib.hid fun o => O2.below ((Below.refl _ w2).alloc (Nat.le_refl _) o)
      rcases k3 with rfl | rfl | rfl
      · rw [if_pos rfl] at en
        have nx : Hid (SwAt1 w q ks N (.int .i64 ((j + 1 : Nat) : Int)) w2) := ⟨j + 1, rfl, by omega, by rw [SU.out, en.out]; exact O2⟩
        clear O2 O3 hb
        go_wp2
        exact ⟨nx.out, by simp [intOf]; omega⟩
      · rw [if_neg (by decide), if_pos rfl] at en
        have D : Calls Try.prog 12 #[.pointer (some ⟨q, 0, none⟩), .agg #[.int .i64 2, .int .i64 b, .int .i64 0, .int .i64 0, .int .i64 0], .int .i64 j] (w2.alloc (.cells #[.int .i64 0, .int .i64 2, .int .i64 3] 3)) fun e w' => e = .returned (.int .i64 1) ∧ OwTo w.heap.size (fun g => g < w.heap.size) w (w2.alloc (.cells #[.int .i64 0, .int .i64 2, .int .i64 3] 3)) q 1000 0 (upd (fs ks j) b ⟨2, 2, 0⟩) w' := by
          have := ow_do (O3.out (.cells #[.int .i64 0, .int .i64 2, .int .i64 3] 3)) ⟨2, b, 0, 0, 0⟩ j
          rw [d_conf_yes bb1 bb2 tj (by rw [upd_same]) (by rw [upd_same]; show (j : Int) < (j : Int) + 60; omega), upd_same, upd_upd] at this
          exact this
        replace D := Lib.hid D
        clear O2 O3
        go_wp2_with fail
        rw [← hb]
        refine D.out.mono ?_
        rintro e w4 ⟨rfl, O4, _⟩
        have nx : Hid (SwAt1 w q ks N (.int .i64 ((j + 1 : Nat) : Int)) w4) := ⟨j + 1, rfl, by omega, by rw [SU.out, en.out]; exact O4⟩
        clear D O4 hb
        go_wp2
        exact ⟨nx.out, by simp [intOf]; omega⟩
      · rw [if_neg (by decide), if_neg (by decide)] at en
        have D : Calls Try.prog 12 #[.pointer (some ⟨q, 0, none⟩), .agg #[.int .i64 3, .int .i64 b, .int .i64 0, .int .i64 0, .int .i64 0], .int .i64 j] (w2.alloc (.cells #[.int .i64 0, .int .i64 2, .int .i64 3] 3)) fun e w' => e = .returned (.int .i64 1) ∧ OwTo w.heap.size (fun g => g < w.heap.size) w (w2.alloc (.cells #[.int .i64 0, .int .i64 2, .int .i64 3] 3)) q 1000 0 (upd (fs ks j) b eg) w' := by
          have := ow_do (O3.out (.cells #[.int .i64 0, .int .i64 2, .int .i64 3] 3)) ⟨3, b, 0, 0, 0⟩ j
          rw [d_rel bb1 bb2 tj, upd_upd] at this
          exact this
        replace D := Lib.hid D
        clear O2 O3
        go_wp2_with fail
        rw [← hb]
        refine D.out.mono ?_
        rintro e w4 ⟨rfl, O4, _⟩
        have nx : Hid (SwAt1 w q ks N (.int .i64 ((j + 1 : Nat) : Int)) w4) := ⟨j + 1, rfl, by omega, by rw [SU.out, en.out]; exact O4⟩
        clear D O4 hb
        go_wp2
        exact ⟨nx.out, by simp [intOf]; omega⟩
    · obtain rfl : j = N := by omega
      obtain ⟨f, hf⟩ : ∃ f, f = fs ks j := ⟨_, rfl⟩
      rw [← hf] at O
      have tt : tick t = true := tick_of (by omega) (by omega)
      have SW := ow_sweep O t
      rw [show swL f t = sel (ovr t) f 200 from if_pos tt] at SW
      have fe : Hid (sel (ovr t) f 200 = sel (ovr t) f j) := sel_end (by omega) fun k hk => by
        rw [hf]
        unfold fs
        rw [if_neg (by omega)]
        exact ovr_ez t
      have f2 : Hid (∀ i, i < j → swF f t ((i : Int) + 1) = if ovr t (ent ks i) = true then eg else ent ks i) := fun i hi => by
        unfold swF
        rw [if_pos tt]
        unfold swp
        rw [hf, fs_at ks hi]
      have fa : Hid (∀ i, i < j → f ((i : Int) + 1) = ent ks i) := fun i hi => by rw [hf, fs_at ks hi]
      have tw : Hid (swL (swF f t) t = []) := swl_twice f t
      generalize swF f t = fg at *
      replace SW := Lib.hid SW
      clear O hf hlt hj
      go_upto_region 15 with fail
      rw [ux, ← ht]
      clear ux ht
      go_wp2_with fail
      refine SW.out.mono ?_
      rintro e w2 ⟨v, rfl, hr, O2, _⟩
      obtain ⟨ln, hln⟩ : ∃ x, x = (sel (ovr t) f 200).length := ⟨_, rfl⟩
      rw [← hln] at hr
      obtain ⟨B, cb, rfl, -, cc, -⟩ := ri_form hr
      have st : Hid (SwAt2 w q f fg t j B (.int .i64 0) (.int .i64 0) w2) := ⟨0, rfl, Nat.zero_le _, rfl, O2, Nz.of_row hr hln.symm⟩
      have lb : Hid (ln ≤ 200) := by show _ ≤ _; rw [hln]; exact sel_len _ _ _
      replace hln := Lib.hid hln
      clear SW hr O2
      go_wp2_with fail
      go_loopw [12, 13] (fun vk i wr => SwAt2 w q f fg t j B vk i wr) (fun _ i _ => j - (intOf i).toNat)
      case atStart => exact st.out
      case round =>
        clear st
        obtain ⟨i, rfl, hi, rfl, O, NZ⟩ := hrel
        obtain ⟨kn, hkn⟩ : ∃ x, x = (sel (ovr t) f i).length := ⟨_, rfl⟩
        rw [← hkn]
        replace hkn := Lib.hid hkn
        by_cases hij : i < j
        · have i1 : (i : Int) < (j : Int) := by omega
          obtain ⟨z, hz⟩ : ∃ z, zs[i]? = some z := ⟨_, List.getElem?_eq_getElem (by have := R.out.len; omega)⟩
          obtain ⟨ad, rfl, hab, hat⟩ := R.out.at_ (by omega)
          obtain ⟨uz, k3⟩ := KS.out i z hz
          have q0 : wr.cell? (ad.add i) = some (.int .i64 z) := (World.cell?_of_block (by rw [adr_block]; exact O.be.block _ hab)).trans (hat i z hz)
          have hbl : ad.block < wr.heap.size := (by have := lt_of_cell q0; rwa [adr_block] at this)
          have q0' : ∀ o, (wr.alloc o).cell? (ad.add i) = some (.int .i64 z) := fun o => (World.cell?_of_block (by rw [adr_block]; exact heap_alloc_old _ _ hbl)).trans q0
          have fi := fa.out i hij
          have gi := f2.out i hij
          have i30 : i < 30 := by omega
          obtain ⟨kk, hkk⟩ : ∃ x, x = ks i := ⟨_, rfl⟩
          rw [← hkk] at uz k3
          unfold ent at fi gi
          rw [← hkk] at fi gi
          replace hz := Lib.hid hz
          replace hat := Lib.hid hat
          clear hkk
          rcases k3 with rfl | rfl | rfl
          · rw [if_pos rfl] at fi gi
            by_cases hov : (i : Int) + 60 ≤ t
            · have g9 : decide ((i : Int) + 60 ≤ t) = true := decide_eq_true hov
              have ov : ovr t ⟨1, 2, (i : Int) + 60⟩ = true := by unfold ovr; simp [hov]
              rw [if_pos ov] at gi
              have sg := sel_get (p := ovr t) (f := f) (i := i) (by omega) (by rw [fi]; exact ov)
              rw [← hkn.out] at sg
              have kl : (kn : Int) < (ln : Int) := by
                have := (List.getElem?_eq_some_iff.1 sg).1
                have := hln.out
                omega
              obtain ⟨ab, rfl, -, -, sc⟩ := NZ kn _ sg
              have kx : Hid ((sel (ovr t) f (i + 1)).length = kn + 1) := by show _ = _; rw [sel_succ, if_pos (by rw [fi]; exact ov), hkn.out]; simp
              have k200 : kn < 200 := by have := lb.out; omega
              have E0 : ∀ o, Hid (Calls Try.prog 17 #[.pointer (some ⟨q, 0, none⟩), .int .i64 ((i : Int) + 1)] (wr.alloc o) fun e w' => e = .returned (.agg #[.int .i64 3, .int .i64 0, .int .i64 (0), .int .i64 0, .int .i64 0]) ∧ Below (wr.alloc o).heap.size (wr.alloc o) w') := fun o => by
                have := ow_entry (O.below ((Below.refl _ wr).alloc (Nat.le_refl _) o)) ((i : Int) + 1) ⟨by omega, by omega⟩
                rw [gi] at this
                exact this
              have NX : Hid (∀ o w', Below (wr.alloc o).heap.size (wr.alloc o) w' → SwAt2 w q f fg t j _ (.int .i64 ((kn + 1 : Nat) : Int)) (.int .i64 ((i + 1 : Nat) : Int)) w') := fun o w' hb => ⟨i + 1, rfl, by omega, by rw [kx.out], (O.below ((Below.refl _ wr).alloc (Nat.le_refl _) o)).below hb, (NZ.below ((Below.refl _ wr).alloc (Nat.le_refl _) o)).below hb⟩
              have FR : ∀ w, (Instr.field 41 (.agg #[.int .i64 3, .int .i64 0, .int .i64 (0), .int .i64 0, .int .i64 0]) 0).run Try.prog w = .ok (.int .i64 3) w := fun w => by kernel_rfl
              have q1 := q0' (.cells #[.int .i64 1, .int .i64 2, .int .i64 3] 3)
              clear O NZ fi gi ov
              go_upto_region 26 with fail
              clear q0 q0' q1
              go_wp2_with fail
              refine (E0 _).out.mono ?_
              rintro e w5 ⟨rfl, b5⟩
              have nx := Lib.hid (NX.out _ w5 b5)
              clear E0 NX b5
              go_wp2
              exact ⟨nx.out, by simp [intOf]; omega⟩
            · have g9 : decide ((i : Int) + 60 ≤ t) = false := decide_eq_false hov
              have ov : ovr t ⟨1, 2, (i : Int) + 60⟩ = false := by unfold ovr; simp; omega
              rw [if_neg (by rw [ov]; decide)] at gi
              have kx : Hid ((sel (ovr t) f (i + 1)).length = kn) := by show _ = _; rw [sel_succ, if_neg (by rw [fi, ov]; decide), hkn.out]
              have E0 : ∀ o, Hid (Calls Try.prog 17 #[.pointer (some ⟨q, 0, none⟩), .int .i64 ((i : Int) + 1)] (wr.alloc o) fun e w' => e = .returned (.agg #[.int .i64 1, .int .i64 2, .int .i64 ((i : Int) + 60), .int .i64 0, .int .i64 0]) ∧ Below (wr.alloc o).heap.size (wr.alloc o) w') := fun o => by
                have := ow_entry (O.below ((Below.refl _ wr).alloc (Nat.le_refl _) o)) ((i : Int) + 1) ⟨by omega, by omega⟩
                rw [gi] at this
                exact this
              have NX : Hid (∀ o w', Below (wr.alloc o).heap.size (wr.alloc o) w' → SwAt2 w q f fg t j _ (.int .i64 ((kn : Nat) : Int)) (.int .i64 ((i + 1 : Nat) : Int)) w') := fun o w' hb => ⟨i + 1, rfl, by omega, by rw [kx.out], (O.below ((Below.refl _ wr).alloc (Nat.le_refl _) o)).below hb, (NZ.below ((Below.refl _ wr).alloc (Nat.le_refl _) o)).below hb⟩
              have FR : ∀ w, (Instr.field 41 (.agg #[.int .i64 1, .int .i64 2, .int .i64 ((i : Int) + 60), .int .i64 0, .int .i64 0]) 0).run Try.prog w = .ok (.int .i64 1) w := fun w => by kernel_rfl
              have q1 := q0' (.cells #[.int .i64 1, .int .i64 2, .int .i64 3] 3)
              clear O NZ fi gi ov
              go_upto_region 26 with fail
              clear q0 q0' q1
              go_wp2_with fail
              refine (E0 _).out.mono ?_
              rintro e w5 ⟨rfl, b5⟩
              have nx := Lib.hid (NX.out _ w5 b5)
              clear E0 NX b5
              go_wp2
              exact ⟨nx.out, by simp [intOf]; omega⟩
          · rw [show (if (1 : Int) = 0 then (⟨1, 2, (i : Int) + 60⟩ : E) else if (1 : Int) = 1 then ⟨2, 2, 0⟩ else eg) = ⟨2, 2, 0⟩ from rfl] at fi gi
            have ov : ovr t ⟨2, 2, 0⟩ = false := by unfold ovr; simp
            rw [if_neg (by rw [ov]; decide)] at gi
            have kx : Hid ((sel (ovr t) f (i + 1)).length = kn) := by show _ = _; rw [sel_succ, if_neg (by rw [fi, ov]; decide), hkn.out]
            have E0 : ∀ o, Hid (Calls Try.prog 17 #[.pointer (some ⟨q, 0, none⟩), .int .i64 ((i : Int) + 1)] (wr.alloc o) fun e w' => e = .returned (.agg #[.int .i64 2, .int .i64 2, .int .i64 (0), .int .i64 0, .int .i64 0]) ∧ Below (wr.alloc o).heap.size (wr.alloc o) w') := fun o => by
              have := ow_entry (O.below ((Below.refl _ wr).alloc (Nat.le_refl _) o)) ((i : Int) + 1) ⟨by omega, by omega⟩
              rw [gi] at this
              exact this
            have NX : Hid (∀ o w', Below (wr.alloc o).heap.size (wr.alloc o) w' → SwAt2 w q f fg t j _ (.int .i64 ((kn : Nat) : Int)) (.int .i64 ((i + 1 : Nat) : Int)) w') := fun o w' hb => ⟨i + 1, rfl, by omega, by rw [kx.out], (O.below ((Below.refl _ wr).alloc (Nat.le_refl _) o)).below hb, (NZ.below ((Below.refl _ wr).alloc (Nat.le_refl _) o)).below hb⟩
            have FR : ∀ w, (Instr.field 41 (.agg #[.int .i64 2, .int .i64 2, .int .i64 (0), .int .i64 0, .int .i64 0]) 0).run Try.prog w = .ok (.int .i64 2) w := fun w => by kernel_rfl
            have q1 := q0' (.cells #[.int .i64 1, .int .i64 2, .int .i64 3] 3)
            clear O NZ fi gi ov
            go_upto_region 26 with fail
            clear q0 q0' q1
            go_wp2_with fail
            refine (E0 _).out.mono ?_
            rintro e w5 ⟨rfl, b5⟩
            have nx := Lib.hid (NX.out _ w5 b5)
            clear E0 NX b5
            go_wp2
            exact ⟨nx.out, by simp [intOf]; omega⟩
          · rw [show (if (2 : Int) = 0 then (⟨1, 2, (i : Int) + 60⟩ : E) else if (2 : Int) = 1 then ⟨2, 2, 0⟩ else eg) = eg from rfl] at fi gi
            have ov : ovr t eg = false := by unfold ovr; simp [eg]
            rw [if_neg (by rw [ov]; decide)] at gi
            have kx : Hid ((sel (ovr t) f (i + 1)).length = kn) := by show _ = _; rw [sel_succ, if_neg (by rw [fi, ov]; decide), hkn.out]
            have E0 : ∀ o, Hid (Calls Try.prog 17 #[.pointer (some ⟨q, 0, none⟩), .int .i64 ((i : Int) + 1)] (wr.alloc o) fun e w' => e = .returned (.agg #[.int .i64 3, .int .i64 0, .int .i64 (0), .int .i64 0, .int .i64 0]) ∧ Below (wr.alloc o).heap.size (wr.alloc o) w') := fun o => by
              have := ow_entry (O.below ((Below.refl _ wr).alloc (Nat.le_refl _) o)) ((i : Int) + 1) ⟨by omega, by omega⟩
              rw [gi] at this
              exact this
            have NX : Hid (∀ o w', Below (wr.alloc o).heap.size (wr.alloc o) w' → SwAt2 w q f fg t j _ (.int .i64 ((kn : Nat) : Int)) (.int .i64 ((i + 1 : Nat) : Int)) w') := fun o w' hb => ⟨i + 1, rfl, by omega, by rw [kx.out], (O.below ((Below.refl _ wr).alloc (Nat.le_refl _) o)).below hb, (NZ.below ((Below.refl _ wr).alloc (Nat.le_refl _) o)).below hb⟩
            have FR : ∀ w, (Instr.field 41 (.agg #[.int .i64 3, .int .i64 0, .int .i64 (0), .int .i64 0, .int .i64 0]) 0).run Try.prog w = .ok (.int .i64 3) w := fun w => by kernel_rfl
            have q1 := q0' (.cells #[.int .i64 1, .int .i64 2, .int .i64 3] 3)
            clear O NZ fi gi ov
            go_upto_region 26 with fail
            clear q0 q0' q1
            go_wp2_with fail
            refine (E0 _).out.mono ?_
            rintro e w5 ⟨rfl, b5⟩
            have nx := Lib.hid (NX.out _ w5 b5)
            clear E0 NX b5
            go_wp2
            exact ⟨nx.out, by simp [intOf]; omega⟩
        · obtain rfl : i = j := by omega
          replace hkn := hkn.out
          rw [← fe.out, ← hln.out] at hkn
          have TA := Lib.hid (told_any wr)
          have i1 : (kn == ln) = true := by simpa using hkn
          replace hkn := Lib.hid hkn
          replace O := Lib.hid O
          clear NZ
          go_wp2_with fail
          refine TA.out.mono ?_
          rintro e w8 ⟨rfl, b8⟩
          have SW := ow_sweep (O.out.below b8) t
          rw [tw.out] at SW
          replace SW := Lib.hid SW
          clear TA b8 O
          rw [hkn.out]
          go_wp2_with fail
          refine SW.out.mono ?_
          rintro e w9 ⟨v9, rfl, hr, O9, _⟩
          obtain ⟨B9, c9, rfl, -, -, -⟩ := ri_form hr
          have MO := refmayop_any w9 ⟨3, 1, 0, 0, 0⟩
          rw [rel_may (by omega) (by omega)] at MO
          replace MO := Lib.hid MO
          replace O9 := Lib.hid O9
          clear SW hr
          go_wp2_with fail
          refine MO.out.mono ?_
          rintro e w10 ⟨rfl, b10⟩
          have E := Lib.hid (O9.out.below b10).be
          clear MO b10 O9
          go_wp2
          go_ret
          exact ⟨rfl, E.out⟩
theorem walkd (v0 : Value) (a0 : List Int) {W : World} (w0 : Src W v0 a0) (a1 : Int) (_w1 : (Lit.int .i64 a1).wf = true) (W' : World) (hW : W' = W) :
    Calls Try.prog 10 #[v0, .int .i64 a1] W' fun e w' => e = .returned (.bool true) ∧ Below W'.heap.size W' w' := by
  subst hW
  obtain ⟨A, n, c, rfl, h1, h2, R, _⟩ := w0
  exact walk W' A n c a0 R (by omega) a1


/-! The row: every input. -/
set_option linter.unusedVariables false
set_option maxRecDepth 100000 in
theorem lifted (os : Os) (started : os.Started) (H : Type) (enc : TypeId × Value → H) :
    ReturnsInHanded {} Try.checked os 10 .any (Rows.stockSweepsSpec.pre6 enc Try.prog Try.f10 Rows.stockSweepsRow.domain false) (Rows.stockSweepsSpec.post enc Try.prog Try.f10 false true false false) := by
  refine returnsInHanded_of_change (C := Try.checked) own started (by kernel_rfl) Try.func10
    (ChangeSpec.witness6 (enc := enc) (C := Try.checked) false ⟨#[], #[.slice none 0 0, .int .i64 0], []⟩ 8 (by kernel_rfl) (by kernel_rfl) (by kernel_rfl) (by kernel_rfl)) ?_
  intro W base args ds gs before hval0 hW _ _
  have hval : ∀ (j : Nat) t v, Try.f10.params[j]? = some t → args[j]? = some v → Value.okWide Try.prog W .any base t v := hval0
  have hW' := hW
  obtain ⟨p, q, hA0, hV, rfl, hfz, hnd⟩ := hW
  have hA : DataW.TrodAll enc Try.prog W 0 (fun _ => true) true Try.f10.params.toList args.toList ds p := hA0
  rw [Try.params10] at hA hval
  obtain ⟨v0, vs0, d0, ds0, p0, q0, hargs, rfl, rfl, h0, r0⟩ := trodAll_cons hA
  obtain ⟨v1, vs1, d1, ds1, p1, q1, rfl, rfl, rfl, h1, r1⟩ := trodAll_cons r0
  obtain ⟨rfl, rfl, rfl⟩ := trodAll_nil r1
  obtain rfl : args = #[v0, v1] := by cases args; simp_all
  obtain ⟨rfl, rfl⟩ := trodVars_none hV
  obtain ⟨a0, w0⟩ := view_nums (hval 0 37 v0 rfl rfl) h0
  obtain ⟨a1, rfl, rfl, rfl, w1⟩ := open_int Try.underlying3 (hval 1 3 v1 rfl rfl) h1
  clear hA0 hval0
  simp only [List.append_nil] at hW'
  refine (walkd v0 a0 w0 a1 w1 W rfl).mono fun e W' ⟨he, hb⟩ => ?_
  subst he
  exact ⟨_, rfl, post_below (pa := p0 ++ ([] ++ [])) (pv := []) hW' (fun _ _ _ => (trodAll_cons_mk (shut_bool Try.underlying4 _) trodAll_mk0)) (fun sp hsp => (trodAll_cons_mk (Trod_stays laidOut (by kernel_rfl) (of_decide_eq_true (by kernel_rfl)) h0 (fun x hx => hb.same (hW'.lt x (by simp [hx]))) (fun x hx => hsp x (by simp [hx]))) (trodAll_cons_mk (shut_int Try.underlying3 w1) trodAll_mk0))) (fun _ _ => rfl) (by simp)
    hb (ok_one (by kernel_rfl) rfl (okWide_bool_mk Try.underlying4 _))⟩

theorem proved : Rows.StockSweepsSaid :=
  OpenClaim.holds_of_wide 10 Try.f10 rfl rfl rfl rfl rfl rfl rfl ⟨rfl, rfl, rfl, rfl, rfl⟩ rfl rfl rfl rfl rfl (by kernel_rfl) Try.func10 (by kernel_rfl)
    (of_decide_eq_true (by kernel_rfl)) (by unfold Func.isWrapper; first | (rw [if_pos (by decide +kernel)]; kernel_rfl) | (rw [if_neg (by decide +kernel)]; exact ⟨rfl, rfl⟩))
    (fun os started H enc _ => lifted os started H enc)
#print axioms proved

end Go.Proofs.Ytnjcdlenpcpjaaa.stockSweeps
