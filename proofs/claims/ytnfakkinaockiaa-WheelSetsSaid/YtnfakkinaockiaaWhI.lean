/- container/heap's Push, Fix, Remove. -/
import Derived.Test.YtnfakkinaockiaaWhE
import Derived.Test.YtnfakkinaockiaaWhH
namespace Go.Proofs.Ytnfakkinaockiaa
set_option maxRecDepth 100000
open Go.RowKit
open Go.Sort (grow)
open Go.Proofs.Ytnfakkinaockiaa.Pk (one_at one_free one_set lt_some grown_set grown_trans below_grown grown_refl)
namespace Wh

theorem GrTo.mv {w w1 w2 : World} {h : Nat} {v v1 : Value} {mo mo1 : Option Nat} {l1 l2 : List Tm} {m : Nat} (K : Kq (inn h v mo) w w1) (hs : ∀ g, inn h v1 mo1 g → inn h v mo g ∨ w.heap.size ≤ g) (M : Mv w1 h v1 mo1 m l1 l2 w2) : GrTo w h v mo l2 w2 :=
  ⟨v1, mo1, M.hp, K.trans M.kq hs, hs⟩
/-- What a call leaves: a heap of what is in S. -/
def HeTo (w : World) (h : Nat) (v : Value) (mo : Option Nat) (S : List Tm) (w' : World) : Prop := ∃ l', GrTo w h v mo l' w' ∧ Heap l'.length l' ∧ l'.Perm S
set_option maxHeartbeats 1600000 in
theorem hpush_some (w : World) (h : Nat) (l : List Tm) (v : Value) (mo : Option Nat) (H : Hpo w h l v mo) (Hh : Heap l.length l) (t : Tm) (ht : wfT t) (hne : ∀ u ∈ l, u.1 ≠ t.1) (few : l.length + 1 ≤ 1000000) :
    Calls Try.prog 47 #[.iface 61 (.pointer (some ⟨h, 0, none⟩)), .iface 57 (.agg #[.int .i64 t.1, .int .i64 t.2])] w fun e w' => e = .returned (.tuple #[]) ∧ HeTo w h v mo (l ++ [t]) w' := by
  have P : Hid (Calls Try.prog 54 #[.pointer (some ⟨h, 0, none⟩), .iface 57 (.agg #[.int .i64 t.1, .int .i64 t.2])] w fun e w' => e = .returned (.tuple #[]) ∧ GrTo w h v mo (l ++ [t]) w') := by
    cases mo with
    | none => exact push_none w h l v H t ht hne few
    | some m => exact push_some w h l v (some m) (by simp) H t ht hne few
  have U := Lib.hid (up_push Hh t)
  have e1 : Hid ((l ++ [t]).length = l.length + 1) := by show _ = _; simp
  obtain ⟨l1, hl1⟩ : ∃ z, z = l ++ [t] := ⟨_, rfl⟩
  rw [← hl1] at P U e1 ⊢
  obtain ⟨n, hn⟩ : ∃ z, z = l.length := ⟨_, rfl⟩
  rw [← hn] at U e1 few
  have i2 : (0 : Int) ≤ (n : Int) := by omega
  have i3 : (n : Int) ≤ 1000000 := by omega
  have mp := m_Push
  have mn := m_Len
  clear H Hh ht hne few hl1 hn
  go_enter Try.func47, Try.ntmps47
  go_wp2_with fail
  refine P.out.mono ?_
  rintro e w1 ⟨rfl, v1, mo1, H1, K1, s1⟩
  have LN := len_any w1 h l1 v1 mo1 H1
  rw [e1.out] at LN
  obtain ⟨N, hN⟩ : ∃ z, z = n + 1 := ⟨_, rfl⟩
  rw [← hN] at LN
  have ew : (N : Int) - 1 = (n : Int) := by omega
  have iN : (N : Int) ≤ 1000001 := by omega
  have UP := Lib.hid (up_any w1 h l1 v1 mo1 H1 (n + 1) n (by rw [e1.out]; omega) (by omega) U.out)
  replace H1 := Lib.hid H1
  replace K1 := Lib.hid K1
  replace s1 := Lib.hid s1
  replace LN := Lib.hid LN
  replace hN := Lib.hid hN
  clear P U
  go_wp2_with fail
  refine LN.out.mono ?_
  rintro e w2 ⟨rfl, rfl⟩
  go_wp2_with fail
  refine UP.out.mono ?_
  rintro e w3 ⟨rfl, l', M, hh⟩
  have E : Hid (HeTo w h v mo l1 w3) := ⟨l', GrTo.mv K1.out s1.out M, by rw [M.len, e1.out]; exact hh, M.perm⟩
  clear UP LN H1 K1 s1 M hh
  go_wp2
  go_end0
  exact ⟨rfl, E.out⟩
set_option maxHeartbeats 1600000 in
theorem fix_any (w : World) (h : Nat) (l : List Tm) (v : Value) (mo : Option Nat) (H : Hpo w h l v mo) (i : Nat) (hi : i < l.length) (I : DnI l.length i i l) :
    Calls Try.prog 48 #[.iface 61 (.pointer (some ⟨h, 0, none⟩)), .int .i64 i] w fun e w' => e = .returned (.tuple #[]) ∧ UpTo w h v mo l.length l w' := by
  have LN := Lib.hid (len_any w h l v mo H)
  have DN := Lib.hid (down_any w h l v mo H l.length i (Nat.le_refl _) hi I)
  have hi' := Lib.hid hi
  have mn := m_Len
  clear H I hi
  go_enter Try.func48, Try.ntmps48
  go_wp2_with fail
  refine LN.out.mono ?_
  rintro e w1 ⟨rfl, rfl⟩
  go_wp2_with fail
  refine DN.out.mono ?_
  rintro e w2 ⟨l2, b, rfl, M2, hb1, hb2⟩
  cases b with
  | true =>
    have E : Hid (UpTo w h v mo l.length l w2) := ⟨l2, M2, hb1 rfl⟩
    clear LN DN M2 hb1 hb2
    go_wp2
    go_end0
    exact ⟨rfl, E.out⟩
  | false =>
    obtain ⟨I2, _⟩ := hb2 rfl
    have UP := Lib.hid (up_any w2 h l2 v mo M2.hp l.length i (by rw [M2.len]; omega) hi'.out I2)
    replace M2 := Lib.hid M2
    clear LN DN hb1 hb2 I2
    go_wp2_with fail
    refine UP.out.mono ?_
    rintro e w3 ⟨rfl, l3, M3, hh⟩
    have E : Hid (UpTo w h v mo l.length l w3) := ⟨l3, M2.out.trans M3, hh⟩
    clear UP M2 M3 hh
    go_wp2
    go_end0
    exact ⟨rfl, E.out⟩
/-- Behind Pop. -/
theorem pop_over {w w1 w2 : World} {h : Nat} {v : Value} {mo : Option Nat} {l l3 : List Tm} {n i : Nat} {e : Ending} (nd : Nd l) (hn : l.length = n + 1) (_ : i < l.length) (K : Kq (inn h v mo) w w1) (hp : l3.Perm l) (he : gt l3 n = gt l i) (hh : Heap n l3) (P : PopTo w1 h v mo l3 n e w2) :
    (∃ x, e = .returned x) ∧ HeTo w h v mo (without (gt l i).1 l) w2 := by
  obtain ⟨rfl, v', hv, H, K2⟩ := P
  have hl3 : l3.length = n + 1 := hp.length_eq.trans hn
  have ht : (l3.take n).length = n := by rw [List.length_take]; omega
  refine ⟨⟨_, rfl⟩, l3.take n, ⟨v', mo, H, K.trans' K2, fun g hg => ?_⟩, by rw [ht]; exact heap_take hh, perm_last nd hp hl3 he⟩
  rcases hg with hg | hg | hg
  · exact .inl (.inl hg)
  · exact .inl (.inr (.inl (by rw [← hv]; exact hg)))
  · exact .inl (.inr (.inr hg))
set_option maxHeartbeats 3200000 in
theorem remove_any (w : World) (h : Nat) (l : List Tm) (v : Value) (mo : Option Nat) (H : Hpo w h l v mo) (Hh : Heap l.length l) (i : Nat) (hi : i < l.length) :
    Calls Try.prog 46 #[.iface 61 (.pointer (some ⟨h, 0, none⟩)), .int .i64 i] w fun e w' => (∃ x, e = .returned x) ∧ HeTo w h v mo (without (gt l i).1 l) w' := by
  obtain ⟨n, hn⟩ : ∃ n, l.length = n + 1 := ⟨l.length - 1, by omega⟩
  have few := H.few
  have LN := len_any w h l v mo H
  obtain ⟨N, hN⟩ : ∃ z, z = l.length := ⟨_, rfl⟩
  rw [← hN] at LN few
  have ew : (N : Int) - 1 = (n : Int) := by omega
  have i3 : (N : Int) ≤ 1000000 := by omega
  have i2 : (0 : Int) ≤ (N : Int) := by omega
  have mn := m_Len
  have ms := m_Swap
  have mp := m_Pop
  replace LN := Lib.hid LN
  have nd := Lib.hid H.nd
  by_cases hin : i = n
  · subst hin
    have PO := Lib.hid (pop_any w h l v mo H i hn)
    have F : Hid (∀ e w2, PopTo w h v mo l i e w2 → (∃ x, e = .returned x) ∧ HeTo w h v mo (without (gt l i).1 l) w2) := fun e w2 P => pop_over nd.out hn hi (Kq.refl _ _) (List.Perm.refl _) rfl (fun k k0 km => Hh k k0 (by omega)) P
    have q0 : ((i : Int) != (i : Int)) = false := by simp
    clear hN hn few H Hh hi nd
    go_enter Try.func46, Try.ntmps46
    go_wp2_with fail
    refine LN.out.mono ?_
    rintro e w1 ⟨rfl, rfl⟩
    go_wp2_with fail
    refine PO.out.mono ?_
    rintro e w2 hP
    obtain ⟨⟨x, rfl⟩, E⟩ := F.out e w2 hP
    replace E := Lib.hid E
    clear hP F PO LN
    go_wp2
    go_ret
    exact ⟨⟨_, rfl⟩, E.out⟩
  · have q0 : ((n : Int) != (i : Int)) = true := by simp; omega
    have hil : i < n := by omega
    have SW := Lib.hid (swap_any w h l v mo H i n hi (by omega) hin)
    have G : ∀ k, gt (swp i n l) k = if k = n then gt l i else if k = i then gt l n else gt l k := fun k => gt_swp hi (by omega)
    have pp := Lib.hid (swp_perm (i := i) (j := n) hi (by omega))
    have I : Hid (DnI n i i (swp i n l)) := dn_start Hh (by omega) hil fun k hk hne => by rw [G, if_neg (by omega), if_neg hne]
    have hgn : Hid (gt (swp i n l) n = gt l i) := by show _ = _; rw [G, if_pos rfl]
    have hsl : Hid ((swp i n l).length = n + 1) := by show _ = _; rw [swp_len]; exact hn
    obtain ⟨l1, hl1⟩ : ∃ z, z = swp i n l := ⟨_, rfl⟩
    rw [← hl1] at SW pp I hgn hsl
    have hn' := Lib.hid hn
    have hi' := Lib.hid hi
    have hil' := Lib.hid hil
    clear hN hn few H Hh hi G hl1 hil hin
    go_enter Try.func46, Try.ntmps46
    go_wp2_with fail
    refine LN.out.mono ?_
    rintro e w1 ⟨rfl, rfl⟩
    go_wp2_with fail
    refine SW.out.mono ?_
    rintro e w2 ⟨rfl, H2, K2⟩
    have DN := Lib.hid (down_any w2 h l1 v mo H2 n i (by rw [hsl.out]; omega) hil'.out I.out)
    replace K2 := Lib.hid K2
    clear LN SW H2 I
    go_wp2_with fail
    refine DN.out.mono ?_
    rintro e w3 ⟨l2, b, rfl, M2, hb1, hb2⟩
    cases b with
    | true =>
      have PO := Lib.hid (pop_any w3 h l2 v mo M2.hp n (by rw [M2.len]; exact hsl.out))
      have F : Hid (∀ e w2, PopTo w3 h v mo l2 n e w2 → (∃ x, e = .returned x) ∧ HeTo w h v mo (without (gt l i).1 l) w2) := fun e w2 P => pop_over nd.out hn'.out hi'.out (K2.out.trans' M2.kq) (M2.perm.trans pp.out) ((M2.rest n (Nat.le_refl _)).trans hgn.out) (hb1 rfl) P
      clear DN M2 hb1 hb2 K2
      go_wp2_with fail
      refine PO.out.mono ?_
      rintro e w4 hP
      obtain ⟨⟨x, rfl⟩, E⟩ := F.out e w4 hP
      replace E := Lib.hid E
      clear hP F PO
      go_wp2
      go_ret
      exact ⟨⟨_, rfl⟩, E.out⟩
    | false =>
      obtain ⟨I2, _⟩ := hb2 rfl
      have UP := Lib.hid (up_any w3 h l2 v mo M2.hp n i (by rw [M2.len, hsl.out]; omega) hil'.out I2)
      replace M2 := Lib.hid M2
      clear DN hb1 hb2 I2
      go_wp2_with fail
      refine UP.out.mono ?_
      rintro e w4 ⟨rfl, l3, M3, hh⟩
      have M4 := M2.out.trans M3
      have PO := Lib.hid (pop_any w4 h l3 v mo M4.hp n (by rw [M4.len]; exact hsl.out))
      have F : Hid (∀ e w2, PopTo w4 h v mo l3 n e w2 → (∃ x, e = .returned x) ∧ HeTo w h v mo (without (gt l i).1 l) w2) := fun e w2 P => pop_over nd.out hn'.out hi'.out (K2.out.trans' M4.kq) (M4.perm.trans pp.out) ((M4.rest n (Nat.le_refl _)).trans hgn.out) hh P
      clear UP M2 M3 M4 hh K2
      go_wp2_with fail
      refine PO.out.mono ?_
      rintro e w5 hP
      obtain ⟨⟨x, rfl⟩, E⟩ := F.out e w5 hP
      replace E := Lib.hid E
      clear hP F PO
      go_wp2
      go_ret
      exact ⟨⟨_, rfl⟩, E.out⟩
end Wh
end Go.Proofs.Ytnfakkinaockiaa
