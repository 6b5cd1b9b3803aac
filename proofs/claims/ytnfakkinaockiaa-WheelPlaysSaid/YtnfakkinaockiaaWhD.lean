/- container/heap's up. -/
import Derived.Test.YtnfakkinaockiaaWhC
import Derived.Deep.CutBlock
import Derived.Deep.CutRange
namespace Go.Proofs.Ytnfakkinaockiaa
set_option maxRecDepth 100000
open Go.RowKit
open Go.Sort (grow)
open Go.Proofs.Ytnfakkinaockiaa.Pk (one_at one_free one_set lt_some grown_set grown_trans below_grown grown_refl)
namespace Wh

/-- The list l, brought about. -/
structure Mv (w : World) (h : Nat) (v : Value) (mo : Option Nat) (m : Nat) (l l' : List Tm) (w' : World) : Prop where
  hp : Hpo w' h l' v mo
  kq : Kq (inn h v mo) w w'
  perm : l'.Perm l
  rest : ∀ k, m ≤ k → gt l' k = gt l k
section
variable {w w' w'' : World} {h m : Nat} {v : Value} {mo : Option Nat} {l l' l'' : List Tm}
theorem Mv.refl (H : Hpo w h l v mo) (m : Nat) : Mv w h v mo m l l w := ⟨H, Kq.refl _ _, List.Perm.refl _, fun _ _ => rfl⟩
theorem Mv.len (M : Mv w h v mo m l l' w') : l'.length = l.length := M.perm.length_eq
theorem Mv.trans (M : Mv w h v mo m l l' w') (M' : Mv w' h v mo m l' l'' w'') : Mv w h v mo m l l'' w'' := ⟨M'.hp, M.kq.trans' M'.kq, M'.perm.trans M.perm, fun k hk => (M'.rest k hk).trans (M.rest k hk)⟩
theorem Mv.below (M : Mv w h v mo m l l' w') (hb : Below w'.heap.size w' w'') : Mv w h v mo m l l' w'' := ⟨M.hp.below hb, M.kq.trans' (.of_below hb), M.perm, M.rest⟩
theorem Mv.swap {i j : Nat} (M : Mv w h v mo m l l' w') (hi : i < m) (hj : j < m) (hm : m ≤ l'.length) (H : Hpo w'' h (swp i j l') v mo) (K : Kq (inn h v mo) w' w'') : Mv w h v mo m l (swp i j l') w'' :=
  ⟨H, M.kq.trans' K, (swp_perm (by omega) (by omega)).trans M.perm, fun k hk => by rw [gt_swp (by omega) (by omega), if_neg (by omega), if_neg (by omega)]; exact M.rest k hk⟩
end

def UpAt (w : World) (h : Nat) (v : Value) (mo : Option Nat) (m : Nat) (l : List Tm) (vj : Value) (wr : World) : Prop := ∃ l' j, vj = .int .i64 (j : Nat) ∧ j < m ∧ UpI m j l' ∧ Mv w h v mo m l l' wr
def UpTo (w : World) (h : Nat) (v : Value) (mo : Option Nat) (m : Nat) (l : List Tm) (w' : World) : Prop := ∃ l', Mv w h v mo m l l' w' ∧ Heap m l'
set_option maxHeartbeats 1600000 in
theorem up_any (w : World) (h : Nat) (l : List Tm) (v : Value) (mo : Option Nat) (H : Hpo w h l v mo) (m j : Nat) (hm : m ≤ l.length) (hj : j < m) (I : UpI m j l) :
    Calls Try.prog 50 #[.iface 61 (.pointer (some ⟨h, 0, none⟩)), .int .i64 j] w fun e w' => e = .returned (.tuple #[]) ∧ UpTo w h v mo m l w' := by
  have st : Hid (UpAt w h v mo m l (.int .i64 j) w) := ⟨l, j, rfl, hj, I, Mv.refl H m⟩
  have few := H.few
  have hm' : m ≤ 1000000 := by omega
  replace hm := Lib.hid hm
  have ml := m_Less
  have ms := m_Swap
  clear H I few hj
  go_enter Try.func50, Try.ntmps50
  go_wp2_with fail
  go_loopw [1] (fun vj wr => UpAt w h v mo m l vj wr) (fun vj _ => (intOf vj).toNat)
  case atStart => exact st.out
  case round =>
    obtain ⟨l', j, rfl, hj, I, M⟩ := hrel
    clear st
    have hml : Hid (m ≤ l'.length) := by have := M.len; have := hm.out; show _ ≤ _; omega
    have i3 : (j : Int) ≤ 1000000 := by omega
    by_cases hj0 : j = 0
    · subst hj0
      have E : Hid (UpTo w h v mo m l wr) := ⟨l', M, up_done I (.inl rfl)⟩
      clear I M
      go_wp2
      go_end0
      exact ⟨rfl, E.out⟩
    · obtain ⟨i, hi⟩ : ∃ i, i = (j - 1) / 2 := ⟨_, rfl⟩
      have hij : i < j := by omega
      have L := Lib.hid (less_any wr h l' v mo M.hp j i (by have := hml.out; omega) (by have := hml.out; omega))
      have ew : ((j : Int) - 1) / 2 = (i : Int) := by omega
      have eb : ((i : Int) == (j : Int)) = false := beq_eq_false_iff_ne.2 (by omega)
      have j0 : (0 : Int) ≤ (j : Int) := by omega
      have di : (j - 1) / 2 = i := hi.symm
      by_cases hlt : tlt (gt l' j) (gt l' i)
      · have hb1 : decide (tlt (gt l' j) (gt l' i)) = true := decide_eq_true hlt
        rw [hb1] at L
        replace L := Lib.hid L
        have I2 : UpI m i (swp i j l') := by
          have := up_step I (by omega) hj hml.out (by rw [di]; exact hlt)
          rw [di] at this
          exact this
        replace I2 := Lib.hid I2
        replace M := Lib.hid M
        have him : Hid (i < m) := by show _ < _; omega
        replace hj := Lib.hid hj
        have hij' : Hid (i < j) := hij
        clear hb1 hlt I hi di hij
        go_upto_region 1 with fail
        rw [ew]
        clear ew
        go_wp2_with fail
        refine L.out.mono ?_
        rintro e w2 ⟨rfl, hb⟩
        have M2 := Lib.hid (M.out.below hb)
        have SW := Lib.hid (swap_any w2 h l' v mo M2.out.hp i j (by have := hml.out; have := him.out; omega) (by have := hml.out; have := hj.out; omega) (by have := hij'.out; omega))
        clear L M hb
        go_wp2_with fail
        refine SW.out.mono ?_
        rintro e w3 ⟨rfl, H3, K3⟩
        have nx : Hid (UpAt w h v mo m l (.int .i64 i) w3) := ⟨_, i, rfl, him.out, I2.out, M2.out.swap him.out hj.out hml.out H3 K3⟩
        clear SW M2 H3 K3 I2
        go_wp2
        exact ⟨nx.out, by simp [intOf]; exact hij'.out⟩
      · have hb1 : decide (tlt (gt l' j) (gt l' i)) = false := decide_eq_false hlt
        rw [hb1] at L
        replace L := Lib.hid L
        have E : Hid (∀ w2, Below wr.heap.size wr w2 → UpTo w h v mo m l w2) := fun w2 hb => ⟨l', M.below hb, up_done I (.inr (by rw [di]; exact hlt))⟩
        clear hb1 hlt I M hi di
        go_upto_region 1 with fail
        rw [ew]
        clear ew
        go_wp2_with fail
        refine L.out.mono ?_
        rintro e w2 ⟨rfl, hb⟩
        have E2 := Lib.hid (E.out w2 hb)
        clear E L hb
        go_wp2
        go_end0
        exact ⟨rfl, E2.out⟩
end Wh
end Go.Proofs.Ytnfakkinaockiaa
