/- texts: bytes as texts; few: how much a step has. -/
import Derived.Test.YtbolcapgocjgcaaDoorSeT
namespace Go.Proofs.YtbolcapgocjgcaaDoor
set_option maxRecDepth 100000
open Go.RowKit
open Go.Proofs.YtbolcapgocjgcaaDoor.Pk
namespace Se
open Dk (Bs)
open Fr (strs strs_app s_info)

theorem own_strs {w w' : World} {base n : Nat} {v : Value} {xs : List Value} (h : w.ownsRow base 9 1 v n xs) (hb : Below w.heap.size w w') : w'.ownsRow base 9 1 v n xs := Fr.own_below h hb
/-- A slice of slices of bytes of blocks below B, at any later world. -/
structure Lb (B : Nat) (w0 : World) (A : Option Addr) (l : List Bs) : Prop where
  at_ : ∀ (k : Nat) (r : Bs), l[k]? = some r → ∃ ad Ai ci, A = some ad ∧ ∀ w', Below B w0 w' → w'.cell? (ad.add k) = some (.slice Ai r.length ci) ∧ Rb w' (fun g => g < B) Ai r.length r
theorem lb_of {w : World} {A : Option Addr} {c : Nat} {l : List Bs} (h : Fr.Lr w (.slice A l.length c) l) : Lb w.heap.size w A l :=
  ⟨fun k r hk => by
    have hlt : k < l.length := (List.getElem?_eq_some_iff.1 hk).1
    obtain ⟨A', c', e, h1⟩ := h
    injection e with e1 _ e3
    subst e1
    obtain ⟨ad, ha, hab, h2⟩ := h1 (by omega)
    obtain ⟨Ai, ci, q1, q2⟩ := h2 k r hk
    exact ⟨ad, Ai, ci, ha, fun w' hb => ⟨(World.cell?_of_block (by rw [adr_block]; exact hb.block _ hab)).trans q1, q2.keep (fun g hg => hb.block g hg) (fun _ hg => hg)⟩⟩⟩
def TsAt (w : World) (l : List Bs) (v i : Value) (wr : World) : Prop :=
  ∃ k : Nat, k ≤ l.length ∧ i = .int .i64 k ∧ wr.ownsRow w.heap.size 9 1 v k (strs (l.take k)) ∧ Below w.heap.size w wr
set_option maxHeartbeats 1600000 in
theorem textsof_any (w : World) (v : Value) (l : List Bs) (h : Fr.Lr w v l) (hn : l.length ≤ 1000) :
    Calls Tryd.prog 14 #[v] w fun e w' => ∃ u, e = .returned u ∧ w'.ownsRow w.heap.size 9 1 u l.length (strs l) ∧ Below w.heap.size w w' := by
  obtain ⟨A, c, rfl⟩ : ∃ A c, v = .slice A l.length c := by
    obtain ⟨A, c, e, _⟩ := h
    exact ⟨A, c, e⟩
  have P := Lib.hid (lb_of h).at_
  have st : Hid (TsAt w l (.slice none 0 0) (.int .i64 0) w) := ⟨0, Nat.zero_le _, rfl, World.ownsRow_nil _ _ _ _, Below.refl _ _⟩
  obtain ⟨i0, hi, hz0, hz1, hz2⟩ := info_parts s_info
  replace hi := Lib.hid hi
  replace hz0 := Lib.hid hz0
  replace hz1 := Lib.hid hz1
  replace hz2 := Lib.hid hz2
  obtain ⟨n, hnl⟩ : ∃ n, n = l.length := ⟨_, rfl⟩
  rw [← hnl] at hn ⊢
  replace hnl := Lib.hid hnl
  clear h
  go_enter Tryd.func14, Tryd.ntmps14
  go_wp2_with fail
  go_loopw [3, 4] (fun v i wr => TsAt w l v i wr) (fun _ i _ => n - (intOf i).toNat)
  case atStart => exact st.out
  case round =>
    obtain ⟨k, hk, rfl, ho, hb⟩ := hrel
    rw [← hnl.out] at hk
    replace ho := Lib.hid ho
    replace hb := Lib.hid hb
    obtain ⟨A0, c0, rfl⟩ := own_form ho.out
    by_cases hlt : k < n
    · obtain ⟨r, hr⟩ : ∃ r, l[k]? = some r := ⟨_, List.getElem?_eq_getElem (by have := hnl.out; omega)⟩
      obtain ⟨ad, Ai, ci, rfl, hP⟩ := P.out k r hr
      obtain ⟨hc, hR⟩ := hP wr hb.out
      have s0 : w.heap.size ≤ wr.heap.size := hb.out.size
      have hs := str_run (c := ci) (T := fun g => g < w.heap.size) ⟨hR.len, hR.at_⟩
      obtain ⟨xs, hxs⟩ : ∃ xs, xs = strs (l.take k) := ⟨_, rfl⟩
      rw [← hxs] at ho
      have nx : Hid (∀ w6 v6, w6.ownsRow w.heap.size 9 1 v6 (k + 1) (xs ++ [.string (str r)]) → Below w.heap.size w w6 → TsAt w l v6 (.int .i64 ((k : Int) + 1)) w6) := fun w6 v6 ho6 hb6 => by
        refine ⟨k + 1, by have := hnl.out; omega, by simp, ?_, hb6⟩
        have e2 : l.take (k + 1) = l.take k ++ [r] := by rw [List.take_add_one, hr]; rfl
        rw [e2, strs_app, ← hxs]
        exact ho6
      clear hr hR hxs hP
      go_wp2_with (at_builtin; go_loud (refine Fr.wpList_append_1 wr rfl (.tmp 11) (.tmp 17) 30 rfl w.heap.size 9 i0 (.string ByteArray.empty) 16 Tryd.underlying30 hi.out hz0.out hz1.out hz2.out rfl _ k xs (.string (str r)) rfl ho.out rfl rfl (by unfold maxLen; omega) (by omega) s0 ?_); intro v6 w6 h6 g6; have f6 : Hid _ := nx.out w6 v6 h6 ((hb.out.alloc s0 _).grown g6 (by simp; omega) (fun g hg => (ho.out.lt g hg).1)); clear h6 g6)
      go_roundw
      case rel => exact f6.out
      case measure => simp [intOf]; omega
    · obtain rfl : k = n := by omega
      have e : l.take k = l := List.take_of_length_le (by have := hnl.out; omega)
      rw [e] at ho
      clear e
      go_wp2
      go_ret
      exact ⟨_, rfl, ho.out, hb.out⟩
end Se
end Go.Proofs.YtbolcapgocjgcaaDoor
