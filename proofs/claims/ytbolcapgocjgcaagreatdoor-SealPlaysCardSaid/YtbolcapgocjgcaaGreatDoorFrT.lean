/- Texts: two lists that are alike. -/
import Derived.Test.YtbolcapgocjgcaaGreatDoorFrO
namespace Go.Proofs.YtbolcapgocjgcaaGreatDoor
set_option maxRecDepth 100000
open Go.RowKit
open Go.Proofs.YtbolcapgocjgcaaGreatDoor.Pk
namespace Fr

/-- A slice of slices of bytes, read. -/
def Lr (w : World) (v : Value) (l : List (List UInt8)) : Prop :=
  ∃ A c, v = .slice A l.length c ∧ (0 < l.length → ∃ ad, A = some ad ∧ ad.block < w.heap.size ∧ ∀ (i : Nat) (r : List UInt8), l[i]? = some r → ∃ Ai ci, w.cell? (ad.add i) = some (.slice Ai r.length ci) ∧ Rb w (fun g => g < w.heap.size) Ai r.length r)
/-- A slice of strings, read. -/
def Sr (w : World) (v : Value) (l : List (List UInt8)) : Prop :=
  ∃ A c, v = .slice A l.length c ∧ (0 < l.length → ∃ ad, A = some ad ∧ ad.block < w.heap.size ∧ ∀ (i : Nat) (r : List UInt8), l[i]? = some r → w.cell? (ad.add i) = some (.string (str r)))
theorem Lr.below {w w' : World} {v : Value} {l : List (List UInt8)} (h : Lr w v l) (hb : Below w.heap.size w w') : Lr w' v l := by
  obtain ⟨A, c, e, h1⟩ := h
  refine ⟨A, c, e, fun hn => ?_⟩
  obtain ⟨ad, ha, hab, h2⟩ := h1 hn
  refine ⟨ad, ha, Nat.lt_of_lt_of_le hab hb.size, fun i r hi => ?_⟩
  obtain ⟨Ai, ci, q1, q2⟩ := h2 i r hi
  exact ⟨Ai, ci, (World.cell?_of_block (by rw [adr_block]; exact hb.block _ hab)).trans q1, rb_below q2 hb⟩
theorem Sr.below {w w' : World} {v : Value} {l : List (List UInt8)} (h : Sr w v l) (hb : Below w.heap.size w w') : Sr w' v l := by
  obtain ⟨A, c, e, h1⟩ := h
  refine ⟨A, c, e, fun hn => ?_⟩
  obtain ⟨ad, ha, hab, h2⟩ := h1 hn
  exact ⟨ad, ha, Nat.lt_of_lt_of_le hab hb.size, fun i r hi => (World.cell?_of_block (by rw [adr_block]; exact hb.block _ hab)).trans (h2 i r hi)⟩
theorem Lst.read {w : World} {base : Nat} {v : Value} {l : List (List UInt8)} (h : Lst w base v l) : Lr w v l := by
  obtain ⟨xs, ho, hE⟩ := h
  obtain ⟨A, c, rfl⟩ := own_form ho
  refine ⟨A, c, rfl, fun hn => ?_⟩
  rcases ho.2 with ⟨_, h0⟩ | ⟨g, cap, cur, e, hb, hh, _⟩
  · omega
  · injection e with e1 _ e3
    subst e1
    refine ⟨_, rfl, lt_some hh, fun i r hi => ?_⟩
    obtain ⟨u, hu, A', c', rfl, _, _, hR⟩ := hE i r hi
    exact ⟨A', c', ho.cells (g := g) rfl i _ hu, hR.keep (fun _ _ => rfl) (fun _ hg => hg.2.lt)⟩
def strs (l : List (List UInt8)) : List Value := l.map fun r => .string (str r)
theorem strs_len (l : List (List UInt8)) : (strs l).length = l.length := by simp [strs]
theorem strs_get {l : List (List UInt8)} {i : Nat} {r : List UInt8} (h : l[i]? = some r) : (strs l)[i]? = some (.string (str r)) := by rw [strs, List.getElem?_map, h]; rfl
theorem sr_own {w : World} {base : Nat} {v : Value} {l : List (List UInt8)} (ho : w.ownsRow base 9 1 v l.length (strs l)) : Sr w v l := by
  obtain ⟨A, c, rfl⟩ := own_form ho
  refine ⟨A, c, rfl, fun hn => ?_⟩
  rcases ho.2 with ⟨_, h0⟩ | ⟨g, cap, cur, e, hb, hh, _⟩
  · omega
  · injection e with e1 _ e3
    subst e1
    exact ⟨_, rfl, lt_some hh, fun i r hi => ho.cells (g := g) rfl i _ (strs_get hi)⟩
/-- The first of them. -/
theorem Sr.take {w : World} {A : Option Addr} {c : Nat} {l : List (List UInt8)} {k : Nat} (h : Sr w (.slice A l.length c) l) (hk : k ≤ l.length) : Sr w (.slice A k c) (l.take k) := by
  obtain ⟨A', c', e, h1⟩ := h
  injection e with e1 _ e3
  subst e1
  subst e3
  refine ⟨A, c, by rw [List.length_take, Nat.min_eq_left hk], fun hn => ?_⟩
  rw [List.length_take] at hn
  obtain ⟨ad, ha, hab, h2⟩ := h1 (by omega)
  refine ⟨ad, ha, hab, fun i r hi => h2 i r ?_⟩
  rw [List.getElem?_take] at hi
  split at hi
  · exact hi
  · cases hi

def TxAt (w : World) (n : Nat) (i : Value) (wr : World) : Prop := ∃ k : Nat, i = .int .i64 (k : Nat) ∧ k ≤ n ∧ Below w.heap.size w wr
set_option maxHeartbeats 1600000 in
set_option maxRecDepth 100000 in
theorem texts_any (w : World) (va vb : Value) (l : List (List UInt8)) (ha : Lr w va l) (hb : Sr w vb l) (hn : l.length ≤ 1000000) :
    Calls Tryz.prog 18 #[va, vb] w fun e w' => e = .returned (.bool true) ∧ Below w.heap.size w w' := by
  obtain ⟨A, c, rfl, ha⟩ := ha
  obtain ⟨B, d, rfl, hb⟩ := hb
  replace ha := Lib.hid ha
  replace hb := Lib.hid hb
  obtain ⟨n, hnl⟩ : ∃ n, n = l.length := ⟨_, rfl⟩
  rw [← hnl] at hn ⊢
  have st : Hid (TxAt w n (.int .i64 0) w) := ⟨0, rfl, Nat.zero_le _, Below.refl _ _⟩
  replace hnl := Lib.hid hnl
  go_enter Tryz.func18, Tryz.ntmps18
  go_wp2_with fail
  go_loopw [5] (fun i wr => TxAt w n i wr) (fun i _ => n - (intOf i).toNat)
  case atStart => exact st.out
  case round =>
    obtain ⟨k, rfl, hk, hw⟩ := hrel
    replace hw := Lib.hid hw
    by_cases hlt : k < n
    · obtain ⟨r, hr⟩ : ∃ r, l[k]? = some r := ⟨_, List.getElem?_eq_getElem (by have := hnl.out; omega)⟩
      obtain ⟨ad, rfl, hab, h2⟩ := ha.out (by have := hnl.out; omega)
      obtain ⟨bd, rfl, hbb, h3⟩ := hb.out (by have := hnl.out; omega)
      obtain ⟨Ai, ci, q1, q2⟩ := h2 k r hr
      have q3 := h3 k r hr
      have c1 : wr.cell? (ad.add k) = some (.slice Ai r.length ci) := (World.cell?_of_block (by rw [adr_block]; exact hw.out.block _ hab)).trans q1
      have c2 : wr.cell? (bd.add k) = some (.string (str r)) := (World.cell?_of_block (by rw [adr_block]; exact hw.out.block _ hbb)).trans q3
      have R := rb_below q2 hw.out
      have s1 : ∀ d, (convert 39 9 (.slice Ai r.length ci)).run Tryz.prog (wr.drewN d) = .ok (.string (str r)) (wr.drewN d) := fun d => str_run (T := fun g => g < wr.heap.size) ⟨R.len, R.at_⟩
      have nx : Hid (∀ w6, Below wr.heap.size wr w6 → TxAt w n (.int .i64 ((k : Int) + 1)) w6) := fun w6 b6 => ⟨k + 1, by simp, hlt, hw.out.trans (b6.mono hw.out.size)⟩
      clear q1 q2 q3 R h2 h3 hab hbb hr
      go_wp2_with fail
      go_quiet (fail)
      go_wp2
      exact ⟨nx.out _ ⟨rfl, rfl, rfl, Nat.le_refl _, fun _ _ => rfl⟩, by simp [intOf]; omega⟩
    · obtain rfl : k = n := by omega
      go_wp2
      go_ret
      exact ⟨rfl, hw.out⟩

theorem strs_app (a : List (List UInt8)) (r : List UInt8) : strs (a ++ [r]) = strs a ++ [.string (str r)] := by simp [strs]
theorem s_info : (Tryz.prog.info? 9).map (fun i => (i.zero, i.size, i.bytes)) = some (some (.string ByteArray.empty), 1, 16) := by kernel_rfl
end Fr
end Go.Proofs.YtbolcapgocjgcaaGreatDoor
