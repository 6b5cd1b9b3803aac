/- A frame with a byte that was turned is none; plain arithmetic. -/
import Derived.Test.YtbolcapgocjgcaaGreatDoorFrT
namespace Go.Proofs.YtbolcapgocjgcaaGreatDoor
open Go.RowKit
open Go.Proofs.YtbolcapgocjgcaaGreatDoor.Pk
namespace Fr

theorem one_parts {a h r t : List UInt8} (ha : a.length = 4) (hh : h.length = 2) (hl : num h = r.length) (hs : ¬ sumOf r = num a) : one (a ++ (h ++ (r ++ t))) = none := by
  have e6 : (a ++ (h ++ (r ++ t))).drop 4 = h ++ (r ++ t) := by rw [List.drop_left' ha]
  have e7 : (a ++ (h ++ (r ++ t))).drop 6 = r ++ t := by
    have : (a ++ (h ++ (r ++ t))).drop 6 = ((a ++ (h ++ (r ++ t))).drop 4).drop 2 := by rw [List.drop_drop]
    rw [this, e6, List.drop_left' hh]
  have hn : hlen (a ++ (h ++ (r ++ t))) = r.length := by unfold hlen; rw [e6, List.take_left' hh, hl]
  unfold one
  rw [if_neg]
  rintro ⟨_, _, _, _, h5⟩
  rw [hn, e7, List.take_left' rfl, List.take_left' ha] at h5
  exact hs h5
theorem num_inj {a b : List UInt8} (h : a.length = b.length) (e : num a = num b) : a = b := by rw [← le_num a, ← le_num b, h, e]
theorem set_ne {l : List UInt8} {k : Nat} {y z : UInt8} (h : l[k]? = some y) (hne : ¬ y = z) : ¬ l.set k z = l := by
  intro e
  have := congrArg (fun q => q[k]?) e
  simp only [List.getElem?_set_self' , h] at this
  simp at this
  exact hne this.symm
/-- A byte of the sum, or of the record, turned. -/
theorem one_turned {r t : List UInt8} {k : Nat} {y z : UInt8} (hr : r.length ≤ 1000) (hk : k < 4 ∨ 6 ≤ k) (hy : (frame r)[k]? = some y) (hne : ¬ y = z) : one ((frame r).set k z ++ t) = none := by
  have l4 := le_len 4 (sumOf r)
  have l2 := le_len 2 r.length
  have n4 := num_le 4 (sumOf r) (by have := sum_lt r; omega)
  have n2 := num_le 2 r.length (by omega)
  rcases hk with hk | hk
  · have e : (frame r).set k z = (le 4 (sumOf r)).set k z ++ (le 2 r.length ++ r) := by unfold frame; rw [List.set_append_left _ _ (by omega)]
    have hy2 : (le 4 (sumOf r))[k]? = some y := by
      unfold frame at hy
      rwa [List.getElem?_append_left (by omega)] at hy
    rw [e, List.append_assoc, List.append_assoc]
    refine one_parts (by rw [List.length_set, l4]) l2 n2 (fun h => ?_)
    refine set_ne hy2 hne (num_inj (by rw [List.length_set]) ?_)
    rw [← h, n4]
  · have hlt : k < (frame r).length := (List.getElem?_eq_some_iff.1 hy).1
    rw [frame_len] at hlt
    have e : (frame r).set k z = le 4 (sumOf r) ++ (le 2 r.length ++ r.set (k - 6) z) := by
      unfold frame
      rw [List.set_append_right _ _ (by omega), List.set_append_right _ _ (by omega), l4, l2, Nat.sub_sub]
    have hy2 : r[k - 6]? = some y := by
      unfold frame at hy
      rw [List.getElem?_append_right (by omega), List.getElem?_append_right (by omega), l4, l2, Nat.sub_sub] at hy
      exact hy
    rw [e, List.append_assoc, List.append_assoc]
    refine one_parts l4 l2 (by rw [List.length_set, n2]) (fun h => ?_)
    rw [n4] at h
    exact hne ((sum_turn hy2).1 h.symm)

theorem own_two {w : World} {b1 b2 n1 n2 : Nat} {e1 e2 : TypeId} {v1 v2 : Value} {xs1 xs2 : List Value} (h1 : w.ownsRow b1 e1 1 v1 n1 xs1) (h2 : w.ownsRow b2 e2 1 v2 n2 xs2) (hne : e1 ≠ e2) : ∀ g, v1.ownBlock = some g → v2.ownBlock ≠ some g := by
  intro g hg
  rcases h1.2 with ⟨rfl, _⟩ | ⟨g', cap, cur, rfl, _, hh, _⟩
  · simp [Value.ownBlock] at hg
  · have e : g' = g := by simpa [Value.ownBlock] using hg
    subst e
    exact own_apart h2 hh hne
theorem own_grown {w w' : World} {o : Obj} {b n : Nat} {e : TypeId} {v v2 : Value} {xs : List Value} (h : w.ownsRow b e 1 v n xs) (hg : (w.alloc o).grownBy w' v2.ownBlock) (hne : ∀ g, v.ownBlock = some g → v2.ownBlock ≠ some g) : w'.ownsRow b e 1 v n xs :=
  own_keep h fun g hq => (hg.block g (by have := (h.lt g hq).2; simp; omega) (fun e => hne g hq e.symm)).trans (heap_alloc_old w _ (h.lt g hq).2)
theorem own_grown0 {w w' : World} {b n : Nat} {e : TypeId} {v v2 : Value} {xs : List Value} (h : w.ownsRow b e 1 v n xs) (hg : w.grownBy w' v2.ownBlock) (hne : ∀ g, v.ownBlock = some g → v2.ownBlock ≠ some g) : w'.ownsRow b e 1 v n xs :=
  own_keep h fun g hq => hg.block g (h.lt g hq).2 (fun e => hne g hq e.symm)
theorem own_some {w : World} {base n : Nat} {e : TypeId} {v : Value} {xs : List Value} (h : w.ownsRow base e 1 v n xs) (hn : 0 < n) : ∃ g c, v = .slice (some ⟨g, 0, none⟩) n c ∧ base ≤ g ∧ g < w.heap.size ∧ n ≤ c ∧ c ≤ maxLen := by
  rcases h.2 with ⟨_, h0⟩ | ⟨g, cap, cur, e, hb, hh, h1, h2, _⟩
  · omega
  · exact ⟨g, cap, e, hb, lt_some hh, h1, h2⟩
theorem u8s_set (bs : List UInt8) (k : Nat) (y : UInt8) : (u8s bs).set k (.int .u8 (y.toNat : Int)) = u8s (bs.set k y) := by simp [u8s, List.map_set]
theorem xor_z (y : UInt8) (x : Int) (h1 : 0 ≤ x) (h2 : x ≤ 255) : ∃ z : UInt8, bits .xor .u8 (y.toNat : Int) x = (z.toNat : Int) ∧ (y = z ↔ x = 0) := by
  obtain ⟨n, rfl⟩ := Int.eq_ofNat_of_zero_le h1
  have hy := y.toNat_lt
  have hlt : y.toNat ^^^ n < 256 := Nat.xor_lt_two_pow (n := 8) (by omega) (by omega)
  refine ⟨UInt8.ofNat (y.toNat ^^^ n), by rw [ofNat_toNat hlt]; exact u8_xor_nat _ _ (by omega) (by omega), ?_⟩
  constructor
  · intro h
    have := congrArg UInt8.toNat h
    rw [ofNat_toNat hlt] at this
    have := congrArg (y.toNat ^^^ ·) this
    simp only [← Nat.xor_assoc, Nat.xor_self, Nat.zero_xor] at this
    omega
  · intro h
    have : n = 0 := by omega
    subst this
    apply UInt8.toNat_inj.1
    rw [ofNat_toNat hlt, Nat.xor_zero]
theorem turned {w : World} {base L k : Nat} {v : Value} {bs : List UInt8} {x : Int} (h : w.ownsRow base 5 1 v L (u8s bs)) (hk : k < L) (h1 : 0 ≤ x) (h2 : x ≤ 255) :
    ∃ (g c : Nat) (y z : UInt8), v = .slice (some ⟨g, 0, none⟩) L c ∧ base ≤ g ∧ g < w.heap.size ∧ L ≤ c ∧ c ≤ 9223372036854775807 ∧ bs[k]? = some y ∧ w.cell? ⟨g, k, none⟩ = some (.int .u8 (y.toNat : Int)) ∧ w.frozen? ⟨g, k, none⟩ = false ∧
      bits .xor .u8 (y.toNat : Int) x = (z.toNat : Int) ∧ (y = z ↔ x = 0) ∧ y.toNat < 256 ∧ (w.setCell ⟨g, k, none⟩ (.int .u8 (z.toNat : Int))).ownsRow base 5 1 (.slice (some ⟨g, 0, none⟩) L c) L (u8s (bs.set k z)) := by
  obtain ⟨g, c, rfl, hg, hgl, hc1, hc2⟩ := own_some h (by omega)
  have hl := h.1
  rw [u8s_len] at hl
  obtain ⟨y, hy⟩ : ∃ y, bs[k]? = some y := ⟨_, List.getElem?_eq_getElem (by omega)⟩
  obtain ⟨z, hz, hyz⟩ := xor_z y x h1 h2
  unfold maxLen at hc2
  refine ⟨g, c, y, z, rfl, hg, hgl, hc1, by omega, hy, ?_, h.frozenAt k, hz, hyz, y.toNat_lt, ?_⟩
  · rw [h.cellAt k (by omega), u8s, List.getElem?_map, hy]
    rfl
  · rw [← u8s_set]
    exact (h.stored k _).1
theorem place (at_ : Int) (L : Nat) (hL : 0 < L) (hm : L ≤ 1000000) : ∃ k : Nat, wrap64 ((IntKind.u64.wrap at_).tmod (L : Int)) = (k : Int) ∧ k < L := by
  refine ⟨((IntKind.u64.wrap at_) % (L : Int)).toNat, ?_, ?_⟩
  · have h0 : 0 ≤ IntKind.u64.wrap at_ := by rw [IntKind.wrap_u64]; omega
    have h1 := Int.emod_nonneg (IntKind.u64.wrap at_) (show (L : Int) ≠ 0 by omega)
    have h2 := Int.emod_lt_of_pos (IntKind.u64.wrap at_) (show (0 : Int) < L by omega)
    rw [Int.tmod_eq_emod_of_nonneg h0, wrap64_small _ (by omega) (by omega)]; omega
  · have h1 := Int.emod_nonneg (IntKind.u64.wrap at_) (show (L : Int) ≠ 0 by omega)
    have h2 := Int.emod_lt_of_pos (IntKind.u64.wrap at_) (show (0 : Int) < L by omega)
    omega
end Fr
end Go.Proofs.YtbolcapgocjgcaaGreatDoor
