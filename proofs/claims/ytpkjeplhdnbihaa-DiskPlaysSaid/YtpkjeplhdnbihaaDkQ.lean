/- A slice of strings that came in. -/
import Derived.Test.YtpkjeplhdnbihaaDkP
namespace Go.Proofs.Ytpkjeplhdnbihaa
open Go.ChangeShapes Go.WideShapes Go.ChangeAt Go.WideMaps Go.WideElems Go.RowKit Go.Proofs.Ytpkjeplhdnbihaa.Pk
namespace Dk

structure Strs (w : World) (B : Nat) (A : Option Addr) (n : Nat) (l : List ByteArray) : Prop where
  len : l.length = n
  at_ : 0 < n → ∃ a, A = some a ∧ a.block < B ∧ ∀ (i : Nat) (s : ByteArray), l[i]? = some s → w.cell? (a.add i) = some (.string s)
  small : ∀ s ∈ l, s.size ≤ maxLen
theorem Strs.below {w w' : World} {B : Nat} {A : Option Addr} {n : Nat} {l : List ByteArray} (h : Strs w B A n l) (hb : Below B w w') : Strs w' B A n l :=
  ⟨h.len, fun hn => by
    obtain ⟨a, e, ha, hc⟩ := h.at_ hn
    exact ⟨a, e, ha, fun i s hi => (World.cell?_of_block (by rw [adr_block]; exact hb.block _ ha)).trans (hc i s hi)⟩, h.small⟩

theorem view_strs {H : Type} {enc : TypeId × Value → H} {W : World} {sp : Nat → Bool} {held : Bool} {v : Value} {d : DataW H} {p : List MemPlace} {r : Reach} {b0 : Nat}
    (hv : Value.okWide Try.prog W r b0 50 v) (h : DataW.Trod enc Try.prog W 0 sp held 50 v d p) : ∃ A n c l, v = .slice A n c ∧ n ≤ c ∧ c ≤ 9223372036854775807 ∧ Strs W W.heap.size A n l := by
  obtain ⟨A, n, c, rfl⟩ := okWide_slice Try.underlying50 hv
  obtain ⟨fuel, hf⟩ := h
  have c9 : Try.prog.cellsOf 9 = 1 := by kernel_rfl
  rcases Go.Deep.open_slice1 Try.underlying50 c9 hf with ⟨hcs, _⟩ | ⟨a, len, cap, m, fu, V, D, Pl, hcs, _, hl, hm, hmm, _, hi⟩
  · obtain ⟨rfl, rfl, rfl⟩ : A = none ∧ n = 0 ∧ c = 0 := by simpa [Value.cells] using hcs
    exact ⟨none, 0, 0, [], rfl, Nat.le_refl _, by omega, ⟨rfl, fun h => absurd h (by omega), fun s h => (nomatch h)⟩⟩
  · obtain ⟨rfl, rfl, rfl⟩ : A = some a ∧ n = len ∧ c = cap := by simpa [Value.cells] using hcs
    have hle : n ≤ m := by rw [hmm]; split <;> omega
    unfold maxLen at hm
    have one : ∀ i, i < n → ∃ r : ByteArray, V i = .string r ∧ r.size ≤ maxLen := by
      intro i hin
      obtain ⟨_, h2⟩ := hi i (by omega)
      obtain ⟨m2, f2, _, w2⟩ := DataW.trod_string Try.underlying9 h2
      exact ⟨m2, by simpa using f2, w2⟩
    have all : ∀ k, k ≤ n → ∃ l : List ByteArray, l.length = k ∧ ∀ (i : Nat) (r : ByteArray), l[i]? = some r → (V i = .string r ∧ r.size ≤ maxLen) := by
      intro k
      induction k with
      | zero => intro _; exact ⟨[], rfl, fun i o h => by simp at h⟩
      | succ k ih =>
        intro hk
        obtain ⟨l, h1, h2⟩ := ih (by omega)
        obtain ⟨o, h4⟩ := one k (by omega)
        refine ⟨l ++ [o], by simp [h1], fun i o' hi => ?_⟩
        rw [List.getElem?_append] at hi
        split at hi
        · exact h2 i o' hi
        · rename_i hge
          have hi0 : i - l.length = 0 := by
            rcases Nat.eq_zero_or_pos (i - l.length) with e | e
            · exact e
            · rw [List.getElem?_eq_none (by simp; omega)] at hi; cases hi
          rw [hi0] at hi
          simp only [List.getElem?_cons_zero, Option.some.injEq] at hi
          subst hi
          obtain rfl : i = k := by omega
          exact h4
    obtain ⟨l, h1, h2⟩ := all n (Nat.le_refl _)
    refine ⟨some a, n, c, l, rfl, hl, by omega, ⟨h1, fun hn => ⟨a, rfl, ?_, fun i r hir => ?_⟩, fun s hs => ?_⟩⟩
    · have := block_lt_of_cell (hi 0 (by omega)).1
      rwa [adr_block] at this
    · have hin : i < n := by rw [← h1]; exact (List.getElem?_eq_some_iff.1 hir).1
      rw [← (h2 i r hir).1]
      exact (hi i (by omega)).1
    · obtain ⟨i, hi, e⟩ := List.getElem_of_mem hs
      exact (h2 i s (by rw [List.getElem?_eq_getElem hi, e])).2

/-! ### lengths -/
theorem sum_one {α : Type} (l : List (Bs × α)) : sum (fun _ => 1) l = l.length := by
  induction l with
  | nil => rfl
  | cons q r ih => simp [sum] at ih ⊢; omega
theorem len_put {L : St} {n : Bs} {a : Bs × Nat} (h : Rise L) : (Dk.put n a L).length + (if (Dk.look n L).isSome then 1 else 0) = L.length + 1 := by
  have := sum_put (fun _ => 1) n a h
  rw [sum_one, sum_one] at this
  cases e : Dk.look n L <;> rw [e] at this <;> simpa using this
theorem len_del {L : St} {n : Bs} (h : Rise L) : (Dk.del n L).length + (if (Dk.look n L).isSome then 1 else 0) = L.length := by
  have := sum_del (fun _ => 1) n h
  rw [sum_one, sum_one] at this
  cases e : Dk.look n L <;> rw [e] at this <;> simpa using this
theorem used_put {L : St} {n : Bs} {a : Bs × Nat} (h : Rise L) : used (Dk.put n a L) + (Dk.look n L).elim 0 (fun a => a.1.length) = used L + a.1.length := sum_put (fun a : Bs × Nat => a.1.length) n a h
theorem used_del {L : St} {n : Bs} (h : Rise L) : used (Dk.del n L) + (Dk.look n L).elim 0 (fun a => a.1.length) = used L := sum_del (fun a : Bs × Nat => a.1.length) n h

theorem nm_toList (s : ByteArray) : s.toList = nm s := by
  obtain ⟨d⟩ := s
  have := ByteArray.toList_mk d.toList
  simpa [nm] using this
theorem less_bb : ∀ (a b : Bs), Op.bytesLess a b = bytesBefore a b
  | [], [] => rfl
  | _ :: _, [] => rfl
  | [], _ :: _ => rfl
  | x :: r, y :: s => by simp only [Op.bytesLess, bytesBefore, less_bb r s]

/-! ### a file renamed -/
def tl : Bs := [116, 97, 105, 108]
/-- What is so when a file was synced, written on, and renamed. -/
structure NF (L L1 L2 L3 : St) (fx fy ax by_ : Bs) : Prop where
  e1 : sSync L fx = (0, L1)
  n1 : L1.length ≤ 1000000
  e2 : sApp 1000 L1 fx tl = (0, L2)
  n2 : L2.length ≤ 1000000
  e3 : Dk.look fx L2 = some (ax ++ tl, ax.length)
  e4 : ∃ k, Dk.look fy L2 = some (by_, k)
  e5 : sRen L2 fx fy = (0, L3)
  n3 : L3.length ≤ 1000000
  e6 : Dk.look fy L3 = some (ax ++ tl, ax.length)
  e7 : Rise L3
  small : ax.length ≤ 1000 ∧ by_.length ≤ 1000 ∧ used L2 ≤ 1000 ∧ used L3 ≤ 1000 ∧ by_.length ≤ used L2
  eq : fx = fy → L3.length = L2.length ∧ used L3 = used L2
  ne : fx ≠ fy → Dk.look fx L3 = none ∧ L3.length + 1 = L2.length ∧ used L3 + by_.length = used L2 ∧ sRen L3 fx fy = (5, L3) ∧ sRen L3 fy [] = (1, L3)
theorem nf_of {L : St} {fx fy ax ay : Bs} {kx ky : Nat} (hr : Rise L) (hu : used L ≤ 12) (hl : L.length ≤ 12) (hx : Dk.look fx L = some (ax, kx)) (hy : Dk.look fy L = some (ay, ky)) (gx : good fx = true) (gy : good fy = true) :
    ∃ L1 L2 L3 by_, NF L L1 L2 L3 fx fy ax by_ := by
  have r1 : Rise (Dk.put fx (ax, ax.length) L) := rise_put hr _ _
  have u1 := used_put (n := fx) (a := (ax, ax.length)) hr
  rw [hx] at u1
  simp only [Option.elim] at u1
  have l1 := len_put (n := fx) (a := (ax, ax.length)) hr
  rw [hx] at l1
  simp only [Option.isSome, if_true] at l1
  obtain ⟨L1, hL1⟩ : ∃ z, z = Dk.put fx (ax, ax.length) L := ⟨_, rfl⟩
  have k1 : Dk.look fx L1 = some (ax, ax.length) := by rw [hL1]; exact look_put_same _ _ _
  rw [← hL1] at r1 u1 l1
  have hax : ax.length ≤ used L1 := le_sum (fun a : Bs × Nat => a.1.length) (look_mem k1)
  have e2 : sApp 1000 L1 fx tl = (0, Dk.put fx (ax ++ tl, ax.length) L1) := by
    rw [app_ok gx (by simp [tl]; omega), k1]
    rfl
  have r2 : Rise (Dk.put fx (ax ++ tl, ax.length) L1) := rise_put r1 _ _
  have u2 := used_put (n := fx) (a := (ax ++ tl, ax.length)) r1
  rw [k1] at u2
  simp only [Option.elim, List.length_append] at u2
  have l2 := len_put (n := fx) (a := (ax ++ tl, ax.length)) r1
  rw [k1] at l2
  simp only [Option.isSome, if_true] at l2
  obtain ⟨L2, hL2⟩ : ∃ z, z = Dk.put fx (ax ++ tl, ax.length) L1 := ⟨_, rfl⟩
  have k2 : Dk.look fx L2 = some (ax ++ tl, ax.length) := by rw [hL2]; exact look_put_same _ _ _
  have t4 : tl.length = 4 := rfl
  rw [← hL2] at e2 r2 u2 l2
  obtain ⟨by_, kb, k4, hbe⟩ : ∃ by_ kb, Dk.look fy L2 = some (by_, kb) ∧ (fx = fy → by_ = ax ++ tl) := by
    by_cases e : fy = fx
    · exact ⟨_, _, by rw [e]; exact k2, fun _ => rfl⟩
    · exact ⟨ay, ky, by rw [hL2, look_put_other e, hL1, look_put_other e]; exact hy, fun h => absurd h.symm e⟩
  have rd := rise_del r2 fx
  have ud := used_del (n := fx) r2
  rw [k2] at ud
  simp only [Option.elim, List.length_append] at ud
  have ld := len_del (n := fx) r2
  rw [k2] at ld
  simp only [Option.isSome, if_true] at ld
  have r3 : Rise (Dk.put fy (ax ++ tl, ax.length) (Dk.del fx L2)) := rise_put rd _ _
  have u3 := used_put (n := fy) (a := (ax ++ tl, ax.length)) rd
  simp only [List.length_append] at u3
  have l3 := len_put (n := fy) (a := (ax ++ tl, ax.length)) rd
  have e5 : sRen L2 fx fy = (0, Dk.put fy (ax ++ tl, ax.length) (Dk.del fx L2)) := by
    unfold sRen
    rw [k2, gy]
    rfl
  have k6 : Dk.look fy (Dk.put fy (ax ++ tl, ax.length) (Dk.del fx L2)) = some (ax ++ tl, ax.length) := look_put_same _ _ _
  have n3 := len_put_le fy (ax ++ tl, ax.length) (Dk.del fx L2)
  have hby : by_.length ≤ used L2 := le_sum (fun a : Bs × Nat => a.1.length) (look_mem k4)
  refine ⟨L1, L2, _, by_, ?_, by omega, e2, by omega, k2, ⟨kb, k4⟩, e5, by omega, k6, r3, ⟨by omega, by omega, by omega, by omega, hby⟩, fun e => ?_, fun e => ?_⟩
  · unfold sSync
    rw [hx, hL1]
    rfl
  · subst e
    rw [look_del_same] at u3 l3
    simp only [Option.elim, Option.isSome, Bool.false_eq_true, if_false] at u3 l3
    exact ⟨by omega, by omega⟩
  · rw [look_del_other (fun h => e h.symm), k4] at u3 l3
    simp only [Option.elim, Option.isSome, if_true] at u3 l3
    have k7 : Dk.look fx (Dk.put fy (ax ++ tl, ax.length) (Dk.del fx L2)) = none := by rw [look_put_other e, look_del_same]
    refine ⟨k7, by omega, by omega, ?_, ?_⟩
    · unfold sRen
      rw [k7]
      rfl
    · unfold sRen
      rw [k6]
      rfl
end Dk
end Go.Proofs.Ytpkjeplhdnbihaa
