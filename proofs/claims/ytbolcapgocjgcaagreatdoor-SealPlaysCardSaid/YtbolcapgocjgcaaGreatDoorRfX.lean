/- The document's Crash. -/
import Derived.Test.YtbolcapgocjgcaaGreatDoorDkP
import Derived.BigRegion
import Derived.RegionTactic
import Derived.Deep.RegionLaw
import Derived.StillTail
import Derived.Deep.RegionHeld3
import Derived.Deep.Upon
namespace Go.Proofs.YtbolcapgocjgcaaGreatDoor
set_option maxRecDepth 100000
open Go.ChangeShapes Go.WideShapes Go.ChangeAt Go.WideMaps Go.WideElems Go.RowKit Go.Proofs.YtbolcapgocjgcaaGreatDoor.Pk
namespace Dk

structure Strs (w : World) (B : Nat) (A : Option Addr) (n : Nat) (l : List ByteArray) : Prop where
  len : l.length = n
  at_ : 0 < n → ∃ a, A = some a ∧ a.block < B ∧ ∀ (i : Nat) (s : ByteArray), l[i]? = some s → w.cell? (a.add i) = some (.string s)
  small : ∀ s ∈ l, s.size ≤ maxLen
theorem Strs.below {w w' : World} {B : Nat} {A : Option Addr} {n : Nat} {l : List ByteArray} (h : Strs w B A n l) (hb : Below B w w') : Strs w' B A n l :=
  ⟨h.len, fun hn => by
    obtain ⟨a, e, ha, hc⟩ := h.at_ hn
    exact ⟨a, e, ha, fun i s hi => (World.cell?_of_block (by rw [adr_block]; exact hb.block _ ha)).trans (hc i s hi)⟩, h.small⟩

theorem view_strs {H : Type} {enc : TypeId × Value → H} {W : World} {sp : Nat → Bool} {held : Bool} {v : Value} {d : DataW H} {p : List MemPlace} {r : Reach} {b0 : Nat}
    (hv : Value.okWide Tryz.prog W r b0 36 v) (h : DataW.Trod enc Tryz.prog W 0 sp held 36 v d p) : ∃ A n c l, v = .slice A n c ∧ n ≤ c ∧ c ≤ 9223372036854775807 ∧ Strs W W.heap.size A n l := by
  obtain ⟨A, n, c, rfl⟩ := okWide_slice Tryz.underlying36 hv
  obtain ⟨fuel, hf⟩ := h
  have c9 : Tryz.prog.cellsOf 9 = 1 := by kernel_rfl
  rcases Go.Deep.open_slice1 Tryz.underlying36 c9 hf with ⟨hcs, _⟩ | ⟨a, len, cap, m, fu, V, D, Pl, hcs, _, hl, hm, hmm, _, hi⟩
  · obtain ⟨rfl, rfl, rfl⟩ : A = none ∧ n = 0 ∧ c = 0 := by simpa [Value.cells] using hcs
    exact ⟨none, 0, 0, [], rfl, Nat.le_refl _, by omega, ⟨rfl, fun h => absurd h (by omega), fun s h => (nomatch h)⟩⟩
  · obtain ⟨rfl, rfl, rfl⟩ : A = some a ∧ n = len ∧ c = cap := by simpa [Value.cells] using hcs
    have hle : n ≤ m := by rw [hmm]; split <;> omega
    unfold maxLen at hm
    have one : ∀ i, i < n → ∃ r : ByteArray, V i = .string r ∧ r.size ≤ maxLen := by
      intro i hin
      obtain ⟨_, h2⟩ := hi i (by omega)
      obtain ⟨m2, f2, _, w2⟩ := DataW.trod_string Tryz.underlying9 h2
      exact ⟨m2, by simpa using f2, w2⟩
    have all : ∀ k, k ≤ n → ∃ l : List ByteArray, l.length = k ∧ ∀ (i : Nat) (r : ByteArray), l[i]? = some r → (V i = .string r ∧ r.size ≤ maxLen) := by
      intro k
      induction k with
      | zero => intro _; exact ⟨[], rfl, fun i o h => by simp at h⟩
      | succ k ih =>
        intro hk
        obtain ⟨l, h1, h2⟩ := ih (by omega)
        obtain ⟨o, h4⟩ := one k (by omega)
        refine ⟨l ++ [o], by simp [h1], fun i o' hi => ?_⟩
        rw [List.getElem?_append] at hi
        split at hi
        · exact h2 i o' hi
        · rename_i hge
          have hi0 : i - l.length = 0 := by
            rcases Nat.eq_zero_or_pos (i - l.length) with e | e
            · exact e
            · rw [List.getElem?_eq_none (by simp; omega)] at hi; cases hi
          rw [hi0] at hi
          simp only [List.getElem?_cons_zero, Option.some.injEq] at hi
          subst hi
          obtain rfl : i = k := by omega
          exact h4
    obtain ⟨l, h1, h2⟩ := all n (Nat.le_refl _)
    refine ⟨some a, n, c, l, rfl, hl, by omega, ⟨h1, fun hn => ⟨a, rfl, ?_, fun i r hir => ?_⟩, fun s hs => ?_⟩⟩
    · have := block_lt_of_cell (hi 0 (by omega)).1
      rwa [adr_block] at this
    · have hin : i < n := by rw [← h1]; exact (List.getElem?_eq_some_iff.1 hir).1
      rw [← (h2 i r hir).1]
      exact (hi i (by omega)).1
    · obtain ⟨i, hi, e⟩ := List.getElem_of_mem hs
      exact (h2 i s (by rw [List.getElem?_eq_getElem hi, e])).2

/-! ### lengths -/
theorem sum_one {α : Type} (l : List (Bs × α)) : sum (fun _ => 1) l = l.length := by
  induction l with
  | nil => rfl
  | cons q r ih => simp [sum] at ih ⊢; omega
theorem len_put {L : St} {n : Bs} {a : Bs × Nat} (h : Rise L) : (Dk.put n a L).length + (if (Dk.look n L).isSome then 1 else 0) = L.length + 1 := by
  have := sum_put (fun _ => 1) n a h
  rw [sum_one, sum_one] at this
  cases e : Dk.look n L <;> rw [e] at this <;> simpa using this
theorem len_del {L : St} {n : Bs} (h : Rise L) : (Dk.del n L).length + (if (Dk.look n L).isSome then 1 else 0) = L.length := by
  have := sum_del (fun _ => 1) n h
  rw [sum_one, sum_one] at this
  cases e : Dk.look n L <;> rw [e] at this <;> simpa using this
theorem used_put {L : St} {n : Bs} {a : Bs × Nat} (h : Rise L) : used (Dk.put n a L) + (Dk.look n L).elim 0 (fun a => a.1.length) = used L + a.1.length := sum_put (fun a : Bs × Nat => a.1.length) n a h
theorem used_del {L : St} {n : Bs} (h : Rise L) : used (Dk.del n L) + (Dk.look n L).elim 0 (fun a => a.1.length) = used L := sum_del (fun a : Bs × Nat => a.1.length) n h

theorem nm_toList (s : ByteArray) : s.toList = nm s := by
  obtain ⟨d⟩ := s
  have := ByteArray.toList_mk d.toList
  simpa [nm] using this
theorem less_bb : ∀ (a b : Bs), Op.bytesLess a b = bytesBefore a b
  | [], [] => rfl
  | _ :: _, [] => rfl
  | [], _ :: _ => rfl
  | x :: r, y :: s => by simp only [Op.bytesLess, bytesBefore, less_bb r s]

/-! ### a file renamed -/
def tl : Bs := [116, 97, 105, 108]
/-- What is so when a file was synced, written on, and renamed. -/
structure NF (L L1 L2 L3 : St) (fx fy ax by_ : Bs) : Prop where
  e1 : sSync L fx = (0, L1)
  n1 : L1.length ≤ 1000000
  e2 : sApp 1000 L1 fx tl = (0, L2)
  n2 : L2.length ≤ 1000000
  e3 : Dk.look fx L2 = some (ax ++ tl, ax.length)
  e4 : ∃ k, Dk.look fy L2 = some (by_, k)
  e5 : sRen L2 fx fy = (0, L3)
  n3 : L3.length ≤ 1000000
  e6 : Dk.look fy L3 = some (ax ++ tl, ax.length)
  e7 : Rise L3
  small : ax.length ≤ 1000 ∧ by_.length ≤ 1000 ∧ used L2 ≤ 1000 ∧ used L3 ≤ 1000 ∧ by_.length ≤ used L2
  eq : fx = fy → L3.length = L2.length ∧ used L3 = used L2
  ne : fx ≠ fy → Dk.look fx L3 = none ∧ L3.length + 1 = L2.length ∧ used L3 + by_.length = used L2 ∧ sRen L3 fx fy = (5, L3) ∧ sRen L3 fy [] = (1, L3)
theorem nf_of {L : St} {fx fy ax ay : Bs} {kx ky : Nat} (hr : Rise L) (hu : used L ≤ 12) (hl : L.length ≤ 12) (hx : Dk.look fx L = some (ax, kx)) (hy : Dk.look fy L = some (ay, ky)) (gx : good fx = true) (gy : good fy = true) :
    ∃ L1 L2 L3 by_, NF L L1 L2 L3 fx fy ax by_ := by
  have r1 : Rise (Dk.put fx (ax, ax.length) L) := rise_put hr _ _
  have u1 := used_put (n := fx) (a := (ax, ax.length)) hr
  rw [hx] at u1
  simp only [Option.elim] at u1
  have l1 := len_put (n := fx) (a := (ax, ax.length)) hr
  rw [hx] at l1
  simp only [Option.isSome, if_true] at l1
  obtain ⟨L1, hL1⟩ : ∃ z, z = Dk.put fx (ax, ax.length) L := ⟨_, rfl⟩
  have k1 : Dk.look fx L1 = some (ax, ax.length) := by rw [hL1]; exact look_put_same _ _ _
  rw [← hL1] at r1 u1 l1
  have hax : ax.length ≤ used L1 := le_sum (fun a : Bs × Nat => a.1.length) (look_mem k1)
  have e2 : sApp 1000 L1 fx tl = (0, Dk.put fx (ax ++ tl, ax.length) L1) := by
    rw [app_ok gx (by simp [tl]; omega), k1]
    rfl
  have r2 : Rise (Dk.put fx (ax ++ tl, ax.length) L1) := rise_put r1 _ _
  have u2 := used_put (n := fx) (a := (ax ++ tl, ax.length)) r1
  rw [k1] at u2
  simp only [Option.elim, List.length_append] at u2
  have l2 := len_put (n := fx) (a := (ax ++ tl, ax.length)) r1
  rw [k1] at l2
  simp only [Option.isSome, if_true] at l2
  obtain ⟨L2, hL2⟩ : ∃ z, z = Dk.put fx (ax ++ tl, ax.length) L1 := ⟨_, rfl⟩
  have k2 : Dk.look fx L2 = some (ax ++ tl, ax.length) := by rw [hL2]; exact look_put_same _ _ _
  have t4 : tl.length = 4 := rfl
  rw [← hL2] at e2 r2 u2 l2
  obtain ⟨by_, kb, k4, hbe⟩ : ∃ by_ kb, Dk.look fy L2 = some (by_, kb) ∧ (fx = fy → by_ = ax ++ tl) := by
    by_cases e : fy = fx
    · exact ⟨_, _, by rw [e]; exact k2, fun _ => rfl⟩
    · exact ⟨ay, ky, by rw [hL2, look_put_other e, hL1, look_put_other e]; exact hy, fun h => absurd h.symm e⟩
  have rd := rise_del r2 fx
  have ud := used_del (n := fx) r2
  rw [k2] at ud
  simp only [Option.elim, List.length_append] at ud
  have ld := len_del (n := fx) r2
  rw [k2] at ld
  simp only [Option.isSome, if_true] at ld
  have r3 : Rise (Dk.put fy (ax ++ tl, ax.length) (Dk.del fx L2)) := rise_put rd _ _
  have u3 := used_put (n := fy) (a := (ax ++ tl, ax.length)) rd
  simp only [List.length_append] at u3
  have l3 := len_put (n := fy) (a := (ax ++ tl, ax.length)) rd
  have e5 : sRen L2 fx fy = (0, Dk.put fy (ax ++ tl, ax.length) (Dk.del fx L2)) := by
    unfold sRen
    rw [k2, gy]
    rfl
  have k6 : Dk.look fy (Dk.put fy (ax ++ tl, ax.length) (Dk.del fx L2)) = some (ax ++ tl, ax.length) := look_put_same _ _ _
  have n3 := len_put_le fy (ax ++ tl, ax.length) (Dk.del fx L2)
  have hby : by_.length ≤ used L2 := le_sum (fun a : Bs × Nat => a.1.length) (look_mem k4)
  refine ⟨L1, L2, _, by_, ?_, by omega, e2, by omega, k2, ⟨kb, k4⟩, e5, by omega, k6, r3, ⟨by omega, by omega, by omega, by omega, hby⟩, fun e => ?_, fun e => ?_⟩
  · unfold sSync
    rw [hx, hL1]
    rfl
  · subst e
    rw [look_del_same] at u3 l3
    simp only [Option.elim, Option.isSome, Bool.false_eq_true, if_false] at u3 l3
    exact ⟨by omega, by omega⟩
  · rw [look_del_other (fun h => e h.symm), k4] at u3 l3
    simp only [Option.elim, Option.isSome, if_true] at u3 l3
    have k7 : Dk.look fx (Dk.put fy (ax ++ tl, ax.length) (Dk.del fx L2)) = none := by rw [look_put_other e, look_del_same]
    refine ⟨k7, by omega, by omega, ?_, ?_⟩
    · unfold sRen
      rw [k7]
      rfl
    · unfold sRen
      rw [k6]
      rfl
end Dk
end Go.Proofs.YtbolcapgocjgcaaGreatDoor

namespace Go.Proofs.YtbolcapgocjgcaaGreatDoor
open Go.RowKit
open Go.WideAt (bytes_total)
open Go.WideShapes (bytes_trans)
open Go.Proofs.YtbolcapgocjgcaaGreatDoor.Pk
namespace Dk

/-! ### places -/
def pos {α : Type} (n : Bs) : List (Bs × α) → Nat
  | [] => 0
  | p :: r => if bytesBefore p.1 n = true then pos n r + 1 else 0
section
variable {α : Type} {n : Bs}
theorem pos_le : ∀ (L : List (Bs × α)), pos n L ≤ L.length
  | [] => Nat.le_refl _
  | p :: r => by
    unfold pos
    split
    · have := pos_le r
      simp
      omega
    · exact Nat.zero_le _
theorem pos_before : ∀ {L : List (Bs × α)} {i : Nat} {p : Bs × α}, i < pos n L → L[i]? = some p → bytesBefore p.1 n = true
  | q :: r, i, p, h, e => by
    unfold pos at h
    split at h
    · rename_i hb
      cases i with
      | zero => simp at e; rw [← e]; exact hb
      | succ i => exact pos_before (L := r) (i := i) (by omega) (by simpa using e)
    · omega
theorem pos_not : ∀ {L : List (Bs × α)} {p : Bs × α}, L[pos n L]? = some p → bytesBefore p.1 n = false
  | [], p, e => by simp at e
  | q :: r, p, e => by
    unfold pos at e
    split at e
    · exact pos_not (by simpa using e)
    · rename_i hb
      simp at e
      rw [← e]
      simpa using hb
theorem pos_found : ∀ {L : List (Bs × α)} {a : α}, Rise L → look n L = some a → L[pos n L]? = some (n, a)
  | q :: r, a, h, e => by
    obtain ⟨h1, h2⟩ := List.pairwise_cons.1 h
    unfold look at e
    unfold pos
    split at e
    · rename_i hq
      injection e with e
      rw [if_neg (by rw [hq, Go.WideAt.bytes_irrefl]; simp)]
      simp only [List.getElem?_cons_zero, ← hq, ← e]
    · have := look_mem e
      rw [if_pos (h1 _ this)]
      simpa using pos_found h2 e
theorem pos_none {L : List (Bs × α)} {p : Bs × α} (h : look n L = none) (e : L[pos n L]? = some p) : p.1 ≠ n :=
  look_none.1 h p (List.mem_of_getElem? e)
theorem put_some_ : ∀ {L : List (Bs × α)} {a b : α}, Rise L → look n L = some a → put n b L = L.set (pos n L) (n, b)
  | q :: r, a, b, h, e => by
    obtain ⟨h1, h2⟩ := List.pairwise_cons.1 h
    unfold look at e
    unfold pos put
    split at e
    · rename_i hq
      rw [if_pos hq, if_neg (by rw [hq, Go.WideAt.bytes_irrefl]; simp)]
      rfl
    · rename_i hq
      have hb := h1 _ (look_mem e)
      rw [if_neg hq, if_pos hb, if_neg (by rw [bb_asym hb]; simp), put_some_ h2 e]
      rfl
theorem put_none_ : ∀ {L : List (Bs × α)} {b : α}, Rise L → look n L = none → put n b L = L.take (pos n L) ++ (n, b) :: L.drop (pos n L)
  | [], b, _, _ => rfl
  | q :: r, b, h, e => by
    obtain ⟨h1, h2⟩ := List.pairwise_cons.1 h
    unfold look at e
    unfold pos put
    split at e
    · cases e
    · rename_i hq
      rw [if_neg hq]
      by_cases hb : bytesBefore q.1 n = true
      · rw [if_pos hb, if_neg (by rw [bb_asym hb]; simp), put_none_ h2 e]
        rfl
      · rw [if_neg hb]
        rcases bytes_total _ _ hq with h' | h'
        · exact absurd h' hb
        · rw [if_pos h']
          rfl
theorem del_some_ : ∀ {L : List (Bs × α)} {a : α}, Rise L → look n L = some a → del n L = L.take (pos n L) ++ L.drop (pos n L + 1)
  | q :: r, a, h, e => by
    obtain ⟨h1, h2⟩ := List.pairwise_cons.1 h
    unfold look at e
    unfold pos
    split at e
    · rename_i hq
      rw [if_neg (by rw [hq, Go.WideAt.bytes_irrefl]; simp)]
      have e1 : del n (q :: r) = del n r := by simp [del, hq]
      have e2 : del n r = r := by
        unfold del
        rw [List.filter_eq_self]
        intro p hp
        have := bb_ne (h1 p hp)
        rw [hq] at this
        simp [this.symm]
      rw [e1, e2]
      rfl
    · rename_i hq
      have hb := h1 _ (look_mem e)
      rw [if_pos hb]
      have e1 : del n (q :: r) = q :: del n r := by simp [del, hq]
      rw [e1, del_some_ h2 e]
      rfl
theorem del_none_ {L : List (Bs × α)} (e : look n L = none) : del n L = L := by
  unfold del
  rw [List.filter_eq_self]
  intro p hp
  simp [look_none.1 e p hp]
end

/-! ### the document's disk -/
def ent (p : Bs × Bs × Nat) : List Value := [.string (str p.1), .string (str p.2.1), .int .i64 (p.2.2 : Nat)]
def flat (L : St) : List Value := L.flatMap ent
theorem flat_len (L : St) : (flat L).length = L.length * 3 := by
  induction L with
  | nil => rfl
  | cons q r ih => simp only [flat, List.flatMap_cons, List.length_append, ent, List.length_cons, List.length_nil] at ih ⊢; omega
theorem flat_app (X Y : St) : flat (X ++ Y) = flat X ++ flat Y := by simp [flat]
theorem flat_at : ∀ {L : St} {i j : Nat} {p : Bs × Bs × Nat} {u : Value}, L[i]? = some p → (ent p)[j]? = some u → j < 3 → (flat L)[i * 3 + j]? = some u
  | q :: r, 0, j, p, u, h, hu, hj => by
    simp at h
    subst h
    have e : flat (q :: r) = ent q ++ flat r := rfl
    rw [e, Nat.zero_mul, Nat.zero_add, List.getElem?_append_left (by simp [ent]; omega)]
    exact hu
  | q :: r, i + 1, j, p, u, h, hu, hj => by
    have e : flat (q :: r) = ent q ++ flat r := rfl
    have h' : r[i]? = some p := by simpa using h
    rw [e, List.getElem?_append_right (by simp [ent]; omega)]
    have e2 : (i + 1) * 3 + j - (ent q).length = i * 3 + j := by simp [ent]; omega
    rw [e2]
    exact flat_at h' hu hj
structure Rf (w : World) (q room : Nat) (L : St) (v : Value) : Prop where
  cells : w.heap[q]? = some (.cells #[.int .i64 room, v] 30 (0, 0))
  row : w.ownsRow 0 59 3 v L.length (flat L)

section
variable {w w' : World} {q room : Nat} {L : St} {v : Value}
theorem row_form {e : TypeId} {n base : Nat} {xs : List Value} (h : w.ownsRow base e 3 v n xs) : ∃ A c, v = .slice A n c ∧ n ≤ c ∧ c ≤ 9223372036854775807 ∧ (A = none → c = 0) := by
  rcases h.2 with ⟨rfl, rfl⟩ | ⟨g, cap, cur, rfl, hb, hh, h1, h2, _⟩
  · exact ⟨_, _, rfl, Nat.le_refl _, by omega, fun _ => rfl⟩
  · unfold maxLen at h2
    exact ⟨_, _, rfl, h1, h2, fun h => by cases h⟩
theorem row_block {e : TypeId} {n base g : Nat} {xs : List Value} (h : w.ownsRow base e 3 v n xs) (hg : v.ownBlock = some g) : base ≤ g ∧ ∃ cur, w.heap[g]? = some (.cells cur e (0, 0)) := by
  rcases h.2 with ⟨rfl, _⟩ | ⟨g', cap, cur, rfl, hb, hh, _⟩
  · simp [Value.ownBlock] at hg
  · have : g' = g := by simpa [Value.ownBlock] using hg
    subst this
    exact ⟨hb, cur, hh⟩
theorem row_same {e : TypeId} {n base : Nat} {xs : List Value} (h : w.ownsRow base e 3 v n xs) (hk : ∀ g, v.ownBlock = some g → w'.heap[g]? = w.heap[g]?) : w'.ownsRow base e 3 v n xs := by
  refine ⟨h.1, ?_⟩
  rcases h.2 with h0 | ⟨g, cap, cur, hv, hb, hh, h2⟩
  · exact .inl h0
  · exact .inr ⟨g, cap, cur, hv, hb, (hk g (by rw [hv]; rfl)).trans hh, h2⟩
theorem Rf.keep (h : Rf w q room L v) (hk : ∀ g, g = q ∨ v.ownBlock = some g → w'.heap[g]? = w.heap[g]?) : Rf w' q room L v :=
  ⟨(hk q (.inl rfl)).trans h.cells, row_same h.row fun g hg => hk g (.inr hg)⟩
theorem Rf.lt (h : Rf w q room L v) : ∀ g, g = q ∨ v.ownBlock = some g → g < w.heap.size := by
  rintro g (rfl | hg)
  · exact lt_some h.cells
  · exact lt_some (row_block h.row hg).2.choose_spec
theorem Rf.below (h : Rf w q room L v) (hb : Below w.heap.size w w') : Rf w' q room L v := h.keep fun g hg => hb.block g (h.lt g hg)
theorem Rf.apart (h : Rf w q room L v) : v.ownBlock ≠ some q := fun e => by
  obtain ⟨_, cur, hc⟩ := row_block h.row e
  have := h.cells
  rw [hc] at this
  injection this with this
  injection this with _ e
  exact absurd e (by decide)
/-- A file's cells. -/
theorem Rf.file (h : Rf w q room L v) {i : Nat} {p : Bs × Bs × Nat} (hp : L[i]? = some p) : ∃ g c, v = .slice (some ⟨g, 0, none⟩) L.length c ∧ L.length ≤ c ∧ c ≤ 9223372036854775807 ∧ w.cell? ⟨g, i * 3, none⟩ = some (.string (str p.1)) ∧ w.cell? ⟨g, i * 3 + 1, none⟩ = some (.string (str p.2.1)) ∧ w.cell? ⟨g, i * 3 + 2, none⟩ = some (.int .i64 (p.2.2 : Nat)) ∧
    (∀ k, w.frozen? ⟨g, k, none⟩ = false) := by
  have hi : i < L.length := (List.getElem?_eq_some_iff.1 hp).1
  rcases h.row.2 with ⟨_, h0⟩ | ⟨g, cap, cur, rfl, hb, hh, h1, h2, h3, h4⟩
  · omega
  · unfold maxLen at h2
    refine ⟨g, cap, rfl, h1, h2, ?_, ?_, ?_, fun k => one_free hh⟩
    · have := h.row.cells (g := g) rfl (i * 3 + 0) _ (flat_at hp (show (ent p)[0]? = _ from rfl) (by omega))
      simpa [Addr.add_lit] using this
    · have := h.row.cells (g := g) rfl (i * 3 + 1) _ (flat_at hp (show (ent p)[1]? = _ from rfl) (by omega))
      simpa [Addr.add_lit] using this
    · have := h.row.cells (g := g) rfl (i * 3 + 2) _ (flat_at hp (show (ent p)[2]? = _ from rfl) (by omega))
      simpa [Addr.add_lit] using this
end
end Dk
end Go.Proofs.YtbolcapgocjgcaaGreatDoor

namespace Go.Proofs.YtbolcapgocjgcaaGreatDoor
open Go.RowKit
open Go.Proofs.YtbolcapgocjgcaaGreatDoor.Pk
namespace Dk

set_option maxHeartbeats 400000 in
theorem rgood (w : World) (s : ByteArray) : Calls Tryz.prog 65 #[.string s] w fun e w' => e = .returned (.bool (good (nm s))) ∧ w = w' := by
  rw [← good_nm]
  go_enter Tryz.func65, Tryz.ntmps65
  by_cases h1 : 1 ≤ s.size
  · by_cases h2 : s.size ≤ 20
    · have e1 : decide ((1 : Int) ≤ (s.size : Int)) = true := decide_eq_true (by omega)
      have e2 : decide ((s.size : Int) ≤ 20) = true := decide_eq_true (by omega)
      go_wp2
      go_ret
      exact ⟨by simp [h1, h2], rfl⟩
    · have e1 : decide ((1 : Int) ≤ (s.size : Int)) = true := decide_eq_true (by omega)
      have e2 : decide ((s.size : Int) ≤ 20) = false := decide_eq_false (by omega)
      go_wp2
      go_ret
      exact ⟨by simp [h1, h2], rfl⟩
  · have e1 : decide ((1 : Int) ≤ (s.size : Int)) = false := decide_eq_false (by omega)
    go_wp2
    go_ret
    exact ⟨by simp [h1], rfl⟩

def UsAt (L : St) (t i : Value) (w wr : World) : Prop := ∃ k : Nat, i = .int .i64 (k : Nat) ∧ t = .int .i64 (used (L.take k) : Nat) ∧ k ≤ L.length ∧ wr = w
set_option maxHeartbeats 1600000 in
theorem rused (w : World) (q room : Nat) (L : St) (v : Value) (R : Rf w q room L v) (hu : used L ≤ 1000000) (hl : L.length ≤ 1000000) : Calls Tryz.prog 66 #[.pointer (some ⟨q, 0, none⟩)] w fun e w' => e = .returned (.int .i64 (used L : Nat)) ∧ w = w' := by
  have c1 : w.cell? ⟨q, 1, none⟩ = some v := one_at (i := 1) R.cells
  obtain ⟨A, c, rfl, hnc, hc, _⟩ := row_form R.row
  have RH := Lib.hid R
  obtain ⟨n, hn⟩ : ∃ n, n = L.length := ⟨_, rfl⟩
  rw [← hn] at c1 hl hnc
  replace hn := Lib.hid hn
  replace hu := Lib.hid hu
  clear R
  go_enter Tryz.func66, Tryz.ntmps66
  go_wp2_with fail
  go_loopw [3, 4] (fun t i wr => UsAt L t i w wr) (fun _ i _ => n - (intOf i).toNat)
  case atStart => exact ⟨0, rfl, rfl, Nat.zero_le _, rfl⟩
  case round =>
    obtain ⟨k, rfl, rfl, hk, rfl⟩ := hrel
    by_cases hlt : k < n
    · obtain ⟨p, hp⟩ : ∃ p, L[k]? = some p := ⟨_, List.getElem?_eq_getElem (by have := hn.out; omega)⟩
      obtain ⟨g, c', e0, _, _, e1, e2, e3, _⟩ := RH.out.file hp
      injection e0 with eA e4 e5
      subst eA; subst e5
      have hstep : used (L.take (k + 1)) = used (L.take k) + p.2.1.length := by
        rw [List.take_add_one, hp]
        simp [used, sum]
      have hle : used (L.take (k + 1)) ≤ used L := sum_take_le _ L (k + 1)
      have hsz : (str p.2.1).size = p.2.1.length := str_size _
      obtain ⟨u, hu1⟩ : ∃ u, u = used (L.take k) := ⟨_, rfl⟩
      obtain ⟨u', hu2⟩ : ∃ u, u = used (L.take (k + 1)) := ⟨_, rfl⟩
      obtain ⟨sz, hz⟩ : ∃ u, u = p.2.1.length := ⟨_, rfl⟩
      rw [← hz] at hsz hstep
      rw [← hu1] at hstep ⊢
      rw [← hu2] at hstep hle
      have ew : wrap64 ((u : Int) + (sz : Int)) = (u' : Int) := by rw [IntWalk.wrap64_in _ (by have := hu.out; omega)]; omega
      have i1 : (k : Int) < (n : Int) := by omega
      have i2 : (n : Int) ≤ 1000000 := by omega
      have nx : Hid (UsAt L (.int .i64 (u' : Nat)) (.int .i64 ((k : Int) + 1)) wr wr) := ⟨k + 1, by simp, by rw [hu2], by have := hn.out; omega, rfl⟩
      clear hstep hle hu1 hu2 hz hp
      go_wp2
      rw [ew]
      exact ⟨nx.out, by simp [intOf]; omega⟩
    · obtain rfl : k = n := by have := hn.out; omega
      have e : used (L.take k) = used L := by rw [hn.out, List.take_length]
      rw [e]
      go_wp2
      go_ret
      exact ⟨rfl, rfl⟩

def AtAt (n : Bs) (L : St) (i : Value) (w wr : World) : Prop := ∃ k : Nat, i = .int .i64 (k : Nat) ∧ k ≤ pos n L ∧ wr = w
/-- Where a file stands, or would; is it there? -/
def RatTo (w : World) (n : Bs) (L : St) (e : Ending) (w' : World) : Prop := e = .returned (.tuple #[.int .i64 (pos n L : Nat), .bool (look n L).isSome]) ∧ Below w.heap.size w w'
set_option maxHeartbeats 1600000 in
theorem rat (w : World) (q room : Nat) (L : St) (v : Value) (s : ByteArray) (R : Rf w q room L v) (hr : Rise L) (hl : L.length ≤ 1000000) : Calls Tryz.prog 50 #[.pointer (some ⟨q, 0, none⟩), .string s] w (RatTo w (nm s) L) := by
  have c1 : w.cell? ⟨q, 1, none⟩ = some v := one_at (i := 1) R.cells
  obtain ⟨A, c, rfl, hnc, hc, _⟩ := row_form R.row
  have RH := Lib.hid R
  replace hr := Lib.hid hr
  obtain ⟨n, hn⟩ : ∃ n, n = L.length := ⟨_, rfl⟩
  rw [← hn] at c1 hl hnc
  have hpl : pos (nm s) L ≤ n := by rw [hn]; exact pos_le L
  obtain ⟨m, hm⟩ : ∃ m, m = pos (nm s) L := ⟨_, rfl⟩
  rw [← hm] at hpl
  have hRT : Hid (RatTo w (nm s) L = fun e w' => e = .returned (.tuple #[.int .i64 (m : Nat), .bool (look (nm s) L).isSome]) ∧ Below w.heap.size w w') := by
    unfold Hid RatTo
    rw [hm]
  rw [hRT.out]
  obtain ⟨b, hb0⟩ : ∃ b, b = (look (nm s) L).isSome := ⟨_, rfl⟩
  rw [← hb0]
  replace hb0 := Lib.hid hb0
  replace hn := Lib.hid hn
  replace hm := Lib.hid hm
  clear R hRT
  go_enter Tryz.func50, Tryz.ntmps50
  go_wp2_with fail
  go_loopw [6] (fun i wr => AtAt (nm s) L i w wr) (fun i _ => n + 1 - (intOf i).toNat)
  case atStart => exact ⟨0, rfl, Nat.zero_le _, rfl⟩
  case round =>
    obtain ⟨k, rfl, hk, rfl⟩ := hrel
    have i3 : (n : Int) ≤ 1000000 := by omega
    have i4 : (0 : Int) ≤ (k : Int) := by omega
    by_cases hlt : k < n
    · obtain ⟨p, hp⟩ : ∃ p, L[k]? = some p := ⟨_, List.getElem?_eq_getElem (by have := hn.out; omega)⟩
      obtain ⟨g, c', e0, _, _, e1, e2, e3, _⟩ := RH.out.file hp
      injection e0 with eA e4 e5
      subst eA; subst e5
      have i1 : (k : Int) < (n : Int) := by omega
      have ts : s.toList = nm s := nm_toList s
      have tp : (str p.1).toList = p.1 := str_toList _
      by_cases hkm : k < m
      · have hb : Op.bytesLess p.1 (nm s) = true := by rw [less_bb]; exact pos_before (by rw [← hm.out]; exact hkm) hp
        have nx : Hid (AtAt (nm s) L (.int .i64 ((k : Int) + 1)) wr wr) := ⟨k + 1, by simp, by rw [← hm.out]; exact hkm, rfl⟩
        generalize p.1 = x at *
        generalize nm s = y at *
        clear hp
        go_wp2
        exact ⟨nx.out, by simp [intOf]; omega⟩
      · obtain rfl : k = m := by have := hm.out; omega
        have hb : Op.bytesLess p.1 (nm s) = false := by rw [less_bb]; exact pos_not (by rw [← hm.out]; exact hp)
        have hq : (look (nm s) L).isSome = (p.1 == nm s) := by
          cases hlk : look (nm s) L with
          | none =>
            have := pos_none hlk (by rw [← hm.out]; exact hp)
            simpa using this
          | some a =>
            have := pos_found hr.out hlk
            rw [← hm.out, hp] at this
            injection this with this
            rw [this]
            simp
        have hbb' : (p.1 == nm s) = b := by rw [hb0.out, hq]
        clear hp hq hb0
        generalize p.1 = x at *
        generalize nm s = y at *
        go_wp2
        go_quiet (fail)
        go_wp2
        go_ret2
        exact ⟨rfl, ⟨rfl, rfl, rfl, Nat.le_refl _, fun _ _ => rfl⟩⟩
    · obtain rfl : k = n := by have := hm.out; omega
      obtain rfl : k = m := by have := hm.out; omega
      have hno : (look (nm s) L).isSome = false := by
        cases hlk : look (nm s) L with
        | none => rfl
        | some a =>
          have := pos_found hr.out hlk
          rw [← hm.out, List.getElem?_eq_none (by have := hn.out; omega)] at this
          cases this
      obtain rfl : b = false := by rw [hb0.out, hno]
      have q1 : decide (k < k) = false := decide_eq_false (by omega)
      clear hno
      go_wp2
      go_quiet (fail)
      go_wp2
      go_ret2
      exact ⟨rfl, ⟨rfl, rfl, rfl, Nat.le_refl _, fun _ _ => rfl⟩⟩
end Dk
end Go.Proofs.YtbolcapgocjgcaaGreatDoor

namespace Go.Proofs.YtbolcapgocjgcaaGreatDoor
open Go.RowKit
open Go.Proofs.YtbolcapgocjgcaaGreatDoor.Pk
namespace Dk

theorem str_take (bs : List UInt8) (k : Nat) : (str bs).extract 0 k = str (bs.take k) := by
  apply ByteArray.ext
  apply Array.toList_inj.1
  simp [str]
theorem row_set {w : World} {e : TypeId} {g n c base i : Nat} {xs : List Value} (h : w.ownsRow base e 3 (.slice (some ⟨g, 0, none⟩) n c) n xs) (_hi : i < n * 3) (u : Value) : (w.setCell ⟨g, i, none⟩ u).ownsRow base e 3 (.slice (some ⟨g, 0, none⟩) n c) n (xs.set i u) := by
  refine ⟨by rw [List.length_set]; exact h.1, ?_⟩
  rcases h.2 with ⟨h0, _⟩ | ⟨g', cap, cur, hv, hb, hh, h1, h2, h3, h4⟩
  · cases h0
  · injection hv with hA _ hc
    injection hA with hA
    injection hA with hA _
    subst hA; subst hc
    refine .inr ⟨g, c, cur.setIfInBounds i u, rfl, hb, Pk.one_set hh u, h1, h2, by simp [h3], ?_⟩
    rw [← h4, Array.toList_setIfInBounds, List.take_set]
theorem flat_set1 : ∀ {L : St} {i : Nat} {x s s' : Bs} {k : Nat}, L[i]? = some (x, s, k) → (flat L).set (i * 3 + 1) (.string (str s')) = flat (L.set i (x, s', k))
  | q :: r, 0, x, s, s', k, h => by
    simp at h
    subst h
    rfl
  | q :: r, i + 1, x, s, s', k, h => by
    have h' : r[i]? = some (x, s, k) := by simpa using h
    have e : flat (q :: r) = ent q ++ flat r := rfl
    have e2 : (i + 1) * 3 + 1 = (ent q).length + (i * 3 + 1) := by simp [ent]; omega
    rw [e, e2, List.set_append_right _ _ (by omega), Nat.add_sub_cancel_left, flat_set1 h']
    rfl
theorem flat_set2 : ∀ {L : St} {i : Nat} {x s : Bs} {k k' : Nat}, L[i]? = some (x, s, k) → (flat L).set (i * 3 + 2) (.int .i64 (k' : Nat)) = flat (L.set i (x, s, k'))
  | q :: r, 0, x, s, k, k', h => by
    simp at h
    subst h
    rfl
  | q :: r, i + 1, x, s, k, k', h => by
    have h' : r[i]? = some (x, s, k) := by simpa using h
    have e : flat (q :: r) = ent q ++ flat r := rfl
    have e2 : (i + 1) * 3 + 2 = (ent q).length + (i * 3 + 2) := by simp [ent]; omega
    rw [e, e2, List.set_append_right _ _ (by omega), Nat.add_sub_cancel_left, flat_set2 h']
    rfl
section
variable {w w' : World} {q room g c i : Nat} {L : St} {x s : Bs} {k : Nat}
theorem Rf.set1 (R : Rf w q room L (.slice (some ⟨g, 0, none⟩) L.length c)) (h : L[i]? = some (x, s, k)) (s' : Bs) : Rf (w.setCell ⟨g, i * 3 + 1, none⟩ (.string (str s'))) q room (L.set i (x, s', k)) (.slice (some ⟨g, 0, none⟩) L.length c) := by
  have hi : i < L.length := (List.getElem?_eq_some_iff.1 h).1
  have hne : g ≠ q := fun e => R.apart (by rw [e]; rfl)
  refine ⟨(Below.heap_setCell _ _ _ _ hne.symm).trans R.cells, ?_⟩
  rw [List.length_set, ← flat_set1 h]
  exact row_set R.row (by omega) _
theorem Rf.set2 (R : Rf w q room L (.slice (some ⟨g, 0, none⟩) L.length c)) (h : L[i]? = some (x, s, k)) (k' : Nat) : Rf (w.setCell ⟨g, i * 3 + 2, none⟩ (.int .i64 (k' : Nat))) q room (L.set i (x, s, k')) (.slice (some ⟨g, 0, none⟩) L.length c) := by
  have hi : i < L.length := (List.getElem?_eq_some_iff.1 h).1
  have hne : g ≠ q := fun e => R.apart (by rw [e]; rfl)
  refine ⟨(Below.heap_setCell _ _ _ _ hne.symm).trans R.cells, ?_⟩
  rw [List.length_set, ← flat_set2 h]
  exact row_set R.row (by omega) _
end
/-- What a call on the document's disk leaves. -/
def RTo (w : World) (q room : Nat) (L' : St) (v : Value) (w' : World) : Prop := ∃ v', Rf w' q room L' v' ∧ (∀ g, v'.ownBlock = some g → v.ownBlock = some g ∨ w.heap.size ≤ g) ∧ Kp (fun g => g = q ∨ v.ownBlock = some g) w w'
theorem RTo.of_below {w w' : World} {q room : Nat} {L : St} {v : Value} (h : Rf w q room L v) (hb : Below w.heap.size w w') : RTo w q room L v w' := ⟨v, h.below hb, fun _ h => .inl h, .of_below hb⟩

set_option maxHeartbeats 800000 in
theorem rread (w : World) (q room : Nat) (L : St) (v : Value) (s : ByteArray) (R : Rf w q room L v) (hr : Rise L) (hl : L.length ≤ 1000000) :
    Calls Tryz.prog 21 #[.pointer (some ⟨q, 0, none⟩), .string s] w fun e w' => e = .returned (.tuple #[.string (str ((look (nm s) L).elim [] (·.1))), .int .i64 ((look (nm s) L).elim 5 fun _ => 0)]) ∧ Below w.heap.size w w' := by
  have AT := rat w q room L v s R hr hl
  unfold RatTo at AT
  cases hk : look (nm s) L with
  | none =>
    rw [hk] at AT
    replace AT := Lib.hid AT
    simp only [Option.elim]
    clear hk hr R
    go_enter Tryz.func21, Tryz.ntmps21
    go_wp2_with fail
    refine AT.out.mono ?_
    rintro e w1 ⟨rfl, hb⟩
    simp only [Option.isSome]
    replace hb := Lib.hid hb
    clear AT
    go_wp2
    go_ret2
    exact ⟨rfl, hb.out⟩
  | some a =>
    rw [hk] at AT
    have hp := pos_found hr hk
    obtain ⟨i, hi⟩ : ∃ i, i = pos (nm s) L := ⟨_, rfl⟩
    rw [← hi] at hp AT
    obtain ⟨g, c, rfl, h1, h2, e1, e2, e3, _⟩ := R.file hp
    have hil : i < L.length := (List.getElem?_eq_some_iff.1 hp).1
    have CC : Hid (∀ w1 : World, Below w.heap.size w w1 → w1.cell? ⟨q, 1, none⟩ = some (.slice (some ⟨g, 0, none⟩) L.length c) ∧ w1.cell? ⟨g, i * 3 + 1, none⟩ = some (.string (str a.1))) := fun w1 hb => by
      obtain ⟨g', c', e0, _, _, _, e2, _⟩ := (R.below hb).file hp
      injection e0 with eA _ _
      injection eA with eA
      injection eA with eA _
      subst eA
      exact ⟨one_at (i := 1) (R.below hb).cells, e2⟩
    replace AT := Lib.hid AT
    simp only [Option.elim]
    obtain ⟨n, hn⟩ : ∃ n, n = L.length := ⟨_, rfl⟩
    rw [← hn] at CC hil hl h1
    have i1 : (i : Int) < (n : Int) := by omega
    have i2 : (0 : Int) ≤ (i : Int) := by omega
    have i3 : (n : Int) ≤ 1000000 := by omega
    generalize a.1 = bs at *
    clear hk hr R hp hi e1 e2 e3 hn
    go_enter Tryz.func21, Tryz.ntmps21
    go_wp2_with fail
    refine AT.out.mono ?_
    rintro e w1 ⟨rfl, hb⟩
    simp only [Option.isSome]
    obtain ⟨c1, c2⟩ := CC.out w1 hb
    replace hb := Lib.hid hb
    clear AT CC
    go_wp2
    go_ret2
    exact ⟨rfl, hb.out⟩

set_option maxHeartbeats 1600000 in
set_option maxRecDepth 20000 in
theorem rsync (w : World) (q room : Nat) (L : St) (v : Value) (s : ByteArray) (R : Rf w q room L v) (hr : Rise L) (hl : L.length ≤ 1000000) :
    Calls Tryz.prog 41 #[.pointer (some ⟨q, 0, none⟩), .string s] w fun e w' => e = .returned (.int .i64 (sSync L (nm s)).1) ∧ RTo w q room (sSync L (nm s)).2 v w' := by
  have AT := rat w q room L v s R hr hl
  unfold RatTo at AT
  unfold sSync
  cases hk : look (nm s) L with
  | none =>
    rw [hk] at AT
    replace AT := Lib.hid AT
    simp only [Option.elim]
    have RH := Lib.hid R
    clear hk hr R
    go_enter Tryz.func41, Tryz.ntmps41
    go_wp2_with fail
    refine AT.out.mono ?_
    rintro e w1 ⟨rfl, hb⟩
    simp only [Option.isSome]
    replace hb := Lib.hid hb
    clear AT
    go_wp2
    go_ret
    exact ⟨rfl, RTo.of_below RH.out hb.out⟩
  | some a =>
    rw [hk] at AT
    have hp := pos_found hr hk
    have hput := put_some_ (b := (a.1, a.1.length)) hr hk
    obtain ⟨i, hi⟩ : ∃ i, i = pos (nm s) L := ⟨_, rfl⟩
    rw [← hi] at hp AT hput
    obtain ⟨g, c, rfl, h1, h2, e1, e2, e3, _⟩ := R.file hp
    have hil : i < L.length := (List.getElem?_eq_some_iff.1 hp).1
    simp only [Option.elim]
    have CC : Hid (∀ w1 : World, Below w.heap.size w w1 → w1.cell? ⟨q, 1, none⟩ = some (.slice (some ⟨g, 0, none⟩) L.length c) ∧ w1.cell? ⟨g, i * 3 + 1, none⟩ = some (.string (str a.1)) ∧ w1.cell? ⟨g, i * 3 + 2, none⟩ = some (.int .i64 (a.2 : Nat)) ∧ w1.frozen? ⟨g, i * 3 + 2, none⟩ = false) := fun w1 hb => by
      obtain ⟨g', c', e0, _, _, _, e2, e3, e4⟩ := (R.below hb).file hp
      injection e0 with eA _ _
      injection eA with eA
      injection eA with eA _
      subst eA
      exact ⟨one_at (i := 1) (R.below hb).cells, e2, e3, e4 _⟩
    have EE : Hid (∀ w1 : World, Below w.heap.size w w1 → RTo w q room (put (nm s) (a.1, a.1.length) L) (.slice (some ⟨g, 0, none⟩) L.length c) ((w1.setCell ⟨g, i * 3 + 2, none⟩ (.int .i64 (a.1.length : Nat))).drew)) := fun w1 hb => by
      refine ⟨_, ?_, fun _ h => .inl h, ?_⟩
      · rw [hput]
        have := (R.below hb).set2 hp a.1.length
        exact ⟨this.cells, this.row⟩
      · exact (Kp.of_below hb).trans' (Kp.of_grown (grown_drew (grown_set w1 g _ _)) (fun x hx => .inr (by injection hx with hx; subst hx; rfl)))
    replace AT := Lib.hid AT
    obtain ⟨n, hn⟩ : ∃ n, n = L.length := ⟨_, rfl⟩
    rw [← hn] at CC EE hil hl h1 ⊢
    have i1 : (i : Int) < (n : Int) := by omega
    have i2 : (0 : Int) ≤ (i : Int) := by omega
    have i3 : (n : Int) ≤ 1000000 := by omega
    have hsz := str_size a.1
    generalize put (nm s) (a.1, a.1.length) L = L' at *
    generalize a.1 = bs at *
    generalize a.2 = ky at *
    clear hk hr R hp hi e1 e2 e3 hn hput
    go_enter Tryz.func41, Tryz.ntmps41
    go_wp2_with fail
    refine AT.out.mono ?_
    rintro e w1 ⟨rfl, hb⟩
    simp only [Option.isSome]
    obtain ⟨c1, c2, c3, c4⟩ := CC.out w1 hb
    have E := Lib.hid (EE.out w1 hb)
    clear AT CC EE hb
    go_wp2
    go_region
    go_wp2
    go_ret
    exact ⟨rfl, E.out⟩
end Dk
end Go.Proofs.YtbolcapgocjgcaaGreatDoor

namespace Go.Proofs.YtbolcapgocjgcaaGreatDoor
open Go.RowKit
open Go.Proofs.YtbolcapgocjgcaaGreatDoor.Pk
namespace Dk

set_option maxHeartbeats 1600000 in
set_option maxRecDepth 20000 in
theorem rcut (w : World) (q room : Nat) (L : St) (v : Value) (s : ByteArray) (k : Int) (R : Rf w q room L v) (hr : Rise L) (hl : L.length ≤ 1000000) :
    Calls Tryz.prog 30 #[.pointer (some ⟨q, 0, none⟩), .string s, .int .i64 k] w fun e w' => e = .returned (.int .i64 (sCut L (nm s) k).1) ∧ RTo w q room (sCut L (nm s) k).2 v w' := by
  have AT := rat w q room L v s R hr hl
  unfold RatTo at AT
  unfold sCut
  cases hk : look (nm s) L with
  | none =>
    rw [hk] at AT
    replace AT := Lib.hid AT
    simp only [Option.elim]
    have RH := Lib.hid R
    clear hk hr R
    go_enter Tryz.func30, Tryz.ntmps30
    go_wp2_with fail
    refine AT.out.mono ?_
    rintro e w1 ⟨rfl, hb⟩
    simp only [Option.isSome]
    replace hb := Lib.hid hb
    clear AT
    go_wp2
    go_ret
    exact ⟨rfl, RTo.of_below RH.out hb.out⟩
  | some a =>
    rw [hk] at AT
    have hp := pos_found hr hk
    have hput := fun b => put_some_ (b := b) hr hk
    obtain ⟨i, hi⟩ : ∃ i, i = pos (nm s) L := ⟨_, rfl⟩
    rw [← hi] at hp AT hput
    obtain ⟨g, c, rfl, h1, h2, e1, e2, e3, _⟩ := R.file hp
    have hil : i < L.length := (List.getElem?_eq_some_iff.1 hp).1
    simp only [Option.elim]
    have hsz := str_size a.1
    have CC : Hid (∀ w1 : World, Below w.heap.size w w1 → w1.cell? ⟨q, 1, none⟩ = some (.slice (some ⟨g, 0, none⟩) L.length c) ∧ w1.cell? ⟨g, i * 3 + 1, none⟩ = some (.string (str a.1)) ∧ w1.cell? ⟨g, i * 3 + 2, none⟩ = some (.int .i64 (a.2 : Nat)) ∧ w1.frozen? ⟨g, i * 3 + 2, none⟩ = false ∧ w1.frozen? ⟨g, i * 3 + 1, none⟩ = false) := fun w1 hb => by
      obtain ⟨g', c', e0, _, _, _, e2, e3, e4⟩ := (R.below hb).file hp
      injection e0 with eA _ _
      injection eA with eA
      injection eA with eA _
      subst eA
      exact ⟨one_at (i := 1) (R.below hb).cells, e2, e3, e4 _, e4 _⟩
    replace AT := Lib.hid AT
    by_cases hbad : k < 0 ∨ (a.1.length : Int) < k
    · rw [if_pos hbad]
      have RH := Lib.hid R
      obtain ⟨n, hn⟩ : ∃ n, n = L.length := ⟨_, rfl⟩
      rw [← hn] at CC hil hl h1
      replace hn := Lib.hid hn
      have i1 : (i : Int) < (n : Int) := by omega
      have i2 : (0 : Int) ≤ (i : Int) := by omega
      have i3 : (n : Int) ≤ 1000000 := by omega
      generalize a.1 = bs at *
      generalize a.2 = ky at *
      by_cases h0 : k < 0
      · have d0 : decide (k < 0) = true := decide_eq_true h0
        clear hk hr R hp hi e1 e2 e3 hput hbad h0
        go_enter Tryz.func30, Tryz.ntmps30
        go_wp2_with fail
        refine AT.out.mono ?_
        rintro e w1 ⟨rfl, hb⟩
        simp only [Option.isSome]
        replace hb := Lib.hid hb
        clear AT CC
        go_wp2
        go_ret
        exact ⟨rfl, RTo.of_below RH.out hb.out⟩
      · have d0 : decide (k < 0) = false := decide_eq_false h0
        have d1 : decide ((bs.length : Int) < k) = true := decide_eq_true (by omega)
        clear hk hr R hp hi e1 e2 e3 hput hbad h0
        go_enter Tryz.func30, Tryz.ntmps30
        go_wp2_with fail
        refine AT.out.mono ?_
        rintro e w1 ⟨rfl, hb⟩
        simp only [Option.isSome]
        obtain ⟨c1, c2, c3, c4, c5⟩ := CC.out w1 hb
        replace hb := Lib.hid hb
        clear AT CC
        go_wp2
        go_ret
        exact ⟨rfl, RTo.of_below RH.out hb.out⟩
    · rw [if_neg hbad]
      obtain ⟨j, rfl⟩ : ∃ j : Nat, k = j := ⟨k.toNat, by omega⟩
      have hj : j ≤ a.1.length := by omega
      have ej : ((j : Int)).toNat = j := rfl
      rw [ej]
      have EE : Hid (∀ w1 : World, Below w.heap.size w w1 → RTo w q room (put (nm s) (a.1.take j, j) L) (.slice (some ⟨g, 0, none⟩) L.length c) (((w1.setCell ⟨g, i * 3 + 1, none⟩ (.string (str (a.1.take j)))).setCell ⟨g, i * 3 + 2, none⟩ (.int .i64 (j : Nat))).drew) ∧
          RTo w q room (put (nm s) (a.1.take j, j) L) (.slice (some ⟨g, 0, none⟩) L.length c) (((w1.setCell ⟨g, i * 3 + 2, none⟩ (.int .i64 (j : Nat))).setCell ⟨g, i * 3 + 1, none⟩ (.string (str (a.1.take j)))).drew)) := fun w1 hb => by
        have l1 := ((R.below hb).set1 hp (a.1.take j))
        have l2 := ((R.below hb).set2 hp j)
        have m1 : (L.set i (nm s, a.1.take j, a.2))[i]? = some (nm s, a.1.take j, a.2) := by simp [hil]
        have m2 : (L.set i (nm s, a.1, j))[i]? = some (nm s, a.1, j) := by simp [hil]
        have hl1 : (L.set i (nm s, a.1.take j, a.2)).length = L.length := List.length_set
        have hl2 : (L.set i (nm s, a.1, j)).length = L.length := List.length_set
        rw [← hl1] at l1
        rw [← hl2] at l2
        have p1 := l1.set2 m1 j
        have p2 := l2.set1 m2 (a.1.take j)
        rw [List.set_set, hl1] at p1
        rw [List.set_set, hl2] at p2
        have kk : ∀ (x y : Nat) (u u' : Value), Kp (fun g' => g' = q ∨ (Value.slice (some ⟨g, 0, none⟩) L.length c).ownBlock = some g') w ((w1.setCell ⟨g, x, none⟩ u).setCell ⟨g, y, none⟩ u').drew := fun x y u u' =>
          (Kp.of_below hb).trans' ((Kp.of_grown (grown_set w1 g _ _) (fun x hx => .inr (by injection hx with hx; subst hx; rfl))).trans' (Kp.of_grown (grown_drew (grown_set _ g _ _)) (fun x hx => .inr (by injection hx with hx; subst hx; rfl))))
        refine ⟨⟨_, ?_, fun _ h => .inl h, kk _ _ _ _⟩, ⟨_, ?_, fun _ h => .inl h, kk _ _ _ _⟩⟩
        · rw [hput]; exact ⟨p1.cells, p1.row⟩
        · rw [hput]; exact ⟨p2.cells, p2.row⟩
      obtain ⟨n, hn⟩ : ∃ n, n = L.length := ⟨_, rfl⟩
      rw [← hn] at CC EE hil hl h1 ⊢
      have i1 : (i : Int) < (n : Int) := by omega
      have i2 : (0 : Int) ≤ (i : Int) := by omega
      have i3 : (n : Int) ≤ 1000000 := by omega
      have d0 : decide ((j : Int) < 0) = false := decide_eq_false (by omega)
      have d1 : decide (a.1.length < j) = false := decide_eq_false (by omega)
      have j1 : (j : Int) ≤ (a.1.length : Int) := by omega
      have x1 := str_take a.1 j
      generalize put (nm s) (a.1.take j, j) L = L' at *
      generalize a.1.take j = bt at *
      generalize a.1 = bs at *
      generalize a.2 = ky at *
      clear hk hr R hp hi e1 e2 e3 hn hput hbad hj ej
      go_enter Tryz.func30, Tryz.ntmps30
      go_wp2_with fail
      refine AT.out.mono ?_
      rintro e w1 ⟨rfl, hb⟩
      simp only [Option.isSome]
      obtain ⟨c1, c2, c3, c4, c5⟩ := CC.out w1 hb
      have E := Lib.hid (EE.out w1 hb)
      clear AT CC EE hb
      go_wp2
      go_region
      all_goals
        go_wp2
        go_ret
        first
          | exact ⟨rfl, E.out.1⟩
          | exact ⟨rfl, E.out.2⟩
end Dk
end Go.Proofs.YtbolcapgocjgcaaGreatDoor

namespace Go.Proofs.YtbolcapgocjgcaaGreatDoor
open Go.RowKit
open Go.Proofs.YtbolcapgocjgcaaGreatDoor.Pk
namespace Dk

theorem file_info3 : (Tryz.prog.info? 59).map (fun i => (i.zero, i.size, i.bytes)) = some (some (.agg #[.string ByteArray.empty, .string ByteArray.empty, .int .i64 0]), 3, 40) := by kernel_rfl
theorem flat_one (L : St) : ∀ u ∈ flat L, u.oneCell' = true := by
  intro u hu
  obtain ⟨p, _, hp⟩ := List.mem_flatMap.1 hu
  simp only [ent, List.mem_cons, List.not_mem_nil, or_false] at hp
  rcases hp with rfl | rfl | rfl <;> rfl
theorem row_append (w : World) (base : Nat) (v : Value) (n : Nat) (X : St) (hown : w.ownsRow base 59 3 v n (flat X)) (ad : Addr) (m c : Nat) (Y : St) (hl : Y.length = m) (hnews : ∀ j u, (flat Y)[j]? = some u → w.cell? (ad.add j) = some u) (hb : n + m ≤ 1000000) (hbase : base ≤ w.heap.size) :
    ∃ A' c' w', (Builtin.append_ #[28, 28] 28 #[v, .slice (some ad) m c]).run Tryz.prog w = .ok (.slice A' (n + m) c') w' ∧ w'.ownsRow base 59 3 (.slice A' (n + m) c') (n + m) (flat (X ++ Y)) ∧ w.grownBy w' v.ownBlock := by
  obtain ⟨i0, hi, hz0, hz1, hz2⟩ := info_parts file_info3
  obtain ⟨v', w', h1, h2, h3, _, _⟩ := run_append_own_at (P := Tryz.prog) w base 28 28 59 i0 _ 3 40 Tryz.underlying28 hi hz0 hz1 hz2 rfl (by decide) v n (flat X) hown ad m c (flat Y) (by rw [flat_len, hl]) hnews (flat_one Y) (by unfold maxLen; omega) (by omega) hbase
  obtain ⟨A', c', rfl, _⟩ := row_form h2
  exact ⟨A', c', w', h1, by rw [flat_app]; exact h2, h3⟩
/-- A part of a row of files, as a source. -/
theorem row_part {w : World} {base g n c : Nat} {L : St} (h : w.ownsRow base 59 3 (.slice (some ⟨g, 0, none⟩) n c) n (flat L)) (a b : Nat) :
    ∀ j u, (flat ((L.drop a).take b))[j]? = some u → w.cell? ((⟨g, a * 3, none⟩ : Addr).add j) = some u := by
  intro j u hu
  have e : ∀ (M : St) (k : Nat), flat (M.drop k) = (flat M).drop (k * 3) := fun M k => by
    rcases Nat.le_total k M.length with h | h
    · have e1 : flat M = flat (M.take k) ++ flat (M.drop k) := by rw [← flat_app, List.take_append_drop]
      rw [e1, List.drop_left' (by rw [flat_len, List.length_take]; congr 1; omega)]
    · rw [List.drop_of_length_le h, List.drop_of_length_le (by rw [flat_len]; omega)]
      rfl
  have e2 : (flat L)[a * 3 + j]? = some u := by
    have h1 : (flat ((L.drop a).take b))[j]? = (flat (L.drop a))[j]? := by
      have h2 : flat (L.drop a) = flat ((L.drop a).take b) ++ flat ((L.drop a).drop b) := by rw [← flat_app, List.take_append_drop]
      rw [h2, List.getElem?_append_left (List.getElem?_eq_some_iff.1 hu).1]
    rw [h1, e, List.getElem?_drop] at hu
    exact hu
  have := h.cells (g := g) rfl (a * 3 + j) u e2
  simpa [Addr.add_lit] using this
theorem rslice_to (g n c i : Nat) (hi : i ≤ c) (W : World) : (Instr.slice 28 (.slice (some ⟨g, 0, none⟩) n c) none (some (.int .i64 (i : Int))) none).run Tryz.prog W = .ok (.slice (some ⟨g, 0, none⟩) i c) W := by
  rw [run_slice_h W 28 _ n c (by kernel_rfl) .i64 (i : Int) (by omega) (by omega)]
  have e : (sizeOf (Tryz.prog.elem 28)).run Tryz.prog W = .ok 3 W := by kernel_rfl
  rw [e]
  simp only [Result.andThen, sliced]
  by_cases hc : c = 0 <;> simp [hc, Addr.add]
theorem rslice_from (g n c i : Nat) (hi : i ≤ n) (hn : n ≤ c) : ∃ ad : Addr, (i < n → ad = ⟨g, i * 3, none⟩) ∧ ∀ W : World, (Instr.slice 28 (.slice (some ⟨g, 0, none⟩) n c) (some (.int .i64 (i : Int))) none none).run Tryz.prog W = .ok (.slice (some ad) (n - i) (c - i)) W := by
  refine ⟨if c = i then ⟨g, 0, none⟩ else (⟨g, 0, none⟩ : Addr).add (i * 3), fun h => ?_, fun W => ?_⟩
  · rw [if_neg (by omega)]
    simp [Addr.add_lit]
  · rw [run_slice_l W 28 _ n c (by kernel_rfl) .i64 (i : Int) (by omega) (by omega)]
    have e : (sizeOf (Tryz.prog.elem 28)).run Tryz.prog W = .ok 3 W := by kernel_rfl
    rw [e]
    simp only [Result.andThen, sliced, Int.toNat_natCast]
    by_cases hc : c = i <;> simp [hc]

/-- Two parts of the files, one behind the other, in a new row. -/
theorem two_parts {W : World} {q room g c i i1 : Nat} {L : St} (R : Rf W q room L (.slice (some ⟨g, 0, none⟩) L.length c)) (hi : i ≤ L.length) (hi1 : i1 ≤ L.length) (hii : i ≤ i1) (hl : L.length ≤ 1000) (ad : Addr) (had : i1 < L.length → ad = ⟨g, i1 * 3, none⟩) (cc : Nat) :
    ∃ A1 c1 w1 A2 c2 w2, (Builtin.append_ #[28, 28] 28 #[.slice (some ⟨W.heap.size, 0, none⟩) 0 0, .slice (some ⟨g, 0, none⟩) i c]).run Tryz.prog (W.alloc (.cells #[] 59)).drew = .ok (.slice A1 i c1) w1 ∧
      (Builtin.append_ #[28, 28] 28 #[.slice A1 i c1, .slice (some ad) (L.length - i1) cc]).run Tryz.prog w1 = .ok (.slice A2 (i + (L.length - i1)) c2) w2 ∧
      Below W.heap.size W w1 ∧ Below W.heap.size W w2 ∧ w2.ownsRow W.heap.size 59 3 (.slice A2 (i + (L.length - i1)) c2) (i + (L.length - i1)) (flat (L.take i ++ L.drop i1)) := by
  have b0 : Below W.heap.size W (W.alloc (.cells #[] 59)).drew := ⟨rfl, rfl, rfl, by simp, fun k hk => heap_alloc_old _ _ hk⟩
  have o0 : (W.alloc (.cells #[] 59)).drew.ownsRow W.heap.size 59 3 (.slice (some ⟨W.heap.size, 0, none⟩) 0 0) 0 (flat []) := World.ownsRow_lit W #[] 0 (Nat.le_refl _) (by unfold maxLen; omega) rfl
  obtain ⟨A1, c1, w1, r1, o1, g1⟩ := row_append _ W.heap.size _ 0 [] o0 ⟨g, 0, none⟩ i c (L.take i) (by rw [List.length_take]; omega) (fun j u hu => by
    have := row_part ((R.below b0).row) 0 i j u (by simpa using hu)
    simpa using this) (by omega) (by simp)
  have b1 : Below W.heap.size W w1 := b0.grown g1 (by simp) (fun k hk => by simp [Value.ownBlock] at hk; omega)
  obtain ⟨A2, c2, w2, r2, o2, g2⟩ := row_append w1 W.heap.size _ (0 + i) _ o1 ad (L.length - i1) cc (L.drop i1) (by rw [List.length_drop]) (fun j u hu => by
    have hlt : i1 < L.length := by
      rcases Nat.lt_or_ge i1 L.length with h | h
      · exact h
      · rw [List.drop_of_length_le h] at hu
        simp [flat] at hu
    rw [had hlt]
    exact row_part ((R.below b1).row) i1 L.length j u (by rw [List.take_of_length_le (by simp)]; exact hu)) (by omega) (Nat.le_trans (Nat.le_refl _) b1.size)
  have b2 : Below W.heap.size W w2 := b1.grown g2 b1.size (fun k hk => (row_block o1 hk).1)
  rw [Nat.zero_add] at r1 r2 o2
  exact ⟨A1, c1, w1, A2, c2, w2, r1, r2, b1, b2, by simpa using o2⟩

/-- An append whose run is known, in a region that draws. -/
theorem step_run_append {w : World} {ops : Array Oper} {o : Oper} {a : Act} {K : Act → World → Prop} {Q : Exit → Act → World → Prop} {E : Prop} {t : TypeId} (hgd : o.guard = none) (s x : Operand) (ho : o.op = .call { callee := .builtin .append, args := #[s, x], argTypes := #[t, t] }) (hty : o.type = t)
    (v0 x0 : Value) (hs : a.eval s = v0) (hx : a.eval x = x0) {v' : Value} {w' : World} (hrun : (Builtin.append_ #[t, t] t #[v0, x0]).run Tryz.prog w = .ok v' w') (h : K (a.put o.dst v') w') :
    if Region.wanted o (yielded ops a.tmps) = true then Oper.wp Tryz.prog o a w K Q else E := by
  have hw : Region.wanted o (yielded ops a.tmps) = true := by simp [Region.wanted, hgd]
  rw [if_pos hw]
  unfold Oper.wp execOp
  simp only [ho, resolve, invoke, builtin, Sem.run_bind, Sem.run_pure, Result.andThen_ok, List.map_toArray, List.map_cons, List.map_nil, hs, hx, hty, hrun]
  exact h
set_option maxHeartbeats 3200000 in
set_option maxRecDepth 20000 in
theorem rremove (w : World) (q room : Nat) (L : St) (v : Value) (s : ByteArray) (R : Rf w q room L v) (hr : Rise L) (hl : L.length ≤ 1000) :
    Calls Tryz.prog 27 #[.pointer (some ⟨q, 0, none⟩), .string s] w fun e w' => e = .returned (.int .i64 (sRem L (nm s)).1) ∧ RTo w q room (sRem L (nm s)).2 v w' := by
  have AT := rat w q room L v s R hr (by omega)
  unfold RatTo at AT
  unfold sRem
  cases hk : look (nm s) L with
  | none =>
    rw [hk] at AT
    replace AT := Lib.hid AT
    simp only [Option.elim]
    have RH := Lib.hid R
    clear hk hr R
    go_enter Tryz.func27, Tryz.ntmps27
    go_wp2_with fail
    refine AT.out.mono ?_
    rintro e w1 ⟨rfl, hb⟩
    simp only [Option.isSome]
    replace hb := Lib.hid hb
    clear AT
    go_wp2
    go_ret
    exact ⟨rfl, RTo.of_below RH.out hb.out⟩
  | some a =>
    rw [hk] at AT
    have hp := pos_found hr hk
    have hdel := del_some_ hr hk
    obtain ⟨i, hi⟩ : ∃ i, i = pos (nm s) L := ⟨_, rfl⟩
    rw [← hi] at hp AT hdel
    obtain ⟨g, c, rfl, h1, h2, _⟩ := R.file hp
    have hil : i < L.length := (List.getElem?_eq_some_iff.1 hp).1
    simp only [Option.elim]
    obtain ⟨n, hn⟩ : ∃ n, n = L.length := ⟨_, rfl⟩
    have TP : Hid (∀ (w1 : World), Below w.heap.size w w1 → ∀ (ad : Addr), (i + 1 < L.length → ad = ⟨g, (i + 1) * 3, none⟩) → _) := fun w1 hb ad had => two_parts (R.below hb) (i := i) (i1 := i + 1) (by omega) (by omega) (by omega) hl ad had (c - (i + 1))
    have RH := Lib.hid R
    replace AT := Lib.hid AT
    replace hdel := Lib.hid hdel
    obtain ⟨i1, hi1⟩ : ∃ z, z = i + 1 := ⟨_, rfl⟩
    obtain ⟨ad, had, hsl⟩ := rslice_from g L.length c (i + 1) (by omega) h1
    have hst := rslice_to g L.length c i (by omega)
    rw [← hi1] at TP had hsl hdel
    rw [← hn] at hst hsl hil hl h1
    have j1 : (i : Int) < (n : Int) := by omega
    have j2 : (0 : Int) ≤ (i : Int) := by omega
    have j3 : (n : Int) ≤ 1000000 := by omega
    have ew : IntKind.i64.wrap ((i : Int) + 1) = (i1 : Int) := by rw [IntKind.wrap_i64]; omega
    have hii : Hid (i1 ≤ n) := by unfold Hid; omega
    replace had := Lib.hid had
    replace hn := Lib.hid hn
    clear hk hr R hp hi hi1 hil hl h1 h2
    go_enter Tryz.func27, Tryz.ntmps27
    go_wp2_with fail
    refine AT.out.mono ?_
    rintro e w1 ⟨rfl, hb⟩
    simp only [Option.isSome]
    have R1 : Hid (Rf w1 q room L (.slice (some ⟨g, 0, none⟩) L.length c)) := RH.out.below hb
    obtain ⟨A1, c1, wa, A2, c2, wb, r1, r2, b1, b2, o2⟩ := TP.out w1 hb ad had.out
    rw [← hn.out] at r2 o2
    have d1 : w1.cell? ⟨q, 1, none⟩ = some (.slice (some ⟨g, 0, none⟩) n c) := by rw [hn.out]; exact one_at (i := 1) R1.out.cells
    have d2 : wa.cell? ⟨q, 1, none⟩ = some (.slice (some ⟨g, 0, none⟩) n c) := by rw [hn.out]; exact one_at (i := 1) (R1.out.below b1).cells
    have d3 : wb.cell? ⟨q, 1, none⟩ = some (.slice (some ⟨g, 0, none⟩) n c) := by rw [hn.out]; exact one_at (i := 1) (R1.out.below b2).cells
    have d4 : wb.frozen? ⟨q, 1, none⟩ = false := one_free (R1.out.below b2).cells
    have dq : q < w1.heap.size := lt_some R1.out.cells
    have E : Hid (RTo w q room (del (nm s) L) (.slice (some ⟨g, 0, none⟩) L.length c) (wb.setCell ⟨q, 1, none⟩ (.slice A2 (i + (n - i1)) c2))) := by
      have hc := Pk.one_set (i := 1) (R1.out.below b2).cells (.slice A2 (i + (n - i1)) c2)
      have hlen : (L.take i ++ L.drop i1).length = i + (n - i1) := by
        have := hii.out
        have := hn.out
        rw [List.length_append, List.length_take, List.length_drop]
        have := j1
        omega
      have hne : ∀ x, (Value.slice A2 (i + (n - i1)) c2).ownBlock = some x → w1.heap.size ≤ x ∧ x ≠ q := fun x hx => by
        have := (row_block o2 hx).1
        exact ⟨this, by omega⟩
      refine ⟨.slice A2 (i + (n - i1)) c2, ⟨hc, ?_⟩, fun x hx => .inr (Nat.le_trans hb.size (hne x hx).1), ?_⟩
      · rw [hdel.out, hlen]
        have h0 : wb.ownsRow 0 59 3 (.slice A2 (i + (n - i1)) c2) (i + (n - i1)) (flat (L.take i ++ L.drop i1)) := by
          refine ⟨o2.1, ?_⟩
          rcases o2.2 with h | ⟨g', cap, cur, hv, _, hh⟩
          · exact .inl h
          · exact .inr ⟨g', cap, cur, hv, Nat.zero_le _, hh⟩
        exact row_same (w := wb) h0 fun x hx => Below.heap_setCell _ _ _ _ (hne x hx).2
      · exact (Kp.of_below hb).trans' ((Kp.of_below b2).trans' (Kp.of_grown (grown_set wb q _ _) (fun x hx => .inl (by injection hx with hx; exact hx.symm))))
    clear AT RH TP hb R1 b1 b2 o2 hdel had hn hii
    go_wp2
    go_region_law (first
      | (refine step_run_append rfl (.tmp 16) (.tmp 22) rfl rfl (.slice (some ⟨w1.heap.size, 0, none⟩) 0 0) (.slice (some ⟨g, 0, none⟩) i c) rfl rfl r1 ?_)
      | (refine step_run_append rfl (.tmp 23) (.tmp 30) rfl rfl (.slice A1 i c1) (.slice (some ad) (n - i1) (c - i1)) rfl rfl r2 ?_))
    all_goals
      go_wp2
      go_ret
      exact ⟨rfl, E.out⟩
end Dk
end Go.Proofs.YtbolcapgocjgcaaGreatDoor

namespace Go.Proofs.YtbolcapgocjgcaaGreatDoor
namespace Dk

section
variable {P : Program} {ops : Array Oper} {Q : Exit → Act → World → Prop}

/-- What is asked ahead of the last operation. -/
def tillQ (P : Program) (ops : Array Oper) (n : Nat) (Q : Exit → Act → World → Prop) : Exit → Act → World → Prop
  | .normal, a, w => wpOp P ops Q n (fun a w => Q .normal a w) a w
  | e, a, w => Q e a w
theorem tillQ_normal {n : Nat} {a : Act} {w : World} (h : wpOp P ops Q n (fun a w => Q .normal a w) a w) : tillQ P ops n Q .normal a w := h
/-- Each operation waits for elder ones alone. -/
def elderB (ops : Array Oper) : Bool := (List.range ops.size).all fun i => ((ops[i]?).map fun o => o.after.all fun e => decide (e.on < i)).getD true
def tillB (ops : Array Oper) (n : Nat) : Bool := decide (ops.size = n + 1) && elderB ops && Region.sinkB .any ops n && Region.chainB .any ops n

theorem wpOp_till {n i : Nat} {a : Act} {w : World} {K K' : Act → World → Prop} (hm : ∀ a w, K a w → K' a w) (h : wpOp P ops (tillQ P ops n Q) i K a w) : wpOp P ops Q i K' a w := by
  refine wpOp_mono hm ?_
  unfold wpOp at *
  split
  · simpa [*] using h
  · rename_i o ho
    simp only [ho] at h
    split
    · rename_i hw
      simp only [hw, if_true] at h
      rcases h with h | ⟨h1, h2⟩
      · refine .inl ?_
        unfold Oper.wp at *
        generalize (execOp a.eval o).run P w = r at *
        cases r with
        | ok x w' =>
          cases x <;> simp only [Oper.upon] at h ⊢
          case enter f args => exact Calls.mono h fun e w'' he => by cases e <;> exact he
          all_goals exact h
        | halt x w' => cases x <;> simp only [Oper.upon] at h ⊢ <;> exact h
      · exact .inr ⟨h1, h2⟩
    · rename_i hw
      simp only [hw] at h
      exact h

theorem ready_some {n : Nat} {listed : Array Bool} (he : elderB ops = true) (hsz : ops.size = n + 1) (inv : HeadInv .any ops n listed) : Region.ready .any ops listed ≠ [] := by
  intro h0
  have H : ∀ i, i < ops.size → listed.getD i true = true := by
    intro i
    induction i using Nat.strongRecOn with
    | _ i ih =>
      intro hi
      cases hl : listed.getD i true with
      | true => rfl
      | false =>
        have : i ∈ Region.ready .any ops listed := mem_ready.2 ⟨hl, ops[i], Array.getElem?_eq_getElem hi, fun e hm _ => by
          have h1 := List.all_eq_true.1 he i (List.mem_range.2 hi)
          rw [Array.getElem?_eq_getElem hi] at h1
          simp only [Option.map_some, Option.getD_some] at h1
          have h2 := Array.all_eq_true'.1 h1 e hm
          have h3 : e.on < i := by simpa using h2
          have h4 := ih e.on h3 (by omega)
          have hs : e.on < listed.size := by rw [inv.size]; omega
          simp [hs] at h4 ⊢
          exact h4⟩
        rw [h0] at this
        cases this
  have h1 := H n (by omega)
  rw [inv.tail n (Nat.le_refl _) (by omega)] at h1
  cases h1

theorem wpAny_till {n : Nat} (hsz : ops.size = n + 1) (he : elderB ops = true) (hs : Region.sinkB .any ops n = true) (hc : Region.chainB .any ops n = true) :
    ∀ (f : Nat) (listed : Array Bool) (a : Act) (w : World), HeadInv .any ops n listed → wpAny P .any ops (tillQ P ops n Q) f (listed.setIfInBounds n true) a w → wpAny P .any ops Q (f + 1) listed a w := by
  intro f
  induction f with
  | zero =>
    intro listed a w inv h
    refine ⟨fun h0 => absurd h0 (ready_some he hsz inv), fun i hi => ?_⟩
    by_cases hin : i = n
    · subst hin
      exact wpOp_mono (fun a w hq => ⟨h.1, hq⟩) h.2
    · have := ready_mono hi hin
      rw [h.1] at this
      cases this
  | succ f ih =>
    intro listed a w inv h
    refine ⟨fun h0 => absurd h0 (ready_some he hsz inv), fun i hi => ?_⟩
    by_cases hin : i = n
    · subst hin
      have hnil : Region.ready .any ops (listed.setIfInBounds i true) = [] := by
        apply List.eq_nil_iff_forall_not_mem.2
        intro j hj
        obtain ⟨hl, oj, hoj, _⟩ := mem_ready.1 hj
        have hjs : j < ops.size := (Array.getElem?_eq_some_iff.1 hoj).1
        have hji : i ≠ j := by
          rintro rfl
          have hs' : i < listed.size := by rw [inv.size]; omega
          simp [hs'] at hl
        rw [getD_set_ne true hji] at hl
        exact tail_waits hs hc (by omega) inv _ j rfl (by omega) hl i (Nat.le_refl _) hi
      exact wpOp_mono (fun a w hq => wpAny_done hnil hq _) (h.1 hnil)
    · have hlt : i < n := by
        obtain ⟨_, oi, hoi, _⟩ := mem_ready.1 hi
        have := (Array.getElem?_eq_some_iff.1 hoi).1
        omega
      refine wpOp_till (fun a' w' h' => ih _ a' w' (inv.set hi hlt) ?_) (h.2 i (ready_mono hi hin))
      rw [Array.setIfInBounds_comm _ _ hin]
      exact h'

/-- The region, its last operation behind all others: ahead of it S holds. -/
theorem wp_region_till {id : Nat} {S : World → Prop} {a : Act} {w : World} (n : Nat) (hm : P.follows .mixedOrders = true) (hB : tillB ops n = true)
    (h : wpAnyH P .any ops (tillQ P ops n Q) S n ((Array.replicate ops.size false).setIfInBounds n true) a w.drew) : (Code.region id ops true).wp P Q a w := by
  simp only [tillB, Bool.and_eq_true, decide_eq_true_eq] at hB
  obtain ⟨⟨⟨hsz, he⟩, hs⟩, hc⟩ := hB
  have inv : HeadInv .any ops n (Array.replicate ops.size false) :=
    ⟨by simp, fun j oj _ hl => (by rw [getD_replicate_false] at hl; cases hl), fun t _ ht => getD_in (by simpa using ht) (getD_replicate_false _ _)⟩
  refine wp_region_any hm ?_
  have H := wpAny_till (Q := Q) hsz he hs hc n _ a w.drew inv (wpAny_of_held _ _ _ _ h)
  rw [← hsz] at H
  exact H
end
end Dk
end Go.Proofs.YtbolcapgocjgcaaGreatDoor

namespace Go.Proofs.YtbolcapgocjgcaaGreatDoor
open Go.RowKit
open Go.Proofs.YtbolcapgocjgcaaGreatDoor.Pk
namespace Dk

/-- What is appended: m files of a row, or none. -/
structure Srcs (w : World) (B : Option Addr) (m : Nat) (Y : St) : Prop where
  len : Y.length = m
  none_ : B = none → m = 0
  news : ∀ ad, B = some ad → ∀ j u, (flat Y)[j]? = some u → w.cell? (ad.add j) = some u
theorem run_append_no (w : World) (A : Option Addr) (n c c' : Nat) (hnc : n ≤ c) :
    (Builtin.append_ #[28, 28] 28 #[.slice A n c, .slice none 0 c']).run Tryz.prog w = .ok (.slice A n c) w := by
  obtain ⟨i0, hi, hz0, hz1, hz2⟩ := info_parts file_info3
  refine run_append_nothing w _ _ _ 59 i0 Tryz.underlying28 hi A n c hnc _ ⟨.inl ⟨_, Tryz.underlying28⟩, fun _ => rfl, ?_, ?_, by simp, by simp⟩
  · simp [Builtin.firstCells]
  · simp [Builtin.firstCells]
theorem row_append_any (w : World) (base : Nat) (v : Value) (n : Nat) (X : St) (hown : w.ownsRow base 59 3 v n (flat X)) (B : Option Addr) (m c : Nat) (Y : St) (hs : Srcs w B m Y) (hb : n + m ≤ 1000000) (hbase : base ≤ w.heap.size) :
    ∃ A' c' w', (Builtin.append_ #[28, 28] 28 #[v, .slice B m c]).run Tryz.prog w = .ok (.slice A' (n + m) c') w' ∧ w'.ownsRow base 59 3 (.slice A' (n + m) c') (n + m) (flat (X ++ Y)) ∧ w.grownBy w' v.ownBlock := by
  cases B with
  | some ad => exact row_append w base v n X hown ad m c Y hs.len (hs.news ad rfl) hb hbase
  | none =>
    have hm := hs.none_ rfl
    subst hm
    have hY : Y = [] := List.eq_nil_of_length_eq_zero hs.len
    subst hY
    obtain ⟨A, c', rfl, hnc, _⟩ := row_form hown
    exact ⟨A, c', w, run_append_no w A n c' c hnc, by simpa using hown, World.grownBy.refl w _⟩

/-- The two parts of the files at place i. -/
theorem Rf.cuts {W : World} {q room n c i : Nat} {A : Option Addr} {L : St} (R : Rf W q room L (.slice A n c)) (hn : L.length = n) (hi : i ≤ n) :
    (∀ W', (Instr.slice 28 (.slice A n c) none (some (.int .i64 (i : Int))) none).run Tryz.prog W' = .ok (.slice A i c) W') ∧
      ∃ B, (∀ W', (Instr.slice 28 (.slice A n c) (some (.int .i64 (i : Int))) none none).run Tryz.prog W' = .ok (.slice B (n - i) (c - i)) W') ∧
        ∀ W', Below W.heap.size W W' → Srcs W' A i (L.take i) ∧ Srcs W' B (n - i) (L.drop i) := by
  subst hn
  obtain ⟨A', c', h0, hnc, hc, hAc⟩ := row_form R.row
  injection h0 with hA _ hcc
  subst hA; subst hcc
  cases A with
  | none =>
    have hc0 := hAc rfl
    subst hc0
    have hL : L = [] := List.eq_nil_of_length_eq_zero (by omega)
    subst hL
    have hi0 : i = 0 := by simpa using hi
    subst hi0
    refine ⟨fun W' => ?_, none, fun W' => ?_, fun W' _ => ⟨⟨rfl, fun _ => rfl, fun _ h => by cases h⟩, ⟨rfl, fun _ => rfl, fun _ h => by cases h⟩⟩⟩
    · rw [run_slice_h W' 28 _ _ _ (by kernel_rfl) .i64 ((0 : Nat) : Int) (by omega) (by omega)]
      have e : (sizeOf (Tryz.prog.elem 28)).run Tryz.prog W' = .ok 3 W' := by kernel_rfl
      rw [e]
      simp [Result.andThen, sliced]
    · rw [run_slice_l W' 28 _ _ _ (by kernel_rfl) .i64 ((0 : Nat) : Int) (by omega) (by simp)]
      have e : (sizeOf (Tryz.prog.elem 28)).run Tryz.prog W' = .ok 3 W' := by kernel_rfl
      rw [e]
      simp [Result.andThen, sliced]
  | some gg =>
    obtain ⟨g, rfl⟩ : ∃ g, gg = ⟨g, 0, none⟩ := by
      rcases R.row.2 with ⟨h, _⟩ | ⟨g, _, _, h, _⟩
      · cases h
      · injection h with h; injection h with h; exact ⟨g, h⟩
    obtain ⟨ad, had, hsl⟩ := rslice_from g L.length c i hi hnc
    refine ⟨rslice_to g L.length c i (by omega), some ad, hsl, fun W' hb => ⟨⟨by rw [List.length_take]; omega, (by intro h; cases h), fun ad' h j u hu => ?_⟩, ⟨by rw [List.length_drop], (by intro h; cases h), fun ad' h j u hu => ?_⟩⟩⟩
    · injection h with h
      subst h
      have := row_part ((R.below hb).row) 0 i j u (by simpa using hu)
      simpa using this
    · injection h with h
      subst h
      have hlt : i < L.length := by
        rcases Nat.lt_or_ge i L.length with h | h
        · exact h
        · rw [List.drop_of_length_le h] at hu
          simp [flat] at hu
      rw [had hlt]
      exact row_part ((R.below hb).row) i L.length j u (by rw [List.take_of_length_le (by simp)]; exact hu)

/-- The first part, in a new row. -/
theorem ins_a {W W' : World} {i c b0 : Nat} {A : Option Addr} {X : St} (hs : Srcs W' A i X) (hb : Below W.heap.size W W') (hl : i ≤ 1000) (o0 : W'.ownsRow W.heap.size 59 3 (.slice (some ⟨b0, 0, none⟩) 0 0) 0 (flat [])) (hb0 : W.heap.size ≤ b0) :
    ∃ A1 c1 w1, (Builtin.append_ #[28, 28] 28 #[.slice (some ⟨b0, 0, none⟩) 0 0, .slice A i c]).run Tryz.prog W' = .ok (.slice A1 i c1) w1 ∧
      Below W.heap.size W w1 ∧ w1.ownsRow W.heap.size 59 3 (.slice A1 i c1) i (flat X) ∧ W'.grownBy w1 (some b0) := by
  obtain ⟨A1, c1, w1, r1, o1, g1⟩ := row_append_any W' W.heap.size _ 0 [] o0 A i c X hs (by omega) hb.size
  rw [Nat.zero_add] at r1 o1
  exact ⟨A1, c1, w1, r1, hb.grown g1 hb.size (fun k hk => by simp [Value.ownBlock] at hk; omega), by simpa using o1, g1⟩
/-- One more, and the second part. -/
theorem ins_b {W w1 : World} {i m b1 c1 cc : Nat} {A1 B : Option Addr} {X Y : St} {p : Bs × Bs × Nat} (hb : Below W.heap.size W w1) (hX : X.length = i) (hl : i ≤ 1000) (hm : m ≤ 1000) (o1 : w1.ownsRow W.heap.size 59 3 (.slice A1 i c1) i (flat X))
    (hf : w1.heap[b1]? = some (.cells (ent p).toArray 59 (0, 0))) (hs : ∀ w', Below W.heap.size W w' → Srcs w' B m Y) :
    ∃ A2 c2 w2 A3 c3 w3, (Builtin.append_ #[28, 28] 28 #[.slice A1 i c1, .slice (some ⟨b1, 0, none⟩) 1 1]).run Tryz.prog w1 = .ok (.slice A2 (i + 1) c2) w2 ∧
      (Builtin.append_ #[28, 28] 28 #[.slice A2 (i + 1) c2, .slice B m cc]).run Tryz.prog w2 = .ok (.slice A3 (i + 1 + m) c3) w3 ∧ Below W.heap.size W w2 ∧ Below W.heap.size W w3 ∧
      w3.ownsRow W.heap.size 59 3 (.slice A3 (i + 1 + m) c3) (i + 1 + m) (flat (X ++ p :: Y)) := by
  obtain ⟨A2, c2, w2, r2, o2, g2⟩ := row_append w1 W.heap.size _ i _ o1 ⟨b1, 0, none⟩ 1 1 [p] rfl (fun j u hu => by
    rw [Addr.add_lit, Nat.zero_add, one_at hf]
    match j, hu with
    | 0, hu => exact hu
    | 1, hu => exact hu
    | 2, hu => exact hu
    | j + 3, hu => simp [flat, ent] at hu) (by omega) hb.size
  have b2 : Below W.heap.size W w2 := hb.grown g2 hb.size (fun k hk => (row_block o1 hk).1)
  obtain ⟨A3, c3, w3, r3, o3, g3⟩ := row_append_any w2 W.heap.size _ (i + 1) _ o2 B m cc Y (hs w2 b2) (by omega) b2.size
  exact ⟨A2, c2, w2, A3, c3, w3, r2, r3, b2, b2.grown g3 b2.size (fun k hk => (row_block o2 hk).1), by simpa using o3⟩
theorem own3_mono {w : World} {e : TypeId} {n base base' : Nat} {v : Value} {xs : List Value} (h : w.ownsRow base e 3 v n xs) (hb : base' ≤ base) : w.ownsRow base' e 3 v n xs := by
  refine ⟨h.1, ?_⟩
  rcases h.2 with h0 | ⟨g, cap, cur, hv, hg, hh, h2⟩
  · exact .inl h0
  · exact .inr ⟨g, cap, cur, hv, Nat.le_trans hb hg, hh, h2⟩

/-- The three orders of such a chain: the worlds, one behind the other. -/
structure Chain (W : World) (A B : Option Addr) (i m c cc : Nat) (p : Bs × Bs × Nat) (X Y : St) (W' : World) (bE bF : Nat) (A1 : Option Addr) (c1 : Nat) (w1 w1' : World) (A2 : Option Addr) (c2 : Nat) (w2 : World) (A3 : Option Addr) (c3 : Nat) (w3 : World) : Prop where
  r1 : (Builtin.append_ #[28, 28] 28 #[.slice (some ⟨bE, 0, none⟩) 0 0, .slice A i c]).run Tryz.prog W' = .ok (.slice A1 i c1) w1
  r2 : (Builtin.append_ #[28, 28] 28 #[.slice A1 i c1, .slice (some ⟨bF, 0, none⟩) 1 1]).run Tryz.prog w1' = .ok (.slice A2 (i + 1) c2) w2
  r3 : (Builtin.append_ #[28, 28] 28 #[.slice A2 (i + 1) c2, .slice B m cc]).run Tryz.prog w2 = .ok (.slice A3 (i + 1 + m) c3) w3
  b1 : Below W.heap.size W w1
  b2 : Below W.heap.size W w2
  b3 : Below W.heap.size W w3
  row : w3.ownsRow W.heap.size 59 3 (.slice A3 (i + 1 + m) c3) (i + 1 + m) (flat (X ++ p :: Y))

section
variable {W : World} {A B : Option Addr} {i m c cc : Nat} {p : Bs × Bs × Nat} {X Y : St}
/-- The row; what goes before; the one more. -/
theorem chain_a (hX : X.length = i) (hl : i ≤ 1000) (hm : m ≤ 1000) (hs : ∀ w', Below W.heap.size W w' → Srcs w' A i X ∧ Srcs w' B m Y) :
    ∃ A1 c1 w1 A2 c2 w2 A3 c3 w3, Chain W A B i m c cc p X Y (W.alloc (.cells #[] 59)) W.heap.size w1.heap.size A1 c1 w1 (w1.alloc (.cells (ent p).toArray 59)) A2 c2 w2 A3 c3 w3 := by
  have b0 : Below W.heap.size W (W.alloc (.cells #[] 59)) := (Below.refl _ _).alloc (Nat.le_refl _) _
  obtain ⟨A1, c1, w1, r1, b1, o1, g1⟩ := ins_a (W := W) (c := c) (hs _ b0).1 b0 hl (World.ownsRow_lit W #[] 0 (Nat.le_refl _) (by unfold maxLen; omega) rfl) (Nat.le_refl _)
  obtain ⟨A2, c2, w2, A3, c3, w3, r2, r3, b2, b3, o3⟩ := ins_b (B := B) (Y := Y) (p := p) (cc := cc) (b1.alloc b1.size (.cells (ent p).toArray 59)) hX hl hm (row_same o1 fun g hg => heap_alloc_old _ _ (lt_some (row_block o1 hg).2.choose_spec)) (heap_alloc_new _ _) (fun w' hb => (hs w' hb).2)
  exact ⟨A1, c1, w1, A2, c2, w2, A3, c3, w3, ⟨r1, r2, r3, b1, b2, b3, o3⟩⟩
/-- The row; the one more; what goes before. -/
theorem chain_b (hX : X.length = i) (hl : i ≤ 1000) (hm : m ≤ 1000) (hs : ∀ w', Below W.heap.size W w' → Srcs w' A i X ∧ Srcs w' B m Y) :
    ∃ A1 c1 w1 A2 c2 w2 A3 c3 w3, Chain W A B i m c cc p X Y ((W.alloc (.cells #[] 59)).alloc (.cells (ent p).toArray 59)) W.heap.size (W.heap.size + 1) A1 c1 w1 w1 A2 c2 w2 A3 c3 w3 := by
  have b0 : Below W.heap.size W ((W.alloc (.cells #[] 59)).alloc (.cells (ent p).toArray 59)) := ((Below.refl _ _).alloc (Nat.le_refl _) _).alloc (by simp) _
  have o0 := World.ownsRow_lit (e := 59) (size := 3) W #[] 0 (Nat.le_refl _) (by unfold maxLen; omega) rfl
  obtain ⟨A1, c1, w1, r1, b1, o1, g1⟩ := ins_a (W := W) (c := c) (hs _ b0).1 b0 hl (row_same o0 fun g hg => heap_alloc_old _ _ (lt_some (row_block o0 hg).2.choose_spec)) (Nat.le_refl _)
  have hf : w1.heap[W.heap.size + 1]? = some (.cells (ent p).toArray 59 (0, 0)) := (g1.block _ (by simp) (fun e => by injection e with e; omega)).trans (heap_alloc2_new _ _ _)
  obtain ⟨A2, c2, w2, A3, c3, w3, r2, r3, b2, b3, o3⟩ := ins_b (B := B) (Y := Y) (p := p) (cc := cc) b1 hX hl hm o1 hf (fun w' hb => (hs w' hb).2)
  exact ⟨A1, c1, w1, A2, c2, w2, A3, c3, w3, ⟨r1, r2, r3, b1, b2, b3, o3⟩⟩
/-- The one more; the row; what goes before. -/
theorem chain_c (hX : X.length = i) (hl : i ≤ 1000) (hm : m ≤ 1000) (hs : ∀ w', Below W.heap.size W w' → Srcs w' A i X ∧ Srcs w' B m Y) :
    ∃ A1 c1 w1 A2 c2 w2 A3 c3 w3, Chain W A B i m c cc p X Y ((W.alloc (.cells (ent p).toArray 59)).alloc (.cells #[] 59)) (W.heap.size + 1) W.heap.size A1 c1 w1 w1 A2 c2 w2 A3 c3 w3 := by
  have b0 : Below W.heap.size W ((W.alloc (.cells (ent p).toArray 59)).alloc (.cells #[] 59)) := ((Below.refl _ _).alloc (Nat.le_refl _) _).alloc (by simp) _
  have o0 := World.ownsRow_lit (e := 59) (size := 3) (W.alloc (.cells (ent p).toArray 59)) #[] 0 (Nat.le_refl _) (by unfold maxLen; omega) rfl
  simp only [World.alloc, Array.size_push] at o0
  obtain ⟨A1, c1, w1, r1, b1, o1, g1⟩ := ins_a (W := W) (c := c) (hs _ b0).1 b0 hl (own3_mono o0 (by omega)) (by omega)
  have hf : w1.heap[W.heap.size]? = some (.cells (ent p).toArray 59 (0, 0)) := (g1.block _ (by simp <;> omega) (fun e => by injection e with e; omega)).trans (heap_alloc2_old _ _ _)
  obtain ⟨A2, c2, w2, A3, c3, w3, r2, r3, b2, b3, o3⟩ := ins_b (B := B) (Y := Y) (p := p) (cc := cc) b1 hX hl hm o1 hf (fun w' hb => (hs w' hb).2)
  exact ⟨A1, c1, w1, A2, c2, w2, A3, c3, w3, ⟨r1, r2, r3, b1, b2, b3, o3⟩⟩
end
end Dk
end Go.Proofs.YtbolcapgocjgcaaGreatDoor

namespace Go.Proofs.YtbolcapgocjgcaaGreatDoor
open Go.RowKit
open Go.Proofs.YtbolcapgocjgcaaGreatDoor.Pk
namespace Dk
def regionAt (k : Nat) : Code → Option Code
  | .region id ops d => if id == k then some (.region id ops d) else none
  | .seq a b => (regionAt k a).orElse fun _ => regionAt k b
  | .cond _ a b => (regionAt k a).orElse fun _ => regionAt k b
  | .block _ c => regionAt k c
  | .loop c => regionAt k c
  | .scope c => regionAt k c
  | _ => none
noncomputable def rapp_7 : Code := (Tryz.f39.body.bind (regionAt 7)).getD .skip
set_option maxHeartbeats 3200000 in
set_option maxRecDepth 20000 in
theorem rapp7 (z2 z3 z4 z5 z6 z8 z9 z10 z11 z12 z13 z14 z15 z16 z17 z18 z19 z20 z21 z22 z23 z24 z25 z26 z27 z28 z29 z30 z31 z32 z33 z34 z35 z36 z37 z38 z39 z40 z41 z42 z43 z44 z45 z46 z47 z48 z49 z50 z51 z52 z53 z54 z55 z56 z57 z58 z59 z60 z61 z62 z63 z64 z65 z66 z67 z68 : Value) (W : World) (q room n c i : Nat) (A : Option Addr) (L : St) (s : ByteArray) (R : Rf W q room L (.slice A n c)) (hn : L.length = n) (hi : i ≤ n) (hl : n ≤ 900) (Q : Exit → Act → World → Prop)
    (hP : ∀ c a d v w, Q (.panic c) (Act.put a d v) w → Q (.panic c) a w)
    (hQ : ∀ (y30 y31 y32 y33 y34 y35 y36 y37 y38 y39 y40 y41 y42 y43 y44 y45 y46 y47 y48 y49 y50 y51 : Value) (W3 : World) (A3 : Option Addr) (c3 : Nat), Below W.heap.size W W3 → W3.ownsRow W.heap.size 59 3 (.slice A3 (n + 1) c3) (n + 1) (flat (L.take i ++ (nm s, [], 0) :: L.drop i)) → Q .normal ⟨#[.pointer (some ⟨q, 0, none⟩), .string s, z2, z3, z4, z5, z6, .int .i64 (i : Nat), z8, z9, z10, z11, z12, z13, z14, z15, z16, z17, z18, z19, z20, z21, z22, z23, z24, z25, z26, z27, z28, z29, y30, y31, y32, y33, y34, y35, y36, y37, y38, y39, y40, y41, y42, y43, y44, y45, y46, y47, y48, y49, y50, y51, z52, z53, z54, z55, z56, z57, z58, z59, z60, z61, z62, z63, z64, z65, z66, z67, z68], []⟩ (W3.setCell ⟨q, 1, none⟩ (.slice A3 (n + 1) c3))) :
    Code.wp Tryz.prog rapp_7 Q ⟨#[.pointer (some ⟨q, 0, none⟩), .string s, z2, z3, z4, z5, z6, .int .i64 (i : Nat), z8, z9, z10, z11, z12, z13, z14, z15, z16, z17, z18, z19, z20, z21, z22, z23, z24, z25, z26, z27, z28, z29, z30, z31, z32, z33, z34, z35, z36, z37, z38, z39, z40, z41, z42, z43, z44, z45, z46, z47, z48, z49, z50, z51, z52, z53, z54, z55, z56, z57, z58, z59, z60, z61, z62, z63, z64, z65, z66, z67, z68], []⟩ W := by
  have R1 : Rf W.drew q room L (.slice A n c) := ⟨R.cells, R.row⟩
  have hBW : Below W.heap.size W W.drew := ⟨rfl, rfl, rfl, Nat.le_refl _, fun _ _ => rfl⟩
  have hsz : W.drew.heap.size = W.heap.size := rfl
  obtain ⟨hst, B, hsl, hsrc⟩ := R1.cuts hn hi
  have hi2 : (i : Int) ≤ (n : Int) := by omega
  have hi3 : (0 : Int) ≤ (i : Int) := by omega
  have hX : (L.take i).length = i := by rw [List.length_take]; omega
  have hn1 : i + 1 + (n - i) = n + 1 := by omega
  have hfc : (ent (nm s, [], 0)).toArray = #[.string s, .string ByteArray.empty, .int .i64 0] := by simp [ent, nm, str]; rfl
  conv => arg 2; whnf
  refine wp_region_till (S := fun W' => W'.cell? ⟨q, 1, none⟩ = some (.slice A n c)) 22 (by kernel_rfl) (by kernel_rfl) ?_
  rw [← hsz] at hQ hBW
  generalize W.drew = W1 at *
  have hHeld : W1.cell? ⟨q, 1, none⟩ = some (.slice A n c) := one_at (i := 1) R1.cells
  obtain ⟨A1a, c1a, w1a, A2a, c2a, w2a, A3a, c3a, w3a, ha_⟩ := chain_a (c := c) (cc := c - i) (p := (nm s, [], 0)) hX (by omega) (by omega) hsrc
  have r1a := ha_.r1
  have r2a := ha_.r2
  have r3a := ha_.r3
  have oa := ha_.row
  rw [hn1] at r3a oa
  obtain ⟨A1b, c1b, w1b, A2b, c2b, w2b, A3b, c3b, w3b, hb_⟩ := chain_b (c := c) (cc := c - i) (p := (nm s, [], 0)) hX (by omega) (by omega) hsrc
  have r1b := hb_.r1
  have r2b := hb_.r2
  have r3b := hb_.r3
  have ob := hb_.row
  rw [hn1] at r3b ob
  obtain ⟨A1c, c1c, w1c, A2c, c2c, w2c, A3c, c3c, w3c, hc_⟩ := chain_c (c := c) (cc := c - i) (p := (nm s, [], 0)) hX (by omega) (by omega) hsrc
  have r1c := hc_.r1
  have r2c := hc_.r2
  have r3c := hc_.r3
  have oc := hc_.row
  rw [hn1] at r3c oc
  rw [hfc] at r2a r1b r1c
  have SE : Below W1.heap.size W1 (W1.alloc (.cells #[] 59)) := (Below.refl _ _).alloc (Nat.le_refl _) _
  have SF : Below W1.heap.size W1 (W1.alloc (.cells #[.string s, .string ByteArray.empty, .int .i64 0] 59)) := (Below.refl _ _).alloc (Nat.le_refl _) _
  have SEF : Below W1.heap.size W1 ((W1.alloc (.cells #[] 59)).alloc (.cells #[.string s, .string ByteArray.empty, .int .i64 0] 59)) := SE.alloc SE.size _
  have SFE : Below W1.heap.size W1 ((W1.alloc (.cells #[.string s, .string ByteArray.empty, .int .i64 0] 59)).alloc (.cells #[] 59)) := SF.alloc SF.size _
  have S1F : Below W1.heap.size W1 (w1a.alloc (.cells #[.string s, .string ByteArray.empty, .int .i64 0] 59)) := ha_.b1.alloc ha_.b1.size _
  clear hsrc R hsz
  refine' wpAnyH_take (i := 0) (oi := ?o1) (v := ?v1) ?hi1 (by kernel_rfl) (by kernel_rfl) (by kernel_rfl) (fun c a w h => hP c a _ _ w h) (Or.inl ⟨?hw1, ?hy1⟩) hHeld ?rest1
  case hi1 => simp only [List.getElem?_toArray, List.getElem?_cons_zero]; rfl
  case hw1 => rfl
  case hy1 =>
    intro w hSw
    go_simp
    try with_reducible rfl
  simp only [Act.put, List.setIfInBounds_toArray, List.set_cons_zero, List.set_cons_succ]
  refine' wpAnyH_take (i := 2) (oi := ?o2) (v := ?v2) ?hi2 (by kernel_rfl) (by kernel_rfl) (by kernel_rfl) (fun c a w h => hP c a _ _ w h) (Or.inl ⟨?hw2, ?hy2⟩) hHeld ?rest2
  case hi2 => simp only [List.getElem?_toArray, List.getElem?_cons_succ, List.getElem?_cons_zero]; rfl
  case hw2 => rfl
  case hy2 =>
    intro w hSw
    go_simp
    try with_reducible rfl
  simp only [Act.put, List.setIfInBounds_toArray, List.set_cons_zero, List.set_cons_succ]
  refine' wpAnyH_take (i := 3) (oi := ?o3) (v := ?v3) ?hi3 (by kernel_rfl) (by kernel_rfl) (by kernel_rfl) (fun c a w h => hP c a _ _ w h) (Or.inl ⟨?hw3, ?hy3⟩) hHeld ?rest3
  case hi3 => simp only [List.getElem?_toArray, List.getElem?_cons_succ, List.getElem?_cons_zero]; rfl
  case hw3 => rfl
  case hy3 =>
    intro w hSw
    go_simp
    try with_reducible rfl
  simp only [Act.put, List.setIfInBounds_toArray, List.set_cons_zero, List.set_cons_succ]
  refine' wpAnyH_take (i := 4) (oi := ?o4) (v := ?v4) ?hi4 (by kernel_rfl) (by kernel_rfl) (by kernel_rfl) (fun c a w h => hP c a _ _ w h) (Or.inl ⟨?hw4, ?hy4⟩) hHeld ?rest4
  case hi4 => simp only [List.getElem?_toArray, List.getElem?_cons_succ, List.getElem?_cons_zero]; rfl
  case hw4 => rfl
  case hy4 =>
    intro w hSw
    go_simp
    try with_reducible rfl
  simp only [Act.put, List.setIfInBounds_toArray, List.set_cons_zero, List.set_cons_succ]
  refine' wpAnyH_take (i := 5) (oi := ?o5) (v := ?v5) ?hi5 (by kernel_rfl) (by kernel_rfl) (by kernel_rfl) (fun c a w h => hP c a _ _ w h) (Or.inl ⟨?hw5, ?hy5⟩) hHeld ?rest5
  case hi5 => simp only [List.getElem?_toArray, List.getElem?_cons_succ, List.getElem?_cons_zero]; rfl
  case hw5 => rfl
  case hy5 =>
    intro w hSw
    go_simp
    try with_reducible rfl
  simp only [Act.put, List.setIfInBounds_toArray, List.set_cons_zero, List.set_cons_succ]
  refine' wpAnyH_take (i := 6) (oi := ?o6) (v := ?v6) ?hi6 (by kernel_rfl) (by kernel_rfl) (by kernel_rfl) (fun c a w h => hP c a _ _ w h) (Or.inl ⟨?hw6, ?hy6⟩) hHeld ?rest6
  case hi6 => simp only [List.getElem?_toArray, List.getElem?_cons_succ, List.getElem?_cons_zero]; rfl
  case hw6 => rfl
  case hy6 =>
    intro w hSw
    go_simp
    try with_reducible rfl
  simp only [Act.put, List.setIfInBounds_toArray, List.set_cons_zero, List.set_cons_succ]
  refine' wpAnyH_take (i := 7) (oi := ?o7) (v := ?v7) ?hi7 (by kernel_rfl) (by kernel_rfl) (by kernel_rfl) (fun c a w h => hP c a _ _ w h) (Or.inl ⟨?hw7, ?hy7⟩) hHeld ?rest7
  case hi7 => simp only [List.getElem?_toArray, List.getElem?_cons_succ, List.getElem?_cons_zero]; rfl
  case hw7 => rfl
  case hy7 =>
    intro w hSw
    go_simp
    try with_reducible rfl
  simp only [Act.put, List.setIfInBounds_toArray, List.set_cons_zero, List.set_cons_succ]
  refine' wpAnyH_take (i := 9) (oi := ?o8) (v := ?v8) ?hi8 (by kernel_rfl) (by kernel_rfl) (by kernel_rfl) (fun c a w h => hP c a _ _ w h) (Or.inl ⟨?hw8, ?hy8⟩) hHeld ?rest8
  case hi8 => simp only [List.getElem?_toArray, List.getElem?_cons_succ, List.getElem?_cons_zero]; rfl
  case hw8 => rfl
  case hy8 =>
    intro w hSw
    go_simp
    try with_reducible rfl
  simp only [Act.put, List.setIfInBounds_toArray, List.set_cons_zero, List.set_cons_succ]
  refine' wpAnyH_take (i := 10) (oi := ?o9) (v := ?v9) ?hi9 (by kernel_rfl) (by kernel_rfl) (by kernel_rfl) (fun c a w h => hP c a _ _ w h) (Or.inl ⟨?hw9, ?hy9⟩) hHeld ?rest9
  case hi9 => simp only [List.getElem?_toArray, List.getElem?_cons_succ, List.getElem?_cons_zero]; rfl
  case hw9 => rfl
  case hy9 =>
    intro w hSw
    go_simp
    try with_reducible rfl
  simp only [Act.put, List.setIfInBounds_toArray, List.set_cons_zero, List.set_cons_succ]
  refine' wpAnyH_take (i := 13) (oi := ?o10) (v := ?v10) ?hi10 (by kernel_rfl) (by kernel_rfl) (by kernel_rfl) (fun c a w h => hP c a _ _ w h) (Or.inl ⟨?hw10, ?hy10⟩) hHeld ?rest10
  case hi10 => simp only [List.getElem?_toArray, List.getElem?_cons_succ, List.getElem?_cons_zero]; rfl
  case hw10 => rfl
  case hy10 =>
    intro w hSw
    go_simp
    try with_reducible rfl
  simp only [Act.put, List.setIfInBounds_toArray, List.set_cons_zero, List.set_cons_succ]
  refine' wpAnyH_take (i := 14) (oi := ?o11) (v := ?v11) ?hi11 (by kernel_rfl) (by kernel_rfl) (by kernel_rfl) (fun c a w h => hP c a _ _ w h) (Or.inl ⟨?hw11, ?hy11⟩) hHeld ?rest11
  case hi11 => simp only [List.getElem?_toArray, List.getElem?_cons_succ, List.getElem?_cons_zero]; rfl
  case hw11 => rfl
  case hy11 =>
    intro w hSw
    go_simp
    try with_reducible rfl
  simp only [Act.put, List.setIfInBounds_toArray, List.set_cons_zero, List.set_cons_succ]
  refine' wpAnyH_take (i := 15) (oi := ?o12) (v := ?v12) ?hi12 (by kernel_rfl) (by kernel_rfl) (by kernel_rfl) (fun c a w h => hP c a _ _ w h) (Or.inl ⟨?hw12, ?hy12⟩) hHeld ?rest12
  case hi12 => simp only [List.getElem?_toArray, List.getElem?_cons_succ, List.getElem?_cons_zero]; rfl
  case hw12 => rfl
  case hy12 =>
    intro w hSw
    go_simp
    try with_reducible rfl
  simp only [Act.put, List.setIfInBounds_toArray, List.set_cons_zero, List.set_cons_succ]
  refine' wpAnyH_take (i := 16) (oi := ?o13) (v := ?v13) ?hi13 (by kernel_rfl) (by kernel_rfl) (by kernel_rfl) (fun c a w h => hP c a _ _ w h) (Or.inl ⟨?hw13, ?hy13⟩) hHeld ?rest13
  case hi13 => simp only [List.getElem?_toArray, List.getElem?_cons_succ, List.getElem?_cons_zero]; rfl
  case hw13 => rfl
  case hy13 =>
    intro w hSw
    go_simp
    try with_reducible rfl
  simp only [Act.put, List.setIfInBounds_toArray, List.set_cons_zero, List.set_cons_succ]
  refine' wpAnyH_take (i := 17) (oi := ?o14) (v := ?v14) ?hi14 (by kernel_rfl) (by kernel_rfl) (by kernel_rfl) (fun c a w h => hP c a _ _ w h) (Or.inl ⟨?hw14, ?hy14⟩) hHeld ?rest14
  case hi14 => simp only [List.getElem?_toArray, List.getElem?_cons_succ, List.getElem?_cons_zero]; rfl
  case hw14 => rfl
  case hy14 =>
    intro w hSw
    go_simp
    try with_reducible rfl
  simp only [Act.put, List.setIfInBounds_toArray, List.set_cons_zero, List.set_cons_succ]
  refine' wpAnyH_take (i := 18) (oi := ?o15) (v := ?v15) ?hi15 (by kernel_rfl) (by kernel_rfl) (by kernel_rfl) (fun c a w h => hP c a _ _ w h) (Or.inl ⟨?hw15, ?hy15⟩) hHeld ?rest15
  case hi15 => simp only [List.getElem?_toArray, List.getElem?_cons_succ, List.getElem?_cons_zero]; rfl
  case hw15 => rfl
  case hy15 =>
    intro w hSw
    go_simp
    try with_reducible rfl
  simp only [Act.put, List.setIfInBounds_toArray, List.set_cons_zero, List.set_cons_succ]
  refine wpAnyH_ready (rs := [1, 11]) (by kernel_rfl) (by simp) ?_
  refine' AllReadyH.cons (i := 1) (o := ?o16) ?hi16 (fun K hK => ?st16) ?mo16
  case hi16 => simp only [List.getElem?_toArray, List.getElem?_cons_succ, List.getElem?_cons_zero]; rfl
  case st16 =>
    go_simp
    refine hK.out _ _ (one_at (i := 1) (R1.below SE).cells) (fun hHeld => ?_)
    clear hK K
    try simp only [Act.put, List.setIfInBounds_toArray, List.set_cons_zero, List.set_cons_succ]
    refine wpAnyH_ready (rs := [8, 11]) (by kernel_rfl) (by simp) ?_
    refine' AllReadyH.cons (i := 8) (o := ?o17) ?hi17 (fun K hK => ?st17) ?mo17
    case hi17 => simp only [List.getElem?_toArray, List.getElem?_cons_succ, List.getElem?_cons_zero]; rfl
    case st17 =>
      refine step_run_append rfl (.tmp 31) (.tmp 37) rfl rfl (.slice (some ⟨W1.heap.size, 0, none⟩) 0 0) (.slice A i c) rfl rfl r1a ?_
      refine hK.out _ _ (one_at (i := 1) (R1.below ha_.b1).cells) (fun hHeld => ?_)
      clear hK K
      try simp only [Act.put, List.setIfInBounds_toArray, List.set_cons_zero, List.set_cons_succ]
      refine wpAnyH_ready (rs := [11]) (by kernel_rfl) (by simp) ?_
      refine' AllReadyH.cons (i := 11) (o := ?o18) ?hi18 (fun K hK => ?st18) ?mo18
      case hi18 => simp only [List.getElem?_toArray, List.getElem?_cons_succ, List.getElem?_cons_zero]; rfl
      case st18 =>
        go_simp
        refine hK.out _ _ (one_at (i := 1) (R1.below S1F).cells) (fun hHeld => ?_)
        clear hK K
        try simp only [Act.put, List.setIfInBounds_toArray, List.set_cons_zero, List.set_cons_succ]
        refine wpAnyH_ready (rs := [12]) (by kernel_rfl) (by simp) ?_
        refine' AllReadyH.cons (i := 12) (o := ?o19) ?hi19 (fun K hK => ?st19) ?mo19
        case hi19 => simp only [List.getElem?_toArray, List.getElem?_cons_succ, List.getElem?_cons_zero]; rfl
        case st19 =>
          refine step_run_append rfl (.tmp 38) (.tmp 41) rfl rfl (.slice A1a i c1a) (.slice (some ⟨w1a.heap.size, 0, none⟩) 1 1) rfl rfl r2a ?_
          refine hK.out _ _ (one_at (i := 1) (R1.below ha_.b2).cells) (fun hHeld => ?_)
          clear hK K
          try simp only [Act.put, List.setIfInBounds_toArray, List.set_cons_zero, List.set_cons_succ]
          refine wpAnyH_ready (rs := [19]) (by kernel_rfl) (by simp) ?_
          refine' AllReadyH.cons (i := 19) (o := ?o20) ?hi20 (fun K hK => ?st20) ?mo20
          case hi20 => simp only [List.getElem?_toArray, List.getElem?_cons_succ, List.getElem?_cons_zero]; rfl
          case st20 =>
            refine step_run_append rfl (.tmp 42) (.tmp 48) rfl rfl (.slice A2a (i + 1) c2a) (.slice B (n - i) (c - i)) rfl rfl r3a ?_
            refine hK.out _ _ (one_at (i := 1) (R1.below ha_.b3).cells) (fun hHeld => ?_)
            clear hK K
            try simp only [Act.put, List.setIfInBounds_toArray, List.set_cons_zero, List.set_cons_succ]
            refine' wpAnyH_take (i := 20) (oi := ?o21) (v := ?v21) ?hi21 (by kernel_rfl) (by kernel_rfl) (by kernel_rfl) (fun c a w h => hP c a _ _ w h) (Or.inl ⟨?hw21, ?hy21⟩) hHeld ?rest21
            case hi21 => simp only [List.getElem?_toArray, List.getElem?_cons_succ, List.getElem?_cons_zero]; rfl
            case hw21 => rfl
            case hy21 =>
              intro w hSw
              go_simp
              try with_reducible rfl
            simp only [Act.put, List.setIfInBounds_toArray, List.set_cons_zero, List.set_cons_succ]
            refine' wpAnyH_take (i := 21) (oi := ?o22) (v := ?v22) ?hi22 (by kernel_rfl) (by kernel_rfl) (by kernel_rfl) (fun c a w h => hP c a _ _ w h) (Or.inl ⟨?hw22, ?hy22⟩) hHeld ?rest22
            case hi22 => simp only [List.getElem?_toArray, List.getElem?_cons_succ, List.getElem?_cons_zero]; rfl
            case hw22 => rfl
            case hy22 =>
              intro w hSw
              go_simp
              try with_reducible rfl
            simp only [Act.put, List.setIfInBounds_toArray, List.set_cons_zero, List.set_cons_succ]
            refine wpAnyH_done (by kernel_rfl) ?_ _
            refine tillQ_normal ?_
            refine' wpOp_step (i := 22) (o := ?o23) ?hi23 (fun K hK => ?_)
            case hi23 => simp only [List.getElem?_toArray, List.getElem?_cons_succ, List.getElem?_cons_zero]; rfl
            have d3 : w3a.cell? ⟨q, 1, none⟩ = some (.slice A n c) := one_at (i := 1) (R1.below ha_.b3).cells
            have f3 : w3a.frozen? ⟨q, 1, none⟩ = false := one_free (R1.below ha_.b3).cells
            go_simp
            refine hK _ _ ?_
            exact hQ _ _ _ _ _ _ _ _ _ _ _ _ _ _ _ _ _ _ _ _ _ _ w3a A3a c3a (hBW.trans ha_.b3) oa
          case mo20 => exact AllReadyH.nil
        case mo19 => exact AllReadyH.nil
      case mo18 => exact AllReadyH.nil
    case mo17 =>
      refine' AllReadyH.cons (i := 11) (o := ?o24) ?hi24 (fun K hK => ?st24) ?mo24
      case hi24 => simp only [List.getElem?_toArray, List.getElem?_cons_succ, List.getElem?_cons_zero]; rfl
      case st24 =>
        go_simp
        refine hK.out _ _ (one_at (i := 1) (R1.below SEF).cells) (fun hHeld => ?_)
        clear hK K
        try simp only [Act.put, List.setIfInBounds_toArray, List.set_cons_zero, List.set_cons_succ]
        refine wpAnyH_ready (rs := [8]) (by kernel_rfl) (by simp) ?_
        refine' AllReadyH.cons (i := 8) (o := ?o25) ?hi25 (fun K hK => ?st25) ?mo25
        case hi25 => simp only [List.getElem?_toArray, List.getElem?_cons_succ, List.getElem?_cons_zero]; rfl
        case st25 =>
          refine step_run_append rfl (.tmp 31) (.tmp 37) rfl rfl (.slice (some ⟨W1.heap.size, 0, none⟩) 0 0) (.slice A i c) rfl rfl r1b ?_
          refine hK.out _ _ (one_at (i := 1) (R1.below hb_.b1).cells) (fun hHeld => ?_)
          clear hK K
          try simp only [Act.put, List.setIfInBounds_toArray, List.set_cons_zero, List.set_cons_succ]
          refine wpAnyH_ready (rs := [12]) (by kernel_rfl) (by simp) ?_
          refine' AllReadyH.cons (i := 12) (o := ?o26) ?hi26 (fun K hK => ?st26) ?mo26
          case hi26 => simp only [List.getElem?_toArray, List.getElem?_cons_succ, List.getElem?_cons_zero]; rfl
          case st26 =>
            refine step_run_append rfl (.tmp 38) (.tmp 41) rfl rfl (.slice A1b i c1b) (.slice (some ⟨W1.heap.size + 1, 0, none⟩) 1 1) rfl rfl r2b ?_
            refine hK.out _ _ (one_at (i := 1) (R1.below hb_.b2).cells) (fun hHeld => ?_)
            clear hK K
            try simp only [Act.put, List.setIfInBounds_toArray, List.set_cons_zero, List.set_cons_succ]
            refine wpAnyH_ready (rs := [19]) (by kernel_rfl) (by simp) ?_
            refine' AllReadyH.cons (i := 19) (o := ?o27) ?hi27 (fun K hK => ?st27) ?mo27
            case hi27 => simp only [List.getElem?_toArray, List.getElem?_cons_succ, List.getElem?_cons_zero]; rfl
            case st27 =>
              refine step_run_append rfl (.tmp 42) (.tmp 48) rfl rfl (.slice A2b (i + 1) c2b) (.slice B (n - i) (c - i)) rfl rfl r3b ?_
              refine hK.out _ _ (one_at (i := 1) (R1.below hb_.b3).cells) (fun hHeld => ?_)
              clear hK K
              try simp only [Act.put, List.setIfInBounds_toArray, List.set_cons_zero, List.set_cons_succ]
              refine' wpAnyH_take (i := 20) (oi := ?o28) (v := ?v28) ?hi28 (by kernel_rfl) (by kernel_rfl) (by kernel_rfl) (fun c a w h => hP c a _ _ w h) (Or.inl ⟨?hw28, ?hy28⟩) hHeld ?rest28
              case hi28 => simp only [List.getElem?_toArray, List.getElem?_cons_succ, List.getElem?_cons_zero]; rfl
              case hw28 => rfl
              case hy28 =>
                intro w hSw
                go_simp
                try with_reducible rfl
              simp only [Act.put, List.setIfInBounds_toArray, List.set_cons_zero, List.set_cons_succ]
              refine' wpAnyH_take (i := 21) (oi := ?o29) (v := ?v29) ?hi29 (by kernel_rfl) (by kernel_rfl) (by kernel_rfl) (fun c a w h => hP c a _ _ w h) (Or.inl ⟨?hw29, ?hy29⟩) hHeld ?rest29
              case hi29 => simp only [List.getElem?_toArray, List.getElem?_cons_succ, List.getElem?_cons_zero]; rfl
              case hw29 => rfl
              case hy29 =>
                intro w hSw
                go_simp
                try with_reducible rfl
              simp only [Act.put, List.setIfInBounds_toArray, List.set_cons_zero, List.set_cons_succ]
              refine wpAnyH_done (by kernel_rfl) ?_ _
              refine tillQ_normal ?_
              refine' wpOp_step (i := 22) (o := ?o30) ?hi30 (fun K hK => ?_)
              case hi30 => simp only [List.getElem?_toArray, List.getElem?_cons_succ, List.getElem?_cons_zero]; rfl
              have d3 : w3b.cell? ⟨q, 1, none⟩ = some (.slice A n c) := one_at (i := 1) (R1.below hb_.b3).cells
              have f3 : w3b.frozen? ⟨q, 1, none⟩ = false := one_free (R1.below hb_.b3).cells
              go_simp
              refine hK _ _ ?_
              exact hQ _ _ _ _ _ _ _ _ _ _ _ _ _ _ _ _ _ _ _ _ _ _ w3b A3b c3b (hBW.trans hb_.b3) ob
            case mo27 => exact AllReadyH.nil
          case mo26 => exact AllReadyH.nil
        case mo25 => exact AllReadyH.nil
      case mo24 => exact AllReadyH.nil
  case mo16 =>
    refine' AllReadyH.cons (i := 11) (o := ?o31) ?hi31 (fun K hK => ?st31) ?mo31
    case hi31 => simp only [List.getElem?_toArray, List.getElem?_cons_succ, List.getElem?_cons_zero]; rfl
    case st31 =>
      go_simp
      refine hK.out _ _ (one_at (i := 1) (R1.below SF).cells) (fun hHeld => ?_)
      clear hK K
      try simp only [Act.put, List.setIfInBounds_toArray, List.set_cons_zero, List.set_cons_succ]
      refine wpAnyH_ready (rs := [1]) (by kernel_rfl) (by simp) ?_
      refine' AllReadyH.cons (i := 1) (o := ?o32) ?hi32 (fun K hK => ?st32) ?mo32
      case hi32 => simp only [List.getElem?_toArray, List.getElem?_cons_succ, List.getElem?_cons_zero]; rfl
      case st32 =>
        go_simp
        refine hK.out _ _ (one_at (i := 1) (R1.below SFE).cells) (fun hHeld => ?_)
        clear hK K
        try simp only [Act.put, List.setIfInBounds_toArray, List.set_cons_zero, List.set_cons_succ]
        refine wpAnyH_ready (rs := [8]) (by kernel_rfl) (by simp) ?_
        refine' AllReadyH.cons (i := 8) (o := ?o33) ?hi33 (fun K hK => ?st33) ?mo33
        case hi33 => simp only [List.getElem?_toArray, List.getElem?_cons_succ, List.getElem?_cons_zero]; rfl
        case st33 =>
          refine step_run_append rfl (.tmp 31) (.tmp 37) rfl rfl (.slice (some ⟨W1.heap.size + 1, 0, none⟩) 0 0) (.slice A i c) rfl rfl r1c ?_
          refine hK.out _ _ (one_at (i := 1) (R1.below hc_.b1).cells) (fun hHeld => ?_)
          clear hK K
          try simp only [Act.put, List.setIfInBounds_toArray, List.set_cons_zero, List.set_cons_succ]
          refine wpAnyH_ready (rs := [12]) (by kernel_rfl) (by simp) ?_
          refine' AllReadyH.cons (i := 12) (o := ?o34) ?hi34 (fun K hK => ?st34) ?mo34
          case hi34 => simp only [List.getElem?_toArray, List.getElem?_cons_succ, List.getElem?_cons_zero]; rfl
          case st34 =>
            refine step_run_append rfl (.tmp 38) (.tmp 41) rfl rfl (.slice A1c i c1c) (.slice (some ⟨W1.heap.size, 0, none⟩) 1 1) rfl rfl r2c ?_
            refine hK.out _ _ (one_at (i := 1) (R1.below hc_.b2).cells) (fun hHeld => ?_)
            clear hK K
            try simp only [Act.put, List.setIfInBounds_toArray, List.set_cons_zero, List.set_cons_succ]
            refine wpAnyH_ready (rs := [19]) (by kernel_rfl) (by simp) ?_
            refine' AllReadyH.cons (i := 19) (o := ?o35) ?hi35 (fun K hK => ?st35) ?mo35
            case hi35 => simp only [List.getElem?_toArray, List.getElem?_cons_succ, List.getElem?_cons_zero]; rfl
            case st35 =>
              refine step_run_append rfl (.tmp 42) (.tmp 48) rfl rfl (.slice A2c (i + 1) c2c) (.slice B (n - i) (c - i)) rfl rfl r3c ?_
              refine hK.out _ _ (one_at (i := 1) (R1.below hc_.b3).cells) (fun hHeld => ?_)
              clear hK K
              try simp only [Act.put, List.setIfInBounds_toArray, List.set_cons_zero, List.set_cons_succ]
              refine' wpAnyH_take (i := 20) (oi := ?o36) (v := ?v36) ?hi36 (by kernel_rfl) (by kernel_rfl) (by kernel_rfl) (fun c a w h => hP c a _ _ w h) (Or.inl ⟨?hw36, ?hy36⟩) hHeld ?rest36
              case hi36 => simp only [List.getElem?_toArray, List.getElem?_cons_succ, List.getElem?_cons_zero]; rfl
              case hw36 => rfl
              case hy36 =>
                intro w hSw
                go_simp
                try with_reducible rfl
              simp only [Act.put, List.setIfInBounds_toArray, List.set_cons_zero, List.set_cons_succ]
              refine' wpAnyH_take (i := 21) (oi := ?o37) (v := ?v37) ?hi37 (by kernel_rfl) (by kernel_rfl) (by kernel_rfl) (fun c a w h => hP c a _ _ w h) (Or.inl ⟨?hw37, ?hy37⟩) hHeld ?rest37
              case hi37 => simp only [List.getElem?_toArray, List.getElem?_cons_succ, List.getElem?_cons_zero]; rfl
              case hw37 => rfl
              case hy37 =>
                intro w hSw
                go_simp
                try with_reducible rfl
              simp only [Act.put, List.setIfInBounds_toArray, List.set_cons_zero, List.set_cons_succ]
              refine wpAnyH_done (by kernel_rfl) ?_ _
              refine tillQ_normal ?_
              refine' wpOp_step (i := 22) (o := ?o38) ?hi38 (fun K hK => ?_)
              case hi38 => simp only [List.getElem?_toArray, List.getElem?_cons_succ, List.getElem?_cons_zero]; rfl
              have d3 : w3c.cell? ⟨q, 1, none⟩ = some (.slice A n c) := one_at (i := 1) (R1.below hc_.b3).cells
              have f3 : w3c.frozen? ⟨q, 1, none⟩ = false := one_free (R1.below hc_.b3).cells
              go_simp
              refine hK _ _ ?_
              exact hQ _ _ _ _ _ _ _ _ _ _ _ _ _ _ _ _ _ _ _ _ _ _ w3c A3c c3c (hBW.trans hc_.b3) oc
            case mo35 => exact AllReadyH.nil
          case mo34 => exact AllReadyH.nil
        case mo33 => exact AllReadyH.nil
      case mo32 => exact AllReadyH.nil
    case mo31 => exact AllReadyH.nil
end Dk
end Go.Proofs.YtbolcapgocjgcaaGreatDoor

namespace Go.Proofs.YtbolcapgocjgcaaGreatDoor
open Go.RowKit
open Go.Proofs.YtbolcapgocjgcaaGreatDoor.Pk
namespace Dk

def headIs (k : Nat) : Code → Bool
  | .region id _ _ => id == k
  | .seq a _ => headIs k a
  | _ => false
def restAt (k : Nat) : Code → Option Code
  | .seq a b => if headIs k b then some b else match restAt k b with
    | some c => some c
    | none => restAt k a
  | .block _ c => restAt k c
  | .scope c => restAt k c
  | _ => none
noncomputable def rapp_rest : Code := (Tryz.f39.body.bind (restAt 8)).getD .skip

set_option maxHeartbeats 1600000 in
set_option maxRecDepth 20000 in
theorem rapp8 (z1 z3 z4 z5 z6 z8 z9 z10 z11 z12 z13 z14 z15 z16 z17 z18 z19 z20 z21 z22 z23 z24 z25 z26 z27 z28 z29 z30 z31 z32 z33 z34 z35 z36 z37 z38 z39 z40 z41 z42 z43 z44 z45 z46 z47 z48 z49 z50 z51 z52 z53 z54 z55 z56 z57 z58 z59 z60 z61 z62 z63 z64 z65 z66 z67 z68 : Value) (_w W : World) (q room i k : Nat) (L : St) (v _vw : Value) (x old bs : Bs) (R : Rf W q room L v) (hp : L[i]? = some (x, old, k)) (hl : L.length ≤ 1000) (hadd : ∀ w, (Op.stringOp .add (str old) (str bs)).run Tryz.prog w = .ok (.string (str (old ++ bs))) w) (POST : Ending → World → Prop)
    (hpost : ∀ W', Kp (fun g => g = q ∨ v.ownBlock = some g) W W' → Rf W' q room (L.set i (x, old ++ bs, k)) v → POST (.returned (.int .i64 0)) W') :
    Code.wp Tryz.prog rapp_rest (bodyPost Tryz.prog Tryz.f39 POST) ⟨#[.pointer (some ⟨q, 0, none⟩), z1, .string (str bs), z3, z4, z5, z6, .int .i64 (i : Nat), z8, z9, z10, z11, z12, z13, z14, z15, z16, z17, z18, z19, z20, z21, z22, z23, z24, z25, z26, z27, z28, z29, z30, z31, z32, z33, z34, z35, z36, z37, z38, z39, z40, z41, z42, z43, z44, z45, z46, z47, z48, z49, z50, z51, z52, z53, z54, z55, z56, z57, z58, z59, z60, z61, z62, z63, z64, z65, z66, z67, z68], []⟩ W := by
  obtain ⟨g, c, rfl, h1, h2, e1, e2, e3, e4⟩ := R.file hp
  have hil : i < L.length := (List.getElem?_eq_some_iff.1 hp).1
  have f2 := e4 (i * 3 + 1)
  have c1 : W.cell? ⟨q, 1, none⟩ = some (.slice (some ⟨g, 0, none⟩) L.length c) := one_at (i := 1) R.cells
  have E : Hid (POST (.returned (.int .i64 0)) (W.setCell ⟨g, i * 3 + 1, none⟩ (.string (str (old ++ bs)))).drew) := hpost _ (Kp.of_grown (grown_drew (grown_set W g _ _)) (fun x hx => .inr (by injection hx with hx; subst hx; rfl))) (by have := R.set1 hp (old ++ bs); exact ⟨this.cells, this.row⟩)
  obtain ⟨n, hn⟩ : ∃ n, n = L.length := ⟨_, rfl⟩
  rw [← hn] at c1 hil hl h1
  have i1 : (i : Int) < (n : Int) := by omega
  have i2 : (0 : Int) ≤ (i : Int) := by omega
  have i3 : (n : Int) ≤ 1000000 := by omega
  generalize old ++ bs = nb at *
  clear hpost R hp e1 e3 e4 hn
  conv => arg 2; whnf
  go_wp2
  go_region
  go_wp2
  exact E.out

theorem ins_post {w W w3 : World} {q room i : Nat} {L L' P : St} {v v3 : Value} {x bs : Bs} (hb : Below w.heap.size w W) (R : Rf W q room L v) (be : Below W.heap.size W w3) (o : w3.ownsRow W.heap.size 59 3 v3 L'.length (flat L')) (hset : L'.set i (x, [] ++ bs, 0) = P) :
    Rf (w3.setCell ⟨q, 1, none⟩ v3) q room L' v3 ∧ ∀ W', Kp (fun g => g = q ∨ v3.ownBlock = some g) (w3.setCell ⟨q, 1, none⟩ v3) W' → Rf W' q room (L'.set i (x, [] ++ bs, 0)) v3 → RTo w q room P v W' := by
  have hq := lt_some R.cells
  have hne : ∀ y, v3.ownBlock = some y → W.heap.size ≤ y := fun y hy => (row_block o hy).1
  refine ⟨⟨Pk.one_set (i := 1) (R.below be).cells v3, own3_mono (row_same o fun y hy => Below.heap_setCell _ _ _ _ (by have := hne y hy; show y ≠ q; omega)) (Nat.zero_le _)⟩, fun W' hk hR => ⟨v3, by rw [← hset]; exact hR, fun y hy => .inr (Nat.le_trans hb.size (hne y hy)), ?_⟩⟩
  have hs : (w3.setCell ⟨q, 1, none⟩ v3).heap.size = w3.heap.size := by simp [World.setCell]
  have h1 := hb.size
  have h2 := be.size
  refine ⟨hk.os.trans (be.os.trans hb.os), hk.tape.trans (be.tape.trans hb.tape), hk.output.trans (be.output.trans hb.output), by have := hk.size; omega, fun g hg hn => ?_⟩
  refine (hk.block g (by omega) (fun e => ?_)).trans ((Below.heap_setCell _ _ _ _ (fun e => hn (.inl e))).trans ((be.block g (by omega)).trans (hb.block g hg)))
  rcases e with e | e
  · exact hn (.inl e)
  · have := hne g e; omega

/-! ### Append -/
theorem quiet_same {P : Program} {f : FuncId} {args : Array Value} {w : World} {n : Nat} {v : Value} (h : Calls P f args (w.drewN n) fun e w' => e = .returned v ∧ w.drewN n = w') : Calls P f args (w.drewN n) fun e w'' => e = .returned v ∧ ∃ m, w'' = w.drewN m := h.mono fun _ _ ⟨he, hm⟩ => ⟨he, n, hm.symm⟩
set_option maxHeartbeats 3200000 in
set_option maxRecDepth 20000 in
theorem rappend (w : World) (q room : Nat) (L : St) (v : Value) (s : ByteArray) (bs : Bs) (R : Rf w q room L v) (hr : Rise L) (hl : L.length ≤ 900) (hu : used L ≤ room) (hm : room ≤ 1000000) (hbs : bs.length ≤ 1000) :
    Calls Tryz.prog 39 #[.pointer (some ⟨q, 0, none⟩), .string s, .string (str bs)] w fun e w' => e = .returned (.int .i64 (sApp room L (nm s) bs).1) ∧ RTo w q room (sApp room L (nm s) bs).2 v w' := by
  have G := rgood w s
  unfold sApp
  cases hg : good (nm s) with
  | false =>
    rw [if_pos rfl]
    rw [hg] at G
    replace G := Lib.hid G
    have RH := Lib.hid R
    clear hg R hr
    go_enter Tryz.func39, Tryz.ntmps39
    go_wp2_with fail
    refine G.out.mono ?_
    rintro e w1 ⟨rfl, rfl⟩
    go_wp2
    go_ret
    exact ⟨rfl, RTo.of_below RH.out (Below.refl _ _)⟩
  | true =>
    rw [if_neg (by simp)]
    rw [hg] at G
    replace G := Lib.hid G
    have c0 : w.cell? ⟨q, 0, none⟩ = some (.int .i64 room) := one_at (i := 0) R.cells
    have U : Hid (∀ d, Calls Tryz.prog 66 #[.pointer (some ⟨q, 0, none⟩)] (w.drewN d) fun e w' => e = .returned (.int .i64 (used L : Nat)) ∧ w.drewN d = w') := fun d => rused (w.drewN d) q room L v ⟨R.cells, R.row⟩ (by omega) (by omega)
    obtain ⟨u, hu'⟩ : ∃ u, u = used L := ⟨_, rfl⟩
    rw [← hu'] at U hu ⊢
    obtain ⟨t, ht⟩ : ∃ t, t = room - u := ⟨_, rfl⟩
    have ew : IntKind.i64.wrap ((room : Int) - (u : Int)) = (t : Int) := by rw [IntKind.wrap_i64]; omega
    have hsz := str_size bs
    obtain ⟨m, hmm⟩ : ∃ m, m = bs.length := ⟨_, rfl⟩
    rw [← hmm] at hsz ⊢
    rw [← ht]
    by_cases hfull : t < m
    · rw [if_pos hfull]
      have d0 : decide (t < m) = true := decide_eq_true hfull
      have RH := Lib.hid R
      clear hg R hr hu' ht hmm hfull hu hm hbs hl
      go_enter Tryz.func39, Tryz.ntmps39
      go_wp2_with fail
      refine G.out.mono ?_
      rintro e w1 ⟨rfl, rfl⟩
      go_wp2
      go_quiet ((go_at_call 66; exact quiet_same (U.out _)))
      go_wp2
      go_ret
      exact ⟨rfl, RTo.of_below RH.out ⟨rfl, rfl, rfl, Nat.le_refl _, fun _ _ => rfl⟩⟩
    · rw [if_neg hfull]
      have d0 : decide (t < m) = false := decide_eq_false hfull
      have AT : Hid (∀ d, Calls Tryz.prog 50 #[.pointer (some ⟨q, 0, none⟩), .string s] (w.drewN d) (RatTo (w.drewN d) (nm s) L)) := fun d => rat (w.drewN d) q room L v s ⟨R.cells, R.row⟩ hr (by omega)
      unfold RatTo at AT
      cases hk : look (nm s) L with
      | some a =>
        rw [hk] at AT
        have hp := pos_found hr hk
        have hput := put_some_ (b := (a.1 ++ bs, a.2)) hr hk
        have ha : a.1.length ≤ u := by rw [hu']; exact le_sum (fun a : Bs × Nat => a.1.length) (look_mem hk)
        obtain ⟨i, hi⟩ : ∃ i, i = pos (nm s) L := ⟨_, rfl⟩
        rw [← hi] at hp AT hput
        have RH := Lib.hid R
        have hadd := Lib.hid (fun w => str_add a.1 bs (by omega) w)
        replace AT := Lib.hid AT
        simp only [Option.elim]
        clear hg R hr hu' ht hmm hfull hu hm hbs hi hk ha
        go_enter Tryz.func39, Tryz.ntmps39
        go_wp2_with fail
        refine G.out.mono ?_
        rintro e w1 ⟨rfl, rfl⟩
        go_wp2
        go_quiet ((go_at_call 66; exact quiet_same (U.out _)))
        go_wp2_with fail
        refine (AT.out.out _).mono ?_
        rintro e w2 ⟨rfl, hb⟩
        simp only [Option.isSome]
        have R2 : Hid (Rf w2 q room L v) := Rf.below (show Rf (w.drewN nq) q room L v from ⟨RH.out.cells, RH.out.row⟩) hb
        have B2 : Hid (Below w.heap.size w w2) := (show Below w.heap.size w (w.drewN nq) from ⟨rfl, rfl, rfl, Nat.le_refl _, fun _ _ => rfl⟩).trans hb
        have PO : Hid (∀ W', Kp (fun g => g = q ∨ v.ownBlock = some g) w2 W' → Rf W' q room (L.set i (nm s, a.1 ++ bs, a.2)) v → RTo w q room (Dk.put (nm s) (a.1 ++ bs, a.2) L) v W') := fun W' hk hR => ⟨v, by rw [hput]; exact hR, fun _ h => .inl h, (Kp.of_below B2.out).trans' hk⟩
        clear hb AT U G RH c0 d0 ew hput
        go_upto_region 6 with fail
        rename_i K2 h2 K3 h3
        replace h2 := Lib.hid h2
        go_wp2
        exact h2.out _ _ (rapp8 _ _ _ _ _ _ _ _ _ _ _ _ _ _ _ _ _ _ _ _ _ _ _ _ _ _ _ _ _ _ _ _ _ _ _ _ _ _ _ _ _ _ _ _ _ _ _ _ _ _ _ _ _ _ _ _ _ _ _ _ _ _ _ _ _ _ w w2 q room i a.2 L v v (nm s) a.1 bs R2.out hp (by omega) hadd.out _ (fun W' hk hR => ⟨rfl, PO.out W' hk hR⟩))
      | none =>
        rw [hk] at AT
        have hput := put_none_ (b := (bs, 0)) hr hk
        obtain ⟨i, hi⟩ : ∃ i, i = pos (nm s) L := ⟨_, rfl⟩
        have hiL : i ≤ L.length := by rw [hi]; exact pos_le L
        rw [← hi] at AT hput
        have RH := Lib.hid R
        have hadd := Lib.hid (fun w => str_add [] bs (by simp; omega) w)
        replace AT := Lib.hid AT
        simp only [Option.elim, List.nil_append]
        have hb1 : Hid (bs.length ≤ 1000) := hbs
        clear hg R hr hu' ht hmm hfull hu hm hbs hi hk
        obtain ⟨L', hL'⟩ : ∃ z, z = L.take i ++ (nm s, [], 0) :: L.drop i := ⟨_, rfl⟩
        have hat' : L'[i]? = some (nm s, [], 0) := by
          rw [hL', List.getElem?_append_right (by rw [List.length_take]; omega), List.length_take, Nat.min_eq_left hiL, Nat.sub_self]
          rfl
        have hset : L'.set i (nm s, [] ++ bs, 0) = Dk.put (nm s) (bs, 0) L := by
          rw [hput, hL', List.set_append_right _ _ (by rw [List.length_take]; omega), List.length_take, Nat.min_eq_left hiL, Nat.sub_self]
          rfl
        have hlen' : L'.length = i + 1 + (L.length - i) := by
          rw [hL', List.length_append, List.length_cons, List.length_take, List.length_drop]
          omega
        replace hlen' := Lib.hid hlen'
        go_enter Tryz.func39, Tryz.ntmps39
        go_wp2_with fail
        refine G.out.mono ?_
        rintro e w1 ⟨rfl, rfl⟩
        go_wp2
        go_quiet ((go_at_call 66; exact quiet_same (U.out _)))
        go_wp2_with fail
        refine (AT.out.out _).mono ?_
        rintro e w2 ⟨rfl, hb⟩
        simp only [Option.isSome]
        have R2 : Hid (Rf w2 q room L v) := Rf.below (show Rf (w.drewN nq) q room L v from ⟨RH.out.cells, RH.out.row⟩) hb
        have B2 : Hid (Below w.heap.size w w2) := (show Below w.heap.size w (w.drewN nq) from ⟨rfl, rfl, rfl, Nat.le_refl _, fun _ _ => rfl⟩).trans hb
        clear hb AT U G RH c0 d0 ew hput
        go_upto_region 6 with fail
        rename_i K2 h2 K3 h3
        replace h2 := Lib.hid h2
        obtain ⟨A, c, rfl, _⟩ := row_form R2.out.row
        have hl' : Hid (L'.length ≤ 1000) := by unfold Hid; rw [hlen'.out]; omega
        replace hat' := Lib.hid hat'
        replace hset := Lib.hid hset
        have hl9 : Hid (L.length ≤ 900) := hl
        have hiL' : Hid (i ≤ L.length) := hiL
        go_wp2
        refine rapp7 _ _ _ _ _ _ _ _ _ _ _ _ _ _ _ _ _ _ _ _ _ _ _ _ _ _ _ _ _ _ _ _ _ _ _ _ _ _ _ _ _ _ _ _ _ _ _ _ _ _ _ _ _ _ _ _ _ _ _ _ _ _ _ _ _ _ w2 q room L.length c i A L s R2.out rfl hiL'.out hl9.out _ (fun _ _ d _ _ h => by cases d <;> exact h) (fun y30 y31 y32 y33 y34 y35 y36 y37 y38 y39 y40 y41 y42 y43 y44 y45 y46 y47 y48 y49 y50 y51 W3 A3 c3 hb3 o3 => ?_)
        have o4 : W3.ownsRow w2.heap.size 59 3 (.slice A3 (L.length + 1) c3) L'.length (flat L') := by
          have e : i + 1 + (L.length - i) = L.length + 1 := by have := hiL'.out; omega
          rw [hlen'.out, hL', e]
          exact o3
        have F3 := Lib.hid (ins_post (P := Dk.put (nm s) (bs, 0) L) (i := i) (x := nm s) (bs := bs) (L' := L') (v3 := .slice A3 (L.length + 1) c3) B2.out R2.out hb3 o4 hset.out)
        clear o4
        clear hb3 o3
        exact h2.out _ _ (rapp8 _ _ _ _ _ _ _ _ _ _ _ _ _ _ _ _ _ _ _ _ _ _ _ _ _ _ _ _ _ _ _ _ _ _ _ _ _ _ _ _ _ _ _ _ _ _ _ _ _ _ _ _ _ _ _ _ _ _ _ _ _ _ _ _ _ _ w2 _ q room i 0 L' _ (.slice A3 (L.length + 1) c3) (nm s) [] bs F3.out.1 hat'.out hl'.out hadd.out _ (fun W' hk hR => ⟨rfl, F3.out.2 W' hk hR⟩))
end Dk
end Go.Proofs.YtbolcapgocjgcaaGreatDoor

namespace Go.Proofs.YtbolcapgocjgcaaGreatDoor
open Go.RowKit
open Go.Proofs.YtbolcapgocjgcaaGreatDoor.Pk
namespace Dk
noncomputable def rren_13 : Code := (Tryz.f44.body.bind (regionAt 13)).getD .skip
set_option maxHeartbeats 3200000 in
set_option maxRecDepth 20000 in
theorem rren13 (z1 z2 z3 z4 z5 z6 z7 z8 z11 z12 z13 z14 z15 z16 z17 z18 z19 z20 z21 z22 z23 z24 z25 z26 z27 z28 z29 z30 z31 z32 z33 z34 z35 z36 z37 z38 z39 z40 z41 z42 z43 z44 z45 z46 z47 z48 z49 z50 z51 z52 z53 z54 z55 z56 z57 z58 z59 z60 z61 z62 z63 z64 z65 z66 z67 : Value) (W : World) (q room n c i b k : Nat) (A : Option Addr) (L : St) (x y : Bs) (R : Rf W q room L (.slice A n c)) (hbk : W.heap[b]? = some (.cells #[.string (str x), .string (str y), .int .i64 (k : Nat)] 59 (0, 0))) (hn : L.length = n) (hi : i ≤ n) (hl : n ≤ 900) (Q : Exit → Act → World → Prop)
    (hP : ∀ c a d v w, Q (.panic c) (Act.put a d v) w → Q (.panic c) a w)
    (hQ : ∀ (y47 y48 y49 y50 y51 y52 y53 y54 y55 y56 y57 y58 y59 y60 y61 y62 y63 y64 y65 y66 y67 : Value) (W3 : World) (A3 : Option Addr) (c3 : Nat), Below W.heap.size W W3 → W3.ownsRow W.heap.size 59 3 (.slice A3 (n + 1) c3) (n + 1) (flat (L.take i ++ (x, y, k) :: L.drop i)) → Q .normal ⟨#[.pointer (some ⟨q, 0, none⟩), z1, z2, z3, z4, z5, z6, z7, z8, .pointer (some ⟨b, 0, none⟩), .int .i64 (i : Nat), z11, z12, z13, z14, z15, z16, z17, z18, z19, z20, z21, z22, z23, z24, z25, z26, z27, z28, z29, z30, z31, z32, z33, z34, z35, z36, z37, z38, z39, z40, z41, z42, z43, z44, z45, z46, y47, y48, y49, y50, y51, y52, y53, y54, y55, y56, y57, y58, y59, y60, y61, y62, y63, y64, y65, y66, y67], []⟩ (W3.setCell ⟨q, 1, none⟩ (.slice A3 (n + 1) c3))) :
    Code.wp Tryz.prog rren_13 Q ⟨#[.pointer (some ⟨q, 0, none⟩), z1, z2, z3, z4, z5, z6, z7, z8, .pointer (some ⟨b, 0, none⟩), .int .i64 (i : Nat), z11, z12, z13, z14, z15, z16, z17, z18, z19, z20, z21, z22, z23, z24, z25, z26, z27, z28, z29, z30, z31, z32, z33, z34, z35, z36, z37, z38, z39, z40, z41, z42, z43, z44, z45, z46, z47, z48, z49, z50, z51, z52, z53, z54, z55, z56, z57, z58, z59, z60, z61, z62, z63, z64, z65, z66, z67], []⟩ W := by
  have R1 : Rf W.drew q room L (.slice A n c) := ⟨R.cells, R.row⟩
  have hBW : Below W.heap.size W W.drew := ⟨rfl, rfl, rfl, Nat.le_refl _, fun _ _ => rfl⟩
  have hsz : W.drew.heap.size = W.heap.size := rfl
  obtain ⟨hst, B, hsl, hsrc⟩ := R1.cuts hn hi
  have hi2 : (i : Int) ≤ (n : Int) := by omega
  have hi3 : (0 : Int) ≤ (i : Int) := by omega
  have hX : (L.take i).length = i := by rw [List.length_take]; omega
  have hn1 : i + 1 + (n - i) = n + 1 := by omega
  have hfc : (ent (x, y, k)).toArray = #[.string (str x), .string (str y), .int .i64 (k : Nat)] := rfl
  have hbk1 : W.drew.heap[b]? = some (.cells #[.string (str x), .string (str y), .int .i64 (k : Nat)] 59 (0, 0)) := hbk
  conv => arg 2; whnf
  refine wp_region_till (S := fun W' => W'.cell? ⟨q, 1, none⟩ = some (.slice A n c) ∧ W'.cell? ⟨b, 0, none⟩ = some (.string (str x)) ∧ W'.cell? ⟨b, 1, none⟩ = some (.string (str y)) ∧ W'.cell? ⟨b, 2, none⟩ = some (.int .i64 (k : Nat))) 21 (by kernel_rfl) (by kernel_rfl) ?_
  rw [← hsz] at hQ hBW
  generalize W.drew = W1 at *
  have KS : ∀ W', Below W1.heap.size W1 W' → W'.cell? ⟨q, 1, none⟩ = some (.slice A n c) ∧ W'.cell? ⟨b, 0, none⟩ = some (.string (str x)) ∧ W'.cell? ⟨b, 1, none⟩ = some (.string (str y)) ∧ W'.cell? ⟨b, 2, none⟩ = some (.int .i64 (k : Nat)) := fun W' hb => by
    have h := (hb.block b (lt_some hbk1)).trans hbk1
    exact ⟨one_at (i := 1) (R1.below hb).cells, one_at (i := 0) h, one_at (i := 1) h, one_at (i := 2) h⟩
  have hHeld := KS W1 (Below.refl _ _)
  obtain ⟨A1a, c1a, w1a, A2a, c2a, w2a, A3a, c3a, w3a, ha_⟩ := chain_a (c := c) (cc := c - i) (p := (x, y, k)) hX (by omega) (by omega) hsrc
  have r1a := ha_.r1
  have r2a := ha_.r2
  have r3a := ha_.r3
  have oa := ha_.row
  rw [hn1] at r3a oa
  obtain ⟨A1b, c1b, w1b, A2b, c2b, w2b, A3b, c3b, w3b, hb_⟩ := chain_b (c := c) (cc := c - i) (p := (x, y, k)) hX (by omega) (by omega) hsrc
  have r1b := hb_.r1
  have r2b := hb_.r2
  have r3b := hb_.r3
  have ob := hb_.row
  rw [hn1] at r3b ob
  obtain ⟨A1c, c1c, w1c, A2c, c2c, w2c, A3c, c3c, w3c, hc_⟩ := chain_c (c := c) (cc := c - i) (p := (x, y, k)) hX (by omega) (by omega) hsrc
  have r1c := hc_.r1
  have r2c := hc_.r2
  have r3c := hc_.r3
  have oc := hc_.row
  rw [hn1] at r3c oc
  rw [hfc] at r2a r1b r1c
  have SE : Below W1.heap.size W1 (W1.alloc (.cells #[] 59)) := (Below.refl _ _).alloc (Nat.le_refl _) _
  have SF : Below W1.heap.size W1 (W1.alloc (.cells #[.string (str x), .string (str y), .int .i64 (k : Nat)] 59)) := (Below.refl _ _).alloc (Nat.le_refl _) _
  have SEF : Below W1.heap.size W1 ((W1.alloc (.cells #[] 59)).alloc (.cells #[.string (str x), .string (str y), .int .i64 (k : Nat)] 59)) := SE.alloc SE.size _
  have SFE : Below W1.heap.size W1 ((W1.alloc (.cells #[.string (str x), .string (str y), .int .i64 (k : Nat)] 59)).alloc (.cells #[] 59)) := SF.alloc SF.size _
  have S1F : Below W1.heap.size W1 (w1a.alloc (.cells #[.string (str x), .string (str y), .int .i64 (k : Nat)] 59)) := ha_.b1.alloc ha_.b1.size _
  clear hsrc R hsz hbk
  refine' wpAnyH_take (i := 0) (oi := ?o1) (v := ?v1) ?hi1 (by kernel_rfl) (by kernel_rfl) (by kernel_rfl) (fun c a w h => hP c a _ _ w h) (Or.inl ⟨?hw1, ?hy1⟩) hHeld ?rest1
  case hi1 => simp only [List.getElem?_toArray, List.getElem?_cons_zero]; rfl
  case hw1 => rfl
  case hy1 =>
    intro w hSw
    go_simp
    try with_reducible rfl
  simp only [Act.put, List.setIfInBounds_toArray, List.set_cons_zero, List.set_cons_succ]
  refine' wpAnyH_take (i := 2) (oi := ?o2) (v := ?v2) ?hi2 (by kernel_rfl) (by kernel_rfl) (by kernel_rfl) (fun c a w h => hP c a _ _ w h) (Or.inl ⟨?hw2, ?hy2⟩) hHeld ?rest2
  case hi2 => simp only [List.getElem?_toArray, List.getElem?_cons_succ, List.getElem?_cons_zero]; rfl
  case hw2 => rfl
  case hy2 =>
    intro w hSw
    go_simp
    try with_reducible rfl
  simp only [Act.put, List.setIfInBounds_toArray, List.set_cons_zero, List.set_cons_succ]
  refine' wpAnyH_take (i := 3) (oi := ?o3) (v := ?v3) ?hi3 (by kernel_rfl) (by kernel_rfl) (by kernel_rfl) (fun c a w h => hP c a _ _ w h) (Or.inl ⟨?hw3, ?hy3⟩) hHeld ?rest3
  case hi3 => simp only [List.getElem?_toArray, List.getElem?_cons_succ, List.getElem?_cons_zero]; rfl
  case hw3 => rfl
  case hy3 =>
    intro w hSw
    go_simp
    try with_reducible rfl
  simp only [Act.put, List.setIfInBounds_toArray, List.set_cons_zero, List.set_cons_succ]
  refine' wpAnyH_take (i := 4) (oi := ?o4) (v := ?v4) ?hi4 (by kernel_rfl) (by kernel_rfl) (by kernel_rfl) (fun c a w h => hP c a _ _ w h) (Or.inl ⟨?hw4, ?hy4⟩) hHeld ?rest4
  case hi4 => simp only [List.getElem?_toArray, List.getElem?_cons_succ, List.getElem?_cons_zero]; rfl
  case hw4 => rfl
  case hy4 =>
    intro w hSw
    go_simp
    try with_reducible rfl
  simp only [Act.put, List.setIfInBounds_toArray, List.set_cons_zero, List.set_cons_succ]
  refine' wpAnyH_take (i := 5) (oi := ?o5) (v := ?v5) ?hi5 (by kernel_rfl) (by kernel_rfl) (by kernel_rfl) (fun c a w h => hP c a _ _ w h) (Or.inl ⟨?hw5, ?hy5⟩) hHeld ?rest5
  case hi5 => simp only [List.getElem?_toArray, List.getElem?_cons_succ, List.getElem?_cons_zero]; rfl
  case hw5 => rfl
  case hy5 =>
    intro w hSw
    obtain ⟨e1, e2, e3, e4⟩ := hSw
    go_simp
    try with_reducible rfl
  simp only [Act.put, List.setIfInBounds_toArray, List.set_cons_zero, List.set_cons_succ]
  refine' wpAnyH_take (i := 6) (oi := ?o6) (v := ?v6) ?hi6 (by kernel_rfl) (by kernel_rfl) (by kernel_rfl) (fun c a w h => hP c a _ _ w h) (Or.inl ⟨?hw6, ?hy6⟩) hHeld ?rest6
  case hi6 => simp only [List.getElem?_toArray, List.getElem?_cons_succ, List.getElem?_cons_zero]; rfl
  case hw6 => rfl
  case hy6 =>
    intro w hSw
    go_simp
    try with_reducible rfl
  simp only [Act.put, List.setIfInBounds_toArray, List.set_cons_zero, List.set_cons_succ]
  refine' wpAnyH_take (i := 7) (oi := ?o7) (v := ?v7) ?hi7 (by kernel_rfl) (by kernel_rfl) (by kernel_rfl) (fun c a w h => hP c a _ _ w h) (Or.inl ⟨?hw7, ?hy7⟩) hHeld ?rest7
  case hi7 => simp only [List.getElem?_toArray, List.getElem?_cons_succ, List.getElem?_cons_zero]; rfl
  case hw7 => rfl
  case hy7 =>
    intro w hSw
    go_simp
    try with_reducible rfl
  simp only [Act.put, List.setIfInBounds_toArray, List.set_cons_zero, List.set_cons_succ]
  refine' wpAnyH_take (i := 9) (oi := ?o8) (v := ?v8) ?hi8 (by kernel_rfl) (by kernel_rfl) (by kernel_rfl) (fun c a w h => hP c a _ _ w h) (Or.inl ⟨?hw8, ?hy8⟩) hHeld ?rest8
  case hi8 => simp only [List.getElem?_toArray, List.getElem?_cons_succ, List.getElem?_cons_zero]; rfl
  case hw8 => rfl
  case hy8 =>
    intro w hSw
    obtain ⟨e1, e2, e3, e4⟩ := hSw
    go_simp
    try with_reducible rfl
  simp only [Act.put, List.setIfInBounds_toArray, List.set_cons_zero, List.set_cons_succ]
  refine' wpAnyH_take (i := 12) (oi := ?o9) (v := ?v9) ?hi9 (by kernel_rfl) (by kernel_rfl) (by kernel_rfl) (fun c a w h => hP c a _ _ w h) (Or.inl ⟨?hw9, ?hy9⟩) hHeld ?rest9
  case hi9 => simp only [List.getElem?_toArray, List.getElem?_cons_succ, List.getElem?_cons_zero]; rfl
  case hw9 => rfl
  case hy9 =>
    intro w hSw
    go_simp
    try with_reducible rfl
  simp only [Act.put, List.setIfInBounds_toArray, List.set_cons_zero, List.set_cons_succ]
  refine' wpAnyH_take (i := 13) (oi := ?o10) (v := ?v10) ?hi10 (by kernel_rfl) (by kernel_rfl) (by kernel_rfl) (fun c a w h => hP c a _ _ w h) (Or.inl ⟨?hw10, ?hy10⟩) hHeld ?rest10
  case hi10 => simp only [List.getElem?_toArray, List.getElem?_cons_succ, List.getElem?_cons_zero]; rfl
  case hw10 => rfl
  case hy10 =>
    intro w hSw
    go_simp
    try with_reducible rfl
  simp only [Act.put, List.setIfInBounds_toArray, List.set_cons_zero, List.set_cons_succ]
  refine' wpAnyH_take (i := 14) (oi := ?o11) (v := ?v11) ?hi11 (by kernel_rfl) (by kernel_rfl) (by kernel_rfl) (fun c a w h => hP c a _ _ w h) (Or.inl ⟨?hw11, ?hy11⟩) hHeld ?rest11
  case hi11 => simp only [List.getElem?_toArray, List.getElem?_cons_succ, List.getElem?_cons_zero]; rfl
  case hw11 => rfl
  case hy11 =>
    intro w hSw
    go_simp
    try with_reducible rfl
  simp only [Act.put, List.setIfInBounds_toArray, List.set_cons_zero, List.set_cons_succ]
  refine' wpAnyH_take (i := 15) (oi := ?o12) (v := ?v12) ?hi12 (by kernel_rfl) (by kernel_rfl) (by kernel_rfl) (fun c a w h => hP c a _ _ w h) (Or.inl ⟨?hw12, ?hy12⟩) hHeld ?rest12
  case hi12 => simp only [List.getElem?_toArray, List.getElem?_cons_succ, List.getElem?_cons_zero]; rfl
  case hw12 => rfl
  case hy12 =>
    intro w hSw
    obtain ⟨e1, e2, e3, e4⟩ := hSw
    go_simp
    try with_reducible rfl
  simp only [Act.put, List.setIfInBounds_toArray, List.set_cons_zero, List.set_cons_succ]
  refine' wpAnyH_take (i := 16) (oi := ?o13) (v := ?v13) ?hi13 (by kernel_rfl) (by kernel_rfl) (by kernel_rfl) (fun c a w h => hP c a _ _ w h) (Or.inl ⟨?hw13, ?hy13⟩) hHeld ?rest13
  case hi13 => simp only [List.getElem?_toArray, List.getElem?_cons_succ, List.getElem?_cons_zero]; rfl
  case hw13 => rfl
  case hy13 =>
    intro w hSw
    go_simp
    try with_reducible rfl
  simp only [Act.put, List.setIfInBounds_toArray, List.set_cons_zero, List.set_cons_succ]
  refine' wpAnyH_take (i := 17) (oi := ?o14) (v := ?v14) ?hi14 (by kernel_rfl) (by kernel_rfl) (by kernel_rfl) (fun c a w h => hP c a _ _ w h) (Or.inl ⟨?hw14, ?hy14⟩) hHeld ?rest14
  case hi14 => simp only [List.getElem?_toArray, List.getElem?_cons_succ, List.getElem?_cons_zero]; rfl
  case hw14 => rfl
  case hy14 =>
    intro w hSw
    go_simp
    try with_reducible rfl
  simp only [Act.put, List.setIfInBounds_toArray, List.set_cons_zero, List.set_cons_succ]
  refine wpAnyH_ready (rs := [1, 10]) (by kernel_rfl) (by simp) ?_
  refine' AllReadyH.cons (i := 1) (o := ?o15) ?hi15 (fun K hK => ?st15) ?mo15
  case hi15 => simp only [List.getElem?_toArray, List.getElem?_cons_succ, List.getElem?_cons_zero]; rfl
  case st15 =>
    go_simp
    refine hK.out _ _ (KS _ SE) (fun hHeld => ?_)
    clear hK K
    try simp only [Act.put, List.setIfInBounds_toArray, List.set_cons_zero, List.set_cons_succ]
    refine wpAnyH_ready (rs := [8, 10]) (by kernel_rfl) (by simp) ?_
    refine' AllReadyH.cons (i := 8) (o := ?o16) ?hi16 (fun K hK => ?st16) ?mo16
    case hi16 => simp only [List.getElem?_toArray, List.getElem?_cons_succ, List.getElem?_cons_zero]; rfl
    case st16 =>
      refine step_run_append rfl (.tmp 48) (.tmp 54) rfl rfl (.slice (some ⟨W1.heap.size, 0, none⟩) 0 0) (.slice A i c) rfl rfl r1a ?_
      refine hK.out _ _ (KS _ ha_.b1) (fun hHeld => ?_)
      clear hK K
      try simp only [Act.put, List.setIfInBounds_toArray, List.set_cons_zero, List.set_cons_succ]
      refine wpAnyH_ready (rs := [10]) (by kernel_rfl) (by simp) ?_
      refine' AllReadyH.cons (i := 10) (o := ?o17) ?hi17 (fun K hK => ?st17) ?mo17
      case hi17 => simp only [List.getElem?_toArray, List.getElem?_cons_succ, List.getElem?_cons_zero]; rfl
      case st17 =>
        go_simp
        refine hK.out _ _ (KS _ S1F) (fun hHeld => ?_)
        clear hK K
        try simp only [Act.put, List.setIfInBounds_toArray, List.set_cons_zero, List.set_cons_succ]
        refine wpAnyH_ready (rs := [11]) (by kernel_rfl) (by simp) ?_
        refine' AllReadyH.cons (i := 11) (o := ?o18) ?hi18 (fun K hK => ?st18) ?mo18
        case hi18 => simp only [List.getElem?_toArray, List.getElem?_cons_succ, List.getElem?_cons_zero]; rfl
        case st18 =>
          refine step_run_append rfl (.tmp 55) (.tmp 57) rfl rfl (.slice A1a i c1a) (.slice (some ⟨w1a.heap.size, 0, none⟩) 1 1) rfl rfl r2a ?_
          refine hK.out _ _ (KS _ ha_.b2) (fun hHeld => ?_)
          clear hK K
          try simp only [Act.put, List.setIfInBounds_toArray, List.set_cons_zero, List.set_cons_succ]
          refine wpAnyH_ready (rs := [18]) (by kernel_rfl) (by simp) ?_
          refine' AllReadyH.cons (i := 18) (o := ?o19) ?hi19 (fun K hK => ?st19) ?mo19
          case hi19 => simp only [List.getElem?_toArray, List.getElem?_cons_succ, List.getElem?_cons_zero]; rfl
          case st19 =>
            refine step_run_append rfl (.tmp 58) (.tmp 64) rfl rfl (.slice A2a (i + 1) c2a) (.slice B (n - i) (c - i)) rfl rfl r3a ?_
            refine hK.out _ _ (KS _ ha_.b3) (fun hHeld => ?_)
            clear hK K
            try simp only [Act.put, List.setIfInBounds_toArray, List.set_cons_zero, List.set_cons_succ]
            refine' wpAnyH_take (i := 19) (oi := ?o20) (v := ?v20) ?hi20 (by kernel_rfl) (by kernel_rfl) (by kernel_rfl) (fun c a w h => hP c a _ _ w h) (Or.inl ⟨?hw20, ?hy20⟩) hHeld ?rest20
            case hi20 => simp only [List.getElem?_toArray, List.getElem?_cons_succ, List.getElem?_cons_zero]; rfl
            case hw20 => rfl
            case hy20 =>
              intro w hSw
              obtain ⟨e1, e2, e3, e4⟩ := hSw
              go_simp
              try with_reducible rfl
            simp only [Act.put, List.setIfInBounds_toArray, List.set_cons_zero, List.set_cons_succ]
            refine' wpAnyH_take (i := 20) (oi := ?o21) (v := ?v21) ?hi21 (by kernel_rfl) (by kernel_rfl) (by kernel_rfl) (fun c a w h => hP c a _ _ w h) (Or.inl ⟨?hw21, ?hy21⟩) hHeld ?rest21
            case hi21 => simp only [List.getElem?_toArray, List.getElem?_cons_succ, List.getElem?_cons_zero]; rfl
            case hw21 => rfl
            case hy21 =>
              intro w hSw
              obtain ⟨e1, e2, e3, e4⟩ := hSw
              go_simp
              try with_reducible rfl
            simp only [Act.put, List.setIfInBounds_toArray, List.set_cons_zero, List.set_cons_succ]
            refine wpAnyH_done (by kernel_rfl) ?_ _
            refine tillQ_normal ?_
            refine' wpOp_step (i := 21) (o := ?o22) ?hi22 (fun K hK => ?_)
            case hi22 => simp only [List.getElem?_toArray, List.getElem?_cons_succ, List.getElem?_cons_zero]; rfl
            have d3 : w3a.cell? ⟨q, 1, none⟩ = some (.slice A n c) := one_at (i := 1) (R1.below ha_.b3).cells
            have f3 : w3a.frozen? ⟨q, 1, none⟩ = false := one_free (R1.below ha_.b3).cells
            go_simp
            refine hK _ _ ?_
            exact hQ _ _ _ _ _ _ _ _ _ _ _ _ _ _ _ _ _ _ _ _ _ w3a A3a c3a (hBW.trans ha_.b3) oa
          case mo19 => exact AllReadyH.nil
        case mo18 => exact AllReadyH.nil
      case mo17 => exact AllReadyH.nil
    case mo16 =>
      refine' AllReadyH.cons (i := 10) (o := ?o23) ?hi23 (fun K hK => ?st23) ?mo23
      case hi23 => simp only [List.getElem?_toArray, List.getElem?_cons_succ, List.getElem?_cons_zero]; rfl
      case st23 =>
        go_simp
        refine hK.out _ _ (KS _ SEF) (fun hHeld => ?_)
        clear hK K
        try simp only [Act.put, List.setIfInBounds_toArray, List.set_cons_zero, List.set_cons_succ]
        refine wpAnyH_ready (rs := [8]) (by kernel_rfl) (by simp) ?_
        refine' AllReadyH.cons (i := 8) (o := ?o24) ?hi24 (fun K hK => ?st24) ?mo24
        case hi24 => simp only [List.getElem?_toArray, List.getElem?_cons_succ, List.getElem?_cons_zero]; rfl
        case st24 =>
          refine step_run_append rfl (.tmp 48) (.tmp 54) rfl rfl (.slice (some ⟨W1.heap.size, 0, none⟩) 0 0) (.slice A i c) rfl rfl r1b ?_
          refine hK.out _ _ (KS _ hb_.b1) (fun hHeld => ?_)
          clear hK K
          try simp only [Act.put, List.setIfInBounds_toArray, List.set_cons_zero, List.set_cons_succ]
          refine wpAnyH_ready (rs := [11]) (by kernel_rfl) (by simp) ?_
          refine' AllReadyH.cons (i := 11) (o := ?o25) ?hi25 (fun K hK => ?st25) ?mo25
          case hi25 => simp only [List.getElem?_toArray, List.getElem?_cons_succ, List.getElem?_cons_zero]; rfl
          case st25 =>
            refine step_run_append rfl (.tmp 55) (.tmp 57) rfl rfl (.slice A1b i c1b) (.slice (some ⟨W1.heap.size + 1, 0, none⟩) 1 1) rfl rfl r2b ?_
            refine hK.out _ _ (KS _ hb_.b2) (fun hHeld => ?_)
            clear hK K
            try simp only [Act.put, List.setIfInBounds_toArray, List.set_cons_zero, List.set_cons_succ]
            refine wpAnyH_ready (rs := [18]) (by kernel_rfl) (by simp) ?_
            refine' AllReadyH.cons (i := 18) (o := ?o26) ?hi26 (fun K hK => ?st26) ?mo26
            case hi26 => simp only [List.getElem?_toArray, List.getElem?_cons_succ, List.getElem?_cons_zero]; rfl
            case st26 =>
              refine step_run_append rfl (.tmp 58) (.tmp 64) rfl rfl (.slice A2b (i + 1) c2b) (.slice B (n - i) (c - i)) rfl rfl r3b ?_
              refine hK.out _ _ (KS _ hb_.b3) (fun hHeld => ?_)
              clear hK K
              try simp only [Act.put, List.setIfInBounds_toArray, List.set_cons_zero, List.set_cons_succ]
              refine' wpAnyH_take (i := 19) (oi := ?o27) (v := ?v27) ?hi27 (by kernel_rfl) (by kernel_rfl) (by kernel_rfl) (fun c a w h => hP c a _ _ w h) (Or.inl ⟨?hw27, ?hy27⟩) hHeld ?rest27
              case hi27 => simp only [List.getElem?_toArray, List.getElem?_cons_succ, List.getElem?_cons_zero]; rfl
              case hw27 => rfl
              case hy27 =>
                intro w hSw
                obtain ⟨e1, e2, e3, e4⟩ := hSw
                go_simp
                try with_reducible rfl
              simp only [Act.put, List.setIfInBounds_toArray, List.set_cons_zero, List.set_cons_succ]
              refine' wpAnyH_take (i := 20) (oi := ?o28) (v := ?v28) ?hi28 (by kernel_rfl) (by kernel_rfl) (by kernel_rfl) (fun c a w h => hP c a _ _ w h) (Or.inl ⟨?hw28, ?hy28⟩) hHeld ?rest28
              case hi28 => simp only [List.getElem?_toArray, List.getElem?_cons_succ, List.getElem?_cons_zero]; rfl
              case hw28 => rfl
              case hy28 =>
                intro w hSw
                obtain ⟨e1, e2, e3, e4⟩ := hSw
                go_simp
                try with_reducible rfl
              simp only [Act.put, List.setIfInBounds_toArray, List.set_cons_zero, List.set_cons_succ]
              refine wpAnyH_done (by kernel_rfl) ?_ _
              refine tillQ_normal ?_
              refine' wpOp_step (i := 21) (o := ?o29) ?hi29 (fun K hK => ?_)
              case hi29 => simp only [List.getElem?_toArray, List.getElem?_cons_succ, List.getElem?_cons_zero]; rfl
              have d3 : w3b.cell? ⟨q, 1, none⟩ = some (.slice A n c) := one_at (i := 1) (R1.below hb_.b3).cells
              have f3 : w3b.frozen? ⟨q, 1, none⟩ = false := one_free (R1.below hb_.b3).cells
              go_simp
              refine hK _ _ ?_
              exact hQ _ _ _ _ _ _ _ _ _ _ _ _ _ _ _ _ _ _ _ _ _ w3b A3b c3b (hBW.trans hb_.b3) ob
            case mo26 => exact AllReadyH.nil
          case mo25 => exact AllReadyH.nil
        case mo24 => exact AllReadyH.nil
      case mo23 => exact AllReadyH.nil
  case mo15 =>
    refine' AllReadyH.cons (i := 10) (o := ?o30) ?hi30 (fun K hK => ?st30) ?mo30
    case hi30 => simp only [List.getElem?_toArray, List.getElem?_cons_succ, List.getElem?_cons_zero]; rfl
    case st30 =>
      go_simp
      refine hK.out _ _ (KS _ SF) (fun hHeld => ?_)
      clear hK K
      try simp only [Act.put, List.setIfInBounds_toArray, List.set_cons_zero, List.set_cons_succ]
      refine wpAnyH_ready (rs := [1]) (by kernel_rfl) (by simp) ?_
      refine' AllReadyH.cons (i := 1) (o := ?o31) ?hi31 (fun K hK => ?st31) ?mo31
      case hi31 => simp only [List.getElem?_toArray, List.getElem?_cons_succ, List.getElem?_cons_zero]; rfl
      case st31 =>
        go_simp
        refine hK.out _ _ (KS _ SFE) (fun hHeld => ?_)
        clear hK K
        try simp only [Act.put, List.setIfInBounds_toArray, List.set_cons_zero, List.set_cons_succ]
        refine wpAnyH_ready (rs := [8]) (by kernel_rfl) (by simp) ?_
        refine' AllReadyH.cons (i := 8) (o := ?o32) ?hi32 (fun K hK => ?st32) ?mo32
        case hi32 => simp only [List.getElem?_toArray, List.getElem?_cons_succ, List.getElem?_cons_zero]; rfl
        case st32 =>
          refine step_run_append rfl (.tmp 48) (.tmp 54) rfl rfl (.slice (some ⟨W1.heap.size + 1, 0, none⟩) 0 0) (.slice A i c) rfl rfl r1c ?_
          refine hK.out _ _ (KS _ hc_.b1) (fun hHeld => ?_)
          clear hK K
          try simp only [Act.put, List.setIfInBounds_toArray, List.set_cons_zero, List.set_cons_succ]
          refine wpAnyH_ready (rs := [11]) (by kernel_rfl) (by simp) ?_
          refine' AllReadyH.cons (i := 11) (o := ?o33) ?hi33 (fun K hK => ?st33) ?mo33
          case hi33 => simp only [List.getElem?_toArray, List.getElem?_cons_succ, List.getElem?_cons_zero]; rfl
          case st33 =>
            refine step_run_append rfl (.tmp 55) (.tmp 57) rfl rfl (.slice A1c i c1c) (.slice (some ⟨W1.heap.size, 0, none⟩) 1 1) rfl rfl r2c ?_
            refine hK.out _ _ (KS _ hc_.b2) (fun hHeld => ?_)
            clear hK K
            try simp only [Act.put, List.setIfInBounds_toArray, List.set_cons_zero, List.set_cons_succ]
            refine wpAnyH_ready (rs := [18]) (by kernel_rfl) (by simp) ?_
            refine' AllReadyH.cons (i := 18) (o := ?o34) ?hi34 (fun K hK => ?st34) ?mo34
            case hi34 => simp only [List.getElem?_toArray, List.getElem?_cons_succ, List.getElem?_cons_zero]; rfl
            case st34 =>
              refine step_run_append rfl (.tmp 58) (.tmp 64) rfl rfl (.slice A2c (i + 1) c2c) (.slice B (n - i) (c - i)) rfl rfl r3c ?_
              refine hK.out _ _ (KS _ hc_.b3) (fun hHeld => ?_)
              clear hK K
              try simp only [Act.put, List.setIfInBounds_toArray, List.set_cons_zero, List.set_cons_succ]
              refine' wpAnyH_take (i := 19) (oi := ?o35) (v := ?v35) ?hi35 (by kernel_rfl) (by kernel_rfl) (by kernel_rfl) (fun c a w h => hP c a _ _ w h) (Or.inl ⟨?hw35, ?hy35⟩) hHeld ?rest35
              case hi35 => simp only [List.getElem?_toArray, List.getElem?_cons_succ, List.getElem?_cons_zero]; rfl
              case hw35 => rfl
              case hy35 =>
                intro w hSw
                obtain ⟨e1, e2, e3, e4⟩ := hSw
                go_simp
                try with_reducible rfl
              simp only [Act.put, List.setIfInBounds_toArray, List.set_cons_zero, List.set_cons_succ]
              refine' wpAnyH_take (i := 20) (oi := ?o36) (v := ?v36) ?hi36 (by kernel_rfl) (by kernel_rfl) (by kernel_rfl) (fun c a w h => hP c a _ _ w h) (Or.inl ⟨?hw36, ?hy36⟩) hHeld ?rest36
              case hi36 => simp only [List.getElem?_toArray, List.getElem?_cons_succ, List.getElem?_cons_zero]; rfl
              case hw36 => rfl
              case hy36 =>
                intro w hSw
                obtain ⟨e1, e2, e3, e4⟩ := hSw
                go_simp
                try with_reducible rfl
              simp only [Act.put, List.setIfInBounds_toArray, List.set_cons_zero, List.set_cons_succ]
              refine wpAnyH_done (by kernel_rfl) ?_ _
              refine tillQ_normal ?_
              refine' wpOp_step (i := 21) (o := ?o37) ?hi37 (fun K hK => ?_)
              case hi37 => simp only [List.getElem?_toArray, List.getElem?_cons_succ, List.getElem?_cons_zero]; rfl
              have d3 : w3c.cell? ⟨q, 1, none⟩ = some (.slice A n c) := one_at (i := 1) (R1.below hc_.b3).cells
              have f3 : w3c.frozen? ⟨q, 1, none⟩ = false := one_free (R1.below hc_.b3).cells
              go_simp
              refine hK _ _ ?_
              exact hQ _ _ _ _ _ _ _ _ _ _ _ _ _ _ _ _ _ _ _ _ _ w3c A3c c3c (hBW.trans hc_.b3) oc
            case mo34 => exact AllReadyH.nil
          case mo33 => exact AllReadyH.nil
        case mo32 => exact AllReadyH.nil
      case mo31 => exact AllReadyH.nil
    case mo30 => exact AllReadyH.nil
end Dk
end Go.Proofs.YtbolcapgocjgcaaGreatDoor

namespace Go.Proofs.YtbolcapgocjgcaaGreatDoor
open Go.RowKit
open Go.WideAt (bytes_total)
open Go.Proofs.YtbolcapgocjgcaaGreatDoor.Pk
namespace Dk

section
variable {α : Type} {n : Bs}
theorem put_del_ : ∀ {L : List (Bs × α)} {a b : α}, Rise L → look n L = some b → put n a (del n L) = put n a L
  | q :: r, a, b, h, e => by
    obtain ⟨h1, h2⟩ := List.pairwise_cons.1 h
    unfold look at e
    split at e
    · rename_i hq
      have e1 : del n (q :: r) = del n r := by simp [del, hq]
      have e2 : del n r = r := by
        unfold del
        rw [List.filter_eq_self]
        intro p hp
        have := bb_ne (h1 p hp)
        rw [hq] at this
        simp [this.symm]
      have e3 : put n a (q :: r) = (n, a) :: r := by
        conv => lhs; unfold put
        rw [if_pos hq]
      rw [e1, e2, e3]
      cases r with
      | nil => rfl
      | cons p r' =>
        have hp := h1 p (by simp)
        rw [hq] at hp
        unfold put
        rw [if_neg (bb_ne hp).symm, if_pos hp]
    · rename_i hq
      have hb := h1 _ (look_mem e)
      have e1 : del n (q :: r) = q :: del n r := by simp [del, hq]
      rw [e1]
      unfold put
      rw [if_neg hq, if_neg hq, if_neg (by rw [bb_asym hb]; simp), if_neg (by rw [bb_asym hb]; simp), put_del_ h2 e]
theorem put_same {L : List (Bs × α)} {a : α} (h : Rise L) (e : look n L = some a) : put n a L = L := by
  rw [put_some_ h e]
  have hp := pos_found h e
  obtain ⟨hl, he⟩ := List.getElem?_eq_some_iff.1 hp
  rw [← he]
  exact List.set_getElem_self hl
end
theorem Kp.step {S S' : Nat → Prop} {w w1 w2 : World} (h : Kp S w w1) (k : Kp S' w1 w2) (hs : ∀ g, S' g → S g ∨ w.heap.size ≤ g) : Kp S w w2 :=
  ⟨k.os.trans h.os, k.tape.trans h.tape, k.output.trans h.output, Nat.le_trans h.size k.size, fun g hg hn =>
    (k.block g (Nat.lt_of_lt_of_le hg h.size) (fun e => by
      rcases hs g e with e | e
      · exact hn e
      · omega)).trans (h.block g hg hn)⟩
/-- The files are in a new row. -/
theorem RTo.fresh {w W w3 : World} {q room : Nat} {L2 P : St} {v v3 v4 : Value} (hk : Kp (fun g => g = q ∨ v.ownBlock = some g) w W) (R : Rf W q room L2 v4) (be : Below W.heap.size W w3) (o : w3.ownsRow W.heap.size 59 3 v3 P.length (flat P)) : RTo w q room P v (w3.setCell ⟨q, 1, none⟩ v3) := by
  have hq := lt_some R.cells
  have hne : ∀ y, v3.ownBlock = some y → W.heap.size ≤ y := fun y hy => (row_block o hy).1
  refine ⟨v3, ⟨Pk.one_set (i := 1) (R.below be).cells v3, own3_mono (row_same o fun y hy => Below.heap_setCell _ _ _ _ (by have := hne y hy; show y ≠ q; omega)) (Nat.zero_le _)⟩, fun y hy => .inr (Nat.le_trans hk.size (hne y hy)), ?_⟩
  exact (hk.step (Kp.of_below (S := fun _ => False) be) (fun g e => e.elim)).step (Kp.of_grown (grown_set w3 q _ _) (S := fun g => g = q) (fun x hx => by injection hx with hx; exact hx.symm)) (fun g e => .inl (.inl e))
theorem sRem_snd (L : St) (m : Bs) : (sRem L m).2 = del m L := by
  unfold sRem
  cases h : look m L with
  | none => exact (del_none_ h).symm
  | some a => rfl
theorem sRen_eq {L : St} {n m : Bs} {a : Bs × Nat} (h : Rise L) (_e : look n L = some a) : put m a (del n L) = (del m (del n L)).take (pos m (del m (del n L))) ++ (m, a) :: (del m (del n L)).drop (pos m (del m (del n L))) := by
  have h1 := rise_del h n
  rw [← put_none_ (rise_del h1 m) (look_del_same m _)]
  cases h2 : look m (del n L) with
  | none => rw [del_none_ h2]
  | some b => exact (put_del_ h1 h2).symm
theorem sRen_self {L : St} {n : Bs} {a : Bs × Nat} (h : Rise L) (e : look n L = some a) : put n a (del n L) = L := (put_del_ h e).trans (put_same h e)

set_option maxHeartbeats 1600000 in
set_option maxRecDepth 20000 in
theorem rrename (w : World) (q room : Nat) (L : St) (v : Value) (s t : ByteArray) (R : Rf w q room L v) (hr : Rise L) (hl : L.length ≤ 900) :
    Calls Tryz.prog 44 #[.pointer (some ⟨q, 0, none⟩), .string s, .string t] w fun e w' => e = .returned (.int .i64 (sRen L (nm s) (nm t)).1) ∧ RTo w q room (sRen L (nm s) (nm t)).2 v w' := by
  have AT := rat w q room L v s R hr (by omega)
  unfold RatTo at AT
  unfold sRen
  have G : Hid (∀ W, Calls Tryz.prog 65 #[.string t] W fun e w' => e = .returned (.bool (good (nm t))) ∧ W = w') := fun W => rgood W t
  cases hk : look (nm s) L with
  | none =>
    rw [hk] at AT
    replace AT := Lib.hid AT
    simp only [Option.elim]
    have RH := Lib.hid R
    clear hk hr R G
    go_enter Tryz.func44, Tryz.ntmps44
    go_wp2_with fail
    refine AT.out.mono ?_
    rintro e w1 ⟨rfl, hb⟩
    simp only [Option.isSome]
    replace hb := Lib.hid hb
    clear AT
    go_wp2
    go_ret
    exact ⟨rfl, RTo.of_below RH.out hb.out⟩
  | some a =>
    rw [hk] at AT
    have hp := pos_found hr hk
    obtain ⟨i, hi⟩ : ∃ i, i = pos (nm s) L := ⟨_, rfl⟩
    rw [← hi] at hp AT
    simp only [Option.elim]
    replace AT := Lib.hid AT
    cases hg : good (nm t) with
    | false =>
      rw [if_pos rfl]
      rw [hg] at G
      have RH := Lib.hid R
      clear hk hr R hp hi hg
      go_enter Tryz.func44, Tryz.ntmps44
      go_wp2_with fail
      refine AT.out.mono ?_
      rintro e w1 ⟨rfl, hb⟩
      simp only [Option.isSome]
      replace hb := Lib.hid hb
      clear AT
      go_wp2_with fail
      refine (G.out _).mono ?_
      rintro e w2 ⟨rfl, rfl⟩
      clear G
      go_wp2
      go_ret
      exact ⟨rfl, RTo.of_below RH.out hb.out⟩
    | true =>
      rw [if_neg (by simp)]
      rw [hg] at G
      have RH := Lib.hid R
      have ts : s.toList = nm s := nm_toList s
      have tt : t.toList = nm t := nm_toList t
      by_cases hst : nm s = nm t
      · have hq : (nm s == nm t) = true := by simp [hst]
        have hself := sRen_self hr hk
        rw [hst] at hself
        rw [hst, hself]
        clear hk hr R hp hi hg hst hself
        generalize nm s = x at *
        generalize nm t = y at *
        go_enter Tryz.func44, Tryz.ntmps44
        go_wp2_with fail
        refine AT.out.mono ?_
        rintro e w1 ⟨rfl, hb⟩
        simp only [Option.isSome]
        replace hb := Lib.hid hb
        clear AT
        go_wp2_with fail
        refine (G.out _).mono ?_
        rintro e w2 ⟨rfl, rfl⟩
        clear G
        go_wp2
        go_ret
        exact ⟨rfl, RTo.of_below RH.out hb.out⟩
      · have hq : (nm s == nm t) = false := by simpa using hst
        obtain ⟨g, c, rfl, h1, h2, _⟩ := R.file hp
        have hil : i < L.length := (List.getElem?_eq_some_iff.1 hp).1
        have CC : Hid (∀ w1 : World, Below w.heap.size w w1 → w1.cell? ⟨q, 1, none⟩ = some (.slice (some ⟨g, 0, none⟩) L.length c) ∧ w1.cell? ⟨g, i * 3, none⟩ = some (.string (str (nm s))) ∧ w1.cell? ⟨g, i * 3 + 1, none⟩ = some (.string (str a.1)) ∧ w1.cell? ⟨g, i * 3 + 2, none⟩ = some (.int .i64 (a.2 : Nat))) := fun w1 hb => by
          obtain ⟨g', c', e0, _, _, e1, e2, e3, _⟩ := (R.below hb).file hp
          injection e0 with eA _ _
          injection eA with eA
          injection eA with eA _
          subst eA
          exact ⟨one_at (i := 1) (R.below hb).cells, e1, e2, e3⟩
        have PO : Hid (∀ w', RTo w q room ((del (nm t) (del (nm s) L)).take (pos (nm t) (del (nm t) (del (nm s) L))) ++ (nm t, a) :: (del (nm t) (del (nm s) L)).drop (pos (nm t) (del (nm t) (del (nm s) L)))) (.slice (some ⟨g, 0, none⟩) L.length c) w' → RTo w q room (Dk.put (nm t) a (del (nm s) L)) (.slice (some ⟨g, 0, none⟩) L.length c) w') := fun w' h => by rw [sRen_eq hr hk]; exact h
        obtain ⟨n, hn⟩ : ∃ n, n = L.length := ⟨_, rfl⟩
        rw [← hn] at CC hil h1
        have i1 : (i : Int) < (n : Int) := by omega
        have i2 : (0 : Int) ≤ (i : Int) := by omega
        have i3 : (n : Int) ≤ 1000000 := by omega
        generalize hL2 : del (nm t) (del (nm s) L) = L2 at *
        clear hp hi hg hst
        replace hn := Lib.hid hn
        go_enter Tryz.func44, Tryz.ntmps44
        go_wp2_with fail
        refine AT.out.mono ?_
        rintro e w1 ⟨rfl, hb⟩
        simp only [Option.isSome]
        obtain ⟨c1, c2, c3, c4⟩ := CC.out w1 hb
        replace hb := Lib.hid hb
        clear AT CC
        go_wp2_with fail
        refine (G.out _).mono ?_
        rintro e w2 ⟨rfl, rfl⟩
        clear G
        go_wp2_with fail
        have hq1 : q < w1.heap.size := lt_some (RH.out.below hb.out).cells
        have hvg : g < w1.heap.size := (RH.out.below hb.out).lt g (.inr rfl)
        have hb2 : Hid (Below w.heap.size w (w1.alloc (.cells #[.string (str (nm s)), .string (str a.1), .int .i64 (a.2 : Nat)] 59))) := hb.out.alloc hb.out.size _
        have hB1 : Hid ((w1.alloc (.cells #[.string (str (nm s)), .string (str a.1), .int .i64 (a.2 : Nat)] 59)).heap[w1.heap.size]? = some (.cells #[.string (str (nm s)), .string (str a.1), .int .i64 (a.2 : Nat)] 59 (0, 0))) := heap_alloc_new _ _
        have hz1 : Hid ((w1.alloc (.cells #[.string (str (nm s)), .string (str a.1), .int .i64 (a.2 : Nat)] 59)).heap.size = w1.heap.size + 1) := by unfold Hid; simp
        generalize hW1 : w1.alloc (.cells #[.string (str (nm s)), .string (str a.1), .int .i64 (a.2 : Nat)] 59) = W1 at *
        refine (rremove W1 q room L _ s (RH.out.below hb2.out) hr (by omega)).mono ?_
        rintro e w3 ⟨rfl, v3, R3, hv3, K3⟩
        have hB3 : Hid (w3.heap[w1.heap.size]? = some (.cells #[.string (str (nm s)), .string (str a.1), .int .i64 (a.2 : Nat)] 59 (0, 0))) := (K3.block _ (by have := hz1.out; omega) (by
          rintro (e | e)
          · omega
          · have e : g = w1.heap.size := by simpa [Value.ownBlock] using e
            omega)).trans hB1.out
        rw [sRem_snd] at R3
        replace R3 := Lib.hid R3
        replace K3 := Lib.hid K3
        replace hv3 := Lib.hid hv3
        go_wp2_with fail
        refine (rremove w3 q room _ v3 t R3.out (rise_del hr _) (by have := len_del_le (nm s) L; omega)).mono ?_
        rintro e w4 ⟨rfl, v4, R4, hv4, K4⟩
        rw [sRem_snd, hL2] at R4
        have hv3' : ∀ x, v3.ownBlock = some x → x ≠ w1.heap.size ∧ ((Value.slice (some ⟨g, 0, none⟩) L.length c).ownBlock = some x ∨ w.heap.size ≤ x) := fun x hx => by
          have h1 := hz1.out
          have h2 := hb.out.size
          rcases hv3.out x hx with e | e
          · refine ⟨?_, .inl e⟩
            have e : g = x := by simpa [Value.ownBlock] using e
            omega
          · exact ⟨by omega, .inr (by omega)⟩
        have hB4 : w4.heap[w1.heap.size]? = some (.cells #[.string (str (nm s)), .string (str a.1), .int .i64 (a.2 : Nat)] 59 (0, 0)) := (K4.block _ (lt_some hB3.out) (by
          rintro (e | e)
          · omega
          · exact (hv3' _ e).1 rfl)).trans hB3.out
        have hv4' : ∀ x, v4.ownBlock = some x → x ≠ w1.heap.size := fun x hx => by
          rcases hv4 x hx with e | e
          · exact (hv3' x e).1
          · have := lt_some hB3.out
            omega
        have k4 : Kp (fun x => x = q ∨ (Value.slice (some ⟨g, 0, none⟩) L.length c).ownBlock = some x) w w4 :=
          ((Kp.of_below hb2.out).trans' K3.out).step K4 (fun x hx => by
            rcases hx with e | e
            · exact .inl (.inl e)
            · rcases (hv3' x e).2 with e | e
              · exact .inl (.inr e)
              · exact .inr e)
        have m1 : w4.cell? ⟨w1.heap.size, 0, none⟩ = some (.string (str (nm s))) := one_at (i := 0) hB4
        have m2 : w4.frozen? ⟨w1.heap.size, 0, none⟩ = false := one_free hB4
        have hB5 : Hid ((w4.setCell ⟨w1.heap.size, 0, none⟩ (.string t)).heap[w1.heap.size]? = some (.cells #[.string (str (nm t)), .string (str a.1), .int .i64 (a.2 : Nat)] 59 (0, 0))) := by
          have e : str (nm t) = t := by simp [nm, str]
          have := Pk.one_set (i := 0) hB4 (.string t)
          rw [e]
          exact this
        have R5 : Hid (Rf (w4.setCell ⟨w1.heap.size, 0, none⟩ (.string t)) q room L2 v4) := R4.keep (fun x hx => Below.heap_setCell _ _ _ _ (by
          rcases hx with rfl | hx
          · show x ≠ w1.heap.size; omega
          · exact hv4' x hx))
        have k5 : Hid (Kp (fun x => x = q ∨ (Value.slice (some ⟨g, 0, none⟩) L.length c).ownBlock = some x) w (w4.setCell ⟨w1.heap.size, 0, none⟩ (.string t))) := k4.step (Kp.of_grown (grown_set w4 w1.heap.size _ _) (S := fun x => x = w1.heap.size) (fun x hx => by injection hx with hx; exact hx.symm)) (fun x hx => .inr (by have := hb.out.size; omega))
        clear hv4' hv3' hv4 K4 R4 k4 hB4 K3 R3 hv3 hB3
        have l2 : L2.length ≤ 900 := by
          have h1 := len_del_le (nm s) L
          have h2 := len_del_le (nm t) (del (nm s) L)
          rw [← hL2]
          omega
        have rise2 : Rise L2 := by rw [← hL2]; exact rise_del (rise_del hr _) _
        go_wp2_with fail
        refine (rat _ q room L2 v4 t R5.out rise2 (by omega)).mono ?_
        rintro e w6 ⟨rfl, hb6⟩
        have R6 : Hid (Rf w6 q room L2 v4) := R5.out.below hb6
        have hB6 : Hid (w6.heap[w1.heap.size]? = some (.cells #[.string (str (nm t)), .string (str a.1), .int .i64 (a.2 : Nat)] 59 (0, 0))) := (hb6.block _ (lt_some hB5.out)).trans hB5.out
        have k6 : Hid (Kp (fun x => x = q ∨ (Value.slice (some ⟨g, 0, none⟩) L.length c).ownBlock = some x) w w6) := k5.out.trans' (Kp.of_below hb6)
        have hpl : pos (nm t) L2 ≤ L2.length := pos_le L2
        obtain ⟨A4, c4', rfl, _⟩ := row_form R6.out.row
        obtain ⟨j, hj⟩ : ∃ j, j = pos (nm t) L2 := ⟨_, rfl⟩
        rw [← hj] at hpl PO ⊢
        have hpl' : Hid (j ≤ L2.length) := hpl
        replace l2 := Lib.hid l2
        clear hb6 k5 hB5 R5 rise2 m1 m2 hj hpl hz1 hB1 hb2 RH R hk hr hL2
        go_wp2
        refine rren13 _ _ _ _ _ _ _ _ _ _ _ _ _ _ _ _ _ _ _ _ _ _ _ _ _ _ _ _ _ _ _ _ _ _ _ _ _ _ _ _ _ _ _ _ _ _ _ _ _ _ _ _ _ _ _ _ _ _ _ _ _ _ _ _ _ w6 q room L2.length c4' j w1.heap.size a.2 A4 L2 (nm t) a.1 R6.out hB6.out rfl hpl'.out l2.out _ (fun _ _ d _ _ h => by cases d <;> exact h) (fun y47 y48 y49 y50 y51 y52 y53 y54 y55 y56 y57 y58 y59 y60 y61 y62 y63 y64 y65 y66 y67 W3 A3 c3 hb3 o3 => ?_)
        have o4 : W3.ownsRow w6.heap.size 59 3 (.slice A3 (L2.length + 1) c3) (L2.take j ++ (nm t, a) :: L2.drop j).length (flat (L2.take j ++ (nm t, a) :: L2.drop j)) := by
          have e : (L2.take j ++ (nm t, a) :: L2.drop j).length = L2.length + 1 := by
            have := hpl'.out
            rw [List.length_append, List.length_cons, List.length_take, List.length_drop]
            omega
          rw [e]
          exact o3
        have E := Lib.hid (PO.out _ (RTo.fresh k6.out R6.out hb3 o4))
        clear o3 o4 hb3
        go_wp2
        go_ret
        exact ⟨rfl, E.out⟩
end Dk
end Go.Proofs.YtbolcapgocjgcaaGreatDoor

namespace Go.Proofs.YtbolcapgocjgcaaGreatDoor
open Go.RowKit
open Go.Proofs.YtbolcapgocjgcaaGreatDoor.Pk
namespace Dk

/-- An append whose run is known, in the text's order. -/
theorem wpList_run_append {w : World} {ops : Array Oper} {o : Oper} {rest : List Oper} {a : Act} {Q : Exit → Act → World → Prop} {t : TypeId} (hgd : o.guard = none) (s x : Operand) (ho : o.op = .call { callee := .builtin .append, args := #[s, x], argTypes := #[t, t] }) (hty : o.type = t)
    (v0 x0 : Value) (hs : a.eval s = v0) (hx : a.eval x = x0) {v' : Value} {w' : World} (hrun : (Builtin.append_ #[t, t] t #[v0, x0]).run Tryz.prog w = .ok v' w') (h : wpList Tryz.prog ops Q rest (a.put o.dst v') w') :
    wpList Tryz.prog ops Q (o :: rest) a w := by
  have := step_run_append (w := w) (ops := ops) (o := o) (a := a) (K := wpList Tryz.prog ops Q rest) (Q := Q) (E := True) hgd s x ho hty v0 x0 hs hx hrun h
  have hw : Region.wanted o (yielded ops a.tmps) = true := by simp [Region.wanted, hgd]
  rw [if_pos hw] at this
  unfold wpList
  rw [if_pos hw]
  exact .inl this
theorem mix_set {g : Bs × Nat → Bs × Nat} {k : Nat} {L : St} {x : Bs} {a : Bs × Nat} (h : L[k]? = some (x, a)) : (mix g k L).set k (x, g a) = mix g (k + 1) L := by
  have hk : k < L.length := (List.getElem?_eq_some_iff.1 h).1
  have hl : (vals g (L.take k)).length = k := by rw [len_vals, List.length_take]; omega
  rw [mix_at h, List.set_append_right _ _ (by omega), hl, Nat.sub_self]
  unfold mix
  rw [List.take_add_one, h]
  simp [vals]
theorem mix_get {g : Bs × Nat → Bs × Nat} {k : Nat} {L : St} {x : Bs} {a : Bs × Nat} (h : L[k]? = some (x, a)) : (mix g k L)[k]? = some (x, a) := by
  have hk : k < L.length := (List.getElem?_eq_some_iff.1 h).1
  have hl : (vals g (L.take k)).length = k := by rw [len_vals, List.length_take]; omega
  rw [mix_at h, List.getElem?_append_right (by omega), hl, Nat.sub_self]
  rfl

theorem crash_lo (keep : Int) (tn : Nat) (h : keep < tn) : max keep 0 = ((min (max keep 0).toNat tn : Nat) : Int) := by omega
theorem crash_hi (keep : Int) (tn : Nat) (h : ¬ keep < tn) : min (max keep 0).toNat tn = tn := by omega

def CcAt (w : World) (A1 : Option Addr) (n c1 : Nat) (L : St) (keep : Int) (i : Value) (wr : World) : Prop :=
  ∃ k : Nat, i = .int .i64 (k : Nat) ∧ k ≤ n ∧ wr.ownsRow w.heap.size 59 3 (.slice A1 n c1) n (flat (mix (cr keep) k L)) ∧ Below w.heap.size w wr
set_option maxHeartbeats 3200000 in
set_option maxRecDepth 20000 in
theorem rcrash (w : World) (q room : Nat) (L : St) (v : Value) (keep : Int) (R : Rf w q room L v) (hl : L.length ≤ 900) (hs : ∀ p ∈ L, p.2.2 ≤ p.2.1.length) (hu : used L ≤ 1000000) (_hk1 : -9223372036854775808 ≤ keep) (_hk2 : keep ≤ 9223372036854775807) :
    Calls Tryz.prog 17 #[.pointer (some ⟨q, 0, none⟩), .int .i64 keep] w fun e w' => e = .returned (.tuple #[]) ∧ RTo w q room (sCrash keep L) v w' := by
  obtain ⟨A, c, rfl, hnc, hc, _⟩ := row_form R.row
  obtain ⟨n, hn⟩ : ∃ n, n = L.length := ⟨_, rfl⟩
  have b0 : Below w.heap.size w (w.alloc (.cells #[] 59)) := (Below.refl _ _).alloc (Nat.le_refl _) _
  obtain ⟨_, B, _, hsrc⟩ := R.cuts rfl (Nat.le_refl _)
  have hS := (hsrc _ b0).1
  rw [List.take_length] at hS
  obtain ⟨A1, c1, w1, r1, o1, g1⟩ := row_append_any _ w.heap.size _ 0 [] (World.ownsRow_lit w #[] 0 (Nat.le_refl _) (by unfold maxLen; omega) rfl) A L.length c L hS (by omega) (by simp)
  have b1 : Hid (Below w.heap.size w w1) := b0.grown g1 (by simp) (fun k hk => by simp [Value.ownBlock] at hk; omega)
  rw [Nat.zero_add, ← hn] at r1 o1
  rw [List.nil_append] at o1
  have PO : Hid (∀ wr, Below w.heap.size w wr → wr.ownsRow w.heap.size 59 3 (.slice A1 n c1) n (flat (sCrash keep L)) → RTo w q room (sCrash keep L) (.slice A L.length c) (wr.setCell ⟨q, 1, none⟩ (.slice A1 n c1))) := fun wr hb ho =>
    RTo.fresh (Kp.refl _ _) R hb (by rw [show (sCrash keep L).length = n by rw [hn]; exact len_vals _ _]; exact ho)
  have CC : Hid (∀ wr, Below w.heap.size w wr → wr.cell? ⟨q, 1, none⟩ = some (.slice A L.length c) ∧ wr.frozen? ⟨q, 1, none⟩ = false) := fun wr hb => ⟨one_at (i := 1) (R.below hb).cells, one_free (R.below hb).cells⟩
  have st : Hid (CcAt w A1 n c1 L keep (.int .i64 0) w1) := ⟨0, rfl, Nat.zero_le _, by rw [mix_zero]; exact o1, b1.out⟩
  have c0 : w.cell? ⟨q, 1, none⟩ = some (.slice A L.length c) := one_at (i := 1) R.cells
  have c0' : (w.alloc (.cells #[] 59)).cell? ⟨q, 1, none⟩ = some (.slice A n c) := by rw [hn]; exact one_at (i := 1) (R.below b0).cells
  have hlb : n ≤ 900 := by omega
  rw [← hn] at PO CC hnc c0 ⊢
  replace hs := Lib.hid hs
  replace hu := Lib.hid hu
  replace hn := Lib.hid hn
  clear R b0 hsrc hS o1 g1 hl b1
  go_enter Tryz.func17, Tryz.ntmps17
  go_wp2_with (at_builtin; refine wpList_run_append rfl (.tmp 7) (.tmp 11) rfl rfl (.slice (some ⟨w.heap.size, 0, none⟩) 0 0) (.slice A n c) rfl rfl r1 ?_)
  clear r1 c0 c0'
  go_loopw [5] (fun i wr => CcAt w A1 n c1 L keep i wr) (fun i _ => n - (intOf i).toNat)
  case atStart => exact st.out
  case round =>
    obtain ⟨k, rfl, hkn, ho, hb⟩ := hrel
    replace hb := Lib.hid hb
    by_cases hlt : k < n
    · obtain ⟨⟨x, s, y⟩, hx⟩ : ∃ p, L[k]? = some p := ⟨_, List.getElem?_eq_getElem (by have := hn.out; omega)⟩
      obtain ⟨g, rfl, hgb, hfz⟩ : ∃ g, A1 = some ⟨g, 0, none⟩ ∧ w.heap.size ≤ g ∧ (∀ j, wr.frozen? ⟨g, j, none⟩ = false) := by
        rcases ho.2 with ⟨_, h0⟩ | ⟨g, cap, cur, hv, hb1, hh, _⟩
        · omega
        · injection hv with hA _ _
          exact ⟨g, hA, hb1, fun j => one_free hh⟩
      have hm := mix_get (g := cr keep) hx
      have e2 : wr.cell? ⟨g, k * 3 + 1, none⟩ = some (.string (str s)) := by
        have := ho.cells (g := g) rfl (k * 3 + 1) _ (flat_at hm (show (ent (x, s, y))[1]? = _ from rfl) (by omega))
        simpa [Addr.add_lit] using this
      have e3 : wr.cell? ⟨g, k * 3 + 2, none⟩ = some (.int .i64 (y : Nat)) := by
        have := ho.cells (g := g) rfl (k * 3 + 2) _ (flat_at hm (show (ent (x, s, y))[2]? = _ from rfl) (by omega))
        simpa [Addr.add_lit] using this
      have f2 := hfz (k * 3 + 1)
      have f3 := hfz (k * 3 + 2)
      have hys : y ≤ s.length := hs.out _ (List.mem_of_getElem? hx)
      have hsl : s.length ≤ 1000000 := Nat.le_trans (le_sum (fun a : Bs × Nat => a.1.length) (List.mem_of_getElem? hx)) hu.out
      obtain ⟨mn, hmn⟩ : ∃ z, z = min (max keep 0).toNat (s.length - y) := ⟨_, rfl⟩
      obtain ⟨j, hj⟩ : ∃ z, z = y + mn := ⟨_, rfl⟩
      have hjl : j ≤ s.length := by omega
      have hcr : cr keep (s, y) = (s.take j, j) := by rw [hj, hmn]; rfl
      have hset := mix_set (g := cr keep) hx
      rw [hcr] at hset
      have E : Hid (∀ m, CcAt w (some ⟨g, 0, none⟩) n c1 L keep (.int .i64 ((k : Int) + 1)) (((wr.drewN m).setCell ⟨g, k * 3 + 1, none⟩ (.string (str (s.take j)))).setCell ⟨g, k * 3 + 2, none⟩ (.int .i64 (j : Nat)))) := by
        intro m
        replace ho : (wr.drewN m).ownsRow w.heap.size 59 3 (.slice (some ⟨g, 0, none⟩) n c1) n (flat (mix (cr keep) k L)) := ho
        have hb' : Below w.heap.size w (wr.drewN m) := ⟨hb.out.os, hb.out.tape, hb.out.output, hb.out.size, hb.out.block⟩
        refine ⟨k + 1, by simp, by omega, ?_, ?_⟩
        · have h1 := row_set ho (i := k * 3 + 1) (by omega) (.string (str (s.take j)))
          rw [flat_set1 hm] at h1
          have h2 := row_set h1 (i := k * 3 + 2) (by omega) (.int .i64 (j : Nat))
          have hm2 : ((mix (cr keep) k L).set k (x, s.take j, y))[k]? = some (x, s.take j, y) := by
            rw [List.getElem?_set_self (by rw [mix_len]; have := hn.out; omega)]
          rw [flat_set2 hm2, List.set_set, hset] at h2
          exact h2
        · exact (hb'.grown (grown_set (wr.drewN m) g _ _) hb'.size (fun x hx => by injection hx with hx; omega)).grown (grown_set _ g _ _) (by have := hb'.size; have := (grown_set (wr.drewN m) g (k * 3 + 1) (.string (str (s.take j)))).size; omega) (fun x hx => by injection hx with hx; omega)
      have hsz := str_size s
      have hsz2 : (str (s.take j)).size = j := by rw [str_size, List.length_take]; omega
      have x1 := str_take s j
      obtain ⟨sl, hsl0⟩ : ∃ z, z = s.length := ⟨_, rfl⟩
      rw [← hsl0] at hsz hys hsl hmn hjl
      obtain ⟨tn, htn⟩ : ∃ z, z = sl - y := ⟨_, rfl⟩
      rw [← htn] at hmn
      have e1 : (sl : Int) - (y : Int) = (tn : Int) := by omega
      have i1 : (k : Int) < (n : Int) := by omega
      have i2 : (0 : Int) ≤ (k : Int) := by omega
      have i3 : (n : Int) ≤ 900 := by omega
      have j1 : (j : Int) ≤ (sl : Int) := by omega
      have ew : wrap64 ((y : Int) + (mn : Int)) = (j : Int) := by rw [IntWalk.wrap64_in _ (by omega)]; omega
      generalize s.take j = bt at *
      by_cases hkt : keep < (tn : Int)
      · have d1 : decide (keep < (tn : Int)) = true := decide_eq_true hkt
        have hmx : max keep 0 = (mn : Int) := by rw [hmn]; exact crash_lo keep tn hkt
        clear hb ho hx hm hfz hcr hset hsl0 htn hmn hj hkt
        go_wp2
        go_quiet (fail)
        go_wp2
        go_region
        all_goals
          go_wp2
          exact ⟨E.out _, by simp [intOf]; omega⟩
      · have d1 : decide (keep < (tn : Int)) = false := decide_eq_false hkt
        have hmx : mn = tn := by rw [hmn]; exact crash_hi keep tn hkt
        rw [hmx] at ew hmn hj
        have hyt := Lib.hid hj.symm
        have hmin := Lib.hid (Nat.min_eq_left hjl)
        clear hb ho hx hm hfz hcr hset hsl0 htn hmn hj hkt hmx
        go_wp2
        go_quiet (fail)
        go_wp2
        go_region
        all_goals
          go_wp2
          rw [hyt.out, x1, hmin.out]
          exact ⟨E.out _, by simp [intOf]; omega⟩
    · obtain rfl : k = n := by omega
      have e : flat (mix (cr keep) k L) = flat (sCrash keep L) := by rw [hn.out, mix_all]; rfl
      rw [e] at ho
      obtain ⟨c1', c2'⟩ := CC.out wr hb.out
      have F := Lib.hid (PO.out wr hb.out ho)
      clear PO CC ho
      go_wp2
      go_end0
      exact ⟨rfl, F.out⟩
end Dk
end Go.Proofs.YtbolcapgocjgcaaGreatDoor
