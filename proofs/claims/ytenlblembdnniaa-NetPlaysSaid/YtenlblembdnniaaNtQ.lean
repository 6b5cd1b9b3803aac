/- Truths that come in; how often each is on its way; a net and what is counted, side by side. -/
import Derived.Test.YtenlblembdnniaaNtK
import Derived.Deep.Grids
namespace Go.Proofs.Ytenlblembdnniaa
set_option maxRecDepth 100000
open Go.ChangeShapes Go.WideShapes Go.ChangeAt Go.WideMaps Go.WideElems Go.RowKit
open Go.Proofs.Ytenlblembdnniaa.Pk (Rb adr_block one_at one_free one_set lt_some grown_set)
namespace Nt

/-- The slice value '.slice A n c' reads as truths. -/
def Bo (w : World) (T : Nat → Prop) (A : Option Addr) (n : Nat) (b : Nat → Bool) : Prop := 0 < n → ∃ ad, A = some ad ∧ T ad.block ∧ ∀ j, j < n → w.cell? (ad.add j) = some (.bool (b j))
theorem Bo.below {w w' : World} {B n : Nat} {A : Option Addr} {b : Nat → Bool} (h : Bo w (fun g => g < B) A n b) (hb : Below B w w') : Bo w' (fun g => g < B) A n b := fun hn => by
  obtain ⟨ad, e, ht, hc⟩ := h hn
  exact ⟨ad, e, ht, fun j hj => (World.cell?_of_block (by rw [adr_block]; exact hb.block _ ht)).trans (hc j hj)⟩
def SrcB (w : World) (v : Value) (b : Nat → Bool) : Prop := ∃ A n c, v = .slice A n c ∧ n ≤ c ∧ c ≤ 9223372036854775807 ∧ Bo w (fun g => g < w.heap.size) A n b
theorem view_bools {H : Type} {enc : TypeId × Value → H} {W : World} {held : Bool} {v : Value} {d : DataW H} {p : List MemPlace} {r : Reach} {b0 : Nat}
    (hv : Value.okWide Try.prog W r b0 49 v) (h : DataW.Trod enc Try.prog W 0 (fun _ => true) held 49 v d p) : ∃ b, SrcB W v b := by
  obtain ⟨A, n, c, rfl⟩ := okWide_slice Try.underlying49 hv
  obtain ⟨fuel, hf⟩ := h
  have c5 : Try.prog.cellsOf 4 = 1 := by kernel_rfl
  rcases Go.Deep.open_bools Try.underlying49 Try.underlying4 c5 hf with ⟨hcs, _⟩ | ⟨a, len, cap, B, hcs, _, hl, hm, _, hcell⟩
  · obtain ⟨rfl, rfl, rfl⟩ : A = none ∧ n = 0 ∧ c = 0 := by simpa [Value.cells] using hcs
    exact ⟨fun _ => false, none, 0, 0, rfl, Nat.le_refl _, by omega, fun h => by omega⟩
  · obtain ⟨rfl, rfl, rfl⟩ : A = some a ∧ n = len ∧ c = cap := by simpa [Value.cells] using hcs
    unfold maxLen at hm
    refine ⟨B, some a, n, c, rfl, hl, by omega, fun hn => ⟨a, rfl, ?_, fun j hj => hcell j (by omega)⟩⟩
    have := lt_of_cell (hcell 0 (by omega))
    rwa [adr_block] at this

/-! ### how often each is on its way -/
def cnt (I : List Nat) : List Int := (List.range 30).map fun x => ((I.count x : Nat) : Int)
theorem cnt_at {I : List Nat} {x : Nat} (h : x < 30) : (cnt I)[x]? = some ((I.count x : Nat) : Int) := by simp [cnt, h]
theorem cnt_set {I I' : List Nat} {x : Nat} {z : Int} (hz : z = ((I'.count x : Nat) : Int)) (h : ∀ y, y ≠ x → I'.count y = I.count y) : (cnt I).set x z = cnt I' := by
  apply List.ext_getElem?
  intro y
  by_cases hy : y < 30
  · by_cases e : y = x
    · subst e
      rw [List.getElem?_set_self (by simpa [cnt] using hy), cnt_at hy, hz]
    · rw [List.getElem?_set_ne (fun e2 => e e2.symm), cnt_at hy, cnt_at hy, h y e]
  · rw [List.getElem?_eq_none (by simp [cnt]; omega), List.getElem?_eq_none (by simp [cnt]; omega)]
theorem cnt_nil : cnt [] = List.replicate 30 0 := by decide
theorem count_snoc (I : List Nat) (x y : Nat) : (I ++ [x]).count y = I.count y + if x = y then 1 else 0 := by
  rw [List.count_append, List.count_singleton]
  simp
theorem count_new {I : List Nat} {x : Nat} (h : ∀ y ∈ I, y < x) : I.count x = 0 := List.count_eq_zero.2 fun hm => by
  have := h x hm
  omega
def delN (I : List Nat) (k : Nat) : List Nat := I.take k ++ I.drop (k + 1)
theorem delN_len {I : List Nat} {k : Nat} (h : k < I.length) : (delN I k).length + 1 = I.length := by
  unfold delN
  rw [List.length_append, List.length_take, List.length_drop]
  omega
theorem delN_count {I : List Nat} {k : Nat} (h : k < I.length) (y : Nat) : I.count y = (delN I k).count y + if I[k] = y then 1 else 0 := by
  have e : I = I.take k ++ I[k] :: I.drop (k + 1) := by simp
  conv => lhs; rw [e]
  unfold delN
  rw [List.count_append, List.count_append, List.count_cons]
  simp only [beq_iff_eq]
  omega
theorem delN_mem {I : List Nat} {k y : Nat} (h : y ∈ delN I k) : y ∈ I := by
  rcases List.mem_append.1 h with h | h
  · exact List.mem_of_mem_take h
  · exact List.mem_of_mem_drop h
theorem del_map (f : Nat → Ms) (I : List Nat) (k : Nat) : del (I.map f) k = (delN I k).map f := by
  unfold del delN
  rw [List.map_append, List.map_take, List.map_drop]

/-! ### the net, and a block beside it -/
/-- A block that is none of the net's is written. -/
theorem Ln.side {B w w' : World} {q d most : Nat} {us : List Bool} {L : List Ms} {X : Nat → Prop} (h : Ln B w q most us L X) (g : w.grownBy w' (some d)) (hX : X d) (hd : B.heap.size ≤ d) : Ln B w' q most us L X := by
  obtain ⟨fp, D, hf⟩ := h.nt
  refine ⟨⟨fp, D.keep g.size fun k hk => g.block k (D.size k hk) (fun e => (hf k hk).2 (by injection e with e; rw [e]; exact hX)), hf⟩, ?_, fun k hk => Nat.lt_of_lt_of_le (h.xs k hk) g.size⟩
  exact ⟨g.os.trans h.be.os, g.tape.trans h.be.tape, g.output.trans h.be.output, Nat.le_trans h.be.size g.size, fun k hk => (g.block k (Nat.lt_of_lt_of_le hk h.be.size) (fun e => by injection e; omega)).trans (h.be.block k hk)⟩
/-- The net, and what is counted, at d. -/
structure St (B : World) (q d : Nat) (L : List Ms) (zs : List Int) (W : World) : Prop where
  ln : Ln B W q 100 [true, true, true, true] L (fun g => g = d ∨ g < B.heap.size)
  at_ : W.heap[d]? = some (.cells (arr zs) 50 (0, 0))
  ge : B.heap.size ≤ d
section
variable {B W W' : World} {q d : Nat} {L L' : List Ms} {zs : List Int}
theorem St.below (s : St B q d L zs W) (hb : Below W.heap.size W W') : St B q d L zs W' := ⟨s.ln.below hb, (hb.block d (lt_some s.at_)).trans s.at_, s.ge⟩
theorem St.of (s : St B q d L zs W) (t : LnTo B W q 100 [true, true, true, true] L' (fun g => g = d ∨ g < B.heap.size) W') : St B q d L' zs W' := ⟨t.1, (t.2.1 d (.inl rfl)).trans s.at_, s.ge⟩
theorem St.set (s : St B q d L zs W) (k : Nat) (z : Int) : St B q d L (zs.set k z) (W.setCell ⟨d, k, none⟩ (.int .i64 z)) :=
  ⟨s.ln.side (grown_set _ _ _ _) (.inl rfl) s.ge, by rw [one_set s.at_, arr_set], s.ge⟩
theorem St.cell (s : St B q d L zs W) {k : Nat} {z : Int} (h : zs[k]? = some z) : W.cell? ⟨d, k, none⟩ = some (.int .i64 z) ∧ W.frozen? ⟨d, k, none⟩ = false := ⟨(one_at s.at_).trans (arr_at h), one_free s.at_⟩
end

/-! ### what is sent, and taken -/
/-- The message of the place j. -/
def ms4 (zs : List Int) (j : Nat) : Ms := ⟨(j % 4 : Nat), (usm (zs.getD j 0) 4 : Nat), [UInt8.ofNat j]⟩
def u4 : List Bool := [true, true, true, true]
theorem node4 {x : Nat} (h : x < 4) : node u4.length (x : Int) = true := node_iff.2 ⟨by omega, by show _ < ((4 : Nat) : Int); omega⟩
theorem up4 {x : Nat} (h : x < 4) : upE u4 (x : Int) = true := by
  match x, h with
  | 0, _ => rfl
  | 1, _ => rfl
  | 2, _ => rfl
  | 3, _ => rfl
theorem send4 (zs : List Int) (L : List Ms) (j : Nat) (h : L.length < 100) : sendS u4 100 L (ms4 zs j) = L ++ [ms4 zs j] ∧ sendC u4 100 L ((j % 4 : Nat) : Int) (usm (zs.getD j 0) 4 : Nat) = 0 := by
  have e1 : node u4.length ((j % 4 : Nat) : Int) = true := node4 (Nat.mod_lt _ (by omega))
  have e2 : node u4.length ((usm (zs.getD j 0) 4 : Nat) : Int) = true := node4 (usm_lt _ (by omega))
  have e : (node u4.length ((j % 4 : Nat) : Int) && node u4.length ((usm (zs.getD j 0) 4 : Nat) : Int)) = true := by rw [e1, e2]; rfl
  unfold sendS sendC
  rw [show (ms4 zs j).fr = ((j % 4 : Nat) : Int) from rfl, show (ms4 zs j).to_ = ((usm (zs.getD j 0) 4 : Nat) : Int) from rfl, if_pos e, if_pos e]
  unfold addS addC
  rw [if_pos h, if_pos h]
  exact ⟨rfl, rfl⟩
theorem dbl4 (L : List Ms) (m : Ms) (h : L.length < 99) : dblS 100 (L ++ [m]) (L.length : Nat) = L ++ [m] ++ [m] ∧ dblC 100 (L ++ [m]) (L.length : Nat) = 0 := by
  have e : node (L ++ [m]).length ((L.length : Nat) : Int) = true := node_iff.2 ⟨by omega, by simp; omega⟩
  have hl : (L ++ [m]).length < 100 := by simp; omega
  unfold dblS dblC
  rw [if_pos e, if_pos e]
  unfold addS addC
  rw [if_pos hl, if_pos hl, show (((L.length : Nat) : Int)).toNat = L.length from by omega]
  refine ⟨?_, rfl⟩
  unfold Nt.mt
  simp
theorem take4 (zs : List Int) {I : List Nat} {k : Nat} (h : k < I.length) : tkR u4 (I.map (ms4 zs)) (k : Int) = (ms4 zs I[k], 0) ∧ outS (I.map (ms4 zs)) (k : Int) = (delN I k).map (ms4 zs) := by
  have e : node (I.map (ms4 zs)).length (k : Int) = true := node_iff.2 ⟨by omega, by simp; omega⟩
  have em : Nt.mt (I.map (ms4 zs)) ((k : Int)).toNat = ms4 zs I[k] := by
    unfold Nt.mt
    rw [show ((k : Int)).toNat = k from by omega]
    simp [h]
  unfold tkR outS
  rw [if_pos e, if_pos e, em, show (ms4 zs I[k]).to_ = ((usm (zs.getD I[k] 0) 4 : Nat) : Int) from rfl, if_pos (up4 (usm_lt _ (by omega))), show ((k : Int)).toNat = k from by omega, del_map]
  exact ⟨rfl, rfl⟩
end Nt
end Go.Proofs.Ytenlblembdnniaa
