/- Frames cut off: plain arithmetic. -/
import Derived.Test.YthadgeihkeggfaaDoorFrN
import Derived.Test.YthadgeihkeggfaaDoorFrR
namespace Go.Proofs.YthadgeihkeggfaaDoor
open Go.RowKit
open Go.Proofs.YthadgeihkeggfaaDoor.Pk
namespace Fr

theorem cut_got {l : List (List UInt8)} {k j : Nat} (h : Ok l) (_hj : j ≤ l.length) (h1 : (frames (l.take j)).length ≤ k) (h2 : j = l.length ∨ k < (frames (l.take (j + 1))).length) : Got ((frames l).take k) (l.take j) (frames (l.take j)).length := by
  have e : (frames l).take k = frames (l.take j) ++ (frames (l.drop j)).take (k - (frames (l.take j)).length) := by
    conv => lhs; rw [← List.take_append_drop j l, frames_app]
    rw [List.take_append, List.take_of_length_le h1]
  rw [e]
  refine got_frames (fun r hr => h r (List.mem_of_mem_take hr)) ?_
  rcases Nat.lt_or_ge j l.length with hlt | hge
  · have h3 := h2.resolve_left (by omega)
    obtain ⟨r, hr⟩ : ∃ r, l[j]? = some r := ⟨_, List.getElem?_eq_getElem hlt⟩
    rw [frames_take hr, List.length_append, frame_len] at h3
    rw [List.drop_eq_getElem_cons hlt, (List.getElem?_eq_some_iff.1 hr).2]
    show one ((frame r ++ frames (l.drop (j + 1))).take _) = none
    exact one_cut (h r (List.mem_of_getElem? hr)).2 (by omega)
  · rw [List.drop_of_length_le hge]
    exact one_short (by simp [frames])
def es (l : List (List UInt8)) (k : Nat) : List Value := (List.range k).map fun i => .int .i64 ((frames (l.take (i + 1))).length : Nat)
theorem es_len (l : List (List UInt8)) (k : Nat) : (es l k).length = k := by simp [es]
theorem es_snoc (l : List (List UInt8)) (k : Nat) : es l (k + 1) = es l k ++ [.int .i64 ((frames (l.take (k + 1))).length : Nat)] := by simp [es, List.range_succ]
theorem es_get {l : List (List UInt8)} {k i : Nat} (h : i < k) : (es l k)[i]? = some (.int .i64 ((frames (l.take (i + 1))).length : Nat)) := by simp [es, h]
theorem i_info : (Tryd.prog.info? 3).map (fun i => (i.zero, i.size, i.bytes)) = some (some (.int .i64 0), 1, 8) := by kernel_rfl

/-- append of one thing more, whose cell lies in a block that is known: a step of a region that draws. -/
theorem step_append_1 {P : Program} (W : World) {ops : Array Oper} {o : Oper} {a : Act} {K : Act → World → Prop} {Q : Exit → Act → World → Prop} {E : Prop} (hgd : o.guard = none) (s x : Operand) (t : TypeId)
    (ho : o.op = .call { callee := .builtin .append, args := #[s, x], argTypes := #[t, t] })
    (base : Nat) (e : TypeId) (i : TypeInfo) (z : Value) (bytes : Nat) (ht : P.underlying t = some (.slice e)) (hi : P.info? e = some i) (hz : i.zero = some z) (hsize : i.size = 1) (hby : i.bytes = bytes) (hzs : z.cells.size = 1)
    (v : Value) (n : Nat) (xs : List Value) (u : Value) (g : Nat) (hs : a.eval s = v) (hown : W.ownsRow base e 1 v n xs) (hx : a.eval x = .slice (some ⟨g, 0, none⟩) 1 1) (hc : W.cell? ⟨g, 0, none⟩ = some u) (hu : u.oneCell' = true)
    (h63 : n + 1 ≤ maxLen) (hb : (n + 1) * bytes ≤ 140737488355328) (hbase : base ≤ W.heap.size)
    (h : ∀ v' w', w'.ownsRow base e 1 v' (n + 1) (xs ++ [u]) → W.grownBy w' v.ownBlock → K (a.put o.dst v') w') :
    if Region.wanted o (yielded ops a.tmps) = true then Oper.wp P o a W K Q else E := by
  have hw : Region.wanted o (yielded ops a.tmps) = true := by simp [Region.wanted, hgd]
  rw [if_pos hw]
  exact wp_append_own W s x t ho base e i z 1 bytes ht hi hz hsize hby hzs (by decide) v n xs hs hown ⟨g, 0, none⟩ 1 1 [u] hx rfl
    (by
      intro j y hj
      match j, hj with
      | 0, hj => simp at hj; subst hj; rw [Addr.add_zero']; exact hc
      | j + 1, hj => simp at hj)
    (by intro y hy; simp at hy; subst hy; exact hu) h63 hb hbase (fun v' w' h1 h2 _ => h v' w' h1 h2)
theorem own_grownB {w W w' : World} {b n : Nat} {e : TypeId} {v v2 : Value} {xs : List Value} (h : w.ownsRow b e 1 v n xs) (hW : Below w.heap.size w W) (hg : W.grownBy w' v2.ownBlock) (hne : ∀ g, v.ownBlock = some g → v2.ownBlock ≠ some g) : w'.ownsRow b e 1 v n xs :=
  own_keep h fun g hq => (hg.block g (Nat.lt_of_lt_of_le (h.lt g hq).2 hW.size) (fun e => hne g hq e.symm)).trans (hW.block g (h.lt g hq).2)
theorem cell_grown {W w' : World} {g : Nat} {u : Value} {row : Option Nat} (hg : W.grownBy w' row) (hc : W.cell? ⟨g, 0, none⟩ = some u) (hne : row ≠ some g) : w'.cell? ⟨g, 0, none⟩ = some u :=
  (World.cell?_of_block (hg.block g (block_lt_of_cell (a := ⟨g, 0, none⟩) hc) (fun e => hne e.symm))).trans hc
/-- The bytes of a string, made. -/
theorem of_str (w : World) (t : List UInt8) (ht : t.length ≤ 1000000) : ∃ w' c, (convert 9 22 (.string (str t))).run Tryd.prog w = .ok (.slice (some ⟨w.heap.size, 0, none⟩) t.length c) w' ∧ Rb w' (fun g => g < w'.heap.size) (some ⟨w.heap.size, 0, none⟩) t.length t ∧ t.length ≤ c ∧ c ≤ 9223372036854775807 ∧ Below w.heap.size w w' := by
  have h := run_bytes_of_string (P := Tryd.prog) w 9 22 5 (str t) Tryd.underlying9 Tryd.underlying22 Tryd.underlying5
  rw [str_size] at h
  have h1 := grownCap_ge w t.length 0 5
  have h2 := grownCap_le_maxLen w t.length 0 5 (by unfold maxLen; omega)
  unfold maxLen at h2
  refine ⟨_, _, h, ?_, h1, h2, ((Below.refl _ w).drew).alloc (Nat.le_refl _) _⟩
  have R := rb_str w.drew t (grownCap w t.length 0 5) ((bytesRow (str t) (grownCap w t.length 0 5)).size, (bytesRow (str t) (grownCap w t.length 0 5)).size + 1)
  exact R.keep (fun _ _ => rfl) (fun g hg => by subst hg; simp)
end Fr
end Go.Proofs.YthadgeihkeggfaaDoor
