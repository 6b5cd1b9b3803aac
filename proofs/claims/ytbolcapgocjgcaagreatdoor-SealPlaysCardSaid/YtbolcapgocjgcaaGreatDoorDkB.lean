/- find, mayName, Used, Synced, Names. -/
import Derived.Test.YtbolcapgocjgcaaGreatDoorDkA
import Derived.Test.YtbolcapgocjgcaaGreatDoorDkI
import Derived.Sort.OwnSorted
import Derived.Lib.Hide
import Derived.Laws.ResultCell
namespace Go.Proofs.YtbolcapgocjgcaaGreatDoor
set_option maxRecDepth 100000
open Go.RowKit
open Go.Proofs.YtbolcapgocjgcaaGreatDoor.Pk
namespace Dk

abbrev nm (s : ByteArray) : Bs := s.data.toList
def nofile : Value := .agg #[.slice none 0 0, .int .i64 0]
theorem law : Maps.Keyed Tryz.prog 9 := Maps.string_keyed Tryz.underlying9
theorem zero_file (w : World) : (zeroValue 88).run Tryz.prog w = .ok nofile w := by kernel_rfl
theorem key_nm {s : ByteArray} (hs : s.size ≤ maxLen) : keyOf Tryz.prog 9 (.string s) = some (.string (nm s)) := WideMaps.keyOf_string_mk Tryz.underlying9 hs

/-- What is read at a name. -/
theorem look_run (w : World) (mo : Option Nat) (l : Fls) (s : ByteArray) (h : MapAt w mo l) (hs : s.size ≤ maxLen) :
    (Instr.lookup 62 (.map mo) (.string s) false).run Tryz.prog w = .ok ((look (nm s) l).elim nofile cell) w := by
  rcases h with ⟨rfl, rfl⟩ | ⟨m, n, rfl, h⟩
  · exact Maps.look_nil false law Tryz.underlying62 (zero_file w) (key_nm hs)
  · obtain ⟨v, ps, hrun, hv⟩ := h.lookup law Tryz.underlying62 (zero_file w) (zd := .held nofile) (zp := []) rfl (key_nm hs)
    rw [dat_at] at hv
    injection hv with hv
    injection hv with hv _
    injection hv with hv
    rw [hrun, hv]
theorem look_run_ok (w : World) (mo : Option Nat) (l : Fls) (s : ByteArray) (h : MapAt w mo l) (hs : s.size ≤ maxLen) :
    (Instr.lookup 62 (.map mo) (.string s) true).run Tryz.prog w = .ok (.tuple #[(look (nm s) l).elim nofile cell, .bool (look (nm s) l).isSome]) w := by
  rcases h with ⟨rfl, rfl⟩ | ⟨m, n, rfl, h⟩
  · exact Maps.look_nil true law Tryz.underlying62 (zero_file w) (key_nm hs)
  · obtain ⟨v, ps, hrun, hv⟩ := h.look_ok law Tryz.underlying62 (zero_file w) (zd := .held nofile) (zp := []) rfl (key_nm hs)
    rw [dat_at] at hv
    injection hv with hv
    injection hv with hv _
    injection hv with hv
    rw [hrun, hv, dat_has]

set_option maxHeartbeats 400000 in
theorem mayName_any (w : World) (s : ByteArray) : Calls Tryz.prog 63 #[.string s] w fun e w' => e = .returned (.bool (decide (1 ≤ s.size) && decide (s.size ≤ 20))) ∧ w = w' := by
  go_enter Tryz.func63, Tryz.ntmps63
  by_cases h1 : 1 ≤ s.size
  · by_cases h2 : s.size ≤ 20
    · have e1 : decide ((1 : Int) ≤ (s.size : Int)) = true := decide_eq_true (by omega)
      have e2 : decide ((s.size : Int) ≤ 20) = true := decide_eq_true (by omega)
      go_wp2
      go_ret
      exact ⟨by simp [h1, h2], rfl⟩
    · have e1 : decide ((1 : Int) ≤ (s.size : Int)) = true := decide_eq_true (by omega)
      have e2 : decide ((s.size : Int) ≤ 20) = false := decide_eq_false (by omega)
      go_wp2
      go_ret
      exact ⟨by simp [h1, h2], rfl⟩
  · have e1 : decide ((1 : Int) ≤ (s.size : Int)) = false := decide_eq_false (by omega)
    go_wp2
    go_ret
    exact ⟨by simp [h1], rfl⟩

theorem res_row {P : Program} {fn : Func} {p u : Tmp} {ty : TypeId} (h : fn.results = #[.cell p ty, .tmp u]) (tmps : Array Value) (w : World) (g : Nat) (t : TypeId) (cs : Array Value) (fr : Nat × Nat) (d : TypeDesc) (hp : tmps.getD p undef = .pointer (some ⟨g, 0, none⟩)) (hg : w.heap[g]? = some (.cells cs t fr))
    (hu : P.underlying ty = some d) (hd : (match d with | .struct _ | .array _ _ => true | _ => false) = true) (hi : (P.info? ty).map (·.size) = some cs.size) :
    (results fn tmps).run P w = .ok (.tuple #[.agg cs, tmps.getD u undef]) w := by
  rw [results_cell_tmp h, hp]
  simp [asAddr, run_loadVar_row w g t ty cs fr d hg hu hd hi]
theorem file_info : (Tryz.prog.info? 88).map (·.size) = some 2 := by kernel_rfl
theorem find_results : Tryz.f48.results = #[.cell 4 88, .tmp 5] := by kernel_rfl
theorem first_results : Tryz.f47.results = #[.cell 4 88] := by kernel_rfl
set_option maxHeartbeats 400000 in
theorem find_none (w : World) (s : ByteArray) : Calls Tryz.prog 48 #[.pointer none, .string s] w fun e w' => e = .returned (.tuple #[nofile, .bool false]) ∧ Below w.heap.size w w' := by
  have HB : ∀ cs t, Hid (Below w.heap.size w (w.alloc (.cells cs t))) := fun cs t => (Below.refl _ _).alloc (Nat.le_refl _) _
  go_enter Tryz.func48, Tryz.ntmps48
  go_wp2
  refine bodyPost_ret (res_row find_results _ _ w.heap.size 88 #[.slice none 0 0, .int .i64 0] (0, 0) _ rfl (heap_alloc_new _ _) Tryz.underlying88 rfl file_info) rfl ?_
  exact ⟨rfl, (HB _ _).out⟩
/-- .. in what form. -/
theorem look_form {x : Option Bs} {w : World} {p room : Nat} {mo : Option Nat} {l : Fls} {fp : Nat → Prop} (D : Dsk x w p room mo l fp) (n : Bs) :
    ∃ A c, (look n l).elim nofile cell = .agg #[.slice A ((look n l).elim 0 use) c, .int .i64 ((look n l).elim 0 Fil.k : Nat)] ∧ (look n l).elim 0 use ≤ c ∧ c ≤ 9223372036854775807 ∧ (A = none → c = 0) := by
  cases h : look n l with
  | none => exact ⟨none, 0, rfl, Nat.le_refl _, by omega, fun _ => rfl⟩
  | some f =>
    obtain ⟨⟨A, c, hv, h1, h2, h3⟩, _⟩ := D.head _ (look_mem h)
    exact ⟨A, c, by simp only [Option.elim, cell, use]; rw [hv], h1, h2, h3⟩
theorem look_use {x : Option Bs} {w : World} {p room : Nat} {mo : Option Nat} {l : Fls} {fp : Nat → Prop} (D : Dsk x w p room mo l fp) (n : Bs) : (look n l).elim 0 use ≤ room ∧ (look n l).elim 0 Fil.k ≤ (look n l).elim 0 use := by
  cases h : look n l with
  | none => exact ⟨Nat.zero_le _, Nat.le_refl _⟩
  | some f =>
    exact ⟨Nat.le_trans (le_sum use (look_mem h)) D.fits, (D.head _ (look_mem h)).2.2⟩
set_option maxHeartbeats 400000 in
theorem find_any {x : Option Bs} (w : World) (p room : Nat) (mo : Option Nat) (l : Fls) (fp : Nat → Prop) (s : ByteArray) (D : Dsk x w p room mo l fp) (hs : s.size ≤ maxLen) :
    Calls Tryz.prog 48 #[.pointer (some ⟨p, 0, none⟩), .string s] w fun e w' => e = .returned (.tuple #[(look (nm s) l).elim nofile cell, .bool (look (nm s) l).isSome]) ∧ Below w.heap.size w w' := by
  have hp := lt_some D.cells
  have c2 : ∀ W : World, Below w.heap.size w W → W.cell? ⟨p, 2, none⟩ = some (.map mo) := fun W hW => one_at (i := 2) (D.below hW).cells
  have L : ∀ W : World, Below w.heap.size w W → (Instr.lookup 62 (.map mo) (.string s) true).run Tryz.prog W = .ok (.tuple #[(look (nm s) l).elim nofile cell, .bool (look (nm s) l).isSome]) W := fun W hW => look_run_ok W mo l s (D.below hW).map hs
  obtain ⟨A, c, hv, _, _, _⟩ := look_form D (nm s)
  generalize (look (nm s) l).elim 0 use = n at hv
  generalize (((look (nm s) l).elim 0 Fil.k : Nat) : Int) = k at hv
  rw [hv] at L ⊢
  obtain ⟨b, hb⟩ : ∃ b, b = (look (nm s) l).isSome := ⟨_, rfl⟩
  rw [← hb] at L ⊢
  clear hv hb D
  have B1 : Hid (Below w.heap.size w (w.alloc (.cells #[.slice none 0 0, .int .i64 0] 88))) := (Below.refl _ _).alloc (Nat.le_refl _) _
  have B2 : Hid (Below w.heap.size w ((w.alloc (.cells #[.slice A n c, .int .i64 k] 88)).alloc (.cells #[.slice A n c, .int .i64 k] 88))) := ((Below.refl _ _).alloc (Nat.le_refl _) _).alloc (by simp) _
  have c2' := c2 _ B1.out
  have L1 := L _ B1.out
  go_enter Tryz.func48, Tryz.ntmps48
  go_wp2
  refine bodyPost_ret (res_row find_results _ _ w.heap.size 88 #[.slice A n c, .int .i64 k] (0, 0) _ rfl (heap_alloc2_old _ _ _) Tryz.underlying88 rfl file_info) rfl ?_
  exact ⟨rfl, B2.out⟩
end Dk
end Go.Proofs.YtbolcapgocjgcaaGreatDoor
