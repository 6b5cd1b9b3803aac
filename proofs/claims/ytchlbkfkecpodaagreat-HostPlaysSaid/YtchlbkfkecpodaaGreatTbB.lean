/- New, all, keyOf, mayAnswer, Len, Find. -/
import Derived.Test.YtchlbkfkecpodaaGreatTbA
import Derived.Lib.QuietBelow
import Derived.Deep.RegionLaw
import Derived.BigRegion
import Derived.RegionTactic
namespace Go.Proofs.YtchlbkfkecpodaaGreat
set_option maxRecDepth 100000
open Go.RowKit
open Go.Sort (grow)
open Go.Proofs.YtchlbkfkecpodaaGreat.Pk (one_at one_free one_set lt_some grown_set grown_trans below_grown grown_refl)
namespace Tb
open Wt (Opn mayOp)

abbrev opv (o : Opn) : Value := .agg #[.int .i64 o.kind, .int .i64 o.book, .int .i64 o.units, .int .i64 o.cust, .int .i64 o.amount]
set_option maxHeartbeats 400000 in
theorem maya_any (w : World) (a : Int) : Calls Tryz.prog 63 #[.int .i64 a] w fun e w' => e = .returned (.bool (mayA a)) ∧ w = w' := by
  unfold mayA
  obtain ⟨c, hc⟩ : ∃ c, c = (a == 2) := ⟨_, rfl⟩
  rcases Bool.eq_false_or_eq_true (a == 1) with h | h
  all_goals
    rw [h, ← hc]
    have h2 := hc.symm
    clear hc
    go_enter Tryz.func63, Tryz.ntmps63
    go_wp2
    go_ret
    exact ⟨rfl, rfl⟩
theorem keyof_results : Tryz.f62.results = #[.cell 2 95] := by kernel_rfl
theorem pair_info : (Tryz.prog.info? 95).map (·.size) = some 2 := by kernel_rfl
set_option maxHeartbeats 400000 in
theorem keyof_any (w : World) (o : Opn) : Calls Tryz.prog 62 #[opv o] w fun e w' => e = .returned (kv (o.book, o.kind)) ∧ Below w.heap.size w w' := by
  obtain ⟨k, b, u, c, a⟩ := o
  unfold kv
  simp only
  have HB : Hid (Below w.heap.size w ((w.alloc (.cells #[.int .i64 k, .int .i64 b, .int .i64 u, .int .i64 c, .int .i64 a] 43)).alloc (.cells #[.int .i64 b, .int .i64 k] 95))) := ((Below.refl _ _).alloc (Nat.le_refl _) _).alloc (by simp) _
  have HG : Hid (((w.alloc (.cells #[.int .i64 k, .int .i64 b, .int .i64 u, .int .i64 c, .int .i64 a] 43)).alloc (.cells #[.int .i64 b, .int .i64 k] 95)).heap[w.heap.size + 1]? = some (.cells #[.int .i64 b, .int .i64 k] 95 (0, 0))) := by
    have := heap_alloc_new (w.alloc (.cells #[.int .i64 k, .int .i64 b, .int .i64 u, .int .i64 c, .int .i64 a] 43)) (.cells #[.int .i64 b, .int .i64 k] 95)
    unfold Hid
    simpa using this
  go_enter Tryz.func62, Tryz.ntmps62
  go_wp2
  refine bodyPost_ret (results_cell_row keyof_results _ _ (w.heap.size + 1) 95 #[.int .i64 b, .int .i64 k] (0, 0) _ rfl HG.out Tryz.underlying95 rfl pair_info) rfl ?_
  exact ⟨rfl, HB.out⟩
set_option maxHeartbeats 400000 in
theorem all_nil (w : World) : Calls Tryz.prog 61 #[.pointer none] w fun e w' => e = .returned (.map none) ∧ w = w' := by
  go_enter Tryz.func61, Tryz.ntmps61
  go_wp2
  go_ret
  exact ⟨rfl, rfl⟩
set_option maxHeartbeats 400000 in
theorem all_at (w : World) (q z : Nat) (mo : Option Nat) (h : Hm w q z mo) : Calls Tryz.prog 61 #[.pointer (some ⟨q, z, none⟩)] w fun e w' => e = .returned (.map mo) ∧ w = w' := by
  have c0 := h.c
  clear h
  go_enter Tryz.func61, Tryz.ntmps61
  go_wp2
  go_ret
  exact ⟨rfl, rfl⟩
set_option maxHeartbeats 400000 in
theorem len_nil (w : World) : Calls Tryz.prog 50 #[.pointer none] w fun e w' => e = .returned (.int .i64 0) ∧ w = w' := by
  have C := all_nil w
  have LN := fun ty => len_run w none fz (.inl ⟨rfl, rfl⟩) ty
  rw [cnt_z] at LN
  go_enter Tryz.func50, Tryz.ntmps50
  go_wp2_with fail
  refine C.mono ?_
  rintro e w' ⟨rfl, rfl⟩
  clear C
  go_wp2
  go_ret
  exact ⟨rfl, rfl⟩
set_option maxHeartbeats 400000 in
theorem len_any (w : World) (q z : Nat) (f : F) (fp : Nat → Prop) (L : Tab w q z f fp) : Calls Tryz.prog 50 #[.pointer (some ⟨q, z, none⟩)] w fun e w' => e = .returned (.int .i64 (cnt f : Nat)) ∧ w = w' := by
  obtain ⟨mo, h1, h2, h3⟩ := L.at_
  have C := all_at w q z mo h1
  have LN := fun ty => len_run w mo f h2 ty
  generalize cnt f = n at *
  clear h1 h2 h3 L
  go_enter Tryz.func50, Tryz.ntmps50
  go_wp2_with fail
  refine C.mono ?_
  rintro e w' ⟨rfl, rfl⟩
  clear C
  go_wp2
  go_ret
  exact ⟨rfl, rfl⟩
set_option maxHeartbeats 800000 in
/-- What is found, whatever stands in the field. -/
theorem find_by (w : World) (v : Value) (mo : Option Nat) (f : F) (o : Opn) (hb : Bp (o.book, o.kind)) (h : MapIs w mo f) (C : ∀ w', Below w.heap.size w w' → Calls Tryz.prog 61 #[v] w' fun e w'' => e = .returned (.map mo) ∧ w' = w'') (hm : ∀ m, mo = some m → m < w.heap.size) :
    Calls Tryz.prog 48 #[v, opv o] w fun e w' => e = .returned (.tuple #[.int .i64 (f o.book o.kind), .bool (ne0 (f o.book o.kind))]) ∧ Below w.heap.size w w' := by
  have HB : Hid (∀ o, Below w.heap.size w (w.alloc o)) := fun o => (Below.refl _ _).alloc (Nat.le_refl _) _
  have Q1 := fun o d os => Calls.regrown_of ((C (grow (redrawn (w.alloc o) d) os) ((HB.out o).trans ((below_regrown (w.alloc o) d os).mono (by simp)))).mono fun _ _ h => ⟨h.1, by rw [← h.2]; exact Below.refl _ _⟩)
  have Q2 := fun W d os => Calls.regrown_of (keyof_any (grow (redrawn W d) os) o)
  have LK := fun x d os => look_run (grow (redrawn (w.alloc x) d) os) mo f (o.book, o.kind) (h.keep fun m e => ((HB.out x).trans ((below_regrown (w.alloc x) d os).mono (by simp))).block m (hm m e)) hb
  obtain ⟨k, b, u, c, a⟩ := o
  unfold kv at *
  simp only at *
  generalize f b k = x at *
  have N0 := heap_alloc_new w (.cells #[.int .i64 k, .int .i64 b, .int .i64 u, .int .i64 c, .int .i64 a] 43)
  have z0 := cell_regrown (one_at (i := 0) N0)
  have z1 := cell_regrown (one_at (i := 1) N0)
  have z2 := cell_regrown (one_at (i := 2) N0)
  have z3 := cell_regrown (one_at (i := 3) N0)
  have z4 := cell_regrown (one_at (i := 4) N0)
  clear C h hb hm N0
  go_enter Tryz.func48, Tryz.ntmps48
  go_wp2_with fail
  refine wp_region_quiet_below (by kernel_rfl) (by kernel_rfl) ?_
  repeat (go_big_quiet_step (first | with_reducible exact Q1 _ _ _ | with_reducible exact Q2 _ _ _))
  refine wpQuiet_nil ?_
  intro w7 hw'
  obtain ⟨⟨dq, osq⟩, hw7⟩ := hw'
  have be7 : Hid (Below w.heap.size w w7) := by rw [hw7]; exact (HB.out _).trans ((below_regrown _ dq osq).mono (by simp))
  clear hw7
  go_wp2_with fail
  go_ret2
  exact ⟨rfl, be7.out⟩
theorem find_any (w : World) (q z : Nat) (f : F) (fp : Nat → Prop) (L : Tab w q z f fp) (o : Opn) (hb : Bp (o.book, o.kind)) :
    Calls Tryz.prog 48 #[.pointer (some ⟨q, z, none⟩), opv o] w fun e w' => e = .returned (.tuple #[.int .i64 (f o.book o.kind), .bool (ne0 (f o.book o.kind))]) ∧ Below w.heap.size w w' := by
  obtain ⟨mo, h1, h2, h3⟩ := L.at_
  exact find_by w _ mo f o hb h2 (fun w' hb' => all_at w' q z mo (h1.keep (hb'.block q L.lt))) fun m e => L.size m (h3 m e)
theorem find_nil (w : World) (o : Opn) (hb : Bp (o.book, o.kind)) :
    Calls Tryz.prog 48 #[.pointer none, opv o] w fun e w' => e = .returned (.tuple #[.int .i64 0, .bool false]) ∧ Below w.heap.size w w' :=
  find_by w _ none fz o hb (.inl ⟨rfl, rfl⟩) (fun w' _ => all_nil w') fun _ e => (nomatch e)
end Tb
end Go.Proofs.YtchlbkfkecpodaaGreat
