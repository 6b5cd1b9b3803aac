/- Parts of the claim: TbI, TbE, TbF, TbG -/
import Derived.Shelf.SlSortCmp.NoneTotal
import Derived.Test.YtpkdigegkemogaaGreatDoorProg
import Derived.Maps.AppendAt
import Derived.LoopTactic
import Derived.Test.YtpkdigegkemogaaGreatDoorTbXbT
namespace Go.Proofs
open Go.RowKit Go.Sort Go.Shelf
def Tryz.tbsort_ren : Go.Shelf.Ren := ⟨fun | 6 => 237 | 15 => 137 | 14 => 240 | 28 => 163 | 29 => 164 | 20 => 242 | 21 => 243 | 22 => 244 | 23 => 245 | 24 => 246 | 25 => 247 | 26 => 248 | 27 => 249 | 46 => 250 | 47 => 175 | 48 => 176 | 49 => 251 | 50 => 252 | 57 => 253 | n => n, fun | 22 => 288 | 24 => 215 | 25 => 291 | 3 => 3 | 39 => 23 | 0 => 0 | 53 => 237 | 55 => 154 | 4 => 4 | 46 => 231 | 45 => 230 | 50 => 61 | 5 => 5 | 9 => 9 | 66 => 245 | 70 => 249 | 76 => 256 | 77 => 147 | n => n, fun | n => n⟩
theorem Tryz.tbsort : Go.Proofs.SlLaysF0.n6 Tryz.prog Tryz.tbsort_ren := {
  mixed := by kernel_rfl
  f6 := ⟨Tryz.f237.name, by decide, Tryz.func237.trans (congrArg some (by kernel_rfl))⟩
  f14 := ⟨Tryz.f240.name, by decide, Tryz.func240.trans (congrArg some (by kernel_rfl))⟩
  f15 := Tryz.func137.trans (congrArg some (by kernel_rfl))
  f20 := ⟨Tryz.f242.name, by decide, Tryz.func242.trans (congrArg some (by kernel_rfl))⟩
  f21 := ⟨Tryz.f243.name, by decide, Tryz.func243.trans (congrArg some (by kernel_rfl))⟩
  f22 := ⟨Tryz.f244.name, by decide, Tryz.func244.trans (congrArg some (by kernel_rfl))⟩
  f23 := ⟨Tryz.f245.name, by decide, Tryz.func245.trans (congrArg some (by kernel_rfl))⟩
  f24 := ⟨Tryz.f246.name, by decide, Tryz.func246.trans (congrArg some (by kernel_rfl))⟩
  f25 := ⟨Tryz.f247.name, by decide, Tryz.func247.trans (congrArg some (by kernel_rfl))⟩
  f26 := ⟨Tryz.f248.name, by decide, Tryz.func248.trans (congrArg some (by kernel_rfl))⟩
  f27 := ⟨Tryz.f249.name, by decide, Tryz.func249.trans (congrArg some (by kernel_rfl))⟩
  f28 := Tryz.func163.trans (congrArg some (by kernel_rfl))
  f29 := Tryz.func164.trans (congrArg some (by kernel_rfl))
  f46 := ⟨Tryz.f250.name, by decide, Tryz.func250.trans (congrArg some (by kernel_rfl))⟩
  f47 := Tryz.func175.trans (congrArg some (by kernel_rfl))
  f48 := Tryz.func176.trans (congrArg some (by kernel_rfl))
  f49 := ⟨Tryz.f251.name, by decide, Tryz.func251.trans (congrArg some (by kernel_rfl))⟩
  f50 := ⟨Tryz.f252.name, by decide, Tryz.func252.trans (congrArg some (by kernel_rfl))⟩
  f57 := ⟨Tryz.f253.name, by decide, Tryz.func253.trans (congrArg some (by kernel_rfl))⟩
  t0 := Tryz.underlying0
  a0 := Tryz.isAgg0
  z0 := Tryz.sizeOf0
  v0 := Tryz.zeroValue0
  t3 := Tryz.underlying3
  a3 := Tryz.isAgg3
  z3 := Tryz.sizeOf3
  v3 := Tryz.zeroValue3
  t4 := Tryz.underlying4
  a4 := Tryz.isAgg4
  z4 := Tryz.sizeOf4
  v4 := Tryz.zeroValue4
  t5 := Tryz.underlying5
  a5 := Tryz.isAgg5
  z5 := Tryz.sizeOf5
  v5 := Tryz.zeroValue5
  t9 := Tryz.underlying9
  a9 := Tryz.isAgg9
  z9 := Tryz.sizeOf9
  v9 := Tryz.zeroValue9
  t22 := Tryz.underlying288
  a22 := Tryz.isAgg288
  z22 := Tryz.sizeOf288
  v22 := Tryz.zeroValue288
  t25 := Tryz.underlying291
  a25 := Tryz.isAgg291
  z25 := Tryz.sizeOf291
  v25 := Tryz.zeroValue291
  t39 := Tryz.underlying23
  a39 := Tryz.isAgg23
  z39 := Tryz.sizeOf23
  v39 := Tryz.zeroValue23
  t45 := Tryz.underlying230
  a45 := Tryz.isAgg230
  z45 := Tryz.sizeOf230
  v45 := Tryz.zeroValue230
  t46 := Tryz.underlying231
  a46 := Tryz.isAgg231
  z46 := Tryz.sizeOf231
  v46 := Tryz.zeroValue231
  t50 := Tryz.underlying61
  a50 := Tryz.isAgg61
  z50 := Tryz.sizeOf61
  v50 := Tryz.zeroValue61
  t53 := Tryz.underlying237
  a53 := Tryz.isAgg237
  z53 := Tryz.sizeOf237
  v53 := Tryz.zeroValue237
  t55 := Tryz.underlying154
  a55 := Tryz.isAgg154
  z55 := Tryz.sizeOf154
  v55 := Tryz.zeroValue154
  t66 := Tryz.underlying245
  a66 := Tryz.isAgg245
  z66 := Tryz.sizeOf245
  v66 := Tryz.zeroValue245
  t70 := Tryz.underlying249
  a70 := Tryz.isAgg249
  z70 := Tryz.sizeOf249
  v70 := Tryz.zeroValue249
  t76 := Tryz.underlying256
  a76 := Tryz.isAgg256
  z76 := Tryz.sizeOf256
  v76 := Tryz.zeroValue256
  t77 := Tryz.underlying147
  a77 := Tryz.isAgg147
  z77 := Tryz.sizeOf147
  v77 := Tryz.zeroValue147 }

end Go.Proofs
namespace Go.Proofs.YtpkdigegkemogaaGreatDoor
set_option maxRecDepth 100000
open Go.RowKit
open Go.Sort (grow)
open Go.Proofs.YtpkdigegkemogaaGreatDoor.Pk (one_at one_free one_set lt_some grown_set grown_trans grown_refl)
namespace Tb
open Wt (Opn mayOp)

set_option maxHeartbeats 400000 in
theorem nan_any (w : World) (x : Int) : Calls Tryz.prog 179 #[.int .i64 x] w fun e w' => e = .returned (.bool false) ∧ w = w' := by
  go_enter Tryz.func179, Tryz.ntmps179
  go_wp2
  go_ret
  exact ⟨rfl, rfl⟩
set_option maxHeartbeats 400000 in
theorem cmp_any (w : World) (x y : Int) : Calls Tryz.prog 241 #[.int .i64 x, .int .i64 y] w fun e w' => e = .returned (.int .i64 (Lib.compareInt x y)) ∧ w = w' := by
  have N := fun w x => nan_any w x
  have E : Hid (Lib.compareInt x y = if x < y then -1 else if y < x then 1 else 0) := by
    unfold Hid Lib.compareInt
    rfl
  by_cases h1 : x < y
  · go_enter Tryz.func241, Tryz.ntmps241
    go_wp2_with (go_at_call 179; refine (N _ _).mono ?_; rintro e w' ⟨rfl, rfl⟩)
    go_ret
    rw [E.out, if_pos h1]
    exact ⟨rfl, rfl⟩
  · by_cases h2 : y < x
    · go_enter Tryz.func241, Tryz.ntmps241
      go_wp2_with (go_at_call 179; refine (N _ _).mono ?_; rintro e w' ⟨rfl, rfl⟩)
      go_ret
      rw [E.out, if_neg (by omega), if_pos h2]
      exact ⟨rfl, rfl⟩
    · go_enter Tryz.func241, Tryz.ntmps241
      go_wp2_with (go_at_call 179; refine (N _ _).mono ?_; rintro e w' ⟨rfl, rfl⟩)
      go_ret
      rw [E.out, if_neg (by omega), if_neg (by omega)]
      exact ⟨rfl, rfl⟩
def cf (p q : Int × Int) : Int := if Lib.compareInt p.1 q.1 = 0 then Lib.compareInt p.2 q.2 else Lib.compareInt p.1 q.1
theorem cmpI_lt {x y : Int} : Lib.compareInt x y < 0 ↔ x < y := by
  unfold Lib.compareInt
  by_cases h : x < y
  · simp [h]
  · by_cases h2 : x > y <;> simp [h, h2]
theorem cmpI_z {x y : Int} : Lib.compareInt x y = 0 ↔ x = y := by
  unfold Lib.compareInt
  by_cases h : x < y
  · simp [h]; omega
  · by_cases h2 : x > y
    · simp [h, h2]; omega
    · simp [h, h2]; omega
theorem cf_lt (p q : Int × Int) : ltOf cf p q = lkB p q := by
  unfold ltOf lkB
  rw [decide_eq_decide]
  unfold cf lk
  by_cases h : p.1 = q.1
  · rw [if_pos (cmpI_z.2 h), cmpI_lt]
    omega
  · rw [if_neg (fun e => h (cmpI_z.1 e)), cmpI_lt]
    omega
theorem lkB_yes {p q : Int × Int} : lkB p q = true ↔ (p.1 < q.1 ∨ p.1 = q.1 ∧ p.2 < q.2) := by
  show decide (lk p q) = true ↔ lk p q
  rw [decide_eq_true_iff]
theorem lkB_no {p q : Int × Int} : lkB p q = false ↔ ¬ (p.1 < q.1 ∨ p.1 = q.1 ∧ p.2 < q.2) := by
  show decide (lk p q) = false ↔ ¬ lk p q
  rw [decide_eq_false_iff_not]
theorem cf_swo : Sort.SWO (ltOf cf) where
  irrefl x := by rw [cf_lt, lkB_no]; omega
  trans x y z h1 h2 := by
    rw [cf_lt, lkB_yes] at *
    omega
  ntrans x y z h1 h2 := by
    rw [cf_lt, lkB_no] at *
    omega
theorem cf_tot (x y : Int × Int) (h1 : ltOf cf x y = false) (h2 : ltOf cf y x = false) : x = y := by
  rw [cf_lt, lkB_no] at h1 h2
  exact Prod.ext (by omega) (by omega)
set_option maxHeartbeats 1600000 in
theorem compare_any (w : World) (g h : Nat) (a b c d : Int) (a0 : w.cell? ⟨g, 0, none⟩ = some (.int .i64 a)) (b0 : w.cell? ⟨g, 1, none⟩ = some (.int .i64 b)) (c0 : w.cell? ⟨h, 0, none⟩ = some (.int .i64 c)) (d0 : w.cell? ⟨h, 1, none⟩ = some (.int .i64 d)) :
    Calls Tryz.prog 239 #[.slice (some ⟨g, 0, none⟩) 2 2, .slice (some ⟨h, 0, none⟩) 2 2] w fun e w' => e = .returned (.int .i64 (cf (a, b) (c, d))) ∧ w = w' := by
  have C1 := cmp_any w a c
  have C2 := cmp_any w b d
  have E : Hid (cf (a, b) (c, d) = if Lib.compareInt a c = 0 then Lib.compareInt b d else Lib.compareInt a c) := rfl
  by_cases z1 : Lib.compareInt a c = 0
  · rw [E.out, if_pos z1]
    rw [z1] at C1
    by_cases z2 : Lib.compareInt b d = 0
    · rw [z2] at C2 ⊢
      clear E z1 z2
      go_enter Tryz.func239, Tryz.ntmps239
      go_wp2_with fail
      refine wp_loop_rounds 3 ?_
      rw [rounds_succ]
      go_wp2_with (go_at_call 241; with_reducible refine C1.mono ?_; rintro e w' ⟨rfl, rfl⟩)
      rw [rounds_succ]
      go_wp2_with (go_at_call 241; with_reducible refine C2.mono ?_; rintro e w' ⟨rfl, rfl⟩)
      rw [rounds_succ]
      go_wp2
      go_ret
      exact ⟨rfl, rfl⟩
    · generalize Lib.compareInt b d = r at *
      clear E z1
      go_enter Tryz.func239, Tryz.ntmps239
      go_wp2_with fail
      refine wp_loop_rounds 2 ?_
      rw [rounds_succ]
      go_wp2_with (go_at_call 241; with_reducible refine C1.mono ?_; rintro e w' ⟨rfl, rfl⟩)
      rw [rounds_succ]
      go_wp2_with (go_at_call 241; with_reducible refine C2.mono ?_; rintro e w' ⟨rfl, rfl⟩)
      go_ret
      exact ⟨rfl, rfl⟩
  · rw [E.out, if_neg z1]
    generalize Lib.compareInt a c = r at *
    clear E C2
    go_enter Tryz.func239, Tryz.ntmps239
    go_wp2_with fail
    refine wp_loop_rounds 1 ?_
    rw [rounds_succ]
    go_wp2_with (go_at_call 241; with_reducible refine C1.mono ?_; rintro e w' ⟨rfl, rfl⟩)
    go_ret
    exact ⟨rfl, rfl⟩
def encP (p : Int × Int) : List Value := [.int .i64 p.1, .int .i64 p.2]
set_option maxHeartbeats 1600000 in
theorem closure_any (x y : Int × Int) (w : World) : Calls Tryz.prog 238 #[.agg #[.int .i64 x.1, .int .i64 x.2], .agg #[.int .i64 y.1, .int .i64 y.2]] w fun e w' => e = .returned (.int .i64 (cf x y)) ∧ ∃ n os', w' = grow (w.drewN n) os' := by
  obtain ⟨a, b⟩ := x
  obtain ⟨c, d⟩ := y
  simp only
  have N0 : ((w.alloc (.cells #[.int .i64 a, .int .i64 b] 215)).alloc (.cells #[.int .i64 c, .int .i64 d] 215)).heap[w.heap.size]? = some (.cells #[.int .i64 a, .int .i64 b] 215 (0, 0)) := heap_alloc2_old _ _ _
  have N1 : ((w.alloc (.cells #[.int .i64 a, .int .i64 b] 215)).alloc (.cells #[.int .i64 c, .int .i64 d] 215)).heap[w.heap.size + 1]? = some (.cells #[.int .i64 c, .int .i64 d] 215 (0, 0)) := by
    have := heap_alloc_new (w.alloc (.cells #[.int .i64 a, .int .i64 b] 215)) (.cells #[.int .i64 c, .int .i64 d] 215)
    rwa [show (w.alloc (.cells #[.int .i64 a, .int .i64 b] 215)).heap.size = w.heap.size + 1 by simp] at this
  have C := fun n => (compare_any (((w.alloc (.cells #[.int .i64 a, .int .i64 b] 215)).alloc (.cells #[.int .i64 c, .int .i64 d] 215)).drewN n) w.heap.size (w.heap.size + 1) a b c d
    (one_at (i := 0) N0) (one_at (i := 1) N0) (one_at (i := 0) N1) (one_at (i := 1) N1)).mono (R' := fun e w'' => e = .returned (.int .i64 (cf (a, b) (c, d))) ∧ ∃ m, w'' = ((w.alloc (.cells #[.int .i64 a, .int .i64 b] 215)).alloc (.cells #[.int .i64 c, .int .i64 d] 215)).drewN m) fun _ _ h => ⟨h.1, n, h.2.symm⟩
  have HG : Hid (∀ n, ∃ m os', (((w.alloc (.cells #[.int .i64 a, .int .i64 b] 215)).alloc (.cells #[.int .i64 c, .int .i64 d] 215)).drewN n) = grow (w.drewN m) os') := fun n => ⟨n, _, by rw [Sort.alloc_eq_grow, Sort.alloc_eq_grow, Sort.grow_grow]; rfl⟩
  generalize cf (a, b) (c, d) = r at *
  go_enter Tryz.func238, Tryz.ntmps238
  go_wp2_with fail
  go_quiet (with_reducible exact C _)
  go_wp2
  go_ret
  exact ⟨rfl, HG.out _⟩
theorem cmpLays (blk off size : Nat) (w : World) : CmpLays Tryz.prog 238 #[] encP 2 cf blk off size w :=
  fun _ _ _ _ x y => closure_any x y _
end Tb
end Go.Proofs.YtpkdigegkemogaaGreatDoor
namespace Go.Proofs.YtpkdigegkemogaaGreatDoor
set_option maxRecDepth 100000
open Go.RowKit
open Go.Sort (grow putRow putCells Holds mapBlock onCells flatK)
open Go.Proofs.YtpkdigegkemogaaGreatDoor.Pk (one_at one_free one_set lt_some grown_set grown_trans grown_refl)
namespace Tb
open Wt (Opn mayOp)

def fll (l : List (Int × Int)) : List Value := l.flatMap encP
theorem fll_len (l : List (Int × Int)) : (fll l).length = l.length * 2 := by
  induction l with
  | nil => rfl
  | cons x l ih => rw [fll, List.flatMap_cons, List.length_append]; show 2 + (fll l).length = _; rw [ih, List.length_cons]; omega
theorem fll_app (a b : List (Int × Int)) : fll (a ++ b) = fll a ++ fll b := by simp [fll]
theorem fll_snoc (a : List (Int × Int)) (p : Int × Int) : fll (a ++ [p]) = fll a ++ [.int .i64 p.1, .int .i64 p.2] := by simp [fll, encP]
theorem fll_at {l : List (Int × Int)} {k : Nat} {x : Int × Int} (h : l[k]? = some x) {j : Nat} (hj : j < 2) : (fll l)[k * 2 + j]? = (encP x)[j]? := by
  obtain ⟨hl, rfl⟩ := List.getElem?_eq_some_iff.1 h
  have e : l = l.take k ++ l[k] :: l.drop (k + 1) := by rw [← List.drop_eq_getElem_cons hl, List.take_append_drop]
  have e2 : fll l = fll (l.take k) ++ (encP l[k] ++ fll (l.drop (k + 1))) := by
    conv => lhs; rw [e]
    rw [fll_app]
    congr 1
  have e3 : (fll (l.take k)).length = k * 2 := by rw [fll_len, List.length_take]; congr 1; omega
  rw [e2, List.getElem?_append_right (by omega), e3, List.getElem?_append_left (by show _ < 2; omega)]
  congr 1
  omega
theorem flat_pairs (l : List (Int × Int)) : flatK encP 2 l.toArray = (fll l).toArray := by
  apply Array.ext
  · simp [fll_len]
  · intro t h1 h2
    have ht : t < l.length * 2 := by simpa using h1
    have hk : t / 2 < l.length := by omega
    have e1 := Sort.get_flatK encP 2 l.toArray t (by simpa using ht)
    have e2 := fll_at (l := l) (k := t / 2) (List.getElem?_eq_getElem hk) (j := t % 2) (by omega)
    rw [show t / 2 * 2 + t % 2 = t by omega, List.getElem?_eq_getElem (by rw [fll_len]; exact ht)] at e2
    rw [getElem!_pos _ t h1] at e1
    rw [e1]
    have e3 : l.toArray[t / 2]! = l[t / 2] := by simp [hk]
    rw [e3, List.getElem_toArray]
    have hj : t % 2 < (encP l[t / 2]).length := by show _ < 2; omega
    rw [List.getElem?_eq_getElem hj] at e2
    injection e2 with e2
    rw [e2]
    exact getElem!_pos (encP l[t / 2]) (t % 2) hj
abbrev RowP (w : World) (base : Nat) (v : Value) (n : Nat) (l : List (Int × Int)) : Prop := w.ownsRow base KT 2 v n (fll l)
section
variable {w w' : World} {v v' : Value} {n base : Nat} {l : List (Int × Int)}
theorem rp_same (h : RowP w base v n l) (hk : ∀ g, v.ownBlock = some g → w'.heap[g]? = w.heap[g]?) : RowP w' base v n l := by
  refine ⟨h.1, ?_⟩
  rcases h.2 with h0 | ⟨g, cap, cur, hv, hb, hh, h2⟩
  · exact .inl h0
  · exact .inr ⟨g, cap, cur, hv, hb, (hk g (by rw [hv]; rfl)).trans hh, h2⟩
theorem rp_block {g : Nat} (h : RowP w base v n l) (hg : v.ownBlock = some g) : base ≤ g ∧ ∃ cur, w.heap[g]? = some (.cells cur KT (0, 0)) := by
  rcases h.2 with ⟨rfl, _⟩ | ⟨g', cap, cur, rfl, hb, hh, _⟩
  · simp [Value.ownBlock] at hg
  · have : g' = g := by simpa [Value.ownBlock] using hg
    subst this
    exact ⟨hb, cur, hh⟩
theorem rp_lt {g : Nat} (h : RowP w base v n l) (hg : v.ownBlock = some g) : g < w.heap.size := by
  obtain ⟨_, cur, hc⟩ := rp_block h hg
  exact lt_some hc
theorem rp_below (h : RowP w base v n l) (hb : Below w.heap.size w w') : RowP w' base v n l := rp_same h fun g hg => hb.block g (rp_lt h hg)
theorem rp_form (h : RowP w base v n l) : ∃ A c, v = .slice A n c ∧ n ≤ c ∧ c ≤ 9223372036854775807 ∧ (A = none → c = 0) := by
  rcases h.2 with ⟨rfl, rfl⟩ | ⟨g, cap, cur, rfl, hb, hh, h1, h2, _⟩
  · exact ⟨_, _, rfl, Nat.le_refl _, by omega, fun _ => rfl⟩
  · unfold maxLen at h2
    exact ⟨_, _, rfl, h1, h2, fun h => by cases h⟩
theorem rp_len (h : RowP w base v n l) : l.length = n := by have := h.1; rw [fll_len] at this; omega
theorem rp_cell {A : Option Addr} {c : Nat} (h : RowP w base (.slice A n c) n l) {k : Nat} {x : Int × Int} (hx : l[k]? = some x) : ∃ g, A = some ⟨g, 0, none⟩ ∧ w.cell? ⟨g, k * 2, none⟩ = some (.int .i64 x.1) ∧ w.cell? ⟨g, k * 2 + 1, none⟩ = some (.int .i64 x.2) := by
  have hkn : k < n := by rw [← rp_len h]; exact (List.getElem?_eq_some_iff.1 hx).1
  rcases h.2 with ⟨e, e0⟩ | ⟨g, cap, cur, e, hb, hh, h1, h2, h3, h4⟩
  · omega
  · injection e with eA _ _
    have hc : ∀ j, j < 2 → w.cell? ⟨g, k * 2 + j, none⟩ = (encP x)[j]? := fun j hj => by
      have ht : (cur.toList.take (n * 2))[k * 2 + j]? = (encP x)[j]? := by rw [h4, fll_at hx hj]
      rw [List.getElem?_take_of_lt (by omega), Array.getElem?_toList] at ht
      rw [one_at hh, ht]
    exact ⟨g, eA, hc 0 (by omega), hc 1 (by omega)⟩
end
theorem rp_at {w : World} {base n g c : Nat} {l : List (Int × Int)} (h : RowP w base (.slice (some ⟨g, 0, none⟩) n c) n l) {k : Nat} {x : Int × Int} (hx : l[k]? = some x) : w.cell? ⟨g, k * 2, none⟩ = some (.int .i64 x.1) ∧ w.cell? ⟨g, k * 2 + 1, none⟩ = some (.int .i64 x.2) := by
  obtain ⟨g', e, h1, h2⟩ := rp_cell h hx
  injection e with e
  injection e with e _ _
  subst e
  exact ⟨h1, h2⟩
theorem key_info : (Tryz.prog.info? 215).map (fun i => (i.zero, i.size, i.bytes)) = some (some (.agg #[.int .i64 0, .int .i64 0]), 2, 16) := by kernel_rfl
theorem wpList_app2 {P : Program} (wr : World) {ops : Array Oper} {rest : List Oper} {o : Oper} {a : Act} {Q : Exit → Act → World → Prop} (hgd : o.guard = none) (s x : Operand) (t : TypeId)
    (ho : o.op = .call { callee := .builtin .append, args := #[s, x], argTypes := #[t, t] })
    (base : Nat) (e : TypeId) (i : TypeInfo) (z : Value) (bytes : Nat) (ht : P.underlying t = some (.slice e)) (hi : P.info? e = some i) (hz : i.zero = some z) (hsize : i.size = 2) (hby : i.bytes = bytes) (hzs : z.cells.size = 2)
    (v : Value) (n : Nat) (xs : List Value) (u0 u1 : Value) (hs : a.eval s = v) (hown : wr.ownsRow base e 2 v n xs) (g : Nat) (hg : g = wr.heap.size) (hx : a.eval x = .slice (some ⟨g, 0, none⟩) 1 1) (hu0 : u0.oneCell' = true) (hu1 : u1.oneCell' = true)
    (h63 : n + 1 ≤ maxLen) (hb : (n + 1) * bytes ≤ 140737488355328) (hbase : base ≤ wr.heap.size)
    (h : ∀ v' w', w'.ownsRow base e 2 v' (n + 1) (xs ++ [u0, u1]) → (wr.alloc (.cells #[u0, u1] e)).grownBy w' v.ownBlock → wpList P ops Q rest (a.put o.dst v') w') : wpList P ops Q (o :: rest) a (wr.alloc (.cells #[u0, u1] e)) := by
  subst hg
  exact wpList_append_own _ hgd s x t ho base e i z 2 bytes ht hi hz hsize hby hzs (by decide) v n xs hs (hown.alloc _) ⟨wr.heap.size, 0, none⟩ 1 1 [u0, u1] hx rfl
    (by
      intro j y hj
      rw [Addr.add_lit, Nat.zero_add, one_at (heap_alloc_new wr (.cells #[u0, u1] e)), List.getElem?_toArray]
      exact hj)
    (by intro y hy; simp at hy; rcases hy with rfl | rfl <;> assumption) h63 hb (by simp; omega) (fun v' w' h1 h2 _ => h v' w' h1 h2)

theorem holds_id {w : World} {g : Nat} {cur : Array Value} {e : TypeId} {ss : List Value} (hb : w.heap[g]? = some (.cells cur e (0, 0))) (ht : cur.toList.take ss.length = ss) : Holds id w g 0 ss.toArray := by
  intro j hj
  have hj' : j < ss.length := by simpa using hj
  refine ⟨?_, by simp [World.frozen?, hb]⟩
  have h1 : (cur.toList.take ss.length)[j]? = ss[j]? := by rw [ht]
  rw [List.getElem?_take_of_lt hj', Array.getElem?_toList] at h1
  rw [one_at (i := 0 + j) hb, Nat.zero_add, h1]
  simp [hj']
theorem heap_put {w : World} {g n : Nat} {os : Array Obj} {cur : Array Value} {e : TypeId} {fr : Nat × Nat} (d : Array Value) (hb : w.heap[g]? = some (.cells cur e fr)) :
    (grow (putRow id (Sort.ahead w n) g 0 d) os).heap[g]? = some (.cells (putCells id 0 d cur) e fr) := by
  have hg : g < w.heap.size := lt_some hb
  rw [Sort.heap_grow_old _ _ (by simpa using hg)]
  simp [putRow, mapBlock, Sort.ahead, Array.getElem?_modify, hb, onCells]
theorem grown_put {w : World} {g n : Nat} {os : Array Obj} (d : Array Value) : w.grownBy (grow (putRow id (Sort.ahead w n) g 0 d) os) (some g) := by
  refine ⟨rfl, rfl, rfl, by simp, fun k hk hne => ?_⟩
  rw [Sort.heap_grow_old _ _ (by simpa using hk)]
  have : g ≠ k := fun e => hne (by rw [e])
  simp [putRow, mapBlock, Sort.ahead, Array.getElem?_modify, this]
theorem take_put (cur : Array Value) (ts : List Value) (h : ts.length ≤ cur.size) : (putCells id 0 ts.toArray cur).toList.take ts.length = ts := by
  apply List.ext_getElem?
  intro j
  by_cases hj : j < ts.length
  · rw [List.getElem?_take_of_lt hj, Array.getElem?_toList]
    simp [putCells, hj, show j < cur.size by omega]
  · rw [List.getElem?_take_eq_none (by omega), List.getElem?_eq_none (by omega)]
theorem enters24 : ∀ args w, (callFunc 238 args).run Tryz.prog w = .ok (.enter 238 args) w := enters_of Tryz.func238 (by kernel_rfl) rfl
theorem sort_row (w : World) (base : Nat) (v : Value) (xs : List (Int × Int)) (h : RowP w base v xs.length xs) (few : xs.length ≤ 1200) :
    Calls Tryz.prog 237 #[v, .func (.func 238) #[] #[]] w fun e w' => e = .returned (.tuple #[]) ∧ RowP w' base v xs.length (xs.mergeSort fun x y => !lkB y x) ∧ Below base w w' := by
  rcases h.2 with ⟨rfl, h0⟩ | ⟨g, cap, cur, rfl, hb, hh, h1, h2, h3, h4⟩
  · obtain rfl : xs = [] := List.eq_nil_of_length_eq_zero h0
    refine (AnyF.slices_SortFunc_none Tryz.tbsort none 0 (.func (.func 238) #[] #[]) w).mono ?_
    rintro e w' ⟨rfl, rfl⟩
    exact ⟨rfl, by rw [List.mergeSort_nil]; exact h, Below.refl _ _⟩
  · have ht : cur.toList.take (fll xs).length = fll xs := by rw [fll_len]; exact h4
    have H : Sort.HoldsK encP 2 w g 0 xs.toArray := by
      unfold Sort.HoldsK
      rw [flat_pairs]
      exact holds_id hh ht
    refine (AnyQ.slices_SortFunc_total Tryz.tbsort 2 Tryz.isAgg215 Tryz.sizeOf215 encP (fun _ => rfl) (fun x v hv => by simp [encP] at hv; rcases hv with rfl | rfl <;> rfl) cf cf_swo 238 #[] g 0 cap xs.toArray w enters24 (cmpLays g 0 _ w) H (lt_some hh) (by simp; omega) cf_tot).mono ?_
    rintro e w' ⟨rfl, n, os, rfl⟩
    have hl : (xs.mergeSort fun x y => !lkB y x).length = xs.length := List.length_mergeSort ..
    have hf : (fun x y => !(ltOf cf) y x) = fun x y => !lkB y x := by funext x y; rw [cf_lt]
    rw [hf]
    unfold sortWorldK Sort.putRowK
    rw [flat_pairs]
    have hsz : (fll (xs.mergeSort fun x y => !lkB y x)).length = xs.length * 2 := by rw [fll_len, hl]
    refine ⟨rfl, ⟨hsz, .inr ⟨g, cap, _, rfl, hb, heap_put _ hh, h1, h2, by simp [putCells, h3], ?_⟩⟩, ?_⟩
    · rw [← hsz]
      refine take_put cur _ ?_
      rw [hsz, h3]
      exact Nat.mul_le_mul_right 2 h1
    · have G := grown_put (w := w) (g := g) (os := os) (n := n) (fll (xs.mergeSort fun x y => !lkB y x)).toArray
      exact ⟨G.os, G.tape, G.output, G.size, fun i hi => G.block i (by have := lt_some hh; omega) (fun e => by injection e with e; omega)⟩

structure Rg (w : World) (b r : Nat) (D : DataW Value) (f : F) (L : Int × Int → Bool) : Prop where
  at_ : ∃ left cnt, w.ranges Tryz.prog KT Rdv b r 1200 D left cnt ∧ (∀ p : Int × Int, f p.1 p.2 ≠ 0 → L p = left (Kl p)) ∧ ∀ kl, left kl = true → Maps.has D kl = true
  in_ : ∀ p : Int × Int, L p = true → f p.1 p.2 ≠ 0
section
variable {w w' : World} {b r : Nat} {D : DataW Value} {f : F} {L : Int × Int → Bool}
theorem Rg.keep (R : Rg w b r D f L) {row : Option Nat} (hg : w.grownBy w' row) (hb : some b ≠ row) (hr : some r ≠ row) : Rg w' b r D f L := by
  obtain ⟨left, cnt, h, e⟩ := R.at_
  exact ⟨⟨left, cnt, h.kept hg hb hr, e⟩, R.in_⟩
theorem Rg.lt (R : Rg w b r D f L) : r < w.heap.size ∧ b < w.heap.size := by
  obtain ⟨left, cnt, h, e⟩ := R.at_
  exact ⟨h.lt, h.owns.lt⟩
theorem Rg.not_row {base n : Nat} {v : Value} {xs : List (Int × Int)} (R : Rg w b r D f L) (h : RowP w base v n xs) : some b ≠ v.ownBlock ∧ some r ≠ v.ownBlock := by
  obtain ⟨left, cnt, hr, _⟩ := R.at_
  constructor
  · intro e
    obtain ⟨_, cur, hc⟩ := rp_block h e.symm
    exact ne_map hr.owns hc rfl
  · intro e
    obtain ⟨_, cur, hc⟩ := rp_block h e.symm
    obtain ⟨es, clock, since, seen, c0, _, _, _, _, hb, _⟩ := hr
    rw [hc] at hb
    injection hb with hb
    cases hb
variable {ops : Array Oper} {rest : List Oper} {o : Oper} {a : Act} {Q : Exit → Act → World → Prop}
theorem wpList_range_tab (hg : o.guard = none) (m : Operand) (t : TypeId) (hop : o.op = Op.range t m) (e : TypeId) (ht : Tryz.prog.underlying t = some (.map KT e)) (f : F) (O : Ok f) (D : DataW Value)
    (hm : a.eval m = .map (some b)) (hown : w.ownsMap Tryz.prog KT Rdv b 1200 D) (T : Tie D f)
    (hK : ∀ w', Rg w' b w.heap.size D f (fun p => ne0 (f p.1 p.2)) → w.grownBy w' none → w'.heap.size = w.heap.size + 1 → wpList Tryz.prog ops Q rest (a.put o.dst (.pointer (some ⟨w.heap.size, 0, none⟩))) w') :
    wpList Tryz.prog ops Q (o :: rest) a w :=
  wpList_range_own w hg m t hop KT e law ht Rdv b 1200 D hm hown fun w' h1 h2 h3 => hK w' ⟨⟨_, _, h1, fun p hp => (T.has p (O.bp hp)).symm, fun _ h => h⟩, fun _ h => ne0_iff.1 h⟩ h2 h3
theorem wpList_next_tab (hg : o.guard = none) (it : Operand) (hop : o.op = Op.next it false) (b r : Nat) (D : DataW Value) (f : F) (O : Ok f) (L : Int × Int → Bool)
    (hit : a.eval it = .pointer (some ⟨r, 0, none⟩)) (h : Rg w b r D f L) (T : Tie D f)
    (hDone : (∀ k, L k = false) → wpList Tryz.prog ops Q rest (a.put o.dst (.tuple #[.bool false])) w)
    (hMore : ∀ (x y z : Int) (w' : World), L (x, y) = true → (x, y) ∈ keys f → Rg w' b r D f (fun k => L k && !decide (k = (x, y))) → w'.rangeLeft b r < w.rangeLeft b r → w.grownBy w' (some r) → w'.heap.size = w.heap.size →
      (Instr.entry (.pointer (some ⟨r, 0, none⟩))).run Tryz.prog w' = .ok (.tuple #[.agg #[.int .i64 x, .int .i64 y], .int .i64 z]) w' →
      wpList Tryz.prog ops Q rest (a.put o.dst (.tuple #[.bool true, .agg #[.int .i64 x, .int .i64 y], .int .i64 z])) w') :
    wpList Tryz.prog ops Q (o :: rest) a w := by
  refine wpList_plain hg fun K' hK' => ?_
  unfold Oper.wp
  obtain ⟨left, cnt, hrg, hL, hH⟩ := h.at_
  rcases hrg.next law o.type with ⟨h0, hl, hrun⟩ | ⟨key, v, kl, y, w', cnt', hkey, hlk, hv, hat, hrun, hrg', hlt, hgr, hsz, hen⟩
  · simp [execOp, hop, hit, hrun, Result.andThen]
    refine hK' _ _ (hDone fun k => ?_)
    cases hk : L k with
    | false => rfl
    | true => rw [← hk, hL k (h.in_ k hk), hl]
  · obtain ⟨p, rfl, rfl, hp⟩ := key_inv hkey
    have hfp : f p.1 p.2 ≠ 0 := by
      have := hH _ hlk
      rw [T.has p hp] at this
      simpa using this
    have hx : L p = true := (hL p hfp).trans hlk
    have hv' : v = .int .i64 (f p.1 p.2) := by
      injection hv with hv
      have h1 := hat (.held v)
      rw [T.at_ p hp hfp] at h1
      rw [← hv] at h1
      injection h1 with h1
      exact h1.symm
    obtain ⟨⟨b1, b2⟩, ⟨k1, k2⟩, _⟩ := O.inn _ _ hfp
    simp [execOp, hop, hit, hrun, Result.andThen]
    obtain ⟨x, y'⟩ := p
    subst hv'
    refine hK' _ _ (hMore x y' _ w' hx (mem_keys.2 ⟨⟨b1, b2⟩, ⟨k1, k2⟩, hfp⟩) ⟨⟨_, _, hrg', fun z hz => ?_, fun kl' hk => hH kl' ?_⟩, fun z hk => h.in_ z ?_⟩ (by rw [hrg'.left_eq, hrg.left_eq]; exact hlt) hgr hsz hen)
    · rw [hL z hz, kl_same (O.bp hz) hp]
    · simp only [Bool.and_eq_true] at hk
      exact hk.1
    · simp only [Bool.and_eq_true] at hk
      exact hk.1
end
end Tb
end Go.Proofs.YtpkdigegkemogaaGreatDoor
namespace Go.Proofs.YtpkdigegkemogaaGreatDoor
set_option maxRecDepth 100000
open Go.RowKit
open Go.Sort (grow)
open Go.Proofs.YtpkdigegkemogaaGreatDoor.Pk (one_at one_free one_set lt_some grown_set grown_trans grown_refl)
namespace Tb
open Wt (Opn mayOp)

def RisTo (w : World) (l : List (Int × Int)) (e : Ending) (w' : World) : Prop := ∃ v, e = .returned v ∧ RowP w' w.heap.size v l.length l ∧ Below w.heap.size w w'
set_option maxHeartbeats 800000 in
theorem rising_none (w : World) : Calls Tryz.prog 229 #[.map none] w (RisTo w []) := by
  have hrg := run_range_nilMap (P := Tryz.prog) w 162 215 3 Tryz.underlying162
  have hnx : ∀ ty, (Instr.next (.pointer (some ⟨w.heap.size, 0, none⟩)) false ty).run Tryz.prog (w.alloc (.mapIter none 0 #[] 0)) = _ := fun ty => run_next_nilMap w ty 0 0 #[]
  have HB : Hid (Below w.heap.size w (w.alloc (.mapIter none 0 #[] 0))) := (Below.refl _ _).alloc (Nat.le_refl _) _
  have SO : Hid (∀ w fv, Calls Tryz.prog 237 #[.slice none 0 0, fv] w fun e w' => e = .returned (.tuple #[]) ∧ w' = w) := fun w fv => AnyF.slices_SortFunc_none Tryz.tbsort none 0 fv w
  go_enter Tryz.func229, Tryz.ntmps229
  go_wp2
  refine wp_loop_rounds 1 ?_
  rw [rounds_succ]
  go_wp2_with fail
  refine (SO.out _ _).mono ?_
  rintro e w1 ⟨rfl, rfl⟩
  clear SO
  go_wp2
  go_ret
  exact ⟨_, rfl, World.ownsRow_nil _ _ _ _, HB.out⟩
set_option maxHeartbeats 1600000 in
theorem rising_some (w : World) (m : Nat) (f : F) (D : DataW Value) (hown : w.ownsMap Tryz.prog KT Rdv m 1200 D) (T : Tie D f) (O : Ok f) :
    Calls Tryz.prog 229 #[.map (some m)] w (RisTo w (keys f)) := by
  have hT := Lib.hid T
  have hO := Lib.hid O
  have hm := hown.lt
  have st : Hid (Col f (fun p => ne0 (f p.1 p.2)) []) := Col.start fun p hp => ne0_not.1 hp
  obtain ⟨i0, hi, hz0, hz1, hz2⟩ := info_parts key_info
  replace hi := Lib.hid hi
  replace hz0 := Lib.hid hz0
  replace hz1 := Lib.hid hz1
  replace hz2 := Lib.hid hz2
  clear T O
  go_enter Tryz.func229, Tryz.ntmps229
  go_wp2_with (first
    | (at_range; refine wpList_range_tab rfl _ 162 rfl 3 Tryz.underlying162 f hO.out D rfl hown hT.out ?_; intro w0 hrg0 hg0 hs0)
    | go_in)
  go_frame
  go_loopw [3] (fun v wr => ∃ L xs, RowP wr w.heap.size v xs.length xs ∧ Col f L xs ∧ Rg wr m w.heap.size D f L ∧ Below w.heap.size w wr) (fun _ wr => wr.rangeLeft m w.heap.size)
  case atStart => exact ⟨_, [], World.ownsRow_nil _ _ _ _, st.out, hrg0, below_of_grown hg0 (Nat.le_refl _) (fun i h => by cases h)⟩
  case round =>
    clear hrg0 hg0 hs0
    obtain ⟨L, xs, hrow, hcol, hrg, hb⟩ := hrel
    have few := hcol.len
    obtain ⟨A, c, rfl, hc1, hc2, hc3⟩ := rp_form hrow
    replace hb := Lib.hid hb
    replace hcol := Lib.hid hcol
    go_wp2_with (first
      | (at_next; refine wpList_next_tab rfl _ rfl m w.heap.size D f hO.out L rfl hrg hT.out ?_ ?_)
      | go_in)
    · intro hl0
      have hl : ∀ p, L p = false := fun p => hl0 p.1 p.2
      have SO := Lib.hid (sort_row wr w.heap.size _ xs hrow few)
      rw [hcol.out.sort hl] at SO
      have hln : (keys f).length = xs.length := (hcol.out.perm hl).symm
      replace hln := Lib.hid hln
      clear hrow hrg
      go_wp2_with fail
      refine SO.out.mono ?_
      rintro e w2 ⟨rfl, h2, h3⟩
      have E : Hid (RisTo w (keys f) (.returned (.slice A xs.length c)) w2) := ⟨_, rfl, by rw [hln.out]; exact h2, hb.out.trans h3⟩
      clear SO h2 h3
      go_wp2
      go_ret
      exact E.out
    · intro x y z w1 hlx hmem hrg1 hlt hg1 hs1 hen
      obtain ⟨W, hW⟩ : ∃ W, W = w1.alloc (.cells #[.int .i64 x, .int .i64 y] 215) := ⟨_, rfl⟩
      have hWs : w1.heap.size + 1 = W.heap.size := by rw [hW]; simp
      have gW : wr.grownBy W (some w.heap.size) := by rw [hW]; exact hg1.andThen (World.grownBy_alloc _ _ none) (fun j hj => by cases hj)
      have BW : Hid (Below w.heap.size w W) := hb.out.trans (below_of_grown gW hb.out.size (fun i h => by injection h with h; omega))
      have rW : Hid (Rg W m w.heap.size D f (fun k => L k && !decide (k = (x, y)))) := by rw [hW]; exact hrg1.keep (World.grownBy_alloc _ _ none) (by simp) (by simp)
      have oW : Hid (RowP W w.heap.size (.slice A xs.length c) xs.length xs) := rp_same hrow fun g hg => gW.block g (rp_lt hrow hg) (fun e => (hrg.not_row hrow).2 (by rw [hg, e]))
      have mW : Hid (W.rangeLeft m w.heap.size < wr.rangeLeft m w.heap.size) := by
        have e : W.rangeLeft m w.heap.size = w1.rangeLeft m w.heap.size := by
          obtain ⟨left, cnt, h, _⟩ := hrg1.at_
          rw [hW, h.left_eq, (h.alloc _).left_eq]
        rw [e]; exact hlt
      have hcol2 : Hid (Col f (fun k => L k && !decide (k = (x, y))) (xs ++ [(x, y)])) := hcol.out.take hlx (fun _ => rfl) hmem
      have z2 : Hid (w.heap.size ≤ W.heap.size) := BW.out.size
      replace hW := Lib.hid hW
      replace hWs := Lib.hid hWs
      clear gW hrg1 hlt hg1 hs1 hlx hrg hrow hmem
      go_wp2_with (at_builtin; go_loud (refine wpList_app2 (w1.alloc (.cells #[.int .i64 x, .int .i64 y] 215)) rfl (.tmp 11) (.tmp 13) 288 rfl w.heap.size 215 i0 (.agg #[.int .i64 0, .int .i64 0]) 16 Tryz.underlying288 hi.out hz0.out hz1.out hz2.out rfl _ xs.length (fll xs) (.int .i64 x) (.int .i64 y) rfl (by rw [← hW.out]; exact oW.out) (w1.heap.size + 1) (by rw [← hW.out]; exact hWs.out) rfl rfl rfl (by unfold maxLen; omega) (by omega) (by rw [← hW.out]; exact z2.out) ?_); intro v6 w6 h6 g6; have G6 : Hid (W.grownBy w6 (Value.slice A xs.length c).ownBlock) := (World.grownBy_alloc W (.cells #[.int .i64 x, .int .i64 y] 215) (Value.slice A xs.length c).ownBlock).trans (by rw [hW.out]; exact g6); have O6 := Lib.hid h6; clear h6 g6)
      have r6 : Hid (Rg w6 m w.heap.size D f (fun k => L k && !decide (k = (x, y)))) := by
        have := rW.out.not_row oW.out
        exact rW.out.keep G6.out this.1 this.2
      have m6 : Hid (w6.rangeLeft m w.heap.size < wr.rangeLeft m w.heap.size) := by
        have e : w6.rangeLeft m w.heap.size = W.rangeLeft m w.heap.size := by
          obtain ⟨l1, l2⟩ := rW.out.lt
          have := rW.out.not_row oW.out
          unfold World.rangeLeft
          rw [G6.out.block _ l1 this.2, G6.out.block _ l2 this.1]
        rw [e]; exact mW.out
      have B6 : Hid (Below w.heap.size w w6) := BW.out.trans (below_of_grown G6.out z2.out (fun i h => (oW.out.lt i h).1))
      go_roundw
      case rel => exact ⟨_, xs ++ [(x, y)], by unfold RowP; rw [fll_snoc, List.length_append]; exact O6.out, hcol2.out, r6.out, B6.out⟩
      case measure => exact m6.out
theorem rising_any (w : World) (mo : Option Nat) (f : F) (h : MapIs w mo f) (O : Ok f) :
    Calls Tryz.prog 229 #[.map mo] w (RisTo w (keys f)) := by
  rcases h with ⟨rfl, rfl⟩ | ⟨m, D, rfl, ho, T⟩
  · rw [keys_z]
    exact rising_none w
  · exact rising_some w m f D ho T O
set_option maxHeartbeats 800000 in
theorem keys_any (w : World) (q z : Nat) (f : F) (fp : Nat → Prop) (L : Tab w q z f fp) : Calls Tryz.prog 236 #[.pointer (some ⟨q, z, none⟩)] w (RisTo w (keys f)) := by
  obtain ⟨mo, h1, h2, h3⟩ := L.at_
  have C := all_at w q z mo h1
  have R := Lib.hid (rising_any w mo f h2 L.ok)
  clear h1 h2 h3 L
  go_enter Tryz.func236, Tryz.ntmps236
  go_wp2_with fail
  refine C.mono ?_
  rintro e w' ⟨rfl, rfl⟩
  clear C
  go_wp2_with fail
  refine R.out.mono ?_
  rintro e w1 ⟨v, rfl, h1, h2⟩
  have E : Hid (RisTo w (keys f) (.returned v) w1) := ⟨v, rfl, h1, h2⟩
  clear R h1 h2
  go_wp2
  go_ret
  exact E.out
end Tb
end Go.Proofs.YtpkdigegkemogaaGreatDoor
