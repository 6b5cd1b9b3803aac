/- Parts of the claim: FoH, FoC -/
import Derived.Deep.CutRange
import Derived.Test.YtpkdigegkemogaaGreatDoorDhXT
import Derived.Test.YtpkdigegkemogaaGreatDoorHoXbT
import Derived.Test.YtpkdigegkemogaaGreatDoorDzXT
namespace Go.Proofs.YtpkdigegkemogaaGreatDoor
set_option maxRecDepth 100000
open Go.RowKit
open Go.Proofs.YtpkdigegkemogaaGreatDoor.Pk (one_at one_free one_set lt_some)
namespace Fo
open Ho (Dh)
open St (Dz entc)
open Tb (Dm cnt)

def hcl (cap over : Int) (s : Ho.S) (i : Nat) : Value :=
  if i = 0 then .int .i64 cap else if i = 1 then .int .i64 over
  else if i < 1007 then ((entc (s.f (((i - 2) / 5 : Nat) : Int)))[(i - 2) % 5]?).getD (.int .i64 0)
  else if i < 2414 then .int .i64 (s.g (((i - 1007) / 7 : Nat) : Int) (((i - 1007) % 7 : Nat) : Int))
  else .int .i64 (cnt s.g : Nat)
def hcs (cap over : Int) (s : Ho.S) : List Value := (List.range 2415).map (hcl cap over s)
theorem hcs_len (cap over : Int) (s : Ho.S) : (hcs cap over s).length = 2415 := by simp [hcs]
theorem hcs_at (cap over : Int) (s : Ho.S) {j : Nat} (hj : j < 2415) : (hcs cap over s)[j]? = some (hcl cap over s j) := by
  unfold hcs
  rw [List.getElem?_map, List.getElem?_range hj]
  rfl
theorem ent_at (e : St.E) {j : Nat} (hj : j < 5) : (entc e)[j]? = some (((entc e)[j]?).getD (.int .i64 0)) := by
  match j, hj with
  | 0, _ => rfl
  | 1, _ => rfl
  | 2, _ => rfl
  | 3, _ => rfl
  | 4, _ => rfl
theorem hcl_one (cap over : Int) (s : Ho.S) (i : Nat) : (hcl cap over s i).oneCell' = true := by
  unfold hcl
  split
  · rfl
  · split
    · rfl
    · split
      · have h5 : (i - 2) % 5 < 5 := Nat.mod_lt _ (by omega)
        generalize (i - 2) % 5 = j at *
        match j, h5 with
        | 0, _ => rfl
        | 1, _ => rfl
        | 2, _ => rfl
        | 3, _ => rfl
        | 4, _ => rfl
      · split
        · rfl
        · rfl
theorem hcs_one (cap over : Int) (s : Ho.S) : (hcs cap over s).toArray.all (·.oneCell') = true := all_oneCell_toArray fun v hv => by
  unfold hcs at hv
  obtain ⟨i, -, rfl⟩ := List.mem_map.1 hv
  exact hcl_one cap over s i
section
variable {w w' : World} {d z : Nat} {cap over : Int} {s : Ho.S}
theorem range_of (h0 : w.cell? ⟨d, z, none⟩ = some (.int .i64 cap)) (h1 : w.cell? ⟨d, z + 1, none⟩ = some (.int .i64 over)) (he : ∀ k : Nat, k ≤ 200 → w.rangeAt d (z + 2 + k * 5) (entc (s.f (k : Int))))
    (ht : ∀ b k : Nat, b ≤ 200 → k ≤ 6 → w.cell? ⟨d, z + 1007 + b * 7 + k, none⟩ = some (.int .i64 (s.g (b : Int) (k : Int)))) (hn : w.cell? ⟨d, z + 2414, none⟩ = some (.int .i64 (cnt s.g : Nat))) : w.rangeAt d z (hcs cap over s) := by
  intro j v hj
  have hl : j < 2415 := by have := (List.getElem?_eq_some_iff.1 hj).1; rw [hcs_len] at this; exact this
  rw [hcs_at cap over s hl] at hj
  injection hj with hj
  subst hj
  unfold hcl
  split
  · rename_i e; subst e; exact h0
  · split
    · rename_i e; subst e; exact h1
    · split
      · have hm : (j - 2) % 5 < 5 := Nat.mod_lt _ (by omega)
        have hd := he ((j - 2) / 5) (by omega) ((j - 2) % 5) _ (ent_at _ hm)
        have e : z + 2 + (j - 2) / 5 * 5 + (j - 2) % 5 = z + j := by omega
        rw [e] at hd
        exact hd
      · split
        · have hm : (j - 1007) % 7 < 7 := Nat.mod_lt _ (by omega)
          have hd := ht ((j - 1007) / 7) ((j - 1007) % 7) (by omega) (by omega)
          have e : z + 1007 + (j - 1007) / 7 * 7 + (j - 1007) % 7 = z + j := by omega
          rw [e] at hd
          exact hd
        · obtain rfl : j = 2414 := by omega
          exact hn
theorem of_range (h : w.rangeAt d z (hcs cap over s)) : w.cell? ⟨d, z, none⟩ = some (.int .i64 cap) ∧ w.cell? ⟨d, z + 1, none⟩ = some (.int .i64 over) ∧ (∀ k : Nat, k ≤ 200 → w.rangeAt d (z + 2 + k * 5) (entc (s.f (k : Int)))) ∧
    (∀ b k : Nat, b ≤ 200 → k ≤ 6 → w.cell? ⟨d, z + 1007 + b * 7 + k, none⟩ = some (.int .i64 (s.g (b : Int) (k : Int)))) ∧ w.cell? ⟨d, z + 2414, none⟩ = some (.int .i64 (cnt s.g : Nat)) := by
  have g : ∀ j, j < 2415 → w.cell? ⟨d, z + j, none⟩ = some (hcl cap over s j) := fun j hj => h j _ (hcs_at cap over s hj)
  refine ⟨g 0 (by omega), g 1 (by omega), fun k hk j v hj => ?_, fun b k hb hk => ?_, g 2414 (by omega)⟩
  · have h5 : j < 5 := (List.getElem?_eq_some_iff.1 hj).1
    have := g (2 + k * 5 + j) (by omega)
    unfold hcl at this
    rw [if_neg (by omega), if_neg (by omega), if_pos (by omega)] at this
    have e1 : (2 + k * 5 + j - 2) / 5 = k := by omega
    have e2 : (2 + k * 5 + j - 2) % 5 = j := by omega
    rw [e1, e2, hj] at this
    have e3 : z + 2 + k * 5 + j = z + (2 + k * 5 + j) := by omega
    rw [e3]
    exact this
  · have := g (1007 + b * 7 + k) (by omega)
    unfold hcl at this
    rw [if_neg (by omega), if_neg (by omega), if_neg (by omega), if_pos (by omega)] at this
    have e1 : (1007 + b * 7 + k - 1007) / 7 = b := by omega
    have e2 : (1007 + b * 7 + k - 1007) % 7 = k := by omega
    rw [e1, e2] at this
    have e3 : z + 1007 + b * 7 + k = z + (1007 + b * 7 + k) := by omega
    rw [e3]
    exact this
theorem dh_range (D : Dh w d cap over s) : w.rangeAt d 0 (hcs cap over s) := by
  refine range_of D.st.c0 D.st.c1 (fun k hk => ?_) (fun b k hb hk => ?_) ?_
  · rw [Nat.zero_add]; exact D.st.ent k hk
  · rw [Nat.zero_add]; exact D.tb.at_ b k hb hk
  · rw [Nat.zero_add]; exact D.tb.num
theorem dh_of_range (h : w.rangeAt d 0 (hcs cap over s)) (hl : d < w.heap.size) (hf : ∀ i, w.frozen? ⟨d, i, none⟩ = false) : Dh w d cap over s := by
  obtain ⟨h0, h1, he, ht, hn⟩ := of_range h
  refine ⟨⟨hl, h0, h1, fun k hk => ?_, hf⟩, ⟨hl, fun b k hb hk => ?_, ?_, hf⟩⟩
  · have := he k hk; rw [Nat.zero_add] at this; exact this
  · have := ht b k hb hk; rw [Nat.zero_add] at this; exact this
  · rw [Nat.zero_add] at hn; exact hn
structure Sx (w : World) (d : Nat) (n cap over : Int) (s : Ho.S) : Prop where
  c0 : w.cell? ⟨d, 0, none⟩ = some (.int .i64 n)
  st : Dz w d cap over s.f
  tb : Dm w d 1008 s.g (cnt s.g : Nat)
variable {n : Int}
theorem Sx.lt (D : Sx w d n cap over s) : d < w.heap.size := D.st.lt
theorem Sx.keep (D : Sx w d n cap over s) (h : w'.heap[d]? = w.heap[d]?) : Sx w' d n cap over s := ⟨(World.cell?_of_block h).trans D.c0, D.st.keep h, D.tb.keep h⟩
theorem Sx.below (D : Sx w d n cap over s) (hb : Below w.heap.size w w') : Sx w' d n cap over s := D.keep (hb.block _ D.lt)
theorem sx_range (D : Sx w d n cap over s) : w.rangeAt d 1 (hcs cap over s) := by
  refine range_of D.st.c0 D.st.c1 (fun k hk => D.st.ent k hk) (fun b k hb hk => D.tb.at_ b k hb hk) D.tb.num
theorem sx_of_range (h : w.rangeAt d 1 (hcs cap over s)) (h0 : w.cell? ⟨d, 0, none⟩ = some (.int .i64 n)) (hl : d < w.heap.size) (hf : ∀ i, w.frozen? ⟨d, i, none⟩ = false) : Sx w d n cap over s := by
  obtain ⟨h1, h2, he, ht, hn⟩ := of_range h
  exact ⟨h0, ⟨hl, h1, h2, fun k hk => he k hk, hf⟩, ⟨hl, fun b k hb hk => ht b k hb hk, hn, hf⟩⟩
theorem sx_there (D : Sx w d n cap over s) : w.there d 1 2415 := fun j hj => ⟨by
  rw [sx_range D j _ (hcs_at cap over s hj)]; rfl, D.st.free _⟩
theorem sx_put (D : Sx w d n cap over s) (s' : Ho.S) : Sx (w.setCells d 1 (hcs cap over s')) d n cap over s' :=
  sx_of_range (World.rangeAt_setCells_same w d 1 _ (by rw [hcs_len]; exact sx_there D))
    (by rw [World.cell?_setCells_out d _ _ w ⟨d, 0, none⟩ (fun _ _ => .inl (by show 0 < 1; omega))]; exact D.c0)
    (by rw [(St.setCells_block d _ _ w).1]; exact D.lt) (fun i => by rw [World.frozen?_setCells]; exact D.st.free i)
end
theorem host_info : (Tryz.prog.info? 46).map (·.size) = some 2415 := by kernel_rfl
def zhost : Array Value := Array.replicate 2415 (.int .i64 0)
theorem alloc_host (w : World) : (Instr.alloc 46 true (.tuple #[])).run Tryz.prog w = .ok (.pointer (some ⟨w.heap.size, 0, none⟩)) (w.alloc (.cells zhost 46)) := by kernel_rfl
theorem zhost_size (cap over : Int) (s : Ho.S) : zhost.size = (hcs cap over s).toArray.size := by simp [zhost, hcs_len]
theorem hcs_info (cap over : Int) (s : Ho.S) : (Tryz.prog.info? 46).map (·.size) = some (hcs cap over s).toArray.size := by rw [host_info]; simp [hcs_len]
theorem hcs_info2 (cap over : Int) (s : Ho.S) : (Tryz.prog.info? 46).map (·.size) = some (hcs cap over s).length := by rw [host_info, hcs_len]
theorem dh_box {w : World} {g : Nat} {cap over : Int} {s : Ho.S} (h : w.heap[g]? = some (.cells (hcs cap over s).toArray 46 (0, 0))) : Dh w g cap over s :=
  dh_of_range (fun j v hj => by rw [Nat.zero_add, one_at h]; simpa using hj) (lt_some h) (fun i => one_free h)
section
variable {ops : Array Oper} {rest : List Oper} {o : Oper} {a : Act} {w : World} {Q : Exit → Act → World → Prop}
theorem wpList_allocH (hg : o.guard = none) (ho : o.op = .alloc 46)
    (h : wpList Tryz.prog ops Q rest (a.put o.dst (.pointer (some ⟨w.heap.size, 0, none⟩))) (w.alloc (.cells zhost 46))) : wpList Tryz.prog ops Q (o :: rest) a w := by
  refine wpList_plain hg fun K hK => ?_
  unfold Oper.wp execOp
  simp only [ho, Sem.run_bind, alloc_host, Sem.run_pure, Result.andThen_ok]
  exact hK _ _ h
end
end Fo
end Go.Proofs.YtpkdigegkemogaaGreatDoor
namespace Go.Proofs.YtpkdigegkemogaaGreatDoor
set_option maxRecDepth 100000
open Go.RowKit
open Go.Proofs.YtpkdigegkemogaaGreatDoor.Pk (one_at one_free one_set lt_some)
namespace Fo
open Ho (Dh)
open St (Dz entc)
open Tb (Dm cnt)

theorem ms40_any (w : World) : Calls Tryz.prog 41 #[.agg #[.int .i64 40, .int .i64 0]] w fun e w' => e = .returned (.bool true) ∧ Below w.heap.size w w' := by
  have be : Hid (Below w.heap.size w (w.alloc (.cells #[.int .i64 40, .int .i64 0] 25))) := (Below.refl _ w).alloc (Nat.le_refl _) _
  go_enter Tryz.func41, Tryz.ntmps41
  go_wp2
  go_ret
  exact ⟨rfl, be.out⟩
theorem mf0_any (w : World) : Calls Tryz.prog 42 #[.agg #[.int .i64 0, .int .i64 0, .int .i64 0, .int .i64 0]] w fun e w' => e = .returned (.bool true) ∧ Below w.heap.size w w' := by
  have be : Hid (Below w.heap.size w (w.alloc (.cells #[.int .i64 0, .int .i64 0, .int .i64 0, .int .i64 0] 27))) := (Below.refl _ w).alloc (Nat.le_refl _) _
  go_enter Tryz.func42, Tryz.ntmps42
  go_wp2_with fail
  refine wp_loop_rounds 5 ?_
  rw [rounds_succ]
  go_wp2
  rw [rounds_succ]
  go_wp2
  rw [rounds_succ]
  go_wp2
  rw [rounds_succ]
  go_wp2
  rw [rounds_succ]
  go_wp2
  go_ret
  exact ⟨rfl, be.out⟩
abbrev cf40 : Array Value := #[.int .i64 40, .int .i64 0, .int .i64 40, .int .i64 0, .int .i64 40, .int .i64 0, .int .i64 0, .int .i64 0, .int .i64 0, .int .i64 0]
set_option maxHeartbeats 3200000 in
theorem mc40_any (w : World) : Calls Tryz.prog 18 #[.agg cf40] w fun e w' => e = .returned (.bool true) ∧ Below w.heap.size w w' := by
  obtain ⟨w0, e0⟩ : ∃ z, z = w.alloc (.cells cf40 29) := ⟨_, rfl⟩
  have be0 : Hid (Below w.heap.size w w0) := by rw [e0]; exact (Below.refl _ w).alloc (Nat.le_refl _) _
  have hB : Hid (w0.heap[w.heap.size]? = some (.cells cf40 29 (0, 0))) := by rw [e0]; exact heap_alloc_new _ _
  have MS := Lib.hid ms40_any
  have MF := Lib.hid mf0_any
  have d0 : w0.cell? ⟨w.heap.size, 0, none⟩ = some (.int .i64 40) := one_at hB.out
  have d1 : w0.cell? ⟨w.heap.size, 1, none⟩ = some (.int .i64 0) := one_at hB.out
  have d2 : w0.cell? ⟨w.heap.size, 2, none⟩ = some (.int .i64 40) := one_at hB.out
  have d3 : w0.cell? ⟨w.heap.size, 3, none⟩ = some (.int .i64 0) := one_at hB.out
  have d4 : w0.cell? ⟨w.heap.size, 4, none⟩ = some (.int .i64 40) := one_at hB.out
  have d5 : w0.cell? ⟨w.heap.size, 5, none⟩ = some (.int .i64 0) := one_at hB.out
  have d6 : w0.cell? ⟨w.heap.size, 6, none⟩ = some (.int .i64 0) := one_at hB.out
  have d7 : w0.cell? ⟨w.heap.size, 7, none⟩ = some (.int .i64 0) := one_at hB.out
  have d8 : w0.cell? ⟨w.heap.size, 8, none⟩ = some (.int .i64 0) := one_at hB.out
  have d9 : w0.cell? ⟨w.heap.size, 9, none⟩ = some (.int .i64 0) := one_at hB.out
  have lk := lt_some hB.out
  replace e0 := Lib.hid e0
  go_enter Tryz.func18, Tryz.ntmps18
  go_upto_region 1 with fail
  rw [← e0.out]
  clear e0
  go_wp2_with fail
  refine wp_loop_rounds 4 ?_
  rw [rounds_succ]
  go_wp2_with fail
  refine (MS.out _).mono ?_
  rintro e w1 ⟨rfl, h⟩
  have be1 : Hid (Below w.heap.size w w1) := be0.out.trans (h.mono be0.out.size)
  have hB1 : Hid (w1.heap[w.heap.size]? = some (.cells cf40 29 (0, 0))) := (h.block _ (lt_some hB.out)).trans hB.out
  clear h d0 d1 d2 d3 d4 d5 d6 d7 d8 d9 lk be0 hB
  have d0 : w1.cell? ⟨w.heap.size, 0, none⟩ = some (.int .i64 40) := one_at hB1.out
  have d1 : w1.cell? ⟨w.heap.size, 1, none⟩ = some (.int .i64 0) := one_at hB1.out
  have d2 : w1.cell? ⟨w.heap.size, 2, none⟩ = some (.int .i64 40) := one_at hB1.out
  have d3 : w1.cell? ⟨w.heap.size, 3, none⟩ = some (.int .i64 0) := one_at hB1.out
  have d4 : w1.cell? ⟨w.heap.size, 4, none⟩ = some (.int .i64 40) := one_at hB1.out
  have d5 : w1.cell? ⟨w.heap.size, 5, none⟩ = some (.int .i64 0) := one_at hB1.out
  have d6 : w1.cell? ⟨w.heap.size, 6, none⟩ = some (.int .i64 0) := one_at hB1.out
  have d7 : w1.cell? ⟨w.heap.size, 7, none⟩ = some (.int .i64 0) := one_at hB1.out
  have d8 : w1.cell? ⟨w.heap.size, 8, none⟩ = some (.int .i64 0) := one_at hB1.out
  have d9 : w1.cell? ⟨w.heap.size, 9, none⟩ = some (.int .i64 0) := one_at hB1.out
  have lk := lt_some hB1.out
  go_wp2_with fail
  rw [rounds_succ]
  go_wp2_with fail
  refine (MS.out _).mono ?_
  rintro e w2 ⟨rfl, h⟩
  have be2 : Hid (Below w.heap.size w w2) := be1.out.trans (h.mono be1.out.size)
  have hB2 : Hid (w2.heap[w.heap.size]? = some (.cells cf40 29 (0, 0))) := (h.block _ (lt_some hB1.out)).trans hB1.out
  clear h d0 d1 d2 d3 d4 d5 d6 d7 d8 d9 lk be1 hB1
  have d0 : w2.cell? ⟨w.heap.size, 0, none⟩ = some (.int .i64 40) := one_at hB2.out
  have d1 : w2.cell? ⟨w.heap.size, 1, none⟩ = some (.int .i64 0) := one_at hB2.out
  have d2 : w2.cell? ⟨w.heap.size, 2, none⟩ = some (.int .i64 40) := one_at hB2.out
  have d3 : w2.cell? ⟨w.heap.size, 3, none⟩ = some (.int .i64 0) := one_at hB2.out
  have d4 : w2.cell? ⟨w.heap.size, 4, none⟩ = some (.int .i64 40) := one_at hB2.out
  have d5 : w2.cell? ⟨w.heap.size, 5, none⟩ = some (.int .i64 0) := one_at hB2.out
  have d6 : w2.cell? ⟨w.heap.size, 6, none⟩ = some (.int .i64 0) := one_at hB2.out
  have d7 : w2.cell? ⟨w.heap.size, 7, none⟩ = some (.int .i64 0) := one_at hB2.out
  have d8 : w2.cell? ⟨w.heap.size, 8, none⟩ = some (.int .i64 0) := one_at hB2.out
  have d9 : w2.cell? ⟨w.heap.size, 9, none⟩ = some (.int .i64 0) := one_at hB2.out
  have lk := lt_some hB2.out
  go_wp2_with fail
  rw [rounds_succ]
  go_wp2_with fail
  refine (MS.out _).mono ?_
  rintro e w3 ⟨rfl, h⟩
  have be3 : Hid (Below w.heap.size w w3) := be2.out.trans (h.mono be2.out.size)
  have hB3 : Hid (w3.heap[w.heap.size]? = some (.cells cf40 29 (0, 0))) := (h.block _ (lt_some hB2.out)).trans hB2.out
  clear h d0 d1 d2 d3 d4 d5 d6 d7 d8 d9 lk be2 hB2
  have d0 : w3.cell? ⟨w.heap.size, 0, none⟩ = some (.int .i64 40) := one_at hB3.out
  have d1 : w3.cell? ⟨w.heap.size, 1, none⟩ = some (.int .i64 0) := one_at hB3.out
  have d2 : w3.cell? ⟨w.heap.size, 2, none⟩ = some (.int .i64 40) := one_at hB3.out
  have d3 : w3.cell? ⟨w.heap.size, 3, none⟩ = some (.int .i64 0) := one_at hB3.out
  have d4 : w3.cell? ⟨w.heap.size, 4, none⟩ = some (.int .i64 40) := one_at hB3.out
  have d5 : w3.cell? ⟨w.heap.size, 5, none⟩ = some (.int .i64 0) := one_at hB3.out
  have d6 : w3.cell? ⟨w.heap.size, 6, none⟩ = some (.int .i64 0) := one_at hB3.out
  have d7 : w3.cell? ⟨w.heap.size, 7, none⟩ = some (.int .i64 0) := one_at hB3.out
  have d8 : w3.cell? ⟨w.heap.size, 8, none⟩ = some (.int .i64 0) := one_at hB3.out
  have d9 : w3.cell? ⟨w.heap.size, 9, none⟩ = some (.int .i64 0) := one_at hB3.out
  have lk := lt_some hB3.out
  go_wp2_with fail
  rw [rounds_succ]
  go_wp2_with fail
  refine (MF.out _).mono ?_
  rintro e w4 ⟨rfl, h⟩
  have be4 : Hid (Below w.heap.size w w4) := be3.out.trans (h.mono be3.out.size)
  clear h be3 hB3 d0 d1 d2 d3 d4 d5 d6 d7 d8 d9 lk
  go_wp2_with fail
  go_ret
  exact ⟨rfl, be4.out⟩
def zst (n : Int) : Array Value := ((Array.replicate 7047 (.int .i64 0)).setIfInBounds 3427 (.slice none 0 0)).setIfInBounds 0 (.int .i64 n)
theorem build_st (w : World) (n : Int) : (Instr.build 60 #[(0, .int .i64 n)]).run Tryz.prog w = .ok (.agg (zst n)) w := by kernel_rfl
theorem box_st (w : World) (cs : Array Value) : (Instr.box 60 (.agg cs)).run Tryz.prog w = .ok (.pointer (some ⟨w.heap.size, 0, none⟩)) (w.alloc (.cells cs 60)) := by
  simp only [Instr.box, newVar, newRow, Sem.run_bind]
  kernel_rfl
section
variable {ops : Array Oper} {rest : List Oper} {o : Oper} {a : Act} {w : World} {Q : Exit → Act → World → Prop}
theorem wpList_buildS (hg : o.guard = none) (x : Operand) (ho : o.op = .build 60 #[(0, x)]) (n : Int) (hx : a.eval x = .int .i64 n)
    (h : wpList Tryz.prog ops Q rest (a.put o.dst (.agg (zst n))) w) : wpList Tryz.prog ops Q (o :: rest) a w := by
  refine wpList_plain hg fun K hK => ?_
  unfold Oper.wp execOp
  simp only [ho, hx, Sem.run_bind, List.map_toArray, List.map_cons, List.map_nil, build_st, Sem.run_pure, Result.andThen_ok]
  exact hK _ _ h
theorem wpList_boxS (hg : o.guard = none) (x : Operand) (ho : o.op = .box 60 x) (cs : Array Value) (hx : a.eval x = .agg cs)
    (h : wpList Tryz.prog ops Q rest (a.put o.dst (.pointer (some ⟨w.heap.size, 0, none⟩))) (w.alloc (.cells cs 60))) : wpList Tryz.prog ops Q (o :: rest) a w := by
  refine wpList_plain hg fun K hK => ?_
  unfold Oper.wp execOp
  simp only [ho, hx, Sem.run_bind, box_st, Sem.run_pure, Result.andThen_ok]
  exact hK _ _ h
end
theorem zst_at {n : Int} {i : Nat} (h0 : 0 < i) (h : i < 3427) : (zst n)[i]? = some (.int .i64 0) := by
  unfold zst
  rw [Array.getElem?_setIfInBounds, if_neg (by omega), Array.getElem?_setIfInBounds, if_neg (by omega), Array.getElem?_replicate, if_pos (by omega)]
theorem zst_0 (n : Int) : (zst n)[0]? = some (.int .i64 n) := by
  unfold zst
  rw [Array.getElem?_setIfInBounds, if_pos rfl, if_pos (by simp)]
abbrev sv40 : Array Value := #[.int .i64 40, .int .i64 0]
theorem stock_sz : (Tryz.prog.info? 25).map (·.size) = some 2 := by kernel_rfl
theorem st_there (w : World) (n : Int) : (w.alloc (.cells (zst n) 60)).there w.heap.size 1 2 := fun j hj => by
  have h := heap_alloc_new w (.cells (zst n) 60)
  refine ⟨?_, one_free h⟩
  rw [one_at h, zst_at (by omega) (by omega)]
  rfl
theorem sx_new (w : World) (n : Int) : Sx ((w.alloc (.cells (zst n) 60)).setCells w.heap.size 1 sv40.toList) w.heap.size n 40 0 Ho.sz := by
  have h := heap_alloc_new w (.cells (zst n) 60)
  obtain ⟨w1, e1⟩ : ∃ z, z = w.alloc (.cells (zst n) 60) := ⟨_, rfl⟩
  have th := st_there w n
  rw [← e1] at h th ⊢
  have lt : w.heap.size < (w1.setCells w.heap.size 1 sv40.toList).heap.size := by rw [(St.setCells_block _ _ _ _).1]; exact lt_some h
  have fr : ∀ i, (w1.setCells w.heap.size 1 sv40.toList).frozen? ⟨w.heap.size, i, none⟩ = false := fun i => by rw [World.frozen?_setCells]; exact one_free h
  have c : ∀ i, 3 ≤ i → i < 3427 → (w1.setCells w.heap.size 1 sv40.toList).cell? ⟨w.heap.size, i, none⟩ = some (.int .i64 0) := fun i h2 hi => by
    rw [World.cell?_setCells_out w.heap.size _ _ _ ⟨w.heap.size, i, none⟩ (fun _ _ => .inr (by show 1 + 2 ≤ i; omega)), one_at h, zst_at (by omega) hi]
  have r := World.rangeAt_setCells_same w1 w.heap.size 1 sv40.toList th
  have c0 : (w1.setCells w.heap.size 1 sv40.toList).cell? ⟨w.heap.size, 0, none⟩ = some (.int .i64 n) := by
    rw [World.cell?_setCells_out w.heap.size _ _ _ ⟨w.heap.size, 0, none⟩ (fun _ _ => .inl (by show 0 < 1; omega)), one_at h, zst_0]
  refine ⟨c0, ⟨lt, r 0 _ rfl, r 1 _ rfl, fun k hk j v hj => ?_, fr⟩, ⟨lt, fun x y hx hy => ?_, ?_, fr⟩⟩
  · have h5 : j < 5 := (List.getElem?_eq_some_iff.1 hj).1
    rw [c _ (by omega) (by omega)]
    match j, hj with
    | 0, hj => exact hj
    | 1, hj => exact hj
    | 2, hj => exact hj
    | 3, hj => exact hj
    | 4, hj => exact hj
    | j + 5, hj => simp [entc] at hj
  · rw [c _ (by omega) (by omega)]
    rfl
  · rw [c _ (by omega) (by omega)]
    show _ = some (Value.int .i64 ((cnt Tb.fz : Nat) : Int))
    rw [Tb.cnt_z]
    rfl
set_option maxHeartbeats 6400000 in
theorem newst_any (w : World) (n : Int) (h0 : 0 ≤ n) (h2 : n ≤ 2) : Calls Tryz.prog 5 #[.int .i64 n, .agg cf40] w fun e w' => ∃ d, e = .returned (.pointer (some ⟨d, 0, none⟩)) ∧ w.heap.size ≤ d ∧ Sx w' d n 40 0 Ho.sz ∧ Below w.heap.size w w' := by
  obtain ⟨w0, e0⟩ : ∃ z, z = w.alloc (.cells cf40 29) := ⟨_, rfl⟩
  have be0 : Hid (Below w.heap.size w w0) := by rw [e0]; exact (Below.refl _ w).alloc (Nat.le_refl _) _
  have hB : Hid (w0.heap[w.heap.size]? = some (.cells cf40 29 (0, 0))) := by rw [e0]; exact heap_alloc_new _ _
  have MC := Lib.hid mc40_any
  have d0 : w0.cell? ⟨w.heap.size, 0, none⟩ = some (.int .i64 40) := one_at hB.out
  have d1 : w0.cell? ⟨w.heap.size, 1, none⟩ = some (.int .i64 0) := one_at hB.out
  have d2 : w0.cell? ⟨w.heap.size, 2, none⟩ = some (.int .i64 40) := one_at hB.out
  have d3 : w0.cell? ⟨w.heap.size, 3, none⟩ = some (.int .i64 0) := one_at hB.out
  have d4 : w0.cell? ⟨w.heap.size, 4, none⟩ = some (.int .i64 40) := one_at hB.out
  have d5 : w0.cell? ⟨w.heap.size, 5, none⟩ = some (.int .i64 0) := one_at hB.out
  have d6 : w0.cell? ⟨w.heap.size, 6, none⟩ = some (.int .i64 0) := one_at hB.out
  have d7 : w0.cell? ⟨w.heap.size, 7, none⟩ = some (.int .i64 0) := one_at hB.out
  have d8 : w0.cell? ⟨w.heap.size, 8, none⟩ = some (.int .i64 0) := one_at hB.out
  have d9 : w0.cell? ⟨w.heap.size, 9, none⟩ = some (.int .i64 0) := one_at hB.out
  have lk := lt_some hB.out
  replace e0 := Lib.hid e0
  rcases (show n = 0 ∨ n = 1 ∨ n = 2 by omega) with rfl | rfl | rfl
  · skip
    go_enter Tryz.func5, Tryz.ntmps5
    go_upto_region 1 with fail
    rw [← e0.out]
    clear e0
    go_wp2_with fail
    refine (MC.out _).mono ?_
    rintro e w1 ⟨rfl, h⟩
    have be1 : Hid (Below w.heap.size w w1) := be0.out.trans (h.mono be0.out.size)
    have hB1 : Hid (w1.heap[w.heap.size]? = some (.cells cf40 29 (0, 0))) := (h.block _ (lt_some hB.out)).trans hB.out
    clear h d0 d1 d2 d3 d4 d5 d6 d7 d8 d9 lk be0 hB
    go_upto_region 4 with (first | (refine wpList_buildS rfl (.tmp 17) rfl _ rfl ?_) | (refine wpList_boxS rfl (.tmp 18) rfl _ rfl ?_))
    have TH := Lib.hid (st_there w1 0)
    have SX := Lib.hid (sx_new w1 0)
    have al := (Below.refl _ w1).alloc (Nat.le_refl _) (.cells (zst 0) 60)
    have hBu : Hid ((w1.alloc (.cells (zst 0) 60)).heap[w.heap.size]? = some (.cells cf40 29 (0, 0))) := (al.block _ (lt_some hB1.out)).trans hB1.out
    replace al := Lib.hid al
    have dw : Hid (w.heap.size ≤ w1.heap.size) := be1.out.size
    have d0 : (w1.alloc (.cells (zst 0) 60)).cell? ⟨w.heap.size, 0, none⟩ = some (.int .i64 40) := one_at hBu.out
    have d1 : (w1.alloc (.cells (zst 0) 60)).cell? ⟨w.heap.size, 1, none⟩ = some (.int .i64 0) := one_at hBu.out
    have d2 : (w1.alloc (.cells (zst 0) 60)).cell? ⟨w.heap.size, 2, none⟩ = some (.int .i64 40) := one_at hBu.out
    have d3 : (w1.alloc (.cells (zst 0) 60)).cell? ⟨w.heap.size, 3, none⟩ = some (.int .i64 0) := one_at hBu.out
    have d4 : (w1.alloc (.cells (zst 0) 60)).cell? ⟨w.heap.size, 4, none⟩ = some (.int .i64 40) := one_at hBu.out
    have d5 : (w1.alloc (.cells (zst 0) 60)).cell? ⟨w.heap.size, 5, none⟩ = some (.int .i64 0) := one_at hBu.out
    have d6 : (w1.alloc (.cells (zst 0) 60)).cell? ⟨w.heap.size, 6, none⟩ = some (.int .i64 0) := one_at hBu.out
    have d7 : (w1.alloc (.cells (zst 0) 60)).cell? ⟨w.heap.size, 7, none⟩ = some (.int .i64 0) := one_at hBu.out
    have d8 : (w1.alloc (.cells (zst 0) 60)).cell? ⟨w.heap.size, 8, none⟩ = some (.int .i64 0) := one_at hBu.out
    have d9 : (w1.alloc (.cells (zst 0) 60)).cell? ⟨w.heap.size, 9, none⟩ = some (.int .i64 0) := one_at hBu.out
    have lk := lt_some hBu.out
    go_upto_region 6 with (refine wpList_store_mid rfl 25 (.tmp 30) (.tmp 26) rfl w1.heap.size 1 sv40 rfl rfl TH.out stock_sz (by simp [Value.oneCell']) ?_)
    obtain ⟨u, eu⟩ : ∃ z, z = (w1.alloc (.cells (zst 0) 60)).setCells w1.heap.size 1 (sv40 : Array Value).toList := ⟨_, rfl⟩
    rw [← eu]
    have S : Hid (Sx u w1.heap.size 0 40 0 Ho.sz) := by rw [eu]; exact SX.out
    have be2 : Hid (Below w.heap.size w u) := by
      rw [eu]
      exact be1.out.trans ((al.out.mono be1.out.size).trans ((St.Kq.of_cells _ _ _ _).below (fun g hg => by rw [hg]; exact be1.out.size) (Nat.le_trans be1.out.size al.out.size)))
    clear eu SX TH al hBu d0 d1 d2 d3 d4 d5 d6 d7 d8 d9 lk
    go_wp2_with fail
    go_ret
    exact ⟨_, rfl, dw.out, S.out, be2.out⟩
  · skip
    go_enter Tryz.func5, Tryz.ntmps5
    go_upto_region 1 with fail
    rw [← e0.out]
    clear e0
    go_wp2_with fail
    refine (MC.out _).mono ?_
    rintro e w1 ⟨rfl, h⟩
    have be1 : Hid (Below w.heap.size w w1) := be0.out.trans (h.mono be0.out.size)
    have hB1 : Hid (w1.heap[w.heap.size]? = some (.cells cf40 29 (0, 0))) := (h.block _ (lt_some hB.out)).trans hB.out
    clear h d0 d1 d2 d3 d4 d5 d6 d7 d8 d9 lk be0 hB
    go_upto_region 4 with (first | (refine wpList_buildS rfl (.tmp 17) rfl _ rfl ?_) | (refine wpList_boxS rfl (.tmp 18) rfl _ rfl ?_))
    have TH := Lib.hid (st_there w1 1)
    have SX := Lib.hid (sx_new w1 1)
    have al := (Below.refl _ w1).alloc (Nat.le_refl _) (.cells (zst 1) 60)
    have hBu : Hid ((w1.alloc (.cells (zst 1) 60)).heap[w.heap.size]? = some (.cells cf40 29 (0, 0))) := (al.block _ (lt_some hB1.out)).trans hB1.out
    replace al := Lib.hid al
    have dw : Hid (w.heap.size ≤ w1.heap.size) := be1.out.size
    have d0 : (w1.alloc (.cells (zst 1) 60)).cell? ⟨w.heap.size, 0, none⟩ = some (.int .i64 40) := one_at hBu.out
    have d1 : (w1.alloc (.cells (zst 1) 60)).cell? ⟨w.heap.size, 1, none⟩ = some (.int .i64 0) := one_at hBu.out
    have d2 : (w1.alloc (.cells (zst 1) 60)).cell? ⟨w.heap.size, 2, none⟩ = some (.int .i64 40) := one_at hBu.out
    have d3 : (w1.alloc (.cells (zst 1) 60)).cell? ⟨w.heap.size, 3, none⟩ = some (.int .i64 0) := one_at hBu.out
    have d4 : (w1.alloc (.cells (zst 1) 60)).cell? ⟨w.heap.size, 4, none⟩ = some (.int .i64 40) := one_at hBu.out
    have d5 : (w1.alloc (.cells (zst 1) 60)).cell? ⟨w.heap.size, 5, none⟩ = some (.int .i64 0) := one_at hBu.out
    have d6 : (w1.alloc (.cells (zst 1) 60)).cell? ⟨w.heap.size, 6, none⟩ = some (.int .i64 0) := one_at hBu.out
    have d7 : (w1.alloc (.cells (zst 1) 60)).cell? ⟨w.heap.size, 7, none⟩ = some (.int .i64 0) := one_at hBu.out
    have d8 : (w1.alloc (.cells (zst 1) 60)).cell? ⟨w.heap.size, 8, none⟩ = some (.int .i64 0) := one_at hBu.out
    have d9 : (w1.alloc (.cells (zst 1) 60)).cell? ⟨w.heap.size, 9, none⟩ = some (.int .i64 0) := one_at hBu.out
    have lk := lt_some hBu.out
    go_upto_region 6 with (refine wpList_store_mid rfl 25 (.tmp 30) (.tmp 26) rfl w1.heap.size 1 sv40 rfl rfl TH.out stock_sz (by simp [Value.oneCell']) ?_)
    obtain ⟨u, eu⟩ : ∃ z, z = (w1.alloc (.cells (zst 1) 60)).setCells w1.heap.size 1 (sv40 : Array Value).toList := ⟨_, rfl⟩
    rw [← eu]
    have S : Hid (Sx u w1.heap.size 1 40 0 Ho.sz) := by rw [eu]; exact SX.out
    have be2 : Hid (Below w.heap.size w u) := by
      rw [eu]
      exact be1.out.trans ((al.out.mono be1.out.size).trans ((St.Kq.of_cells _ _ _ _).below (fun g hg => by rw [hg]; exact be1.out.size) (Nat.le_trans be1.out.size al.out.size)))
    clear eu SX TH al hBu d0 d1 d2 d3 d4 d5 d6 d7 d8 d9 lk
    go_wp2_with fail
    go_ret
    exact ⟨_, rfl, dw.out, S.out, be2.out⟩
  · skip
    go_enter Tryz.func5, Tryz.ntmps5
    go_upto_region 1 with fail
    rw [← e0.out]
    clear e0
    go_wp2_with fail
    refine (MC.out _).mono ?_
    rintro e w1 ⟨rfl, h⟩
    have be1 : Hid (Below w.heap.size w w1) := be0.out.trans (h.mono be0.out.size)
    have hB1 : Hid (w1.heap[w.heap.size]? = some (.cells cf40 29 (0, 0))) := (h.block _ (lt_some hB.out)).trans hB.out
    clear h d0 d1 d2 d3 d4 d5 d6 d7 d8 d9 lk be0 hB
    go_upto_region 4 with (first | (refine wpList_buildS rfl (.tmp 17) rfl _ rfl ?_) | (refine wpList_boxS rfl (.tmp 18) rfl _ rfl ?_))
    have TH := Lib.hid (st_there w1 2)
    have SX := Lib.hid (sx_new w1 2)
    have al := (Below.refl _ w1).alloc (Nat.le_refl _) (.cells (zst 2) 60)
    have hBu : Hid ((w1.alloc (.cells (zst 2) 60)).heap[w.heap.size]? = some (.cells cf40 29 (0, 0))) := (al.block _ (lt_some hB1.out)).trans hB1.out
    replace al := Lib.hid al
    have dw : Hid (w.heap.size ≤ w1.heap.size) := be1.out.size
    have d0 : (w1.alloc (.cells (zst 2) 60)).cell? ⟨w.heap.size, 0, none⟩ = some (.int .i64 40) := one_at hBu.out
    have d1 : (w1.alloc (.cells (zst 2) 60)).cell? ⟨w.heap.size, 1, none⟩ = some (.int .i64 0) := one_at hBu.out
    have d2 : (w1.alloc (.cells (zst 2) 60)).cell? ⟨w.heap.size, 2, none⟩ = some (.int .i64 40) := one_at hBu.out
    have d3 : (w1.alloc (.cells (zst 2) 60)).cell? ⟨w.heap.size, 3, none⟩ = some (.int .i64 0) := one_at hBu.out
    have d4 : (w1.alloc (.cells (zst 2) 60)).cell? ⟨w.heap.size, 4, none⟩ = some (.int .i64 40) := one_at hBu.out
    have d5 : (w1.alloc (.cells (zst 2) 60)).cell? ⟨w.heap.size, 5, none⟩ = some (.int .i64 0) := one_at hBu.out
    have d6 : (w1.alloc (.cells (zst 2) 60)).cell? ⟨w.heap.size, 6, none⟩ = some (.int .i64 0) := one_at hBu.out
    have d7 : (w1.alloc (.cells (zst 2) 60)).cell? ⟨w.heap.size, 7, none⟩ = some (.int .i64 0) := one_at hBu.out
    have d8 : (w1.alloc (.cells (zst 2) 60)).cell? ⟨w.heap.size, 8, none⟩ = some (.int .i64 0) := one_at hBu.out
    have d9 : (w1.alloc (.cells (zst 2) 60)).cell? ⟨w.heap.size, 9, none⟩ = some (.int .i64 0) := one_at hBu.out
    have lk := lt_some hBu.out
    go_upto_region 6 with (refine wpList_store_mid rfl 25 (.tmp 30) (.tmp 26) rfl w1.heap.size 1 sv40 rfl rfl TH.out stock_sz (by simp [Value.oneCell']) ?_)
    obtain ⟨u, eu⟩ : ∃ z, z = (w1.alloc (.cells (zst 2) 60)).setCells w1.heap.size 1 (sv40 : Array Value).toList := ⟨_, rfl⟩
    rw [← eu]
    have S : Hid (Sx u w1.heap.size 2 40 0 Ho.sz) := by rw [eu]; exact SX.out
    have be2 : Hid (Below w.heap.size w u) := by
      rw [eu]
      exact be1.out.trans ((al.out.mono be1.out.size).trans ((St.Kq.of_cells _ _ _ _).below (fun g hg => by rw [hg]; exact be1.out.size) (Nat.le_trans be1.out.size al.out.size)))
    clear eu SX TH al hBu d0 d1 d2 d3 d4 d5 d6 d7 d8 d9 lk
    go_wp2_with fail
    go_ret
    exact ⟨_, rfl, dw.out, S.out, be2.out⟩
end Fo
end Go.Proofs.YtpkdigegkemogaaGreatDoor
