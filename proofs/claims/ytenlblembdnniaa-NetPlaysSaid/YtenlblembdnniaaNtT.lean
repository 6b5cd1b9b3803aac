/- The document's net: out, Take, Drop (the walks). -/
import Derived.Test.YtenlblembdnniaaNtS
namespace Go.Proofs.Ytenlblembdnniaa
set_option maxRecDepth 100000
open Go.RowKit
open Go.Proofs.Ytenlblembdnniaa.Pk (Rb one_at one_free one_set lt_some grown_set grown_trans below_grown grown_refl)
namespace Nt

def ouR (L : List Ms) (k : Int) : Ms × Bool := if node L.length k = true then (mt L k.toNat, true) else (m0, false)
section
variable {w w' W W' : World} {d most q : Nat} {us ds : List Bool} {L L' : List Ms} {v : Value} {m : Ms}
set_option maxHeartbeats 3200000 in
theorem dout (D : Dn w d most us ds L v) (k : Int) : Calls Try.prog 28 #[.pointer (some ⟨d, 0, none⟩), .int .i64 k] w fun e w' => e = .returned (.tuple #[am (ouR L k).1, .bool (ouR L k).2]) ∧ DnTo w d most us ds (outS L k) v w' := by
  obtain ⟨c0, c1, c2⟩ := D.at3
  obtain ⟨A, c, rfl, hc, hmx, _⟩ := re_form D.row
  obtain ⟨n, hn⟩ : ∃ z, z = L.length := ⟨_, rfl⟩
  have hn4 : n ≤ 4096 := by rw [hn]; exact Nat.le_trans D.few D.top
  unfold ouR outS
  have R := D.row
  have hd : d < w.heap.size := lt_some D.cells
  have bz := dmz
  have S0 := Dt.start D
  have E0 := Lib.hid S0.to
  have hq0 : (w.alloc (.cells #[.int .i64 0, .int .i64 0, .string ⟨#[]⟩] 40)).heap[w.heap.size]? = some (.cells #[.int .i64 0, .int .i64 0, .string ⟨#[]⟩] 40 (0, 0)) := S0.bx
  rw [← hn] at c2 R E0 ⊢
  by_cases h1 : k < 0
  · have d1 : decide (k < 0) = true := decide_eq_true h1
    have hf : node n k = false := by simp [node]; omega
    rw [hf]
    simp only [Bool.false_eq_true, if_false]
    clear D R hn hf h1 c0 c1 c2 S0
    go_enter Try.func28, Try.ntmps28
    go_wp2
    (try simp only [Exit.inBlock, Exit.then])
    refine bodyPost_ret (m_res out_res _ _ w.heap.size 40 #[.int .i64 0, .int .i64 0, .string ⟨#[]⟩] (0, 0) _ rfl hq0 Try.underlying40 rfl dm_info) rfl ?_
    exact ⟨rfl, E0.out⟩
  · have d1 : decide (k < 0) = false := decide_eq_false h1
    obtain ⟨j, rfl⟩ : ∃ j : Nat, k = j := ⟨k.toNat, by omega⟩
    by_cases h2 : j < n
    · have hf : node n (j : Int) = true := node_iff.2 ⟨by omega, by omega⟩
      rw [hf]
      simp only [if_true]
      rw [show ((j : Int)).toNat = j from by omega]
      have d2 : ¬ n ≤ j := by omega
      have d3 : ¬ (n : Int) ≤ (j : Int) := by omega
      have i1 : (j : Int) < (n : Int) := by omega
      have i2 : (0 : Int) ≤ (j : Int) := by omega
      obtain ⟨g, c', hv, _⟩ := re_some R (by omega)
      injection hv with hA _ hcc
      subst hA; subst hcc
      obtain ⟨W1, hW1⟩ : ∃ z, z = w.alloc (.cells #[.int .i64 0, .int .i64 0, .string ⟨#[]⟩] 40) := ⟨_, rfl⟩
      have S1 : Dt w d most us ds L (.slice (some ⟨g, 0, none⟩) L.length c) w.heap.size m0 W1 := by rw [hW1]; exact S0
      obtain ⟨q, hq⟩ : ∃ z, z = w.heap.size := ⟨_, rfl⟩
      rw [← hq] at S1
      have bw1 : Below w.heap.size w W1 := by rw [hW1]; exact (Below.refl _ _).alloc (Nat.le_refl _) _
      have D1 := D.below bw1
      have R1 := D1.row
      rw [← hn] at R1
      obtain ⟨k0, k1, k2⟩ := re_cell R1 h2
      have k3 : W1.cell? ⟨d, 2, none⟩ = some (.slice (some ⟨g, 0, none⟩) n c) := by rw [hn]; exact D1.at3.2.2
      have hg1 : g < W1.heap.size := lt_some (re_block R1 rfl).2.choose_spec
      have hd1 : d < W1.heap.size := lt_some D1.cells
      obtain ⟨m, hm⟩ : ∃ m, m = mt L j := ⟨_, rfl⟩
      rw [← hm] at k0 k1 k2 ⊢
      obtain ⟨W2, hW2⟩ : ∃ z, z = W1.alloc (.cells #[.int .i64 m.fr, .int .i64 m.to_, .string (str m.tx)] 40) := ⟨_, rfl⟩
      have b12 : Below W1.heap.size W1 W2 := by rw [hW2]; exact (Below.refl _ _).alloc (Nat.le_refl _) _
      obtain ⟨x, hx⟩ : ∃ z, z = W1.heap.size := ⟨_, rfl⟩
      have X2 : W2.heap[x]? = some (.cells #[.int .i64 m.fr, .int .i64 m.to_, .string (str m.tx)] 40 (0, 0)) := by rw [hW2, hx]; exact heap_alloc_new _ _
      have T2 := S1.below b12
      have D2 := D1.below b12
      obtain ⟨j1, hj1⟩ : ∃ z, z = j + 1 := ⟨_, rfl⟩
      have ew : IntKind.i64.wrap ((j : Int) + 1) = (j1 : Int) := by rw [IntKind.wrap_i64]; omega
      obtain ⟨B, s3, hB⟩ := dslice_from g n c j1 (by omega)
      have s2 := dslice_to g n c j (by omega) (by omega)
      obtain ⟨A1, ca, wa, A2, cb, wb, r1, r2, b1, b2, o2⟩ := out_parts D2 hn h2 hn4 (by rw [← hj1]; exact hB) (c - j1)
      have e2 : wa.cell? ⟨d, 2, none⟩ = some (.slice (some ⟨g, 0, none⟩) n c) := by rw [hn]; exact (D2.below b1).at3.2.2
      have c2' : W2.cell? ⟨d, 2, none⟩ = some (.slice (some ⟨g, 0, none⟩) n c) := by rw [hn]; exact D2.at3.2.2
      have hd2 : d < W2.heap.size := lt_some D2.cells
      obtain ⟨p, hp⟩ : ∃ z, z = j + (n - (j + 1)) := ⟨_, rfl⟩
      rw [← hp] at r2 o2
      rw [← hj1] at r2
      have few : (del L j).length ≤ most := by have := del_len (l := L) (k := j) (by omega); have := D.few; omega
      obtain ⟨f2, z2, EE⟩ := Dn.row_store D2 b2 (World.grownBy.refl wb none) (fun g h => by cases h) (re_mono o2 (Nat.zero_le _)) (fun g h => .inr (re_block o2 h).1) few (fun m hm => D.wf m (del_mem hm))
      rw [← hn] at f2
      obtain ⟨W4, hW4⟩ : ∃ z, z = wb.setCell ⟨d, 2, none⟩ (.slice A2 p cb) := ⟨_, rfl⟩
      rw [← hW4] at EE
      have X4 : W4.heap[x]? = some (.cells #[.int .i64 m.fr, .int .i64 m.to_, .string (str m.tx)] 40 (0, 0)) := by
        rw [hW4]
        have hxd : x ≠ d := by omega
        exact ((grown_set wb d 2 _).block x (Nat.lt_of_lt_of_le (lt_some X2) b2.size) (fun e => hxd (by injection e))).trans ((b2.block x (lt_some X2)).trans X2)
      have T4 := T2.call (v1 := .slice (some ⟨g, 0, none⟩) L.length c) (fun e => by have := D.lt _ (.inr e); omega) (fun _ h => .inl h) EE
      have x0 : W4.cell? ⟨x, 0, none⟩ = some (.int .i64 m.fr) := one_at (i := 0) X4
      have x1 : W4.cell? ⟨x, 1, none⟩ = some (.int .i64 m.to_) := one_at (i := 1) X4
      have x2 : W4.cell? ⟨x, 2, none⟩ = some (.string (str m.tx)) := one_at (i := 2) X4
      obtain ⟨y0, y1, y2, y3, y4, y5⟩ := T4.cells
      have T5 := T4.set m
      have hq5 := T5.bx
      have E := T5.to
      rw [← hn] at E
      replace E := Lib.hid E
      replace hq5 := Lib.hid hq5
      replace hm := Lib.hid hm
      have hx' := Lib.hid hx
      have hq' := Lib.hid hq
      have z1 : m0.fr = 0 := rfl
      have z2' : m0.to_ = 0 := rfl
      rw [z1] at y0
      rw [z2'] at y1
      replace hW4 := Lib.hid hW4
      clear z1 z2' EE T4 T5 T2 X4 X2 few o2 b1 b2 D2 R1 D1 D hB hp hj1 b12 bw1 S1 S0 E0 hq0 R hn h2 hn4 c0 c2 hf hx hq
      go_enter Try.func28, Try.ntmps28
      go_upto_region 1 with fail
      rw [← hW1, ← hq'.out]
      clear hW1
      go_upto_region 4 with fail
      rw [← hW2, ← hx'.out]
      clear hW2 k0 k1 k2 k3
      go_region_law (first
        | (refine step_run_app rfl (.tmp 27) (.tmp 33) rfl rfl (.slice (some ⟨W2.heap.size, 0, none⟩) 0 0) (.slice (some ⟨g, 0, none⟩) j c) rfl rfl r1 ?_)
        | (refine step_run_app rfl (.tmp 34) (.tmp 41) rfl rfl (.slice A1 j ca) (.slice (some B) (n - j1) (c - j1)) rfl rfl r2 ?_))
      all_goals
        rw [← hW4.out]
        clear hW4 r1 r2 s2 s3 f2 z2 e2 c2'
        go_wp2
        (try simp only [Exit.inBlock, Exit.then])
        refine bodyPost_ret (m_res out_res _ _ q 40 (bxc m) (0, 0) _ rfl hq5.out Try.underlying40 rfl dm_info) rfl ?_
        exact ⟨rfl, E.out⟩
    · have hf : node n (j : Int) = false := by simp [node]; omega
      rw [hf]
      simp only [Bool.false_eq_true, if_false]
      have d2 : n ≤ j := by omega
      have d3 : (n : Int) ≤ (j : Int) := by omega
      clear D R hn hf h2 c0 S0
      go_enter Try.func28, Try.ntmps28
      go_wp2
      (try simp only [Exit.inBlock, Exit.then])
      refine bodyPost_ret (m_res out_res _ _ w.heap.size 40 #[.int .i64 0, .int .i64 0, .string ⟨#[]⟩] (0, 0) _ rfl hq0 Try.underlying40 rfl dm_info) rfl ?_
      exact ⟨rfl, E0.out⟩
end
end Nt
end Go.Proofs.Ytenlblembdnniaa
