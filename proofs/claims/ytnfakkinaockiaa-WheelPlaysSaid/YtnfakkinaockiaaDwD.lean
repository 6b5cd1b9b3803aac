/- The document's wheel: Off. -/
import Derived.Test.YtnfakkinaockiaaDwB
import Derived.Test.YtnfakkinaockiaaDwC
import Derived.Deep.RegionLaw
namespace Go.Proofs.Ytnfakkinaockiaa
set_option maxRecDepth 100000
open Go.RowKit
open Go.Proofs.Ytnfakkinaockiaa.Pk (one_at one_free one_set lt_some grown_set)
namespace Wh

/-- Two parts of the timers, one behind the other, in a new row. -/
theorem off_parts {W : World} {d c i i1 : Nat} {now : Int} {S : List Tm} {A B : Option Addr} (D : Dw W d now S A c) (hi : i ≤ S.length) (hi1 : i1 ≤ S.length) (hl : S.length ≤ 1000) (hn : B = none → A = none ∧ c = 0) (hB : ∀ g o, A = some ⟨g, o, none⟩ → (i1 < S.length → B = some ⟨g, o + i1 * 2, none⟩)) (cc : Nat) :
    ∃ A1 c1 w1 A2 c2 w2, (Builtin.append_ #[34, 34] 34 #[.slice (some ⟨W.heap.size, 0, none⟩) 0 0, .slice A i c]).run Try.prog (W.alloc (.cells #[] 44)).drew = .ok (.slice A1 i c1) w1 ∧
      (Builtin.append_ #[34, 34] 34 #[.slice A1 i c1, .slice B (S.length - i1) cc]).run Try.prog w1 = .ok (.slice A2 (i + (S.length - i1)) c2) w2 ∧
      Below W.heap.size W w1 ∧ Below W.heap.size W w2 ∧ w2.ownsRow W.heap.size 44 2 (.slice A2 (i + (S.length - i1)) c2) (i + (S.length - i1)) (flt (S.take i ++ S.drop i1)) := by
  have b0 : Below W.heap.size W (W.alloc (.cells #[] 44)).drew := ⟨rfl, rfl, rfl, by simp, fun k hk => heap_alloc_old _ _ hk⟩
  have o0 : (W.alloc (.cells #[] 44)).drew.ownsRow W.heap.size 44 2 (.slice (some ⟨W.heap.size, 0, none⟩) 0 0) 0 (flt []) := World.ownsRow_lit W #[] 0 (Nat.le_refl _) (by unfold maxLen; omega) rfl
  have hk : ∀ w', Below W.heap.size W w' → ∀ g, rbk A S.length g → w'.heap[g]? = W.heap[g]? := fun w' hb g hg => hb.block g (D.row.lt g hg)
  obtain ⟨A1, c1, w1, r1, b1, o1, _⟩ := ins_a (c := c) (D.srcs (hk _ b0) hi) b0 (by omega) o0 (Nat.le_refl _)
  obtain ⟨A2, c2, w2, r2, o2, g2⟩ := drow_append_any w1 W.heap.size _ i _ o1 B (S.length - i1) cc (S.drop i1) (D.srcs2 (hk _ b1) hi1 hn hB) (by omega) b1.size
  exact ⟨A1, c1, w1, A2, c2, w2, r1, r2, b1, b1.grown g2 b1.size (fun k hk => (dw_block o1 hk).1), o2⟩
set_option maxHeartbeats 3200000 in
theorem doff (w : World) (d c : Nat) (now : Int) (S : List Tm) (A : Option Addr) (D : Dw w d now S A c) (nd : Nd S) (hl : S.length ≤ 1000) (id : Int) :
    Calls Try.prog 16 #[.pointer (some ⟨d, 0, none⟩), .int .i64 id] w fun e w' => e = .returned (.bool (fnd id S).isSome) ∧ DwTo w d A S.length now (without id S) w' := by
  have st : Hid (FdAt id S w (.int .i64 0) w) := ⟨0, rfl, Nat.zero_le _, fun j hj => absurd hj (by omega), rfl⟩
  have c1 : w.cell? ⟨d, 1, none⟩ = some (.slice A S.length c) := one_at (i := 1) D.cells
  have hcap := D.cap
  have hmax := D.max
  have DH := Lib.hid D
  obtain ⟨n, hn⟩ : ∃ z, z = S.length := ⟨_, rfl⟩
  rw [← hn] at c1 hcap hl
  have i9 : (n : Int) ≤ 9223372036854775807 := by omega
  have i8 : Hid (n ≤ 1000) := hl
  have i7 : Hid (n ≤ c) := hcap
  replace hn := Lib.hid hn
  replace nd := Lib.hid nd
  clear D hcap hmax hl
  go_enter Try.func16, Try.ntmps16
  go_wp2_with fail
  go_loopw [5] (fun i wr => FdAt id S w i wr) (fun i _ => n - (intOf i).toNat)
  case atStart => exact st.out
  case round =>
    clear st
    obtain ⟨k, rfl, hk, hno, rfl⟩ := hrel
    by_cases hlt : k < n
    · have hkS : k < S.length := by rw [← hn.out]; exact hlt
      obtain ⟨g, o, hA, e1, e2⟩ := DH.out.row.tm hkS
      have i1 : (k : Int) < (n : Int) := by omega
      have i2 : (0 : Int) ≤ (k : Int) := by omega
      by_cases h : (gt S k).1 = id
      · have F := fnd_first hkS hno h
        have WO := without_at nd.out hkS h
        have q1 : ((gt S k).1 == id) = true := by simpa using h
        obtain ⟨B, hsl, hBn, hB⟩ := DH.out.from_ (i := k + 1) (by omega)
        have hst := DH.out.upto (i := k) (by omega)
        obtain ⟨A1, ca, wa, A2, cb, wb, r1, r2, b1, b2, o2⟩ := off_parts (i := k) (i1 := k + 1) DH.out (by omega) (by omega) (by rw [← hn.out]; exact i8.out) hBn (fun g o h => (hB g o h).1) (c - (k + 1))
        have P := DwTo.of_row (S' := S.take k ++ S.drop (k + 1)) DH.out (Below.refl _ _) b2 (by rw [List.length_append, List.length_take, List.length_drop]; omega) o2
        rw [← WO] at P
        obtain ⟨d3, d4, E⟩ := P
        have d2 : wa.cell? ⟨d, 1, none⟩ = some (.slice A S.length c) := one_at (i := 1) (DH.out.below b1).cells
        rw [← hn.out] at hsl hst r2 d2 d3 E
        obtain ⟨k1, hk1⟩ : ∃ z, z = k + 1 := ⟨_, rfl⟩
        have ew : IntKind.i64.wrap ((k : Int) + 1) = (k1 : Int) := by rw [IntKind.wrap_i64]; have := i8.out; omega
        rw [← hk1] at hsl r2 E
        have hd : d < wr.heap.size := lt_some DH.out.cells
        replace E := Lib.hid E
        replace F := Lib.hid F
        clear hno h hk WO b1 b2 o2 hB hBn hk1 hkS e2
        subst hA
        generalize gt S k = t at *
        go_upto_region 5 with fail
        go_region_law (first
          | (refine step_run_app rfl (.tmp 26) (.tmp 32) rfl rfl (.slice (some ⟨wr.heap.size, 0, none⟩) 0 0) (.slice (some ⟨g, o, none⟩) k c) rfl rfl r1 ?_)
          | (refine step_run_app rfl (.tmp 33) (.tmp 40) rfl rfl (.slice A1 k ca) (.slice B (n - k1) (c - k1)) rfl rfl r2 ?_))
        all_goals
          go_wp2
          go_ret
          exact ⟨by rw [F.out]; rfl, by rw [← hn.out]; exact E.out⟩
      · have q1 : ((gt S k).1 == id) = false := by simpa using h
        have nx : Hid (FdAt id S wr (.int .i64 ((k : Int) + 1)) wr) := ⟨k + 1, by simp, by have := hn.out; omega, fun j hj => by
          by_cases e : j = k
          · rw [e]; exact h
          · exact hno j (by omega), rfl⟩
        subst hA
        clear hno h hk hkS
        generalize gt S k = t at *
        go_wp2
        exact ⟨nx.out, by simp [intOf]; omega⟩
    · obtain rfl : k = n := by have := hn.out; omega
      have F : fnd id S = none := fnd_no fun j hj => hno j (by have := hn.out; omega)
      have E : Hid (DwTo wr d A S.length now (without id S) wr) := by rw [without_no F]; exact DwTo.of_below DH.out (Below.refl _ _)
      replace F := Lib.hid F
      clear hno hk hlt
      go_wp2
      go_ret
      exact ⟨by rw [F.out]; rfl, E.out⟩
end Wh
end Go.Proofs.Ytnfakkinaockiaa
