/- A Reader that is wrong: each of its calls answers nothing, and nothing turns (chapter 1, promise 1.2). -/
import Derived.Test.YtfdgjdakaibifaaDoorPk9
namespace Go.Proofs.YtfdgjdakaibifaaDoor
open Go.RowKit
namespace Pk

theorem set_same {w : World} {p i : Nat} {cs : Array Value} {t : TypeId} {u : Value} (h : w.heap[p]? = some (.cells cs t (0, 0))) (hu : cs[i]? = some u) : w.setCell ⟨p, i, none⟩ u = w := by
  have e : (w.setCell ⟨p, i, none⟩ u).heap = w.heap := by
    simp only [World.setCell]
    apply Array.ext (by simp)
    intro k h1 h2
    simp only [Array.getElem_modify]
    split
    · rename_i hk
      subst hk
      have hp : w.heap[p] = .cells cs t (0, 0) := by
        rw [Array.getElem?_eq_getElem h2] at h
        exact Option.some.inj h
      rw [hp]
      simp only [Option.isSome_none, Bool.false_eq_true, if_false]
      congr 1
      apply Array.ext (by simp)
      intro j h3 h4
      rw [Array.getElem_setIfInBounds]
      split
      · rename_i hj
        subst hj
        rw [Array.getElem?_eq_getElem h4] at hu
        exact (Option.some.inj hu).symm
      · rfl
    · rfl
  show ({ w with heap := (w.setCell ⟨p, i, none⟩ u).heap } : World) = w
  rw [e]

theorem fail_no (p : Nat) (w : World) (h : Rd w p none) : Calls Tryd.prog 38 #[.pointer (some ⟨p, 0, none⟩)] w fun e w' => e = .returned (.tuple #[]) ∧ w = w' := by
  obtain ⟨A, n, c, f, bs, h1, h2, h3, h4, h5⟩ := h
  obtain rfl : f = true := by cases f <;> simp_all
  refine (fail_at p w true (one_at h1) (one_free h1)).mono ?_
  rintro e w' ⟨rfl, hw⟩
  refine ⟨rfl, ?_⟩
  rw [← hw]
  exact (set_same h1 rfl).symm
set_option maxHeartbeats 400000 in
theorem groups_no (p : Nat) (w : World) (h : Rd w p none) : Calls Tryd.prog 36 #[.pointer (some ⟨p, 0, none⟩)] w fun e w' => e = .returned (.tuple #[.int .u64 0, .bool false]) ∧ w = w' := by
  have H := Lib.hid (take_wrong p w 1 h)
  clear h
  go_enter Tryd.func36, Tryd.ntmps36
  go_wp2
  refine wp_loop_rounds 1 ?_
  rw [rounds_succ]
  go_wp2_with (go_at_call 35; ((with_reducible refine H.out.mono ?_); rintro e w' ⟨rfl, rfl⟩))
  go_ret2
  exact ⟨rfl, rfl⟩
set_option maxHeartbeats 400000 in
theorem number64_no (p : Nat) (w : World) (lo hi : Int) (h : Rd w p none) : Calls Tryd.prog 32 #[.pointer (some ⟨p, 0, none⟩), .int .i64 lo, .int .i64 hi] w fun e w' => e = .returned (.int .i64 0) ∧ w = w' := by
  have U := Lib.hid (unfold_any 0 w (by omega))
  have G := Lib.hid (groups_no p w h)
  have F := Lib.hid (fail_no p w h)
  clear h
  go_enter Tryd.func32, Tryd.ntmps32
  go_wp2_with (first | (go_at_call 36; ((with_reducible refine G.out.mono ?_); rintro e w' ⟨rfl, rfl⟩)) | (go_at_call 37; ((refine U.out.mono ?_); rintro e w' ⟨rfl, rfl⟩)) | (go_at_call 38; ((with_reducible refine F.out.mono ?_); rintro e w' ⟨rfl, rfl⟩)))
  go_ret
  exact ⟨rfl, rfl⟩
set_option maxHeartbeats 400000 in
theorem number_no (p : Nat) (w : World) (lo hi : Int) (h : Rd w p none) : Calls Tryd.prog 34 #[.pointer (some ⟨p, 0, none⟩), .int .i64 lo, .int .i64 hi] w fun e w' => e = .returned (.int .i64 0) ∧ w = w' := by
  have U := Lib.hid (unfold_any 0 w (by omega))
  have G := Lib.hid (groups_no p w h)
  have F := Lib.hid (fail_no p w h)
  clear h
  go_enter Tryd.func34, Tryd.ntmps34
  go_wp2_with (first | (go_at_call 36; ((with_reducible refine G.out.mono ?_); rintro e w' ⟨rfl, rfl⟩)) | (go_at_call 37; ((refine U.out.mono ?_); rintro e w' ⟨rfl, rfl⟩)) | (go_at_call 38; ((with_reducible refine F.out.mono ?_); rintro e w' ⟨rfl, rfl⟩)))
  go_ret
  exact ⟨rfl, rfl⟩
set_option maxHeartbeats 400000 in
theorem rint_no (p : Nat) (w : World) (lo hi : Int) (h : Rd w p none) : Calls Tryd.prog 19 #[.pointer (some ⟨p, 0, none⟩), .int .i64 lo, .int .i64 hi] w fun e w' => e = .returned (.int .i64 0) ∧ w' = w := by
  have N := Lib.hid (number64_no p w lo hi h)
  clear h
  go_enter Tryd.func19, Tryd.ntmps19
  go_wp2_with (go_at_call 32; ((with_reducible refine N.out.mono ?_); rintro e w' ⟨rfl, rfl⟩))
  go_ret
  exact ⟨rfl, rfl⟩
set_option maxHeartbeats 400000 in
theorem rtext_no (p : Nat) (w : World) (most : Int) (h : Rd w p none) : Calls Tryd.prog 21 #[.pointer (some ⟨p, 0, none⟩), .int .i64 most] w fun e w' => e = .returned (.string (str [])) ∧ w' = w := by
  have hs := str_nil w
  have N := Lib.hid (fun lo hi => number_no p w lo hi h)
  have K := Lib.hid (fun k => take_wrong p w k h)
  clear h
  by_cases hm : most < 0
  all_goals
    go_enter Tryd.func21, Tryd.ntmps21
    go_wp2_with (first | (go_at_call 34; ((with_reducible refine (N.out _ _).mono ?_); rintro e w' ⟨rfl, rfl⟩)) | (go_at_call 35; ((with_reducible refine (K.out _).mono ?_); rintro e w' ⟨rfl, rfl⟩)))
    go_ret
    exact ⟨rfl, rfl⟩
set_option maxHeartbeats 400000 in
theorem rbyte_no (p : Nat) (w : World) (h : Rd w p none) : Calls Tryd.prog 23 #[.pointer (some ⟨p, 0, none⟩)] w fun e w' => e = .returned (.int .i64 0) ∧ w' = w := by
  have K := Lib.hid (take_wrong p w 1 h)
  clear h
  go_enter Tryd.func23, Tryd.ntmps23
  go_wp2_with (go_at_call 35; ((with_reducible refine K.out.mono ?_); rintro e w' ⟨rfl, rfl⟩))
  go_ret
  exact ⟨rfl, rfl⟩
theorem rend_no (p : Nat) (w : World) (h : Rd w p none) : Calls Tryd.prog 25 #[.pointer (some ⟨p, 0, none⟩)] w fun e w' => e = .returned (.int .i64 2) ∧ w' = w :=
  (rend_any p w none h).mono fun _ _ ⟨h1, h2⟩ => ⟨h1, h2.symm⟩
end Pk
end Go.Proofs.YtfdgjdakaibifaaDoor
