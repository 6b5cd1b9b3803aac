/- The Reader's calls that the document lists: each answers what the lists say (chapter 1, promise 1.2). -/
import Derived.Test.YtidfpbnepdjagaaDoorPk2
namespace Go.Proofs.YtidfpbnepdjagaaDoor
open Go.RowKit
namespace Pk

theorem groups_any (p : Nat) (w : World) (s : St) (h : Rd w p s) : Calls Tryd.prog 74 #[.pointer (some ⟨p, 0, none⟩)] w (Grp w p s) := by
  cases s with
  | none => exact groups_none p w h
  | some l => exact groups_some p w l h
theorem rInt_out {lo hi : Int} {l r : List UInt8} {u : Nat} (h : dec 0 0 l = some (u, r)) (hb : uz u < lo ∨ hi < uz u) : rInt lo hi (some l) = (0, none) := by
  simp only [rInt, h]
  rw [if_neg (by omega)]
theorem rInt_in {lo hi : Int} {l r : List UInt8} {u : Nat} (h : dec 0 0 l = some (u, r)) (h1 : ¬ uz u < lo) (h2 : ¬ hi < uz u) : rInt lo hi (some l) = (uz u, some r) := by
  simp only [rInt, h]
  rw [if_pos (by omega)]
theorem rInt_none {lo hi : Int} {s : St} (h : s = none ∨ ∃ l, s = some l ∧ dec 0 0 l = none) : rInt lo hi s = (0, none) := by
  rcases h with rfl | ⟨l, rfl, h⟩
  · rfl
  · simp only [rInt, h]
def NumTo (w : World) (p : Nat) (q : Int × St) (e : Ending) (w' : World) : Prop := e = .returned (.int .i64 q.1) ∧ RdTo w p q.2 w'

set_option maxHeartbeats 800000 in
set_option maxRecDepth 100000 in
theorem number64_any (p : Nat) (w : World) (s : St) (lo hi : Int) (h : Rd w p s) :
    Calls Tryd.prog 60 #[.pointer (some ⟨p, 0, none⟩), .int .i64 lo, .int .i64 hi] w (NumTo w p (rInt lo hi s)) := by
  have H := Lib.hid h
  clear h
  go_enter Tryd.func60, Tryd.ntmps60
  go_wp2_with fail
  refine (groups_any p w s H.out).mono ?_
  rintro e w1 ⟨u, ok, s', rfl, hu, hr, hc⟩
  have hu' := Lib.hid hu
  clear hu
  rcases hc with ⟨rfl, l, r, rfl, rfl, hd⟩ | ⟨rfl, hn⟩
  · have hd' := Lib.hid hd
    clear hd
    by_cases h1 : uz u < lo
    · have E := Lib.hid (rInt_out (lo := lo) (hi := hi) hd'.out (.inl h1))
      go_wp2_with (first | (go_at_call 75; ((with_reducible refine (unfold_any u _ hu'.out).mono ?_); rintro e w' ⟨rfl, rfl⟩)) | (go_at_call 76; ((with_reducible refine (fail_any p _ _ hr.rd).mono ?_); rintro e w' ⟨rfl, hf⟩)))
      go_ret
      rw [E.out]
      exact ⟨rfl, hr.trans hf⟩
    · by_cases h2 : hi < uz u
      · have E := Lib.hid (rInt_out (lo := lo) (hi := hi) hd'.out (.inr h2))
        go_wp2_with (first | (go_at_call 75; ((with_reducible refine (unfold_any u _ hu'.out).mono ?_); rintro e w' ⟨rfl, rfl⟩)) | (go_at_call 76; ((with_reducible refine (fail_any p _ _ hr.rd).mono ?_); rintro e w' ⟨rfl, hf⟩)))
        go_ret
        rw [E.out]
        exact ⟨rfl, hr.trans hf⟩
      · have E := Lib.hid (rInt_in hd'.out h1 h2)
        go_wp2_with (first | (go_at_call 75; ((with_reducible refine (unfold_any u _ hu'.out).mono ?_); rintro e w' ⟨rfl, rfl⟩)))
        go_ret
        rw [E.out]
        exact ⟨rfl, hr⟩
  · have E := Lib.hid (rInt_none (lo := lo) (hi := hi) hn)
    clear hn
    go_wp2_with (first | (go_at_call 75; ((with_reducible refine (unfold_any u _ hu'.out).mono ?_); rintro e w' ⟨rfl, rfl⟩)) | (go_at_call 76; ((with_reducible refine (fail_any p _ _ hr.rd).mono ?_); rintro e w' ⟨rfl, hf⟩)))
    go_ret
    rw [E.out]
    exact ⟨rfl, hr.trans hf⟩

set_option maxHeartbeats 800000 in
set_option maxRecDepth 100000 in
theorem number_any (p : Nat) (w : World) (s : St) (lo hi : Int) (h : Rd w p s) :
    Calls Tryd.prog 77 #[.pointer (some ⟨p, 0, none⟩), .int .i64 lo, .int .i64 hi] w (NumTo w p (rInt lo hi s)) := by
  have H := Lib.hid h
  clear h
  go_enter Tryd.func77, Tryd.ntmps77
  go_wp2_with fail
  refine (groups_any p w s H.out).mono ?_
  rintro e w1 ⟨u, ok, s', rfl, hu, hr, hc⟩
  have hu' := Lib.hid hu
  clear hu
  rcases hc with ⟨rfl, l, r, rfl, rfl, hd⟩ | ⟨rfl, hn⟩
  · have hd' := Lib.hid hd
    clear hd
    by_cases h1 : uz u < lo
    · have E := Lib.hid (rInt_out (lo := lo) (hi := hi) hd'.out (.inl h1))
      go_wp2_with (first | (go_at_call 75; ((with_reducible refine (unfold_any u _ hu'.out).mono ?_); rintro e w' ⟨rfl, rfl⟩)) | (go_at_call 76; ((with_reducible refine (fail_any p _ _ hr.rd).mono ?_); rintro e w' ⟨rfl, hf⟩)))
      go_ret
      rw [E.out]
      exact ⟨rfl, hr.trans hf⟩
    · by_cases h2 : hi < uz u
      · have E := Lib.hid (rInt_out (lo := lo) (hi := hi) hd'.out (.inr h2))
        go_wp2_with (first | (go_at_call 75; ((with_reducible refine (unfold_any u _ hu'.out).mono ?_); rintro e w' ⟨rfl, rfl⟩)) | (go_at_call 76; ((with_reducible refine (fail_any p _ _ hr.rd).mono ?_); rintro e w' ⟨rfl, hf⟩)))
        go_ret
        rw [E.out]
        exact ⟨rfl, hr.trans hf⟩
      · have E := Lib.hid (rInt_in hd'.out h1 h2)
        go_wp2_with (first | (go_at_call 75; ((with_reducible refine (unfold_any u _ hu'.out).mono ?_); rintro e w' ⟨rfl, rfl⟩)))
        go_ret
        rw [E.out]
        exact ⟨rfl, hr⟩
  · have E := Lib.hid (rInt_none (lo := lo) (hi := hi) hn)
    clear hn
    go_wp2_with (first | (go_at_call 75; ((with_reducible refine (unfold_any u _ hu'.out).mono ?_); rintro e w' ⟨rfl, rfl⟩)) | (go_at_call 76; ((with_reducible refine (fail_any p _ _ hr.rd).mono ?_); rintro e w' ⟨rfl, hf⟩)))
    go_ret
    rw [E.out]
    exact ⟨rfl, hr.trans hf⟩

theorem rint_any (p : Nat) (w : World) (s : St) (lo hi : Int) (h : Rd w p s) :
    Calls Tryd.prog 30 #[.pointer (some ⟨p, 0, none⟩), .int .i64 lo, .int .i64 hi] w (NumTo w p (rInt lo hi s)) := by
  have H := Lib.hid (number64_any p w s lo hi h)
  clear h
  go_enter Tryd.func30, Tryd.ntmps30
  go_wp2_with (go_at_call 60; ((with_reducible refine H.out.mono ?_); rintro e w' ⟨rfl, hr⟩))
  go_ret
  exact ⟨rfl, hr⟩

set_option maxHeartbeats 400000 in
theorem rend_any (p : Nat) (w : World) (s : St) (h : Rd w p s) :
    Calls Tryd.prog 35 #[.pointer (some ⟨p, 0, none⟩)] w fun e w' => e = .returned (.int .i64 (rEnd s)) ∧ w = w' := by
  obtain ⟨A, n, c, f, bs, h1, h2, h3, h4, h5⟩ := h
  have c0 : w.cell? ⟨p, 0, none⟩ = some (.slice A n c) := one_at h1
  have c1 : w.cell? ⟨p, 1, none⟩ = some (.bool f) := one_at h1
  have hl := h4.len
  clear h1 h4
  subst h5
  cases f with
  | true =>
    go_enter Tryd.func35, Tryd.ntmps35
    go_wp2
    go_ret
    exact ⟨rfl, rfl⟩
  | false =>
    rcases bs with _ | ⟨x, t⟩
    · obtain rfl : n = 0 := by simpa using hl.symm
      clear hl
      go_enter Tryd.func35, Tryd.ntmps35
      go_wp2
      go_ret
      exact ⟨rfl, rfl⟩
    · have hn : 0 < n := by rw [← hl]; simp
      clear hl
      go_enter Tryd.func35, Tryd.ntmps35
      go_wp2
      go_ret
      exact ⟨rfl, rfl⟩

end Pk
end Go.Proofs.YtidfpbnepdjagaaDoor
