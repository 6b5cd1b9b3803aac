/- Sweep, Stock, Answers of a host. -/
import Derived.Test.YtchlbkfkecpodaaGreatHoC
import Derived.Test.YtchlbkfkecpodaaGreatNoF
namespace Go.Proofs.YtchlbkfkecpodaaGreat
set_option maxRecDepth 100000
open Go.RowKit
open Go.Sort (grow)
open Go.Proofs.YtchlbkfkecpodaaGreat.Pk (one_at one_free one_set lt_some grown_set grown_trans below_grown grown_refl)
namespace Ho
open Wt (Opn mayOp)
open St (Kq grq Led Kt dstp tick swF swL RowI ivs)
open Tb (Tab Kz ne0 cnt)

theorem sweep_nil (w : World) (now : Int) : Calls Tryz.prog 7 #[.pointer none, .int .i64 now] w fun e w' => e = .returned (.slice none 0 0) ∧ w = w' := by
  go_enter Tryz.func7, Tryz.ntmps7
  go_wp2
  go_ret
  exact ⟨rfl, rfl⟩
/-- What Sweep answers, and leaves. -/
def SwTo (w : World) (h : Nat) (cap over : Int) (fp : Nat → Prop) (l : List Int) (s : S) (e : Ending) (w' : World) : Prop := ∃ v, e = .returned v ∧ RowI w' w.heap.size v l.length (ivs l) ∧ HTo w h cap over fp s w'
theorem sweep_any (w : World) (h : Nat) (cap over : Int) (s : S) (fp : Nat → Prop) (now : Int) (H : Hst w h cap over s fp) :
    Calls Tryz.prog 7 #[.pointer (some ⟨h, 0, none⟩), .int .i64 now] w (SwTo w h cap over fp (swL s.f now) ⟨swF s.f now, s.g⟩) := by
  have SW : Hid (Calls Tryz.prog 19 #[.pointer (some ⟨h, 0, none⟩), .int .i64 now] w (SwTo w h cap over fp (swL s.f now) ⟨swF s.f now, s.g⟩)) := by
    obtain ⟨fl, L, _, GO⟩ := H.ledger
    refine (St.sweep_any w h cap over s.f fl L now).mono ?_
    rintro e w' ⟨v, rfl, hr, h1⟩
    exact ⟨v, rfl, hr, GO _ _ h1⟩
  generalize swL s.f now = l at *
  generalize (⟨swF s.f now, s.g⟩ : S) = s' at *
  clear H
  go_enter Tryz.func7, Tryz.ntmps7
  go_wp2_with fail
  refine SW.out.mono ?_
  rintro e w1 ⟨v, rfl, h1⟩
  have E : Hid (SwTo w h cap over fp l s' (.returned v) w1) := ⟨v, rfl, h1⟩
  clear SW h1
  go_wp2
  go_ret
  exact E.out
theorem stock_nil (w : World) : Calls Tryz.prog 12 #[.pointer none] w fun e w' => e = .returned (.pointer none) ∧ w = w' := by
  go_enter Tryz.func12, Tryz.ntmps12
  go_wp2
  go_ret
  exact ⟨rfl, rfl⟩
theorem stock_any (w : World) (h : Nat) (cap over : Int) (s : S) (fp : Nat → Prop) (H : Hst w h cap over s fp) :
    Calls Tryz.prog 12 #[.pointer (some ⟨h, 0, none⟩)] w (St.CpTo w cap over s.f) := by
  have CP : Hid (Calls Tryz.prog 29 #[.pointer (some ⟨h, 0, none⟩)] w (St.CpTo w cap over s.f)) := by
    obtain ⟨fl, L, _, _⟩ := H.ledger
    exact St.copy_any w h cap over s.f fl L
  generalize s.f = f at *
  clear H
  go_enter Tryz.func12, Tryz.ntmps12
  go_wp2_with fail
  refine CP.out.mono ?_
  rintro e w1 ⟨q, fp', rfl, h1⟩
  have E : Hid (St.CpTo w cap over f (.returned (.pointer (some ⟨q, 0, none⟩))) w1) := ⟨q, fp', rfl, h1⟩
  clear CP h1
  go_wp2
  go_ret
  exact E.out
theorem answers_nil (w : World) : Calls Tryz.prog 11 #[.pointer none] w fun e w' => e = .returned (.int .i64 0) ∧ w = w' := by
  go_enter Tryz.func11, Tryz.ntmps11
  go_wp2
  go_ret
  exact ⟨rfl, rfl⟩
theorem answers_any (w : World) (h : Nat) (cap over : Int) (s : S) (fp : Nat → Prop) (H : Hst w h cap over s fp) :
    Calls Tryz.prog 11 #[.pointer (some ⟨h, 0, none⟩)] w fun e w' => e = .returned (.int .i64 (cnt s.g : Nat)) ∧ w = w' := by
  have LN : Hid (Calls Tryz.prog 28 #[.pointer (some ⟨h, 3, none⟩)] w fun e w' => e = .returned (.int .i64 (cnt s.g : Nat)) ∧ w = w') := by
    obtain ⟨ft, T, _, _⟩ := H.table
    exact Nd.len_any w h 3 s.g ft T
  generalize cnt s.g = n at *
  clear H
  go_enter Tryz.func11, Tryz.ntmps11
  go_wp2_with fail
  refine LN.out.mono ?_
  rintro e w1 ⟨rfl, rfl⟩
  clear LN
  go_wp2
  go_ret
  exact ⟨rfl, rfl⟩
theorem bytes_nil (w : World) : Calls Tryz.prog 13 #[.pointer none] w fun e w' => e = .returned (.slice none 0 0) ∧ w = w' := by
  go_enter Tryz.func13, Tryz.ntmps13
  go_wp2
  go_ret
  exact ⟨rfl, rfl⟩
end Ho
end Go.Proofs.YtchlbkfkecpodaaGreat
