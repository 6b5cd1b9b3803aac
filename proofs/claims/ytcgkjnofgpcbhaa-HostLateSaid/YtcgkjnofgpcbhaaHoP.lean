/- What a host that is asked keeps: a booking that is gone; answers that stand. -/
import Derived.Test.YtcgkjnofgpcbhaaHoM
import Derived.Test.YtcgkjnofgpcbhaaStS
namespace Go.Proofs.Ytcgkjnofgpcbhaa
namespace Ho
open Wt (Opn mayOp)
open St (dstp stp tick eg upd gone_do)

/-- What was released is gone. -/
def J (s : S) : Prop := s.g 150 3 ≠ 0 → s.f 150 = eg
theorem j_z : J sz := fun h => absurd rfl h
section
variable {cap over now : Int} {s : S} {o : Opn}
theorem ask_gone (h : s.f 150 = eg) : (asked cap over s o now).f 150 = eg := by
  unfold asked
  split
  · rename_i hc
    exact (gone_do h (mayh_iff.1 hc.1).2.1).1
  · exact h
theorem ask_rel (hJ : J s) (hm : mayH o now = true) (hk : o.kind = 3) (hb : o.book = 150) : (asked cap over s o now).f 150 = eg := by
  by_cases h0 : s.g o.book o.kind = 0
  · rw [asked_yes hm h0]
    obtain ⟨h1, h2, h3⟩ := mayh_iff.1 hm
    show (dstp cap over s.f o now).1 150 = eg
    unfold dstp stp
    rw [h1, h2, if_neg (by decide), hk, if_neg (by decide), if_neg (by decide), if_pos rfl, hb]
    show upd s.f 150 eg 150 = eg
    exact St.upd_same _ _ _
  · rw [asked_old h0]
    rw [hk, hb] at h0
    exact hJ h0
theorem j_ask (hJ : J s) : J (asked cap over s o now) := by
  intro hg
  by_cases hm : mayH o now = true
  · by_cases hr : o.kind = 3 ∧ o.book = 150
    · exact ask_rel hJ hm hr.1 hr.2
    · by_cases h0 : s.g o.book o.kind = 0
      · refine ask_gone (hJ fun h => ?_)
        rw [asked_yes hm h0] at hg
        apply hg
        show Tb.putF s.g o _ 150 3 = 0
        unfold Tb.putF
        split
        · rw [Tb.upd_other (fun e => hr ⟨e.2.symm, e.1.symm⟩)]
          exact h
        · exact h
      · rw [asked_old h0] at hg ⊢
        exact hJ hg
  · rw [asked_no (by simpa using hm)] at hg ⊢
    exact hJ hg
end
theorem rel_mayh {now : Int} (h0 : 0 ≤ now) (h1 : now ≤ 1000) : mayH ⟨3, 150, 0, 0, 0⟩ now = true :=
  mayh_iff.2 ⟨St.rel_may (by decide) (by decide), St.tick_of h0 (by omega), by decide⟩
end Ho
end Go.Proofs.Ytcgkjnofgpcbhaa
