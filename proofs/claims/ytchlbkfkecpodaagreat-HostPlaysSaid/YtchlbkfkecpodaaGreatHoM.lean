/- A host as numbers: its bookings and its answers; what it is asked. -/
import Derived.Test.YtchlbkfkecpodaaGreatStH
import Derived.Test.YtchlbkfkecpodaaGreatTbD
namespace Go.Proofs.YtchlbkfkecpodaaGreat
namespace Ho
open Wt (Opn mayOp)
open St (dstp stp tick)

/-- Its bookings, its answers. -/
structure S where
  f : St.F
  g : Tb.F
def sz : S := ⟨St.fz, Tb.fz⟩
/-- May an inventory be asked that? -/
def mayH (o : Opn) (now : Int) : Bool := mayOp o && tick now && decide (o.kind ≤ 3)
def asked (cap over : Int) (s : S) (o : Opn) (now : Int) : S := if mayH o now = true ∧ s.g o.book o.kind = 0 then ⟨(dstp cap over s.f o now).1, Tb.putF s.g o (dstp cap over s.f o now).2⟩ else s
def ans (cap over : Int) (s : S) (o : Opn) (now : Int) : Int := if mayH o now = true then (if s.g o.book o.kind = 0 then (dstp cap over s.f o now).2 else s.g o.book o.kind) else 2
def isNew (s : S) (o : Opn) (now : Int) : Bool := mayH o now && s.g o.book o.kind == 0
structure Ok (cap over : Int) (s : S) : Prop where
  f : St.Ok cap over s.f
  g : Tb.Ok s.g
section
variable {cap over : Int} {s : S} {o : Opn} {now : Int}
theorem mayh_iff : mayH o now = true ↔ mayOp o = true ∧ tick now = true ∧ o.kind ≤ 3 := by simp [mayH, and_assoc]
theorem dstp_ans (cap over : Int) (f : St.F) (o : Opn) (now : Int) : (dstp cap over f o now).2 = 1 ∨ (dstp cap over f o now).2 = 2 := by
  unfold dstp stp
  split
  · exact .inr rfl
  · split
    · split
      · split
        · exact .inl rfl
        · exact .inr rfl
      · split
        · exact .inl rfl
        · exact .inr rfl
    · split
      · split
        · exact .inl rfl
        · split
          · exact .inl rfl
          · exact .inr rfl
      · split
        · exact .inl rfl
        · exact .inr rfl
theorem put_is (hm : mayH o now = true) (hg : s.g o.book o.kind = 0) : Tb.put? s.g o (dstp cap over s.f o now).2 = true :=
  Tb.put_iff.2 ⟨(mayh_iff.1 hm).1, Tb.maya_iff.2 (dstp_ans cap over s.f o now), hg⟩
theorem asked_no (h : mayH o now = false) : asked cap over s o now = s := by unfold asked; rw [if_neg (fun e => by rw [h] at e; exact absurd e.1 (by decide))]
theorem asked_old (h : s.g o.book o.kind ≠ 0) : asked cap over s o now = s := by unfold asked; rw [if_neg (fun e => h e.2)]
theorem asked_yes (h : mayH o now = true) (hg : s.g o.book o.kind = 0) : asked cap over s o now = ⟨(dstp cap over s.f o now).1, Tb.putF s.g o (dstp cap over s.f o now).2⟩ := by unfold asked; rw [if_pos ⟨h, hg⟩]
theorem ans_no (h : mayH o now = false) : ans cap over s o now = 2 := by unfold ans; rw [if_neg (by rw [h]; decide)]
theorem ans_old (h : mayH o now = true) (hg : s.g o.book o.kind ≠ 0) : ans cap over s o now = s.g o.book o.kind := by unfold ans; rw [if_pos h, if_neg hg]
theorem ans_yes (h : mayH o now = true) (hg : s.g o.book o.kind = 0) : ans cap over s o now = (dstp cap over s.f o now).2 := by unfold ans; rw [if_pos h, if_pos hg]
theorem new_no (h : mayH o now = false) : isNew s o now = false := by unfold isNew; rw [h]; rfl
theorem new_old (h : s.g o.book o.kind ≠ 0) : isNew s o now = false := by unfold isNew; rw [beq_eq_false_iff_ne.2 h, Bool.and_false]
theorem new_yes (h : mayH o now = true) (hg : s.g o.book o.kind = 0) : isNew s o now = true := by unfold isNew; rw [h, hg]; rfl
theorem dstp_ok (h : St.Ok cap over s.f) : St.Ok cap over (dstp cap over s.f o now).1 := by
  unfold dstp
  refine St.ok_stp h (fun hh => ?_) (fun hh hk => ?_) (fun hh => ?_)
  · rw [Bool.and_eq_true] at hh
    exact (Tb.mayop_bds hh.1).1
  · rw [Bool.and_eq_true] at hh
    have h1 := hh.1
    unfold mayOp at h1
    rw [if_pos hk, Bool.and_eq_true, Bool.and_eq_true] at h1
    have h2 := h1.2.1
    unfold Wt.inR at h2
    simpa using h2
  · rw [Bool.and_eq_true] at hh
    exact hh.2
theorem Ok.asked (h : Ok cap over s) (o : Opn) (now : Int) : Ok cap over (asked cap over s o now) := by
  unfold Ho.asked
  split
  · exact ⟨dstp_ok h.f, h.g.put _ _⟩
  · exact h
theorem Ok.swept (h : Ok cap over s) (now : Int) : Ok cap over ⟨St.swF s.f now, s.g⟩ := ⟨St.ok_swF h.f now, h.g⟩
theorem Ok.start (h : St.mayS cap over = true) : Ok cap over sz := by
  obtain ⟨⟨a0, a1⟩, b0, b1⟩ := St.mayS_iff.1 h
  exact ⟨St.ok_z a0 a1 b0 b1, Tb.ok_z⟩
end
end Ho
end Go.Proofs.YtchlbkfkecpodaaGreat
