/- A saga, and what it turns into; no program. -/
import Derived.Test.YtidfpbnepdjagaaDoorPlN
namespace Go.Proofs.YtidfpbnepdjagaaDoor
open Go.RowKit
namespace Sg
open Wt (Wan may Opn mayOp mayU inR)
open Pl (Stp fwd bck cap z0)

/-- A saga: its booking, phase, step, reason, since when. -/
structure Sag where
  w : Wan
  ph : Int
  st : Int
  rs : Int
  si : Int
deriving DecidableEq
def sz : Sag := ⟨⟨0, 0, 0, 0, 0, 0, 0⟩, 0, 0, 0, 0⟩
/-- A reason that may be. -/
def why (s : Sag) : Bool := decide (1 ≤ s.rs) && decide (s.rs ≤ 4) && (!(s.rs == 3) || decide (0 < s.w.dead))
def nF (s : Sag) : Int := ((fwd s.w).length : Int)
def nB (s : Sag) : Int := ((bck s.w).length : Int)
/-- Step, reason and phase are as they may be. -/
def phs (s : Sag) : Bool :=
  if s.ph = 1 then decide (0 ≤ s.st) && decide (s.st < nF s) && s.rs == 0
  else if s.ph = 2 ∨ s.ph = 4 then s.st == 0 && s.rs == 0
  else if s.ph = 3 then decide (0 ≤ s.st) && decide (s.st < nB s) && why s
  else if s.ph = 5 then s.st == 0 && why s
  else false
def smay (s : Sag) : Bool := may s.w && inR s.si 0 1099511627776 && phs s
def atF (s : Sag) : Stp := ((fwd s.w)[s.st.toNat]?).getD z0
def atB (s : Sag) : Stp := ((bck s.w)[s.st.toNat]?).getD z0
def snext (s : Sag) : Stp × Bool :=
  if smay s = true then
    if s.ph = 1 then (atF s, true)
    else if s.ph = 2 then (cap s.w, true)
    else if s.ph = 3 then (atB s, true)
    else (z0, false)
  else (z0, false)
/-- It is taken back. -/
def sback (s : Sag) (r : Int) : Sag := { s with ph := 3, st := 0, rs := r }
/-- Its step is done. -/
def sdone (s : Sag) : Sag :=
  if s.ph = 1 then (if s.st + 1 = nF s then { s with ph := 2, st := 0 } else { s with st := s.st + 1 })
  else if s.ph = 2 then { s with ph := 4, st := 0 }
  else (if s.st + 1 = nB s then { s with ph := 5, st := 0 } else { s with st := s.st + 1 })
def sans (s : Sag) (a : Stp) (n : Int) : Sag × Bool :=
  if (snext s).2 = true ∧ (snext s).1 = a ∧ (n = 1 ∨ n = 2) then
    if n = 2 then
      if s.ph = 1 then (if a.op.kind = 4 then (sback s 2, true) else (sback s 1, true)) else (s, false)
    else (sdone s, true)
  else (s, false)
def scan (s : Sag) : Sag × Bool := if smay s = true ∧ s.ph = 1 then (sback s 4, true) else (s, false)
def slate (s : Sag) (now : Int) : Sag × Bool :=
  if smay s = true ∧ s.ph = 1 ∧ 0 < s.w.dead ∧ now ≤ 1099511627776 ∧ s.si + s.w.dead ≤ now then (sback s 3, true) else (s, false)
def sover (s : Sag) : Bool := smay s && (s.ph == 4 || s.ph == 5)
def stells (s : Sag) : Int := if smay s = true then (if s.ph = 4 then 3 else if s.ph = 5 then 4 else 2) else 0
def snew (w : Wan) (now : Int) : Sag × Int := if may w = true ∧ inR now 0 1099511627776 = true then (⟨w, 1, 0, 0, now⟩, 0) else (sz, 1)
end Sg
end Go.Proofs.YtidfpbnepdjagaaDoor
