/- A log on a disk, as lists: what its files tell, and what each call does. No program. -/
import Derived.Test.YtbolcapgocjgcaaGreatDoorFrE
import Derived.Test.YtbolcapgocjgcaaGreatDoorDkP
namespace Go.Proofs.YtbolcapgocjgcaaGreatDoor
set_option maxRecDepth 100000
open Go.Proofs.YtbolcapgocjgcaaGreatDoor.Pk
namespace Se
open Fr (Goes Got frame frames Ok)
open Dk (Bs used sApp sSync sCut sRen sRem sCrash good)

theorem goes_ex (b : Bs) : ∀ n p, b.length - p ≤ n → ∃ l q, Goes b p l q ∧ Fr.one (b.drop q) = none := by
  intro n
  induction n with
  | zero =>
    intro p h
    refine ⟨[], p, rfl, Fr.one_short ?_⟩
    rw [List.length_drop]; omega
  | succ n ih =>
    intro p h
    cases e : Fr.one (b.drop p) with
    | none => exact ⟨[], p, rfl, e⟩
    | some r =>
      have h1 := Fr.one_len e
      rw [List.length_drop] at h1
      obtain ⟨l, q, h2, h3⟩ := ih (p + (6 + r.length)) (by omega)
      exact ⟨r :: l, q, ⟨e, h2⟩, h3⟩
theorem got_ex (b : Bs) : ∃ x : List Bs × Nat, Got b x.1 x.2 := by
  obtain ⟨l, q, h1, h2⟩ := goes_ex b b.length 0 (by omega)
  exact ⟨(l, q), h1, h2⟩
/-- The records in bytes, and the place behind the last one. -/
noncomputable def recs (b : Bs) : List Bs × Nat := Classical.choose (got_ex b)
theorem recs_got (b : Bs) : Got b (recs b).1 (recs b).2 := Classical.choose_spec (got_ex b)
theorem recs_eq {b : Bs} {l : List Bs} {q : Nat} (h : Got b l q) : recs b = (l, q) := by
  obtain ⟨h1, h2⟩ := Fr.got_one (recs_got b) h
  rw [← h1, ← h2]
theorem recs_le (b : Bs) : (recs b).2 ≤ b.length := by
  have h := (Fr.goes_le (recs_got b).1).2 (Nat.zero_le _)
  exact h
theorem recs_ok (b : Bs) : ∀ r ∈ (recs b).1, 1 ≤ r.length ∧ r.length ≤ 1000 := by
  have h := (recs_got b).1
  have : ∀ (l : List Bs) (p q : Nat), Goes b p l q → ∀ r ∈ l, 1 ≤ r.length ∧ r.length ≤ 1000 := by
    intro l
    induction l with
    | nil => intro p q _ r hr; cases hr
    | cons x t ih =>
      intro p q h r hr
      rcases List.mem_cons.1 hr with rfl | hr
      · exact (Fr.one_len h.1).2
      · exact ih _ _ h.2 r hr
  exact this _ _ _ h

/-- The number that a record tells: that of a generation, or -1. -/
def numOf (r : Bs) : Int := if rEnd (rInt 0 9223372036854775807 (some r)).2 = 0 then (rInt 0 9223372036854775807 (some r)).1 else -1
theorem numOf_bd (r : Bs) : -1 ≤ numOf r ∧ numOf r ≤ 9223372036854775807 := by
  have : 0 ≤ (rInt 0 9223372036854775807 (some r)).1 ∧ (rInt 0 9223372036854775807 (some r)).1 ≤ 9223372036854775807 := by
    unfold rInt
    simp only
    split
    · exact ⟨Int.le_refl _, by omega⟩
    · split
      · rename_i h; exact h
      · exact ⟨Int.le_refl _, by omega⟩
  unfold numOf
  split <;> omega
theorem numOf_enc {v : Int} (h1 : 0 ≤ v) (h2 : v ≤ 9223372036854775807) : numOf (Pk.encI v) = v := by
  have h := dec_encI v (by omega) h2 []
  rw [List.append_nil] at h
  have e : rInt 0 9223372036854775807 (some (Pk.encI v)) = (v, some []) := by
    rw [rInt_in h (by rw [uz_zz]; omega) (by rw [uz_zz]; omega), uz_zz]
  unfold numOf
  rw [e]
  rfl
/-- What a file has: the generation, what is kept, the place behind. -/
noncomputable def rdf (b : Bs) : Int × List Bs × Nat := match recs b with
  | ([], _) => (0, [], 0)
  | (r :: l, q) => (numOf r, l, q)
theorem rdf_bd (b : Bs) : -1 ≤ (rdf b).1 ∧ (rdf b).1 ≤ 9223372036854775807 := by
  unfold rdf
  split
  · simp only; omega
  · exact numOf_bd _
theorem rdf_le (b : Bs) : (rdf b).2.2 ≤ b.length := by
  have h := recs_le b
  unfold rdf
  split
  · exact Nat.zero_le _
  · rename_i e; rw [e] at h; exact h

def snapN : Bs := [115, 110, 97, 112]
def logN : Bs := [108, 111, 103]
def nextN : Bs := [110, 101, 120, 116]
def bof (n : Bs) (L : Dk.St) : Bs := (Dk.look n L).elim [] (·.1)
def syn (n : Bs) (L : Dk.St) : Nat := (Dk.look n L).elim 0 (·.2)
noncomputable def genOf (L : Dk.St) : Int := (rdf (bof snapN L)).1
def emptyOf (n : Nat) (L : Dk.St) : Bool := if 0 < n ∧ syn snapN L < used L then false else (bof logN L).isEmpty
def sealOf (g : Int) (b : Bs) : Bs := frame (Pk.encI g) ++ b
/-- Open: the disk, the state, the records. -/
noncomputable def pOpen (L : Dk.St) : Dk.St × List Bs × List Bs :=
  let L1 := (sRem L nextN).2
  let s := rdf (bof snapN L1)
  let g := rdf (bof logN L1)
  let x : List Bs × Nat := if g.1 = s.1 then g.2 else ([], 0)
  ((sCut L1 logN x.2).2, s.2.1, x.1)
noncomputable def pPut (room : Nat) (L : Dk.St) (n : Nat) (b : Bs) : Int × Dk.St × Nat :=
  if 1 ≤ b.length ∧ b.length ≤ 1000 then
    let r := sApp room L logN (if emptyOf n L then sealOf (genOf L) (frame b) else frame b)
    (r.1, r.2, if r.1 = 0 then n + 1 else n)
  else (1, L, n)
def pSync (L : Dk.St) : Dk.St := (sSync L logN).2
noncomputable def pRep (room : Nat) (L : Dk.St) (g : Int) (b : Bs) : Int × Dk.St :=
  let r := sApp room (sRem L nextN).2 nextN (sealOf g b)
  if r.1 = 0 then (0, (sRen (sSync r.2 nextN).2 nextN snapN).2) else r
noncomputable def pSave (room : Nat) (L : Dk.St) (n : Nat) (st : List Bs) : Int × Dk.St × Nat :=
  if ∀ r ∈ st, 1 ≤ r.length ∧ r.length ≤ 1000 then
    let r := pRep room L (genOf L + 1) (frames st)
    if r.1 = 0 then (0, (sCut r.2 logN 0).2, 0) else (r.1, r.2, n)
  else (1, L, n)
theorem sealOf_len (g : Int) (b : Bs) : (sealOf g b).length = (Pk.encI g).length + 6 + b.length := by unfold sealOf; rw [List.length_append, Fr.frame_len]
theorem sealOf_frames (g : Int) (l : List Bs) : sealOf g (frames l) = frames (Pk.encI g :: l) := rfl
theorem len_rem {L : Dk.St} {n : Bs} : (sRem L n).2.length ≤ L.length := by
  unfold sRem
  cases h : Dk.look n L with
  | none => exact Nat.le_refl _
  | some a => exact Dk.len_del_le n L
end Se
end Go.Proofs.YtbolcapgocjgcaaGreatDoor
