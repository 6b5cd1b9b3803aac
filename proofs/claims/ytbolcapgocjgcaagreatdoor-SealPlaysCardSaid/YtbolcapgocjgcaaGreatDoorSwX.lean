/- few: how much a step has. -/
import Derived.Test.YtbolcapgocjgcaaGreatDoorSeM
import Derived.Test.YtbolcapgocjgcaaGreatDoorSeH
import Derived.Test.YtbolcapgocjgcaaGreatDoorDkT
namespace Go.Proofs.YtbolcapgocjgcaaGreatDoor
set_option maxRecDepth 100000
open Go.Proofs.YtbolcapgocjgcaaGreatDoor.Pk
namespace Se
open Fr (Goes Got frame frames)
open Dk (Bs used sApp sSync sCut sRen sRem sCrash good)

/-- The files "log" and "snap", all of the latter synced. -/
def raw (s : Option Bs) (l : Option (Bs × Nat)) : Dk.St := (l.elim [] fun x => [(logN, x.1, x.2)]) ++ (s.elim [] fun b => [(snapN, b, b.length)])
section
variable (s : Option Bs) (l : Option (Bs × Nat))
theorem raw_log : Dk.look logN (raw s l) = l := by
  cases l <;> cases s <;> simp [raw, Dk.look, logN, snapN]
theorem raw_snap : Dk.look snapN (raw s l) = s.map fun b => (b, b.length) := by
  cases l <;> cases s <;> simp [raw, Dk.look, logN, snapN]
theorem raw_next : Dk.look nextN (raw s l) = none := by
  cases l <;> cases s <;> simp [raw, Dk.look, logN, snapN, nextN]
theorem raw_used : used (raw s l) = (l.elim 0 fun x => x.1.length) + s.elim 0 (·.length) := by
  cases l <;> cases s <;> simp [raw, used, Dk.sum]
theorem raw_len : (raw s l).length ≤ 2 := by
  cases l <;> cases s <;> simp [raw]
theorem raw_put (b : Bs) (k : Nat) : Dk.put logN (b, k) (raw s l) = raw s (some (b, k)) := by
  cases l <;> cases s <;> simp [raw, Dk.put, logN, snapN, bytesBefore]
theorem raw_rem : (sRem (raw s l) nextN).2 = raw s l := by
  unfold sRem
  rw [raw_next]
  rfl
theorem raw_bofl : bof logN (raw s l) = l.elim [] (·.1) := by unfold bof; rw [raw_log]
theorem raw_bofs : bof snapN (raw s l) = s.getD [] := by
  unfold bof; rw [raw_snap]; cases s <;> rfl
theorem raw_syn : syn snapN (raw s l) = s.elim 0 (·.length) := by
  unfold syn; rw [raw_snap]; cases s <;> rfl
theorem raw_cut (k : Nat) (hk : k ≤ l.elim 0 fun x => x.1.length) : (sCut (raw s l) logN (k : Int)).2 = raw s (l.map fun x => (x.1.take k, k)) := by
  unfold sCut
  rw [raw_log]
  cases l with
  | none => rfl
  | some x =>
    simp only [Option.elim] at hk
    simp only [Option.elim, Option.map]
    rw [if_neg (by omega)]
    simp only [Int.toNat_natCast]
    rw [raw_put]
theorem raw_sync : (sSync (raw s l) logN).2 = raw s (l.map fun x => (x.1, x.1.length)) := by
  unfold sSync
  rw [raw_log]
  cases l with
  | none => rfl
  | some x =>
    simp only [Option.elim, Option.map]
    rw [raw_put]
theorem raw_app (room : Nat) (x : Bs) : sApp room (raw s l) logN x = if room - used (raw s l) < x.length then (4, raw s l) else (0, raw s (some ((l.elim [] (·.1)) ++ x, l.elim 0 (·.2)))) := by
  unfold sApp
  rw [if_neg (by decide), raw_log]
  split
  · rfl
  · rw [raw_put]
theorem raw_rep (room : Nat) (g : Int) (b : Bs) : pRep room (raw s l) g b = if room - used (raw s l) < (sealOf g b).length then (4, raw s l) else (0, raw (some (sealOf g b)) l) := by
  unfold pRep
  rw [raw_rem]
  have ha : sApp room (raw s l) nextN (sealOf g b) = if room - used (raw s l) < (sealOf g b).length then (4, raw s l) else (0, Dk.put nextN (sealOf g b, 0) (raw s l)) := by
    unfold sApp
    rw [if_neg (show ¬ good nextN = false by decide), raw_next]
    rfl
  rw [ha]
  generalize sealOf g b = z
  split
  · rfl
  · simp only
    rw [if_pos trivial]
    have h1 : (sSync (Dk.put nextN (z, 0) (raw s l)) nextN).2 = Dk.put nextN (z, z.length) (raw s l) := by
      unfold sSync
      rw [Dk.look_put_same]
      simp only [Option.elim]
      cases l <;> cases s <;> simp [raw, Dk.put, logN, snapN, nextN, bytesBefore]
    rw [h1]
    unfold sRen
    rw [Dk.look_put_same]
    simp only [Option.elim]
    rw [if_neg (show ¬ good snapN = false by decide)]
    simp only
    congr 1
    cases l <;> cases s <;> simp [raw, Dk.put, Dk.del, logN, snapN, nextN, bytesBefore]
theorem raw_crash (keep : Int) : sCrash keep (raw s l) = raw s (l.map fun x => (x.1.take (x.2 + min (max keep 0).toNat (x.1.length - x.2)), x.2 + min (max keep 0).toNat (x.1.length - x.2))) := by
  cases l <;> cases s <;> simp [raw, sCrash, Dk.vals, Dk.cr]
end

/-- What a file of that generation has: nothing, or its frame and those of l. -/
def cnt (g : Nat) : Option (List Bs) → Bs
  | none => []
  | some l => frames (Pk.encI g :: l)
theorem cnt_some (g : Nat) (l : List Bs) : cnt g (some l) = sealOf g (frames l) := rfl
theorem enc_ok (g : Nat) (hg : g ≤ 4611686018427387904) : 1 ≤ (Pk.encI g).length ∧ (Pk.encI g).length ≤ 10 := ⟨enc_ne _, encI_len _ (by omega) (by omega)⟩
theorem rdf_emp : rdf [] = (0, [], 0) := by
  have h : recs [] = ([], 0) := recs_eq ⟨rfl, Fr.one_short (by simp)⟩
  unfold rdf; rw [h]
theorem ok_cons {g : Nat} {l : List Bs} (hg : g ≤ 4611686018427387904) (h : Fr.Ok l) : Fr.Ok (Pk.encI g :: l) := by
  intro r hr
  rcases List.mem_cons.1 hr with rfl | hr
  · have := enc_ok g hg; omega
  · exact h r hr
theorem rdf_cnt {g : Nat} {l : List Bs} (hg : g ≤ 4611686018427387904) (h : Fr.Ok l) : rdf (cnt g (some l)) = ((g : Int), l, (cnt g (some l)).length) := by
  have e := Fr.got_frames (t := []) (ok_cons hg h) (Fr.one_short (by simp))
  rw [List.append_nil] at e
  unfold rdf
  have e2 : recs (cnt g (some l)) = (Pk.encI g :: l, (cnt g (some l)).length) := recs_eq e
  rw [e2]
  simp only
  rw [numOf_enc (by omega) (by omega)]
theorem cut_got {l : List Bs} {k j : Nat} (h : Fr.Ok l) (h1 : (frames (l.take j)).length ≤ k) (h2 : l.length ≤ j ∨ k < (frames (l.take (j + 1))).length) : Got ((frames l).take k) (l.take j) (frames (l.take j)).length := by
  have e : (frames l).take k = frames (l.take j) ++ (frames (l.drop j)).take (k - (frames (l.take j)).length) := by
    have ha : frames l = frames (l.take j) ++ frames (l.drop j) := by
      have : ∀ a b : List Bs, frames (a ++ b) = frames a ++ frames b := by
        intro a b
        induction a with
        | nil => rfl
        | cons x t ih => show frame x ++ frames (t ++ b) = (frame x ++ frames t) ++ frames b; rw [ih, List.append_assoc]
      rw [← this, List.take_append_drop]
    conv => lhs; rw [ha]
    rw [List.take_append, List.take_of_length_le h1]
  rw [e]
  refine Fr.got_frames (fun r hr => h r (List.mem_of_mem_take hr)) ?_
  rcases Nat.lt_or_ge j l.length with hlt | hge
  · have h3 := h2.resolve_left (by omega)
    obtain ⟨r, hr⟩ : ∃ r, l[j]? = some r := ⟨_, List.getElem?_eq_getElem hlt⟩
    have e2 : l.take (j + 1) = l.take j ++ [r] := by rw [List.take_add_one, hr]; rfl
    rw [e2, Fr.frames_snoc, List.length_append, Fr.frame_len] at h3
    rw [List.drop_eq_getElem_cons hlt, (List.getElem?_eq_some_iff.1 hr).2]
    show Fr.one ((frame r ++ frames (l.drop (j + 1))).take _) = none
    exact Fr.one_cut (h r (List.mem_of_getElem? hr)).2 (by omega)
  · rw [List.drop_of_length_le hge]
    exact Fr.one_short (by simp [frames])
/-- So many whole frames lie within the first k bytes. -/
theorem cut_ex (l : List Bs) (k : Nat) : ∃ j, j ≤ l.length ∧ (frames (l.take j)).length ≤ k ∧ (l.length ≤ j ∨ k < (frames (l.take (j + 1))).length) := by
  induction l generalizing k with
  | nil => exact ⟨0, Nat.le_refl _, by simp [frames], .inl (Nat.le_refl _)⟩
  | cons r t ih =>
    by_cases hr : (frame r).length ≤ k
    · obtain ⟨j, h1, h2, h3⟩ := ih (k - (frame r).length)
      refine ⟨j + 1, by simp; omega, ?_, ?_⟩
      · show (frame r ++ frames (t.take j)).length ≤ k
        rw [List.length_append]; omega
      · rcases h3 with h3 | h3
        · exact .inl (by simp; omega)
        · refine .inr ?_
          show k < (frame r ++ frames (t.take (j + 1))).length
          rw [List.length_append]; omega
    · refine ⟨0, Nat.zero_le _, by simp [frames], .inr ?_⟩
      show k < (frame r ++ frames (t.take 0)).length
      rw [List.length_append]; omega
theorem take_frames {l : List Bs} {j k : Nat} (h : (frames (l.take j)).length ≤ k) : ((frames l).take k).take (frames (l.take j)).length = frames (l.take j) := by
  have ha : frames l = frames (l.take j) ++ frames (l.drop j) := by
    have : ∀ a b : List Bs, frames (a ++ b) = frames a ++ frames b := by
      intro a b
      induction a with
      | nil => rfl
      | cons x t ih => show frame x ++ frames (t ++ b) = (frame x ++ frames t) ++ frames b; rw [ih, List.append_assoc]
    rw [← this, List.take_append_drop]
  rw [List.take_take, Nat.min_eq_left h]
  conv => lhs; rw [ha]
  rw [List.take_left' rfl]

/-- A log: its generation, its state if there is one, "log" if there is one (what it has, how much is synced). -/
structure Ab where
  g : Nat
  s : Option (List Bs)
  lg : Option (Option (List Bs) × Nat)
def Ab.snp (a : Ab) : Option Bs := a.s.map fun st => cnt a.g (some st)
def Ab.L (a : Ab) : Dk.St := raw a.snp (a.lg.map fun x => (cnt a.g x.1, x.2))
def Ab.con (a : Ab) : Option (List Bs) := a.lg.elim none (·.1)
def Ab.rc (a : Ab) : List Bs := a.con.getD []
def Ab.sy (a : Ab) : Nat := a.lg.elim 0 (·.2)
def Ab.st (a : Ab) : List Bs := a.s.getD []
structure Ab.Ok (a : Ab) : Prop where
  none_ : a.s = none → a.g = 0
  g : a.g ≤ 4611686018427387903
  st : Fr.Ok a.st
  rc : Fr.Ok a.rc
  syn : a.sy ≤ (cnt a.g a.con).length
def Ab.put (a : Ab) (b : Bs) : Ab := ⟨a.g, a.s, some (some (a.rc ++ [b]), a.sy)⟩
def Ab.sync (a : Ab) : Ab := ⟨a.g, a.s, a.lg.map fun x => (x.1, (cnt a.g x.1).length)⟩
def Ab.save (a : Ab) (st : List Bs) : Ab := ⟨a.g + 1, some st, a.lg.map fun _ => (none, 0)⟩
def ab0 : Ab := ⟨0, none, none⟩
theorem ab0_L : ab0.L = [] := rfl
theorem ab0_ok : ab0.Ok := ⟨fun _ => rfl, by decide, (fun r h => by cases h), (fun r h => by cases h), by decide⟩
section
variable {a : Ab} (h : a.Ok)
include h
theorem Ab.Ok.snap : rdf (bof snapN a.L) = ((a.g : Int), a.st, ((a.snp).getD []).length) := by
  have hg := h.g
  unfold Ab.L
  rw [raw_bofs]
  unfold Ab.snp Ab.st
  cases e : a.s with
  | none =>
    have := h.none_ e
    rw [this]
    exact rdf_emp
  | some st =>
    have hs : Fr.Ok st := by have := h.st; unfold Ab.st at this; rw [e] at this; exact this
    exact rdf_cnt (by omega) hs
theorem Ab.Ok.gen : genOf a.L = a.g := by unfold genOf; rw [h.snap]
theorem Ab.Ok.con_ok (l : List Bs) (e : a.con = some l) : Fr.Ok l := by
  have := h.rc
  unfold Ab.rc at this
  rw [e] at this
  exact this
omit h in
theorem Ab.emp : emptyOf a.rc.length a.L = a.con.isNone := by
  have hlog : bof logN a.L = cnt a.g a.con := by
    unfold Ab.L
    rw [raw_bofl]
    unfold Ab.con
    cases a.lg <;> rfl
  have hc : ∀ l, 0 < (cnt a.g (some l)).length := fun l => by rw [cnt_some, sealOf_len]; omega
  have hu : Se.syn snapN a.L + (cnt a.g a.con).length = used a.L := by
    unfold Ab.L
    rw [raw_used, raw_syn, Nat.add_comm]
    congr 1
    unfold Ab.con
    cases a.lg <;> rfl
  unfold emptyOf
  rw [hlog]
  cases e : a.con with
  | none =>
    rw [if_neg]
    · rfl
    · rintro ⟨h1, _⟩
      unfold Ab.rc at h1
      rw [e] at h1
      simp at h1
  | some l =>
    rw [e] at hu
    have := hc l
    by_cases hn : 0 < a.rc.length
    · rw [if_pos ⟨hn, by omega⟩]; rfl
    · rw [if_neg (fun h => hn h.1)]
      cases hq : cnt a.g (some l) with
      | nil => rw [hq] at this; simp at this
      | cons x t => rfl
omit h in
theorem Ab.put_no (room : Nat) {b : Bs} (hb : ¬ (1 ≤ b.length ∧ b.length ≤ 1000)) : pPut room a.L a.rc.length b = (1, a.L, a.rc.length) := by
  unfold pPut
  rw [if_neg hb]
/-- What a record takes. -/
def Ab.cost (a : Ab) (b : Bs) : Nat := (if a.con.isNone then (Pk.encI a.g).length + 6 else 0) + (b.length + 6)
theorem Ab.Ok.put_yes (room : Nat) {b : Bs} (hb : 1 ≤ b.length ∧ b.length ≤ 1000) :
    pPut room a.L a.rc.length b = if room - used a.L < a.cost b then (4, a.L, a.rc.length) else (0, (a.put b).L, (a.put b).rc.length) := by
  unfold pPut
  rw [if_pos hb, Ab.emp, h.gen]
  simp only
  have hx : ∀ x : Bs, sApp room a.L logN x = if room - used a.L < x.length then (4, a.L) else (0, raw a.snp (some (cnt a.g a.con ++ x, a.sy))) := fun x => by
    have e := raw_app a.snp (a.lg.map fun x => (cnt a.g x.1, x.2)) room x
    refine e.trans ?_
    show (if room - used a.L < x.length then _ else _) = _
    congr 3
    unfold Ab.con Ab.sy
    cases a.lg <;> rfl
  rw [hx]
  have e1 : (if a.con.isNone then sealOf a.g (frame b) else frame b).length = a.cost b := by
    unfold Ab.cost
    split
    · rw [sealOf_len, Fr.frame_len]
    · rw [Fr.frame_len]; omega
  have e2 : cnt a.g a.con ++ (if a.con.isNone then sealOf a.g (frame b) else frame b) = cnt a.g (some (a.rc ++ [b])) := by
    unfold Ab.rc
    cases e : a.con with
    | none =>
      show [] ++ sealOf a.g (frame b) = frames (Pk.encI a.g :: ([] ++ [b]))
      simp [sealOf, frames]
    | some l =>
      show frames (Pk.encI a.g :: l) ++ frame b = frames (Pk.encI a.g :: (l ++ [b]))
      rw [← Fr.frames_snoc]
      rfl
  rw [e1, e2]
  have e3 : (a.put b).rc.length = a.rc.length + 1 := by simp [Ab.put, Ab.rc, Ab.con]
  rw [e3]
  split
  · simp
  · simp only [if_true]
    rfl
theorem Ab.Ok.put {b : Bs} (hb : 1 ≤ b.length ∧ b.length ≤ 1000) : (a.put b).Ok := by
  refine ⟨h.none_, h.g, h.st, ?_, ?_⟩
  · intro r hr
    have : r ∈ a.rc ++ [b] := hr
    rcases List.mem_append.1 this with hr | hr
    · exact h.rc r hr
    · rw [List.mem_singleton.1 hr]; exact hb
  · show a.sy ≤ (cnt a.g (some (a.rc ++ [b]))).length
    have h1 := h.syn
    unfold Ab.rc
    cases e : a.con with
    | none =>
      rw [e] at h1
      have : a.sy ≤ 0 := h1
      omega
    | some l =>
      rw [e] at h1
      have : cnt a.g (some (l ++ [b])) = cnt a.g (some l) ++ frame b := Fr.frames_snoc (Pk.encI a.g :: l) b
      show a.sy ≤ (cnt a.g (some (l ++ [b]))).length
      rw [this, List.length_append]
      omega
omit h in
theorem Ab.sync_L : pSync a.L = a.sync.L := by
  unfold pSync Ab.L
  rw [raw_sync]
  unfold Ab.sync Ab.snp
  simp only [Option.map_map]
  rfl
theorem Ab.Ok.sync : a.sync.Ok := by
  have hc : a.sync.con = a.con := by unfold Ab.sync Ab.con; cases a.lg <;> rfl
  refine ⟨h.none_, h.g, h.st, ?_, ?_⟩
  · unfold Ab.rc; rw [hc]; exact h.rc
  · rw [hc]
    unfold Ab.sy Ab.con
    show (a.lg.map fun x => (x.1, (cnt a.g x.1).length)).elim 0 (·.2) ≤ _
    cases a.lg with
    | none => exact Nat.zero_le _
    | some x => exact Nat.le_refl _
omit h in
theorem Ab.save_no (room : Nat) {st : List Bs} (hb : ¬ Fr.Ok st) : pSave room a.L a.rc.length st = (1, a.L, a.rc.length) := by
  unfold pSave
  rw [if_neg (show ¬ ∀ r ∈ st, 1 ≤ r.length ∧ r.length ≤ 1000 from hb)]
theorem Ab.Ok.save_yes (room : Nat) {st : List Bs} (hb : Fr.Ok st) :
    pSave room a.L a.rc.length st = if room - used a.L < (cnt (a.g + 1) (some st)).length then (4, a.L, a.rc.length) else (0, (a.save st).L, (a.save st).rc.length) := by
  unfold pSave
  rw [if_pos (show ∀ r ∈ st, 1 ≤ r.length ∧ r.length ≤ 1000 from hb), h.gen]
  have e := raw_rep a.snp (a.lg.map fun x => (cnt a.g x.1, x.2)) room ((a.g : Int) + 1) (frames st)
  have e0 : pRep room a.L ((a.g : Int) + 1) (frames st) = if room - used a.L < (cnt (a.g + 1) (some st)).length then (4, a.L) else (0, raw (some (cnt (a.g + 1) (some st))) (a.lg.map fun x => (cnt a.g x.1, x.2))) := by
    rw [cnt_some]
    have : ((a.g + 1 : Nat) : Int) = (a.g : Int) + 1 := by omega
    rw [this]
    exact e
  rw [e0]
  split
  · simp
  · simp only [if_true]
    have e1 := raw_cut (some (cnt (a.g + 1) (some st))) (a.lg.map fun x => (cnt a.g x.1, x.2)) 0 (Nat.zero_le _)
    have e2 : (a.save st).rc.length = 0 := by unfold Ab.save Ab.rc Ab.con; cases a.lg <;> rfl
    rw [e2]
    have e3 : (sCut (raw (some (cnt (a.g + 1) (some st))) (a.lg.map fun x => (cnt a.g x.1, x.2))) logN 0).2 = (a.save st).L := by
      refine e1.trans ?_
      unfold Ab.L Ab.save Ab.snp
      cases a.lg <;> rfl
    rw [e3]
omit h in
theorem Ab.save_ok {st : List Bs} (hb : Fr.Ok st) (hg : a.g + 1 ≤ 4611686018427387903) : (a.save st).Ok := by
  have hc : (a.save st).con = none := by unfold Ab.save Ab.con; cases a.lg <;> rfl
  refine ⟨(fun e => by cases e), hg, hb, ?_, ?_⟩
  · unfold Ab.rc; rw [hc]; exact fun r hr => by cases hr
  · have : (a.save st).sy = 0 := by unfold Ab.save Ab.sy; cases a.lg <;> rfl
    rw [this]; exact Nat.zero_le _
/-- Open, of a disk with this state and a file "log" that reads so. -/
theorem Ab.Ok.open_of {x : Option (Bs × Nat)} {rc : List Bs} {e : Nat} {gl : Int} (hx : rdf (x.elim [] (·.1)) = (gl, rc, e)) :
    pOpen (raw a.snp x) = if gl = a.g then (raw a.snp (x.map fun y => (y.1.take e, e)), a.st, rc) else (raw a.snp (x.map fun _ => ([], 0)), a.st, []) := by
  have hs := h.snap
  unfold Ab.L at hs
  rw [raw_bofs] at hs
  have hle := rdf_le (x.elim [] (·.1))
  rw [hx] at hle
  have hle2 : e ≤ x.elim 0 fun y => y.1.length := by cases x <;> exact hle
  unfold pOpen
  simp only [raw_rem, raw_bofs, raw_bofl, hs, hx]
  split
  · rw [raw_cut _ _ _ hle2]
  · have := raw_cut a.snp x 0 (Nat.zero_le _)
    have e2 : (sCut (raw a.snp x) logN (0 : Nat)).2 = raw a.snp (x.map fun _ => ([], 0)) := by
      rw [this]; cases x <;> rfl
    simp only
    rw [e2]
theorem Ab.Ok.open_ : pOpen a.L = (a.sync.L, a.st, a.rc) := by
  have hg := h.g
  have hL : a.L = raw a.snp (a.lg.map fun x => (cnt a.g x.1, x.2)) := rfl
  rw [hL]
  cases e : a.lg with
  | none =>
    have := h.open_of (x := none) (rc := []) (e := 0) (gl := 0) rdf_emp
    simp only [Option.map]
    rw [this]
    have e1 : a.rc = [] := by unfold Ab.rc Ab.con; rw [e]; rfl
    have e2 : a.sync.L = raw a.snp none := by unfold Ab.L Ab.sync Ab.snp; rw [e]; rfl
    rw [e1, e2]
    split <;> rfl
  | some x =>
    obtain ⟨c, k⟩ := x
    have e2 : a.sync.L = raw a.snp (some (cnt a.g c, (cnt a.g c).length)) := by unfold Ab.L Ab.sync Ab.snp; rw [e]; rfl
    rw [e2]
    cases c with
    | none =>
      have := h.open_of (x := some ([], k)) (rc := []) (e := 0) (gl := 0) rdf_emp
      have e1 : a.rc = [] := by unfold Ab.rc Ab.con; rw [e]; rfl
      rw [e1]
      refine Eq.trans this ?_
      split <;> rfl
    | some l =>
      have hc : a.con = some l := by unfold Ab.con; rw [e]; rfl
      have := h.open_of (x := some (cnt a.g (some l), k)) (rdf_cnt (by omega) (h.con_ok l hc))
      have e1 : a.rc = l := by unfold Ab.rc; rw [hc]; rfl
      rw [e1]
      refine Eq.trans this ?_
      rw [if_pos rfl]
      simp
/-- Behind a crash: a beginning. -/
theorem Ab.Ok.crash_open (keep : Int) : ∃ c : Option (List Bs), pOpen (sCrash keep a.L) = ((⟨a.g, a.s, a.lg.map fun _ => (c, (cnt a.g c).length)⟩ : Ab).L, a.st, c.getD []) ∧
    (c = none ∨ ∃ j, j ≤ a.rc.length ∧ c = some (a.rc.take j)) ∧ (a.lg = none → c = none) ∧ (cnt a.g c).length ≤ a.sy + min (max keep 0).toNat ((cnt a.g a.con).length - a.sy) ∧
    (∀ j, j ≤ a.rc.length → a.con ≠ none → (cnt a.g (some (a.rc.take j))).length ≤ a.sy + min (max keep 0).toNat ((cnt a.g a.con).length - a.sy) → j ≤ (c.getD []).length) := by
  have hg := h.g
  have hL : a.L = raw a.snp (a.lg.map fun x => (cnt a.g x.1, x.2)) := rfl
  rw [hL, raw_crash]
  simp only [Option.map_map]
  cases e : a.lg with
  | none =>
    have := h.open_of (x := none) (rc := []) (e := 0) (gl := 0) rdf_emp
    refine ⟨none, ?_, .inl rfl, fun _ => rfl, Nat.zero_le _, fun j _ hc => ?_⟩
    · refine Eq.trans this ?_
      split <;> rfl
    · exact absurd (by unfold Ab.con; rw [e]; rfl) hc
  | some x =>
    obtain ⟨c, k⟩ := x
    have hk : a.sy = k := by unfold Ab.sy; rw [e]; rfl
    have hcc : a.con = c := by unfold Ab.con; rw [e]; rfl
    rw [hk, hcc]
    simp only [Option.map, Function.comp]
    obtain ⟨m, hm⟩ : ∃ m, m = k + min (max keep 0).toNat ((cnt a.g c).length - k) := ⟨_, rfl⟩
    rw [← hm]
    cases c with
    | none =>
      have := h.open_of (x := some ([], m)) (rc := []) (e := 0) (gl := 0) rdf_emp
      refine ⟨none, ?_, .inl rfl, fun _ => rfl, Nat.zero_le _, fun j _ hc => absurd rfl hc⟩
      have e3 : List.take m (cnt a.g none) = [] := by simp [cnt]
      rw [e3]
      refine Eq.trans this ?_
      split <;> rfl
    | some l =>
      have hrc : a.rc = l := by unfold Ab.rc; rw [hcc]; rfl
      rw [hrc]
      have hok := ok_cons (by omega : a.g ≤ 4611686018427387904) (h.con_ok l hcc)
      obtain ⟨j, hj1, hj2, hj3⟩ := cut_ex (Pk.encI a.g :: l) m
      have hgot := recs_eq (cut_got hok hj2 hj3)
      cases j with
      | zero =>
        have hr : rdf ((cnt a.g (some l)).take m) = (0, [], 0) := by
          unfold rdf
          have : recs ((cnt a.g (some l)).take m) = _ := hgot
          rw [this]; rfl
        have := h.open_of (x := some ((cnt a.g (some l)).take m, m)) hr
        refine ⟨none, ?_, .inl rfl, (fun e => by cases e), Nat.zero_le _, fun i hi _ hle => ?_⟩
        · refine Eq.trans this ?_
          simp only [Option.map, List.take_zero]
          split <;> rfl
        · exfalso
          rcases hj3 with hj3 | hj3
          · simp at hj3
          · have : (cnt a.g (some (l.take i))).length = (frames (Pk.encI a.g :: l.take i)).length := rfl
            have e4 : (frames (Pk.encI a.g :: l.take i)).length = (frame (Pk.encI a.g)).length + (frames (l.take i)).length := List.length_append ..
            have e5 : (frames ((Pk.encI a.g :: l).take (0 + 1))).length = (frame (Pk.encI a.g)).length := by
              show (frame (Pk.encI a.g) ++ frames (l.take 0)).length = _
              rw [List.length_append]; rfl
            omega
      | succ j =>
        have hr : rdf ((cnt a.g (some l)).take m) = ((a.g : Int), l.take j, (cnt a.g (some (l.take j))).length) := by
          unfold rdf
          have : recs ((cnt a.g (some l)).take m) = _ := hgot
          rw [this]
          simp only [List.take_succ_cons]
          rw [numOf_enc (by omega) (by omega)]
          rfl
        have := h.open_of (x := some ((cnt a.g (some l)).take m, m)) hr
        have hjl : j ≤ l.length := by simpa using hj1
        refine ⟨some (l.take j), ?_, .inr ⟨j, hjl, rfl⟩, (fun e => by cases e), hj2, fun i hi _ hle => ?_⟩
        · refine Eq.trans this ?_
          rw [if_pos rfl]
          have e3 : ((cnt a.g (some l)).take m).take (cnt a.g (some (l.take j))).length = cnt a.g (some (l.take j)) := take_frames (l := Pk.encI a.g :: l) (j := j + 1) hj2
          simp only [Option.map]
          rw [e3]
          rfl
        · simp only [Option.getD, List.length_take, Nat.min_eq_left hjl]
          rcases hj3 with hj3 | hj3
          · have : l.length ≤ j := by simpa using hj3
            omega
          · rcases Nat.lt_or_ge j i with hlt | hge
            · exfalso
              have mono : ∀ x y, x ≤ y → (frames (l.take x)).length ≤ (frames (l.take y)).length := by
                intro x y hxy
                have e : l.take x = (l.take y).take x := by rw [List.take_take, Nat.min_eq_left hxy]
                have hz : frames (l.take y) = frames ((l.take y).take x) ++ frames ((l.take y).drop x) := by
                  have : ∀ a b : List Bs, frames (a ++ b) = frames a ++ frames b := by
                    intro a b
                    induction a with
                    | nil => rfl
                    | cons x t ih => show frame x ++ frames (t ++ b) = (frame x ++ frames t) ++ frames b; rw [ih, List.append_assoc]
                  rw [← this, List.take_append_drop]
                rw [hz, List.length_append, ← e]
                omega
              have e4 : (cnt a.g (some (l.take i))).length = (frame (Pk.encI a.g)).length + (frames (l.take i)).length := List.length_append ..
              have e5 : (frames ((Pk.encI a.g :: l).take (j + 1 + 1))).length = (frame (Pk.encI a.g)).length + (frames (l.take (j + 1))).length := List.length_append ..
              have := mono (j + 1) i hlt
              omega
            · exact hge
end
end Se
end Go.Proofs.YtbolcapgocjgcaaGreatDoor

namespace Go.Proofs.YtbolcapgocjgcaaGreatDoor
set_option maxRecDepth 100000
open Go.RowKit
open Go.Proofs.YtbolcapgocjgcaaGreatDoor.Pk
namespace Se
open Dk (Bs Live LTo nm used sCrash)
open Fr (frames frame)

theorem Ab.len_L (a : Ab) : a.L.length ≤ 2 := raw_len _ _
theorem Ab.used_eq (a : Ab) : used a.L = (a.snp.getD []).length + (cnt a.g a.con).length := by
  unfold Ab.L
  rw [raw_used, Nat.add_comm]
  congr 1
  · cases a.snp <;> rfl
  · unfold Ab.con
    cases a.lg <;> rfl
theorem frames_ge (l : List Bs) : l.length ≤ (frames l).length := by
  induction l with
  | nil => exact Nat.le_refl _
  | cons r t ih =>
    show t.length + 1 ≤ (frame r ++ frames t).length
    rw [List.length_append, Fr.frame_len]
    omega
theorem Ab.rc_le (a : Ab) : a.rc.length ≤ used a.L := by
  rw [Ab.used_eq]
  unfold Ab.rc
  cases a.con with
  | none => exact Nat.zero_le _
  | some l =>
    have := frames_ge l
    rw [cnt_some, sealOf_len]
    simp only [Option.getD]
    omega
theorem cnt_le {g M : Nat} {l : List Bs} (hg : g ≤ 4611686018427387904) (h : ∀ r ∈ l, 1 ≤ r.length ∧ r.length ≤ M) : (cnt g (some l)).length ≤ 16 + l.length * (M + 6) := by
  have h1 := Fr.frames_len_le l h
  have h2 := enc_ok g hg
  rw [cnt_some, sealOf_len]
  omega
theorem cnt_len {g : Nat} {l : List Bs} : (cnt g (some l)).length = (Pk.encI g).length + 6 + (frames l).length := by rw [cnt_some, sealOf_len]
/-- All is synced: a crash takes nothing. -/
theorem crash_all {a : Ab} (keep : Int) (h : a.sy = (cnt a.g a.con).length) : sCrash keep a.L = a.L := by
  unfold Ab.L
  rw [raw_crash]
  unfold Ab.sy Ab.con at h
  cases e : a.lg with
  | none => rfl
  | some x =>
    rw [e] at h
    simp only [Option.elim] at h
    simp only [Option.map]
    rw [h]
    simp
theorem sync_sy (a : Ab) : a.sync.sy = (cnt a.sync.g a.sync.con).length := by
  unfold Ab.sync Ab.sy Ab.con
  cases a.lg <;> rfl
theorem sync_rc (a : Ab) : a.sync.rc = a.rc := by
  unfold Ab.sync Ab.rc Ab.con
  cases a.lg <;> rfl
theorem sync_con (a : Ab) : a.sync.con = a.con := by
  unfold Ab.sync Ab.con
  cases a.lg <;> rfl
theorem sync_idem (a : Ab) : a.sync.sync = a.sync := by
  unfold Ab.sync
  cases a.lg <;> rfl

section
variable {B w : World} {p room q : Nat} {a : Ab} {X : Nat → Prop}
theorem a_put (G : Lg B w p room a.L X q a.rc.length) (ok : a.Ok) (hB : Tab B) {T : Nat → Prop} (A : Option Addr) (m c : Nat) (b : Bs) (R : Rb w T A m b) (hT : ∀ g, T g → g < w.heap.size) (hm : m ≤ 9223372036854775807) (hb : 1 ≤ b.length ∧ b.length ≤ 1000) (hf : used a.L + a.cost b ≤ room) :
    Calls Tryz.prog 9 #[.pointer (some ⟨q, 0, none⟩), .slice A m c] w fun e w' => e = .returned (.int .i64 0) ∧ LgTo B w p room (a.put b).L X q (a.put b).rc.length w' := by
  have h1 := G.live.fits
  have h2 := a.rc_le
  have := put_any G hB A m c b R hT hm (by have := a.len_L; omega) (by omega)
  rw [ok.put_yes room hb, if_neg (by omega)] at this
  exact this
theorem a_full (G : Lg B w p room a.L X q a.rc.length) (ok : a.Ok) (hB : Tab B) {T : Nat → Prop} (A : Option Addr) (m c : Nat) (b : Bs) (R : Rb w T A m b) (hT : ∀ g, T g → g < w.heap.size) (hm : m ≤ 9223372036854775807) (hb : 1 ≤ b.length ∧ b.length ≤ 1000) (hf : room < used a.L + a.cost b) :
    Calls Tryz.prog 9 #[.pointer (some ⟨q, 0, none⟩), .slice A m c] w fun e w' => e = .returned (.int .i64 4) ∧ LgTo B w p room a.L X q a.rc.length w' := by
  have h1 := G.live.fits
  have h2 := a.rc_le
  have := put_any G hB A m c b R hT hm (by have := a.len_L; omega) (by omega)
  rw [ok.put_yes room hb, if_pos (by omega)] at this
  exact this
set_option maxHeartbeats 400000 in
theorem put_bad {w : World} {q p n : Nat} (h : LogAt w q p n) (A : Option Addr) (m c : Nat) (hm : m ≤ 9223372036854775807) (hb : ¬ (1 ≤ m ∧ m ≤ 1000)) :
    Calls Tryz.prog 9 #[.pointer (some ⟨q, 0, none⟩), .slice A m c] w fun e w' => e = .returned (.int .i64 1) ∧ w = w' := by
  have N := Lib.hid (none_no w q p n h)
  have P := Lib.hid (Fr.put_no w A m c hm (by omega))
  clear h hb
  go_enter Tryz.func9, Tryz.ntmps9
  go_wp2_with fail
  refine N.out.mono ?_
  rintro e w' ⟨rfl, rfl⟩
  go_wp2_with fail
  refine P.out.mono ?_
  rintro e w' ⟨rfl, rfl⟩
  go_wp2
  go_ret
  exact ⟨rfl, rfl⟩
theorem a_sync (G : Lg B w p room a.L X q a.rc.length) : Calls Tryz.prog 11 #[.pointer (some ⟨q, 0, none⟩)] w fun e w' => e = .returned (.int .i64 0) ∧ LgTo B w p room a.sync.L X q a.sync.rc.length w' := by
  have := sync_any G (by have := a.len_L; omega)
  rw [Ab.sync_L] at this
  rw [sync_rc]
  exact this
theorem a_save (G : Lg B w p room a.L X q a.rc.length) (ok : a.Ok) (hB : Tab B) (v : Value) (st : List Bs) (R : Fr.Lr w v st) (hst : st.length ≤ 100) (hb : Fr.Ok st) (hf : used a.L + (cnt (a.g + 1) (some st)).length ≤ room) :
    Calls Tryz.prog 13 #[.pointer (some ⟨q, 0, none⟩), v] w fun e w' => e = .returned (.int .i64 0) ∧ LgTo B w p room (a.save st).L X q (a.save st).rc.length w' := by
  have h1 := G.live.fits
  have hg := ok.g
  have := save_any G hB v st R hst (fun r hr => by have := (hb r hr).2; omega) (by have := a.len_L; omega) (by rw [ok.gen]; omega)
  rw [ok.save_yes room hb, if_neg (by omega)] at this
  exact this
theorem a_sfull (G : Lg B w p room a.L X q a.rc.length) (ok : a.Ok) (hB : Tab B) (v : Value) (st : List Bs) (R : Fr.Lr w v st) (hst : st.length ≤ 100) (hb : Fr.Ok st) (hf : room < used a.L + (cnt (a.g + 1) (some st)).length) :
    Calls Tryz.prog 13 #[.pointer (some ⟨q, 0, none⟩), v] w fun e w' => e = .returned (.int .i64 4) ∧ LgTo B w p room a.L X q a.rc.length w' := by
  have h1 := G.live.fits
  have hg := ok.g
  have := save_any G hB v st R hst (fun r hr => by have := (hb r hr).2; omega) (by have := a.len_L; omega) (by rw [ok.gen]; omega)
  rw [ok.save_yes room hb, if_pos (by omega)] at this
  exact this
theorem a_sbad (G : Lg B w p room a.L X q a.rc.length) (ok : a.Ok) (hB : Tab B) (v : Value) (st : List Bs) (R : Fr.Lr w v st) (hst : st.length ≤ 100) (hm : ∀ r ∈ st, r.length ≤ 9223372036854775807) (hb : ¬ Fr.Ok st) :
    Calls Tryz.prog 13 #[.pointer (some ⟨q, 0, none⟩), v] w fun e w' => e = .returned (.int .i64 1) ∧ LgTo B w p room a.L X q a.rc.length w' := by
  have hg := ok.g
  have := save_any G hB v st R hst hm (by have := a.len_L; omega) (by rw [ok.gen]; omega)
  rw [Ab.save_no room hb] at this
  exact this
theorem a_open (V : Live B w p room a.L X) (ok : a.Ok) (hB : Tab B) : Calls Tryz.prog 5 #[.pointer (some ⟨p, 0, none⟩)] w (OpenTo B w p room X (a.sync.L, a.st, a.rc)) := by
  have := open_any V hB (by have := a.len_L; omega)
  rw [ok.open_] at this
  exact this
/-- What a log behind Open is. -/
theorem open_lg {w' : World} {L : Dk.St} {st rc : List Bs} {e : Ending} (h : OpenTo B w p room X (L, st, rc) e w') :
    ∃ q A1 c1 A2 c2 X', e = .returned (.tuple #[.pointer (some ⟨q, 0, none⟩), .slice A1 st.length c1, .slice A2 rc.length c2, .int .i64 0]) ∧ Lg B w' p room L X' q rc.length ∧ w.heap.size ≤ q ∧ (∀ g, X g → X' g) ∧ Lt w' (fun g => X' g ∧ g ≠ q ∧ w.heap.size ≤ g) (.slice A1 st.length c1) st ∧ Lt w' (fun g => X' g ∧ g ≠ q ∧ w.heap.size ≤ g) (.slice A2 rc.length c2) rc ∧ (∀ g, X g → w'.heap[g]? = w.heap[g]?) ∧ w.heap.size ≤ w'.heap.size := by
  obtain ⟨q, v1, v2, X', h1, h2, h3, h4, h5, h6, h7, h8⟩ := h
  obtain ⟨A1, c1, e1⟩ := h5.form
  obtain ⟨A2, c2, e2⟩ := h6.form
  simp only at e1 e2 h2 h5 h6
  rw [e1] at h1 h5
  rw [e2] at h1 h6
  exact ⟨q, A1, c1, A2, c2, X', h1, h2, h3, h4, h5, h6, h7, h8⟩
end
end Se
end Go.Proofs.YtbolcapgocjgcaaGreatDoor

namespace Go.Proofs.YtbolcapgocjgcaaGreatDoor
set_option maxRecDepth 100000
open Go.RowKit
open Go.Proofs.YtbolcapgocjgcaaGreatDoor.Pk
namespace Se
open Dk (Bs Live LTo nm used sCrash rb_lit below_alloc)
open Fr (frames frame)

def t1 : Ab := ab0.put [97]
def t2 : Ab := t1.sync
def t3 : Ab := t2.put [98]
def t5 : Ab := t2.save [[83]]
theorem t1_ok : t1.Ok := ab0_ok.put (by decide)
theorem t2_ok : t2.Ok := t1_ok.sync
theorem t3_ok : t3.Ok := t2_ok.put (by decide)
theorem t5_ok : t5.Ok := Ab.save_ok (by intro r hr; rw [List.mem_singleton.1 hr]; decide) (by decide)
theorem one_len {x : UInt8} : (frames [[x]]).length = 7 := by
  show (frame [x] ++ []).length = 7
  rw [List.append_nil, Fr.frame_len]; rfl
theorem two_len {x y : UInt8} : (frames [[x], [y]]).length = 14 := by
  show (frame [x] ++ (frame [y] ++ [])).length = 14
  rw [List.append_nil, List.length_append, Fr.frame_len, Fr.frame_len]; rfl
theorem t1_fits : used ab0.L + ab0.cost [97] ≤ 1000 := by
  have h := (enc_ok 0 (by omega)).2
  have e : used ab0.L = 0 := rfl
  have e2 : ab0.cost [97] = (Pk.encI ((0 : Nat) : Int)).length + 6 + 7 := rfl
  omega
theorem t2_used : used t2.L ≤ 23 := by
  have h := (enc_ok 0 (by omega)).2
  have e : used t2.L = (cnt 0 (some [[97]])).length := by rw [Ab.used_eq]; exact Nat.zero_add _
  rw [e, cnt_len, one_len]
  omega
theorem t3_fits : used t2.L + t2.cost [98] ≤ 1000 := by
  have h := t2_used
  have e2 : t2.cost [98] = 0 + 7 := rfl
  omega
theorem t5_fits : used t2.L + (cnt (t2.g + 1) (some [[83]])).length ≤ 1000 := by
  have h := t2_used
  have h2 := (enc_ok (t2.g + 1) (by decide)).2
  have e := one_len (x := 83)
  rw [cnt_len, e]
  omega
theorem t4_open : pOpen (sCrash 0 t3.L) = (t2.L, [], [[97]]) := by
  obtain ⟨c, h1, h2, h3, h4, h5⟩ := t3_ok.crash_open 0
  have hsy : t3.sy = (cnt 0 (some [[97]])).length := rfl
  have hg : t3.g = 0 := rfl
  have hrc : t3.rc = [[97], [98]] := rfl
  have hm : t3.sy + min (max (0 : Int) 0).toNat ((cnt t3.g t3.con).length - t3.sy) = t3.sy := by simp
  rw [hm, hg] at h4
  have h6 := h5 1 (by rw [hrc]; decide) (by intro h; cases h) (by rw [hm, hg, hrc, hsy]; exact Nat.le_refl _)
  have hc : c = some [[97]] := by
    rcases h2 with h2 | ⟨j, hj, h2⟩
    · rw [h2] at h6; simp at h6
    · rw [hrc] at hj h2
      rw [h2] at h4 h6
      match j, hj with
      | 0, _ => simp at h6
      | 1, _ => exact h2
      | 2, _ =>
        have e1 : (cnt 0 (some (List.take 2 [[97], [(98 : UInt8)]]))).length = (Pk.encI ((0 : Nat) : Int)).length + 6 + 14 := by rw [cnt_len]; exact congrArg _ two_len
        have e2 : (cnt 0 (some [[(97 : UInt8)]])).length = (Pk.encI ((0 : Nat) : Int)).length + 6 + 7 := by rw [cnt_len]; exact congrArg _ one_len
        rw [hsy, e1, e2] at h4
        omega
  rw [h1, hc]
  rfl

set_option maxHeartbeats 6400000 in
theorem told_any (w : World) (ht : Tab w) : Calls Tryz.prog 8 #[] w fun e w' => e = .returned (.bool true) ∧ Below w.heap.size w w' := by
  have N0 := Lib.hid (Dk.l_new w 1000 (by omega) (Below.refl w.heap.size w))
  have kc := fun (w : World) (C : Array Value) (n c : Nat) => Lib.run_convert_bytes_const (P := Tryz.prog) w 39 5 C n c Tryz.underlying39 Tryz.underlying5
  replace ht := Lib.hid ht
  go_enter Tryz.func8, Tryz.ntmps8
  go_wp2_with fail
  refine N0.out.mono ?_
  rintro e w1 ⟨p, rfl, V1⟩
  have C1 := Lib.hid (a_open (a := ab0) V1 ab0_ok ht.out)
  clear N0 V1
  go_wp2_with fail
  refine C1.out.mono ?_
  rintro e w2 h2
  obtain ⟨q, A1, c1, A2, c2, X2, rfl, G2, _⟩ := open_lg h2
  have G2a : Lg w _ p 1000 ab0.L X2 q ab0.rc.length := G2.below (below_alloc w2 (.cells (u8s [97]).toArray 5 (1, 2)))
  have C2 := Lib.hid (a_put G2a ab0_ok ht.out _ 1 1 [97] (rb_lit w2 [97] (1, 2)) (fun g hg => by subst hg; simp) (by omega) (by decide) t1_fits)
  clear C1 h2 G2 G2a
  go_wp2_with fail
  refine C2.out.mono ?_
  rintro e w3 ⟨rfl, T3⟩
  have C3 := Lib.hid (a_sync (a := t1) T3.1)
  clear C2 T3
  go_wp2_with fail
  refine C3.out.mono ?_
  rintro e w4 ⟨rfl, T4⟩
  have G4a : Lg w _ p 1000 t2.L X2 q t2.rc.length := T4.1.below (below_alloc w4 (.cells (u8s [98]).toArray 5 (1, 2)))
  have C4 := Lib.hid (a_put G4a t2_ok ht.out _ 1 1 [98] (rb_lit w4 [98] (1, 2)) (fun g hg => by subst hg; simp) (by omega) (by decide) t3_fits)
  clear C3 T4 G4a
  go_wp2_with fail
  refine C4.out.mono ?_
  rintro e w5 ⟨rfl, T5⟩
  have G5 : Lg w w5 p 1000 t3.L X2 q t3.rc.length := T5.1
  have C5 := Lib.hid (Dk.l_crash G5.live 0 (by have := t3.len_L; omega) (by omega) (by omega))
  replace G5 := Lib.hid G5
  clear C4 T5
  go_wp2_with fail
  refine C5.out.mono ?_
  rintro e w6 ⟨rfl, T6⟩
  have lat6 : Hid (LogAt w6 q p t3.rc.length) := (T6.2.1 q G5.out.inx).trans G5.out.at_
  have xq : Hid (X2 q) := G5.out.inx
  have C6 := open_any T6.1 ht.out (by
    have h1 : (sCrash 0 t3.L).length = t3.L.length := by simp [sCrash, Dk.vals]
    have h2 := t3.len_L
    omega)
  rw [t4_open] at C6
  replace C6 := Lib.hid C6
  clear C5 T6 G5
  go_wp2_with fail
  refine C6.out.mono ?_
  rintro e w7 h7
  obtain ⟨q2, A3, c3, A4, c4, X3, rfl, G7, hq2, hx3, L3, L4, k7, _⟩ := open_lg h7
  have lat7 : Hid (LogAt w7 q p t3.rc.length) := (k7 q xq.out).trans lat6.out
  have xq3 : Hid (X3 q) := hx3 q xq.out
  have hqq : Hid (q ≠ q2) := by
    have := lt_some lat6.out
    intro h
    omega
  obtain ⟨w7b, hw7b⟩ : ∃ z, z = (w7.alloc (.cells (u8s [83]).toArray 5 (1, 2))).alloc (.cells #[.slice (some ⟨w7.heap.size, 0, none⟩) 1 1] 39) := ⟨_, rfl⟩
  have b7b : Below w7.heap.size w7 w7b := by rw [hw7b]; exact (below_alloc w7 _).alloc (by simp) _
  have S7 : Fr.Lr w7b (.slice (some ⟨w7.heap.size + 1, 0, none⟩) 1 1) [[83]] := by
    refine ⟨_, _, rfl, fun _ => ⟨_, rfl, ?_, fun i r hi => ?_⟩⟩
    · rw [hw7b]; simp
    · match i, hi with
      | 0, hi =>
        simp only [List.getElem?_cons_zero, Option.some.injEq] at hi
        subst hi
        refine ⟨some ⟨w7.heap.size, 0, none⟩, 1, ?_, ?_⟩
        · rw [Addr.add_zero', hw7b]
          have := heap_alloc_new (w7.alloc (.cells (u8s [83]).toArray 5 (1, 2))) (.cells #[.slice (some ⟨w7.heap.size, 0, none⟩) 1 1] 39)
          have hz : (w7.alloc (.cells (u8s [83]).toArray 5 (1, 2))).heap.size = w7.heap.size + 1 := by simp
          rw [hz] at this
          exact Pk.one_at this
        · rw [hw7b]
          exact (rb_lit w7 [83] (1, 2)).keep (fun g hg => by subst hg; exact heap_alloc_old _ _ (by simp)) (fun g hg => by subst hg; simp; omega)
  have G7b : Lg w w7b p 1000 t2.L X3 q2 t2.rc.length := G7.below b7b
  have C7 := Lib.hid (a_save G7b t2_ok ht.out _ [[83]] S7 (by decide) (by intro r hr; rw [List.mem_singleton.1 hr]; decide) t5_fits)
  have lat7b : Hid (LogAt w7b q p t3.rc.length) := (b7b.block q (lt_some lat7.out)).trans lat7.out
  have L4b : Hid (Lt w7b (fun g => X3 g ∧ g ≠ q2) (.slice A4 [[(97 : UInt8)]].length c4) [[97]]) := L4.keep (fun g hg => b7b.block g (G7.live.xs g hg.1)) (fun _ h => ⟨h.1, h.2.1⟩)
  clear C6 h7 G7 L3 L4 k7 hx3 lat6 lat7 S7 G7b b7b hq2 xq
  rw [show (u8s [83]).toArray = #[Value.int .u8 83] from rfl] at hw7b
  go_wp2_with fail
  rw [← hw7b]
  clear hw7b
  refine C7.out.mono ?_
  rintro e w8 ⟨rfl, T8⟩
  have G8 : Lg w w8 p 1000 t5.L X3 q2 t5.rc.length := T8.1
  have lat8 : Hid (LogAt w8 q p t3.rc.length) := (T8.2.1 q xq3.out hqq.out).trans lat7b.out
  have L4c : Hid (Lt w8 (fun g => X3 g ∧ g ≠ q2) (.slice A4 [[(97 : UInt8)]].length c4) [[97]]) := L4b.out.keep (fun g hg => T8.2.1 g hg.1 hg.2) (fun _ h => h)
  have C8 := Lib.hid (a_open (a := t5) G8.live t5_ok ht.out)
  have xs8 : Hid (∀ g, X3 g → g < w8.heap.size) := G8.live.xs
  clear C7 T8 G8 lat7b L4b hqq
  go_wp2_with fail
  refine C8.out.mono ?_
  rintro e w9 h9
  obtain ⟨q3, A5, c5, A6, c6, X4, rfl, G9, _, hx4, L5, L6, k9, z9⟩ := open_lg h9
  have lat9 : LogAt w9 q p t3.rc.length := (k9 q xq3.out).trans lat8.out
  have L4d := L4c.out.keep (w' := w9) (fun g hg => k9 g hg.1) (fun g h => (Nat.lt_of_lt_of_le (xs8.out g h.1) z9 : g < w9.heap.size))
  have L5d := L5.keep (w' := w9) (fun _ _ => rfl) (fun g h => (G9.live.xs g h.1 : g < w9.heap.size))
  obtain ⟨_, _, e4, hr4⟩ := L4d
  obtain ⟨_, _, e5, hr5⟩ := L5d
  injection e4 with e41 _ e43
  injection e5 with e51 _ e53
  subst e41 e43 e51 e53
  obtain ⟨ad4, rfl, _, hr4⟩ := hr4 (by decide)
  obtain ⟨ad5, rfl, _, hr5⟩ := hr5 (by decide)
  obtain ⟨Ai, ci, k4, _, _, R4⟩ := hr4 0 [97] rfl
  obtain ⟨Aj, cj, k5, _, _, R5⟩ := hr5 0 [83] rfl
  rw [Addr.add_zero'] at k4 k5
  have s4 := str_run (c := ci) (T := fun g => g < w9.heap.size) ⟨R4.len, R4.at_⟩
  have s5 := str_run (c := cj) (T := fun g => g < w9.heap.size) ⟨R5.len, R5.at_⟩
  have y4 := str_toList [97]
  have y5 := str_toList [83]
  have C9 := Lib.hid (open_none w9)
  have P9 := Lib.hid (put_bad lat9 none 0 0 (by omega) (by omega))
  have be : Hid (Below w.heap.size w w9) := G9.live.be
  have m1 : [(97 : UInt8)].length = 1 := rfl
  have m2 : [(83 : UInt8)].length = 1 := rfl
  rw [m1] at k4 s4
  rw [m2] at k5 s5
  rw [show t5.st.length = 1 from rfl, show t5.rc.length = 0 from rfl]
  clear h9 G9 L5 L6 k9 z9 lat9 lat8 L4c C8 xs8 R4 R5 hr4 hr5 m1 m2 hx4
  go_wp2_with fail
  refine C9.out.mono ?_
  rintro e w' ⟨rfl, rfl⟩
  go_wp2_with fail
  refine P9.out.mono ?_
  rintro e w' ⟨rfl, rfl⟩
  go_wp2
  go_ret
  exact ⟨rfl, be.out⟩
end Se
end Go.Proofs.YtbolcapgocjgcaaGreatDoor

namespace Go.Proofs.YtbolcapgocjgcaaGreatDoor
set_option maxRecDepth 100000
open Go.RowKit
open Go.Proofs.YtbolcapgocjgcaaGreatDoor.Pk
namespace Se
open Dk (Bs)
open Fr (strs strs_app s_info)

theorem own_strs {w w' : World} {base n : Nat} {v : Value} {xs : List Value} (h : w.ownsRow base 9 1 v n xs) (hb : Below w.heap.size w w') : w'.ownsRow base 9 1 v n xs := Fr.own_below h hb
/-- A slice of slices of bytes of blocks below B, at any later world. -/
structure Lb (B : Nat) (w0 : World) (A : Option Addr) (l : List Bs) : Prop where
  at_ : ∀ (k : Nat) (r : Bs), l[k]? = some r → ∃ ad Ai ci, A = some ad ∧ ∀ w', Below B w0 w' → w'.cell? (ad.add k) = some (.slice Ai r.length ci) ∧ Rb w' (fun g => g < B) Ai r.length r
theorem lb_of {w : World} {A : Option Addr} {c : Nat} {l : List Bs} (h : Fr.Lr w (.slice A l.length c) l) : Lb w.heap.size w A l :=
  ⟨fun k r hk => by
    have hlt : k < l.length := (List.getElem?_eq_some_iff.1 hk).1
    obtain ⟨A', c', e, h1⟩ := h
    injection e with e1 _ e3
    subst e1
    obtain ⟨ad, ha, hab, h2⟩ := h1 (by omega)
    obtain ⟨Ai, ci, q1, q2⟩ := h2 k r hk
    exact ⟨ad, Ai, ci, ha, fun w' hb => ⟨(World.cell?_of_block (by rw [adr_block]; exact hb.block _ hab)).trans q1, q2.keep (fun g hg => hb.block g hg) (fun _ hg => hg)⟩⟩⟩
def TsAt (w : World) (l : List Bs) (v i : Value) (wr : World) : Prop :=
  ∃ k : Nat, k ≤ l.length ∧ i = .int .i64 k ∧ wr.ownsRow w.heap.size 9 1 v k (strs (l.take k)) ∧ Below w.heap.size w wr
set_option maxHeartbeats 1600000 in
theorem textsof_any (w : World) (v : Value) (l : List Bs) (h : Fr.Lr w v l) (hn : l.length ≤ 1000) :
    Calls Tryz.prog 15 #[v] w fun e w' => ∃ u, e = .returned u ∧ w'.ownsRow w.heap.size 9 1 u l.length (strs l) ∧ Below w.heap.size w w' := by
  obtain ⟨A, c, rfl⟩ : ∃ A c, v = .slice A l.length c := by
    obtain ⟨A, c, e, _⟩ := h
    exact ⟨A, c, e⟩
  have P := Lib.hid (lb_of h).at_
  have st : Hid (TsAt w l (.slice none 0 0) (.int .i64 0) w) := ⟨0, Nat.zero_le _, rfl, World.ownsRow_nil _ _ _ _, Below.refl _ _⟩
  obtain ⟨i0, hi, hz0, hz1, hz2⟩ := info_parts s_info
  replace hi := Lib.hid hi
  replace hz0 := Lib.hid hz0
  replace hz1 := Lib.hid hz1
  replace hz2 := Lib.hid hz2
  obtain ⟨n, hnl⟩ : ∃ n, n = l.length := ⟨_, rfl⟩
  rw [← hnl] at hn ⊢
  replace hnl := Lib.hid hnl
  clear h
  go_enter Tryz.func15, Tryz.ntmps15
  go_wp2_with fail
  go_loopw [3, 4] (fun v i wr => TsAt w l v i wr) (fun _ i _ => n - (intOf i).toNat)
  case atStart => exact st.out
  case round =>
    obtain ⟨k, hk, rfl, ho, hb⟩ := hrel
    rw [← hnl.out] at hk
    replace ho := Lib.hid ho
    replace hb := Lib.hid hb
    obtain ⟨A0, c0, rfl⟩ := own_form ho.out
    by_cases hlt : k < n
    · obtain ⟨r, hr⟩ : ∃ r, l[k]? = some r := ⟨_, List.getElem?_eq_getElem (by have := hnl.out; omega)⟩
      obtain ⟨ad, Ai, ci, rfl, hP⟩ := P.out k r hr
      obtain ⟨hc, hR⟩ := hP wr hb.out
      have s0 : w.heap.size ≤ wr.heap.size := hb.out.size
      have hs := str_run (c := ci) (T := fun g => g < w.heap.size) ⟨hR.len, hR.at_⟩
      obtain ⟨xs, hxs⟩ : ∃ xs, xs = strs (l.take k) := ⟨_, rfl⟩
      rw [← hxs] at ho
      have nx : Hid (∀ w6 v6, w6.ownsRow w.heap.size 9 1 v6 (k + 1) (xs ++ [.string (str r)]) → Below w.heap.size w w6 → TsAt w l v6 (.int .i64 ((k : Int) + 1)) w6) := fun w6 v6 ho6 hb6 => by
        refine ⟨k + 1, by have := hnl.out; omega, by simp, ?_, hb6⟩
        have e2 : l.take (k + 1) = l.take k ++ [r] := by rw [List.take_add_one, hr]; rfl
        rw [e2, strs_app, ← hxs]
        exact ho6
      clear hr hR hxs hP
      go_wp2_with (at_builtin; go_loud (refine Fr.wpList_append_1 wr rfl (.tmp 11) (.tmp 17) 36 rfl w.heap.size 9 i0 (.string ByteArray.empty) 16 Tryz.underlying36 hi.out hz0.out hz1.out hz2.out rfl _ k xs (.string (str r)) rfl ho.out rfl rfl (by unfold maxLen; omega) (by omega) s0 ?_); intro v6 w6 h6 g6; have f6 : Hid _ := nx.out w6 v6 h6 ((hb.out.alloc s0 _).grown g6 (by simp; omega) (fun g hg => (ho.out.lt g hg).1)); clear h6 g6)
      go_roundw
      case rel => exact f6.out
      case measure => simp [intOf]; omega
    · obtain rfl : k = n := by omega
      have e : l.take k = l := List.take_of_length_le (by have := hnl.out; omega)
      rw [e] at ho
      clear e
      go_wp2
      go_ret
      exact ⟨_, rfl, ho.out, hb.out⟩
end Se
end Go.Proofs.YtbolcapgocjgcaaGreatDoor

namespace Go.Proofs.YtbolcapgocjgcaaGreatDoor
set_option maxRecDepth 100000
open Go.RowKit
open Go.Proofs.YtbolcapgocjgcaaGreatDoor.Pk
namespace Se
open Dk (Bs Live LTo used)
open Fr (frames frame Txts)

section
variable {B w w' : World} {p room q n : Nat} {L : Dk.St} {X : Nat → Prop}
theorem live_grown {o : Option Nat} (h : Live B w p room L X) (hg : w.grownBy w' o) (ho : ∀ g, o = some g → X g ∧ B.heap.size ≤ g) : Live B w' p room L (fun g => X g ∨ (w.heap.size ≤ g ∧ g < w'.heap.size)) := by
  obtain ⟨fp, D, hf⟩ := h.dk
  have hs : ∀ g, fp g → g < w.heap.size := by
    obtain ⟨mo, l, d, _⟩ := D
    exact d.size
  refine ⟨⟨fp, D.keep hg.size (fun g hq => hg.block g (hs g hq) (fun e => (hf g hq).2 (ho g e.symm).1)), fun g hq => ⟨(hf g hq).1, fun e => ?_⟩⟩, ⟨hg.os.trans h.be.os, hg.tape.trans h.be.tape, hg.output.trans h.be.output, Nat.le_trans h.be.size hg.size, fun g hq => (hg.block g (Nat.lt_of_lt_of_le hq h.be.size) (fun e => by have := (ho g e.symm).2; omega)).trans (h.be.block g hq)⟩, fun g hq => ?_⟩
  · rcases e with e | ⟨e, _⟩
    · exact (hf g hq).2 e
    · have := hs g hq; omega
  · rcases hq with hq | ⟨_, hq⟩
    · exact Nat.lt_of_lt_of_le (h.xs g hq) hg.size
    · exact hq
/-- An append to a row of the call's own. -/
theorem Lg.grown {o : Option Nat} (h : Lg B w p room L X q n) (hg : w.grownBy w' o) (ho : ∀ g, o = some g → X g ∧ g ≠ q ∧ B.heap.size ≤ g) : Lg B w' p room L (fun g => X g ∨ (w.heap.size ≤ g ∧ g < w'.heap.size)) q n :=
  ⟨live_grown h.live hg (fun g e => ⟨(ho g e).1, (ho g e).2.2⟩), (hg.block q (lt_some h.at_) (fun e => (ho q e.symm).2.1 rfl)).trans h.at_, .inl h.inx, h.base⟩
/-- A row of the call's own, beside the disk. -/
structure OwnX (B w : World) (X : Nat → Prop) (q : Nat) (v : Value) (l : List Bs) : Prop where
  row : w.ownsRow B.heap.size 9 1 v l.length (Fr.strs l)
  inx : ∀ g, v.ownBlock = some g → X g ∧ g ≠ q ∧ B.heap.size ≤ g
theorem OwnX.keep {w2 : World} {X2 : Nat → Prop} {q2 : Nat} {v : Value} {l : List Bs} (h : OwnX B w X q v l) (hk : ∀ g, X g → g ≠ q → w2.heap[g]? = w.heap[g]?) (hx : ∀ g, X g → g ≠ q → X2 g ∧ g ≠ q2) : OwnX B w2 X2 q2 v l :=
  ⟨Dk.own_same h.row fun g hg => hk g (h.inx g hg).1 (h.inx g hg).2.1, fun g hg => ⟨(hx g (h.inx g hg).1 (h.inx g hg).2.1).1, (hx g (h.inx g hg).1 (h.inx g hg).2.1).2, (h.inx g hg).2.2⟩⟩
theorem OwnX.nil : OwnX B w X q (.slice none 0 0) [] := ⟨World.ownsRow_nil _ _ _ _, fun g hg => by simp [Value.ownBlock] at hg⟩
theorem OwnX.sr {v : Value} {l : List Bs} (h : OwnX B w X q v l) : Fr.Sr w v l := Fr.sr_own h.row
/-- One more behind it: what lies so behind the append. -/
theorem OwnX.snoc {v v' : Value} {l : List Bs} {r : Bs} {o : Obj} (h : OwnX B w X q v l) (G : Lg B w p room L X q n) (h' : w'.ownsRow B.heap.size 9 1 v' (l.length + 1) (Fr.strs l ++ [.string (str r)])) (hg : (w.alloc o).grownBy w' v.ownBlock) (hat : v'.ownBlock = v.ownBlock ∨ ∃ g, v'.ownBlock = some g ∧ w.heap.size ≤ g) :
    Lg B w' p room L (fun g => X g ∨ (w.heap.size ≤ g ∧ g < w'.heap.size)) q n ∧ OwnX B w' (fun g => X g ∨ (w.heap.size ≤ g ∧ g < w'.heap.size)) q v' (l ++ [r]) := by
  have hq := lt_some G.at_
  have g1 : w.grownBy w' v.ownBlock := grown_trans (below_grown ((Below.refl _ w).alloc (Nat.le_refl _) o) _) hg
  refine ⟨G.grown g1 (fun g e => h.inx g e), ?_, fun g e => ?_⟩
  · rw [Fr.strs_app, List.length_append]; exact h'
  · rcases hat with hat | ⟨g2, e2, h2⟩
    · have := h.inx g (by rw [← hat]; exact e)
      exact ⟨.inl this.1, this.2⟩
    · rw [e2] at e
      injection e with e
      subst e
      have hl := (h'.lt g2 e2).2
      exact ⟨.inr ⟨h2, hl⟩, by omega, by have := G.live.be.size; omega⟩
end

theorem wpList_append_1x {P : Program} (wr : World) {ops : Array Oper} {rest : List Oper} {o : Oper} {a : Act} {Q : Exit → Act → World → Prop} (hgd : o.guard = none) (s x : Operand) (t : TypeId)
    (ho : o.op = .call { callee := .builtin .append, args := #[s, x], argTypes := #[t, t] })
    (base : Nat) (e : TypeId) (i : TypeInfo) (z : Value) (bytes : Nat) (ht : P.underlying t = some (.slice e)) (hi : P.info? e = some i) (hz : i.zero = some z) (hsize : i.size = 1) (hby : i.bytes = bytes) (hzs : z.cells.size = 1)
    (v : Value) (n : Nat) (xs : List Value) (u : Value) (hs : a.eval s = v) (hown : wr.ownsRow base e 1 v n xs) (hx : a.eval x = .slice (some ⟨wr.heap.size, 0, none⟩) 1 1) (hu : u.oneCell' = true)
    (h63 : n + 1 ≤ maxLen) (hb : (n + 1) * bytes ≤ 140737488355328) (hbase : base ≤ wr.heap.size)
    (h : ∀ v' w', w'.ownsRow base e 1 v' (n + 1) (xs ++ [u]) → (wr.alloc (.cells #[u] e)).grownBy w' v.ownBlock → (v'.ownBlock = v.ownBlock ∨ ∃ g, v'.ownBlock = some g ∧ wr.heap.size ≤ g) → wpList P ops Q rest (a.put o.dst v') w') : wpList P ops Q (o :: rest) a (wr.alloc (.cells #[u] e)) :=
  wpList_append_own_at _ hgd s x t ho base e i z 1 bytes ht hi hz hsize hby hzs (by decide) v n xs hs (hown.alloc _) ⟨wr.heap.size, 0, none⟩ 1 1 [u] hx rfl
    (by
      intro j y hj
      match j, hj with
      | 0, hj => simp at hj; subst hj; rw [Addr.add_zero', World.cell?_alloc_mark]; rfl
      | j + 1, hj => simp at hj)
    (by intro y hy; simp at hy; subst hy; exact hu) h63 hb (by simp; omega) (fun v' w' h1 h2 _ h3 => h v' w' h1 h2 (by
      rcases h3 with h3 | h3
      · exact .inl h3
      · exact .inr ⟨_, h3, by simp⟩))

/-- A log without a state, with the records l, none synced. -/
def pA (l : List Bs) : Ab := ⟨0, none, if l = [] then none else some (some l, 0)⟩
theorem pA_rc (l : List Bs) : (pA l).rc = l := by
  unfold pA Ab.rc Ab.con
  by_cases h : l = []
  · subst h; rfl
  · rw [if_neg h]; rfl
theorem pA_put (l : List Bs) (b : Bs) : (pA l).put b = pA (l ++ [b]) := by
  have h : (pA l).sy = 0 := by unfold pA Ab.sy; by_cases h : l = [] <;> simp [h]
  unfold Ab.put
  rw [pA_rc, h]
  show (⟨0, none, some (some (l ++ [b]), 0)⟩ : Ab) = pA (l ++ [b])
  simp [pA]
theorem pA_con (l : List Bs) : (pA l).con = if l = [] then none else some l := by
  unfold pA Ab.con
  by_cases h : l = [] <;> simp [h]
theorem pA_ok {l : List Bs} (h : Fr.Ok l) : (pA l).Ok := by
  refine ⟨fun _ => rfl, by show 0 ≤ _; omega, (fun r hr => by cases hr), by rw [pA_rc]; exact h, ?_⟩
  have h0 : (pA l).sy = 0 := by unfold pA Ab.sy; by_cases h : l = [] <;> simp [h]
  omega
theorem short_ok {l : List Bs} (h : ∀ r ∈ l, 1 ≤ r.length ∧ r.length ≤ 40) : Fr.Ok l := fun r hr => by have := h r hr; omega
theorem save_rc (a : Ab) (st : List Bs) : (a.save st).rc = [] := by unfold Ab.save Ab.rc Ab.con; cases a.lg <;> rfl
theorem save_st (a : Ab) (st : List Bs) : (a.save st).st = st := rfl
theorem sync_st (a : Ab) : a.sync.st = a.st := rfl
theorem txts_lr {W : World} {A : Option Addr} {n c : Nat} {l : List Bs} (h : Txts W W.heap.size A n l) : Fr.Lr W (.slice A l.length c) l := by
  refine ⟨A, c, rfl, fun hn => ?_⟩
  obtain ⟨a, ha, hab, h2⟩ := h.at_ (by have := h.len; omega)
  refine ⟨a, ha, hab, fun i r hi => ?_⟩
  obtain ⟨u, hu, Ai, ci, e, _, _, _, hR⟩ := h2 i r hi
  exact ⟨Ai, ci, by rw [hu, e], hR⟩
/-- How far a loop over two lists has come. -/
def OkAt (l m : List Bs) (i : Value) : Prop := ∃ k : Nat, i = .int .i64 k ∧ k ≤ l.length + m.length ∧ ∀ r ∈ (l ++ m).take k, 1 ≤ r.length ∧ r.length ≤ 40
theorem ok_next {l m : List Bs} {k : Nat} {r : Bs} (h : ∀ r ∈ (l ++ m).take k, 1 ≤ r.length ∧ r.length ≤ 40) (hr : (l ++ m)[k]? = some r) (h1 : 1 ≤ r.length) (h2 : r.length ≤ 40) : ∀ r ∈ (l ++ m).take (k + 1), 1 ≤ r.length ∧ r.length ≤ 40 := by
  intro x hx
  rw [List.take_add_one, hr] at hx
  rcases List.mem_append.1 hx with hx | hx
  · exact h x hx
  · have : x = r := by simpa using hx
    subst this
    exact ⟨h1, h2⟩
end Se
end Go.Proofs.YtbolcapgocjgcaaGreatDoor

namespace Go.Proofs.YtbolcapgocjgcaaGreatDoor
set_option maxRecDepth 100000
open Go.ChangeShapes Go.WideShapes Go.ChangeAt Go.WideMaps Go.WideElems Go.RowKit Go.Proofs.YtbolcapgocjgcaaGreatDoor.Pk
namespace Se
open Go.Proofs.YtbolcapgocjgcaaGreatDoor.Dk (Bs)
open Go.Proofs.YtbolcapgocjgcaaGreatDoor.Fr (Txts Ti)

/-- A step as it stands in memory. -/
structure Stp where
  kind : Int
  n : Int
  A : Option Addr
  m : Nat
  c : Nat
  bs : Bs
  Al : Option Addr
  nl : Nat
  cl : Nat
  l : List Bs
def Stp.cells (o : Stp) : Array Value := #[.int .i64 o.kind, .int .i64 o.n, .slice o.A o.m o.c, .slice o.Al o.nl o.cl]
structure StpAt (w : World) (a : Addr) (i : Nat) (o : Stp) : Prop where
  c0 : w.cell? (a.add (i * 4)) = some (.int .i64 o.kind)
  c1 : w.cell? ⟨(a.add (i * 4)).block, (a.add (i * 4)).off + 1, none⟩ = some (.int .i64 o.n)
  c2 : w.cell? ⟨(a.add (i * 4)).block, (a.add (i * 4)).off + 2, none⟩ = some (.slice o.A o.m o.c)
  c3 : w.cell? ⟨(a.add (i * 4)).block, (a.add (i * 4)).off + 3, none⟩ = some (.slice o.Al o.nl o.cl)
structure StpOk (w : World) (B : Nat) (o : Stp) : Prop where
  n1 : -9223372036854775808 ≤ o.n
  n2 : o.n ≤ 9223372036854775807
  mc : o.m ≤ o.c
  cm : o.c ≤ 9223372036854775807
  rb : Rb w (fun g => g < B) o.A o.m o.bs
  lc : o.nl ≤ o.cl
  ul : o.cl ≤ 9223372036854775807
  tx : Txts w B o.Al o.nl o.l
/-- A slice of steps that came in. -/
structure Stps (w : World) (B : Nat) (A : Option Addr) (n : Nat) (l : List Stp) : Prop where
  len : l.length = n
  at_ : 0 < n → ∃ a, A = some a ∧ a.block < B ∧ ∀ i o, l[i]? = some o → StpAt w a i o
  ok : ∀ o ∈ l, StpOk w B o
theorem StpAt.same {w w' : World} {a : Addr} {i : Nat} {o : Stp} (h : StpAt w a i o) (hb : w'.heap[a.block]? = w.heap[a.block]?) : StpAt w' a i o := by
  have e : ∀ k, w'.cell? ⟨(a.add (i * 4)).block, (a.add (i * 4)).off + k, none⟩ = w.cell? ⟨(a.add (i * 4)).block, (a.add (i * 4)).off + k, none⟩ := fun k => World.cell?_of_block (by show w'.heap[(a.add (i * 4)).block]? = w.heap[(a.add (i * 4)).block]?; rw [adr_block]; exact hb)
  exact ⟨(World.cell?_of_block (by rw [adr_block]; exact hb)).trans h.c0, (e 1).trans h.c1, (e 2).trans h.c2, (e 3).trans h.c3⟩
theorem StpOk.below {w w' : World} {B : Nat} {o : Stp} (h : StpOk w B o) (hb : Below B w w') : StpOk w' B o :=
  ⟨h.n1, h.n2, h.mc, h.cm, h.rb.keep (fun g hg => hb.block g hg) (fun _ hg => hg), h.lc, h.ul, h.tx.below hb⟩
theorem Stps.below {w w' : World} {B : Nat} {A : Option Addr} {n : Nat} {l : List Stp} (h : Stps w B A n l) (hb : Below B w w') : Stps w' B A n l :=
  ⟨h.len, fun hn => by
    obtain ⟨a, e, ha, hc⟩ := h.at_ hn
    exact ⟨a, e, ha, fun i o hi => (hc i o hi).same (hb.block _ ha)⟩, fun o ho => (h.ok o ho).below hb⟩

theorem trod_bytes {H : Type} {enc : TypeId × Value → H} {W : World} {sp : Nat → Bool} {held : Bool} {fu : Nat} {u : Value} {y : DataW H × List MemPlace}
    (h2 : DataW.trod enc Tryz.prog W 0 sp held fu 39 [u] = some y) : ∃ A m c bs, u = .slice A m c ∧ m ≤ c ∧ c ≤ 9223372036854775807 ∧ Rb W (fun g => g < W.heap.size) A m bs := by
  have c5 : Tryz.prog.cellsOf 5 = 1 := by kernel_rfl
  rcases open_ints Tryz.underlying39 Tryz.underlying5 c5 h2 with ⟨hcs, _⟩ | ⟨b, len, cap, zs, hcs, _, hl, hm, hz, _, hcell, hwz⟩
  · have e : u = .slice none 0 0 := by simpa using hcs
    exact ⟨none, 0, 0, [], e, Nat.le_refl _, by omega, Rb.none_⟩
  · have e : u = .slice (some b) len cap := by simpa using hcs
    have hle : len ≤ zs.length := by rw [hz]; split <;> omega
    unfold maxLen at hm
    refine ⟨some b, len, cap, (zs.take len).map fun z => UInt8.ofNat z.toNat, e, hl, by omega, ⟨by simp; omega, fun hn => ⟨b, rfl, ?_, fun j x hj => ?_⟩⟩⟩
    · have := block_lt_of_cell (hcell 0 (by omega))
      rwa [adr_block] at this
    · rw [List.getElem?_map, List.getElem?_take] at hj
      split at hj
      · have hjz : j < zs.length := by omega
        rw [List.getElem?_eq_getElem hjz] at hj
        simp only [Option.map_some, Option.some.injEq] at hj
        have hw := bounds_u8 (hwz _ (List.getElem_mem hjz))
        rw [hcell j hjz, ← hj, ofNat_toNat (by omega), List.getD_eq_getElem?_getD, List.getElem?_eq_getElem hjz]
        simp only [Option.getD_some]
        congr 2
        omega
      · cases hj
theorem trod_texts {H : Type} {enc : TypeId × Value → H} {W : World} {sp : Nat → Bool} {held : Bool} {fu : Nat} {u : Value} {d : DataW H × List MemPlace}
    (hf : DataW.trod enc Tryz.prog W 0 sp held fu 32 [u] = some d) : ∃ A n c l, u = .slice A n c ∧ n ≤ c ∧ c ≤ 9223372036854775807 ∧ Txts W W.heap.size A n l := by
  have c22 : Tryz.prog.cellsOf 39 = 1 := by kernel_rfl
  have c5 : Tryz.prog.cellsOf 5 = 1 := by kernel_rfl
  rcases Go.Deep.open_slice1 Tryz.underlying32 c22 hf with ⟨hcs, _⟩ | ⟨a, n, c, m, fu, V, D, Pl, hcs, _, hl, hm, hmm, _, hi⟩
  · have e : u = .slice none 0 0 := by simpa using hcs
    exact ⟨none, 0, 0, [], e, Nat.le_refl _, by omega, ⟨rfl, fun h => absurd h (by omega)⟩⟩
  · have e : u = .slice (some a) n c := by simpa using hcs
    have hle : n ≤ m := by rw [hmm]; split <;> omega
    unfold maxLen at hm
    have one : ∀ i, i < n → ∃ r, Ti W W.heap.size r (V i) := by
      intro i hin
      obtain ⟨_, h2⟩ := hi i (by omega)
      rcases open_ints Tryz.underlying39 Tryz.underlying5 c5 h2 with ⟨hcs, _⟩ | ⟨b, len, cap, zs, hcs, _, hl, hm, hz, _, hcell, hwz⟩
      · have e : V i = .slice none 0 0 := by simpa using hcs
        exact ⟨[], none, 0, e, fun _ => rfl, Nat.le_refl _, by omega, Rb.none_⟩
      · have e : V i = .slice (some b) len cap := by simpa using hcs
        have hle : len ≤ zs.length := by rw [hz]; split <;> omega
        unfold maxLen at hm
        have hlen : ((zs.take len).map fun z => UInt8.ofNat z.toNat).length = len := by simp; omega
        refine ⟨(zs.take len).map fun z => UInt8.ofNat z.toNat, some b, cap, by rw [hlen]; exact e, (fun e => by cases e), by rw [hlen]; exact hl, by omega, ⟨rfl, fun hn => ⟨b, rfl, ?_, fun j x hj => ?_⟩⟩⟩
        · have := block_lt_of_cell (hcell 0 (by omega))
          rwa [adr_block] at this
        · rw [List.getElem?_map, List.getElem?_take] at hj
          split at hj
          · have hjz : j < zs.length := by omega
            rw [List.getElem?_eq_getElem hjz] at hj
            simp only [Option.map_some, Option.some.injEq] at hj
            have hw := bounds_u8 (hwz _ (List.getElem_mem hjz))
            rw [hcell j hjz, ← hj, ofNat_toNat (by omega), List.getD_eq_getElem?_getD, List.getElem?_eq_getElem hjz]
            simp only [Option.getD_some]
            congr 2
            omega
          · cases hj
    have all : ∀ k, k ≤ n → ∃ l : List (List UInt8), l.length = k ∧ ∀ (i : Nat) (r : List UInt8), l[i]? = some r → Ti W W.heap.size r (V i) := by
      intro k
      induction k with
      | zero => intro _; exact ⟨[], rfl, fun i o h => by simp at h⟩
      | succ k ih =>
        intro hk
        obtain ⟨l, h1, h2⟩ := ih (by omega)
        obtain ⟨o, h4⟩ := one k (by omega)
        refine ⟨l ++ [o], by simp [h1], fun i o' hi => ?_⟩
        rw [List.getElem?_append] at hi
        split at hi
        · exact h2 i o' hi
        · rename_i hge
          have hi0 : i - l.length = 0 := by
            rcases Nat.eq_zero_or_pos (i - l.length) with e | e
            · exact e
            · rw [List.getElem?_eq_none (by simp; omega)] at hi; cases hi
          rw [hi0] at hi
          simp only [List.getElem?_cons_zero, Option.some.injEq] at hi
          subst hi
          obtain rfl : i = k := by omega
          exact h4
    obtain ⟨l, h1, h2⟩ := all n (Nat.le_refl _)
    refine ⟨some a, n, c, l, e, hl, by omega, ⟨h1, fun hn => ⟨a, rfl, ?_, fun i r hir => ?_⟩⟩⟩
    · have := block_lt_of_cell (hi 0 (by omega)).1
      rwa [adr_block] at this
    · have hin : i < n := by rw [← h1]; exact (List.getElem?_eq_some_iff.1 hir).1
      exact ⟨V i, (hi i (by omega)).1, h2 i r hir⟩

theorem view_steps {H : Type} {enc : TypeId × Value → H} {W : World} {sp : Nat → Bool} {held : Bool} {v : Value} {d : DataW H} {p : List MemPlace} {r : Reach} {b0 : Nat}
    (hv : Value.okWide Tryz.prog W r b0 22 v) (h : DataW.Trod enc Tryz.prog W 0 sp held 22 v d p) : ∃ A n c l, v = .slice A n c ∧ n ≤ c ∧ c ≤ 9223372036854775807 ∧ Stps W W.heap.size A n l := by
  obtain ⟨A, n, c, rfl⟩ := okWide_slice Tryz.underlying22 hv
  obtain ⟨fuel, hf⟩ := h
  have c28 : Tryz.prog.cellsOf 41 = 4 := by kernel_rfl
  have k3 : Tryz.prog.cellsOf 3 = 1 := by kernel_rfl
  have k9 : Tryz.prog.cellsOf 32 = 1 := by kernel_rfl
  have k5 : Tryz.prog.cellsOf 39 = 1 := by kernel_rfl
  rcases Go.Deep.open_slice Tryz.underlying22 hf with ⟨hcs, _⟩ | ⟨a, len, cap, m, fu, D, Pl, hcs, _, hl, hm, hmm, _, hi⟩
  · obtain ⟨rfl, rfl, rfl⟩ : A = none ∧ n = 0 ∧ c = 0 := by simpa [Value.cells] using hcs
    exact ⟨none, 0, 0, [], rfl, Nat.le_refl _, by omega, ⟨rfl, fun h => absurd h (by omega), fun o h => by cases h⟩⟩
  · obtain ⟨rfl, rfl, rfl⟩ : A = some a ∧ n = len ∧ c = cap := by simpa [Value.cells] using hcs
    have hle : n ≤ m := by rw [hmm]; split <;> omega
    unfold maxLen at hm
    have one : ∀ i, i < n → ∃ o, StpAt W a i o ∧ StpOk W W.heap.size o := by
      intro i hin
      obtain ⟨cs', h1, h2⟩ := hi i (by omega)
      rw [c28] at h1
      obtain ⟨_, hlen, hat⟩ := World.cells?_some h1
      obtain ⟨xs, fn, _, _, _, hxl, hg⟩ := DataW.trod_struct Tryz.underlying41 h2
      match cs', hlen with
      | [x0, x1, x2, x3], _ =>
        have e0 : DataW.trod enc Tryz.prog W 0 sp held fn 3 (([x0, x1, x2, x3].drop 0).take (Tryz.prog.cellsOf 3)) = xs[0]? := hg 0 _ rfl
        rw [k3] at e0
        have e1 : DataW.trod enc Tryz.prog W 0 sp held fn 3 (([x0, x1, x2, x3].drop 1).take (Tryz.prog.cellsOf 3)) = xs[1]? := hg 1 _ rfl
        rw [k3] at e1
        have e2 : DataW.trod enc Tryz.prog W 0 sp held fn 39 (([x0, x1, x2, x3].drop 2).take (Tryz.prog.cellsOf 39)) = xs[2]? := hg 2 _ rfl
        rw [k5] at e2
        have e3 : DataW.trod enc Tryz.prog W 0 sp held fn 32 (([x0, x1, x2, x3].drop 3).take (Tryz.prog.cellsOf 32)) = xs[3]? := hg 3 _ rfl
        rw [k9] at e3
        have hx : ∀ j, j < 4 → ∃ y, xs[j]? = some y := fun j hj => ⟨_, List.getElem?_eq_getElem (by rw [hxl]; exact hj)⟩
        obtain ⟨y0, z0⟩ := hx 0 (by omega)
        obtain ⟨y1, z1⟩ := hx 1 (by omega)
        obtain ⟨y2, z2⟩ := hx 2 (by omega)
        obtain ⟨y3, z3⟩ := hx 3 (by omega)
        simp only [List.drop_zero, List.drop_succ_cons, List.take_succ_cons, List.take_zero] at e0 e1 e2 e3
        obtain ⟨m0, f0, _, _⟩ := DataW.trod_int Tryz.underlying3 (e0.trans z0)
        obtain ⟨m1, f1, _, w1⟩ := DataW.trod_int Tryz.underlying3 (e1.trans z1)
        obtain ⟨A2, m2, c2, b2, f2, u1, u2, u3⟩ := trod_bytes (e2.trans z2)
        obtain ⟨A3, m3, c3, b3, f3, t1, t2, t3⟩ := trod_texts (e3.trans z3)
        simp only [List.cons.injEq, and_true] at f0 f1
        have b := Dk.bounds_i64 w1
        refine ⟨⟨m0, m1, A2, m2, c2, b2, A3, m3, c3, b3⟩, ⟨?_, ?_, ?_, ?_⟩, ⟨b.1, b.2, u1, u2, u3, t1, t2, t3⟩⟩
        · have := hat 0 (by omega); rw [Addr.add_zero'] at this; rw [this, f0]; rfl
        · have := hat 1 (by omega); rw [Addr.add_succ'] at this; rw [this, f1]; rfl
        · have := hat 2 (by omega); rw [Addr.add_succ'] at this; rw [this, f2]; rfl
        · have := hat 3 (by omega); rw [Addr.add_succ'] at this; rw [this, f3]; rfl
    have all : ∀ k, k ≤ n → ∃ l : List Stp, l.length = k ∧ (∀ i o, l[i]? = some o → StpAt W a i o) ∧ ∀ o ∈ l, StpOk W W.heap.size o := by
      intro k
      induction k with
      | zero => intro _; exact ⟨[], rfl, fun i o h => by simp at h, fun o h => by cases h⟩
      | succ k ih =>
        intro hk
        obtain ⟨l, h1, h2, h3⟩ := ih (by omega)
        obtain ⟨o, h4, h5⟩ := one k (by omega)
        refine ⟨l ++ [o], by simp [h1], fun i o' hi => ?_, fun o' ho => ?_⟩
        · rw [List.getElem?_append] at hi
          split at hi
          · exact h2 i o' hi
          · rename_i hge
            have hi0 : i - l.length = 0 := by
              rcases Nat.eq_zero_or_pos (i - l.length) with e | e
              · exact e
              · rw [List.getElem?_eq_none (by simp; omega)] at hi; cases hi
            rw [hi0] at hi
            simp only [List.getElem?_cons_zero, Option.some.injEq] at hi
            subst hi
            obtain rfl : i = k := by omega
            exact h4
        · rcases List.mem_append.1 ho with h | h
          · exact h3 o' h
          · rw [List.mem_singleton.1 h]; exact h5
    obtain ⟨l, h1, h2, h3⟩ := all n (Nat.le_refl _)
    refine ⟨some a, n, c, l, rfl, hl, by omega, ⟨h1, fun hn => ⟨a, rfl, ?_, h2⟩, h3⟩⟩
    obtain ⟨o, h4, _⟩ := one 0 hn
    have := block_lt_of_cell h4.c0
    rwa [adr_block] at this
end Se
end Go.Proofs.YtbolcapgocjgcaaGreatDoor

namespace Go.Proofs.YtbolcapgocjgcaaGreatDoor
set_option maxRecDepth 100000
open Go.RowKit
open Go.Proofs.YtbolcapgocjgcaaGreatDoor.Pk
namespace Se
open Go.Proofs.YtbolcapgocjgcaaGreatDoor.Dk (Bs)
open Go.Proofs.YtbolcapgocjgcaaGreatDoor.Fr (Txts Ti)

def Few (o : Stp) : Prop := o.m ≤ 100 ∧ o.nl ≤ 6 ∧ ∀ r ∈ o.l, r.length ≤ 100
def FwAt (o : Stp) (i : Value) : Prop := ∃ k : Nat, i = .int .i64 k ∧ k ≤ o.nl ∧ ∀ r ∈ o.l.take k, r.length ≤ 100
def FewTo (w : World) (o : Stp) (e : Ending) (w' : World) : Prop := ∃ b, e = .returned (.bool b) ∧ (b = true → Few o) ∧ Below w.heap.size w w'
set_option maxHeartbeats 1600000 in
theorem few_any (w : World) (o : Stp) (B : Nat) (h : StpOk w B o) (hB : B ≤ w.heap.size) :
    Calls Tryz.prog 7 #[.agg #[.int .i64 o.kind, .int .i64 o.n, .slice o.A o.m o.c, .slice o.Al o.nl o.cl]] w (FewTo w o) := by
  have hm : o.m ≤ 9223372036854775807 := by have := h.mc; have := h.cm; omega
  have hn : o.nl ≤ 9223372036854775807 := by have := h.lc; have := h.ul; omega
  have hl := h.tx.len
  obtain ⟨w1, hw1⟩ : ∃ z, z = w.alloc (.cells #[.int .i64 o.kind, .int .i64 o.n, .slice o.A o.m o.c, .slice o.Al o.nl o.cl] 41) := ⟨_, rfl⟩
  have b1 : Hid (Below w.heap.size w w1) := by rw [hw1]; exact (Below.refl _ _).alloc (Nat.le_refl _) _
  have hp : w1.heap[w.heap.size]? = some (.cells #[.int .i64 o.kind, .int .i64 o.n, .slice o.A o.m o.c, .slice o.Al o.nl o.cl] 41 (0, 0)) := by rw [hw1]; exact heap_alloc_new _ _
  have k2 : w1.cell? ⟨w.heap.size, 2, none⟩ = some (.slice o.A o.m o.c) := Pk.one_at hp
  have k3 : w1.cell? ⟨w.heap.size, 3, none⟩ = some (.slice o.Al o.nl o.cl) := Pk.one_at hp
  have P : Hid (∀ k r, o.l[k]? = some r → ∃ ad Ai ci, o.Al = some ad ∧ w1.cell? (ad.add k) = some (.slice Ai r.length ci)) := fun k r hk => by
    have hlt : k < o.l.length := (List.getElem?_eq_some_iff.1 hk).1
    obtain ⟨ad, ha, hab, h2⟩ := h.tx.at_ (by omega)
    obtain ⟨u, hu, Ai, ci, e, _⟩ := h2 k r hk
    exact ⟨ad, Ai, ci, ha, ((b1.out.mono hB).cell (p := ad.add k) (by rw [adr_block]; exact hab)).trans (by rw [hu, e])⟩
  obtain ⟨L, hL⟩ : ∃ z, z = o.l := ⟨_, rfl⟩
  have FD : Hid (Few o ↔ o.m ≤ 100 ∧ o.nl ≤ 6 ∧ ∀ r ∈ L, r.length ≤ 100) := by rw [hL]; exact Iff.rfl
  rw [← hL] at P hl
  have stt : Hid (FwAt ⟨o.kind, o.n, o.A, o.m, o.c, o.bs, o.Al, o.nl, o.cl, L⟩ (.int .i64 0)) := ⟨0, rfl, Nat.zero_le _, (fun r hr => by simp at hr)⟩
  obtain ⟨kind, n, A, m, c, bs, Al, nl, cl, l⟩ := o
  simp only at hL hm hn hl hw1 hp k2 k3 P FD stt ⊢
  clear h hp hL
  by_cases hz : m ≤ 100
  · have d1 : decide ((100 : Int) < (m : Int)) = false := decide_eq_false (by omega)
    by_cases hz2 : nl ≤ 6
    · have d2 : decide ((6 : Int) < (nl : Int)) = false := decide_eq_false (by omega)
      go_enter Tryz.func7, Tryz.ntmps7
      go_upto_region 1 with (fail)
      rw [← hw1]
      clear hw1
      go_wp2_with fail
      go_loop [3] (fun i => FwAt ⟨kind, n, A, m, c, bs, Al, nl, cl, L⟩ i) (fun i => nl - (intOf i).toNat)
      case atStart => exact stt.out
      case round =>
        obtain ⟨k, rfl, hk, hok⟩ := hrel
        simp only at hk hok
        by_cases hlt : k < nl
        · obtain ⟨r, hr⟩ : ∃ r, L[k]? = some r := ⟨_, List.getElem?_eq_getElem (by omega)⟩
          obtain ⟨ad, Ai, ci, rfl, hc⟩ := P.out k r hr
          by_cases h2 : r.length ≤ 100
          · have e2 : decide ((100 : Int) < (r.length : Int)) = false := decide_eq_false (by omega)
            have nx : Hid (FwAt ⟨kind, n, A, m, c, bs, some ad, nl, cl, L⟩ (.int .i64 ((k : Int) + 1))) := ⟨k + 1, by simp, hlt, fun x hx => by
              have hx2 : x ∈ L.take k ++ [r] := by
                have e3 : L.take (k + 1) = L.take k ++ [r] := by rw [List.take_add_one, hr]; rfl
                rw [← e3]; exact hx
              rcases List.mem_append.1 hx2 with hx | hx
              · exact hok x hx
              · rw [List.mem_singleton.1 hx]; exact h2⟩
            clear hr h2 hok
            go_wp2
            exact ⟨nx.out, by simp [intOf]; omega⟩
          · have e2 : decide ((100 : Int) < (r.length : Int)) = true := decide_eq_true (by omega)
            clear hr h2 hok
            go_wp2
            go_ret
            exact ⟨_, rfl, fun h => (by cases h), b1.out⟩
        · obtain rfl : k = nl := by omega
          rw [List.take_of_length_le (by omega)] at hok
          have F : Hid (Few ⟨kind, n, A, m, c, bs, Al, k, cl, l⟩) := FD.out.2 ⟨hz, hz2, hok⟩
          clear hok FD
          go_wp2
          go_ret
          exact ⟨_, rfl, fun _ => F.out, b1.out⟩
    · have d2 : decide ((6 : Int) < (nl : Int)) = true := decide_eq_true (by omega)
      go_enter Tryz.func7, Tryz.ntmps7
      go_upto_region 1 with (fail)
      rw [← hw1]
      clear hw1
      go_wp2
      go_ret
      exact ⟨_, rfl, fun h => (by cases h), b1.out⟩
  · have d1 : decide ((100 : Int) < (m : Int)) = true := decide_eq_true (by omega)
    go_enter Tryz.func7, Tryz.ntmps7
    go_upto_region 1 with (fail)
    rw [← hw1]
    clear hw1
    go_wp2
    go_ret
    exact ⟨_, rfl, fun h => (by cases h), b1.out⟩
end Se
end Go.Proofs.YtbolcapgocjgcaaGreatDoor
