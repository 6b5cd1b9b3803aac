/- What a log's disk looks like between its calls, and what each call makes of it. No program. -/
import Derived.Test.YtbolcapgocjgcaaDoorSeM
namespace Go.Proofs.YtbolcapgocjgcaaDoor
set_option maxRecDepth 100000
open Go.Proofs.YtbolcapgocjgcaaDoor.Pk
namespace Se
open Fr (Goes Got frame frames)
open Dk (Bs used sApp sSync sCut sRen sRem sCrash good)

/-- The files "log" and "snap", all of the latter synced. -/
def raw (s : Option Bs) (l : Option (Bs × Nat)) : Dk.St := (l.elim [] fun x => [(logN, x.1, x.2)]) ++ (s.elim [] fun b => [(snapN, b, b.length)])
section
variable (s : Option Bs) (l : Option (Bs × Nat))
theorem raw_log : Dk.look logN (raw s l) = l := by
  cases l <;> cases s <;> simp [raw, Dk.look, logN, snapN]
theorem raw_snap : Dk.look snapN (raw s l) = s.map fun b => (b, b.length) := by
  cases l <;> cases s <;> simp [raw, Dk.look, logN, snapN]
theorem raw_next : Dk.look nextN (raw s l) = none := by
  cases l <;> cases s <;> simp [raw, Dk.look, logN, snapN, nextN]
theorem raw_used : used (raw s l) = (l.elim 0 fun x => x.1.length) + s.elim 0 (·.length) := by
  cases l <;> cases s <;> simp [raw, used, Dk.sum]
theorem raw_len : (raw s l).length ≤ 2 := by
  cases l <;> cases s <;> simp [raw]
theorem raw_put (b : Bs) (k : Nat) : Dk.put logN (b, k) (raw s l) = raw s (some (b, k)) := by
  cases l <;> cases s <;> simp [raw, Dk.put, logN, snapN, bytesBefore]
theorem raw_rem : (sRem (raw s l) nextN).2 = raw s l := by
  unfold sRem
  rw [raw_next]
  rfl
theorem raw_bofl : bof logN (raw s l) = l.elim [] (·.1) := by unfold bof; rw [raw_log]
theorem raw_bofs : bof snapN (raw s l) = s.getD [] := by
  unfold bof; rw [raw_snap]; cases s <;> rfl
theorem raw_syn : syn snapN (raw s l) = s.elim 0 (·.length) := by
  unfold syn; rw [raw_snap]; cases s <;> rfl
theorem raw_cut (k : Nat) (hk : k ≤ l.elim 0 fun x => x.1.length) : (sCut (raw s l) logN (k : Int)).2 = raw s (l.map fun x => (x.1.take k, k)) := by
  unfold sCut
  rw [raw_log]
  cases l with
  | none => rfl
  | some x =>
    simp only [Option.elim] at hk
    simp only [Option.elim, Option.map]
    rw [if_neg (by omega)]
    simp only [Int.toNat_natCast]
    rw [raw_put]
theorem raw_sync : (sSync (raw s l) logN).2 = raw s (l.map fun x => (x.1, x.1.length)) := by
  unfold sSync
  rw [raw_log]
  cases l with
  | none => rfl
  | some x =>
    simp only [Option.elim, Option.map]
    rw [raw_put]
theorem raw_app (room : Nat) (x : Bs) : sApp room (raw s l) logN x = if room - used (raw s l) < x.length then (4, raw s l) else (0, raw s (some ((l.elim [] (·.1)) ++ x, l.elim 0 (·.2)))) := by
  unfold sApp
  rw [if_neg (by decide), raw_log]
  split
  · rfl
  · rw [raw_put]
theorem raw_rep (room : Nat) (g : Int) (b : Bs) : pRep room (raw s l) g b = if room - used (raw s l) < (sealOf g b).length then (4, raw s l) else (0, raw (some (sealOf g b)) l) := by
  unfold pRep
  rw [raw_rem]
  have ha : sApp room (raw s l) nextN (sealOf g b) = if room - used (raw s l) < (sealOf g b).length then (4, raw s l) else (0, Dk.put nextN (sealOf g b, 0) (raw s l)) := by
    unfold sApp
    rw [if_neg (show ¬ good nextN = false by decide), raw_next]
    rfl
  rw [ha]
  generalize sealOf g b = z
  split
  · rfl
  · simp only
    rw [if_pos trivial]
    have h1 : (sSync (Dk.put nextN (z, 0) (raw s l)) nextN).2 = Dk.put nextN (z, z.length) (raw s l) := by
      unfold sSync
      rw [Dk.look_put_same]
      simp only [Option.elim]
      cases l <;> cases s <;> simp [raw, Dk.put, logN, snapN, nextN, bytesBefore]
    rw [h1]
    unfold sRen
    rw [Dk.look_put_same]
    simp only [Option.elim]
    rw [if_neg (show ¬ good snapN = false by decide)]
    simp only
    congr 1
    cases l <;> cases s <;> simp [raw, Dk.put, Dk.del, logN, snapN, nextN, bytesBefore]
theorem raw_crash (keep : Int) : sCrash keep (raw s l) = raw s (l.map fun x => (x.1.take (x.2 + min (max keep 0).toNat (x.1.length - x.2)), x.2 + min (max keep 0).toNat (x.1.length - x.2))) := by
  cases l <;> cases s <;> simp [raw, sCrash, Dk.vals, Dk.cr]
end

/-- What a file of that generation has: nothing, or its frame and those of l. -/
def cnt (g : Nat) : Option (List Bs) → Bs
  | none => []
  | some l => frames (Pk.encI g :: l)
theorem cnt_some (g : Nat) (l : List Bs) : cnt g (some l) = sealOf g (frames l) := rfl
theorem enc_ok (g : Nat) (hg : g ≤ 4611686018427387904) : 1 ≤ (Pk.encI g).length ∧ (Pk.encI g).length ≤ 10 := ⟨enc_ne _, encI_len _ (by omega) (by omega)⟩
theorem rdf_emp : rdf [] = (0, [], 0) := by
  have h : recs [] = ([], 0) := recs_eq ⟨rfl, Fr.one_short (by simp)⟩
  unfold rdf; rw [h]
theorem ok_cons {g : Nat} {l : List Bs} (hg : g ≤ 4611686018427387904) (h : Fr.Ok l) : Fr.Ok (Pk.encI g :: l) := by
  intro r hr
  rcases List.mem_cons.1 hr with rfl | hr
  · have := enc_ok g hg; omega
  · exact h r hr
theorem rdf_cnt {g : Nat} {l : List Bs} (hg : g ≤ 4611686018427387904) (h : Fr.Ok l) : rdf (cnt g (some l)) = ((g : Int), l, (cnt g (some l)).length) := by
  have e := Fr.got_frames (t := []) (ok_cons hg h) (Fr.one_short (by simp))
  rw [List.append_nil] at e
  unfold rdf
  have e2 : recs (cnt g (some l)) = (Pk.encI g :: l, (cnt g (some l)).length) := recs_eq e
  rw [e2]
  simp only
  rw [numOf_enc (by omega) (by omega)]
theorem cut_got {l : List Bs} {k j : Nat} (h : Fr.Ok l) (h1 : (frames (l.take j)).length ≤ k) (h2 : l.length ≤ j ∨ k < (frames (l.take (j + 1))).length) : Got ((frames l).take k) (l.take j) (frames (l.take j)).length := by
  have e : (frames l).take k = frames (l.take j) ++ (frames (l.drop j)).take (k - (frames (l.take j)).length) := by
    have ha : frames l = frames (l.take j) ++ frames (l.drop j) := by
      have : ∀ a b : List Bs, frames (a ++ b) = frames a ++ frames b := by
        intro a b
        induction a with
        | nil => rfl
        | cons x t ih => show frame x ++ frames (t ++ b) = (frame x ++ frames t) ++ frames b; rw [ih, List.append_assoc]
      rw [← this, List.take_append_drop]
    conv => lhs; rw [ha]
    rw [List.take_append, List.take_of_length_le h1]
  rw [e]
  refine Fr.got_frames (fun r hr => h r (List.mem_of_mem_take hr)) ?_
  rcases Nat.lt_or_ge j l.length with hlt | hge
  · have h3 := h2.resolve_left (by omega)
    obtain ⟨r, hr⟩ : ∃ r, l[j]? = some r := ⟨_, List.getElem?_eq_getElem hlt⟩
    have e2 : l.take (j + 1) = l.take j ++ [r] := by rw [List.take_add_one, hr]; rfl
    rw [e2, Fr.frames_snoc, List.length_append, Fr.frame_len] at h3
    rw [List.drop_eq_getElem_cons hlt, (List.getElem?_eq_some_iff.1 hr).2]
    show Fr.one ((frame r ++ frames (l.drop (j + 1))).take _) = none
    exact Fr.one_cut (h r (List.mem_of_getElem? hr)).2 (by omega)
  · rw [List.drop_of_length_le hge]
    exact Fr.one_short (by simp [frames])
/-- So many whole frames lie within the first k bytes. -/
theorem cut_ex (l : List Bs) (k : Nat) : ∃ j, j ≤ l.length ∧ (frames (l.take j)).length ≤ k ∧ (l.length ≤ j ∨ k < (frames (l.take (j + 1))).length) := by
  induction l generalizing k with
  | nil => exact ⟨0, Nat.le_refl _, by simp [frames], .inl (Nat.le_refl _)⟩
  | cons r t ih =>
    by_cases hr : (frame r).length ≤ k
    · obtain ⟨j, h1, h2, h3⟩ := ih (k - (frame r).length)
      refine ⟨j + 1, by simp; omega, ?_, ?_⟩
      · show (frame r ++ frames (t.take j)).length ≤ k
        rw [List.length_append]; omega
      · rcases h3 with h3 | h3
        · exact .inl (by simp; omega)
        · refine .inr ?_
          show k < (frame r ++ frames (t.take (j + 1))).length
          rw [List.length_append]; omega
    · refine ⟨0, Nat.zero_le _, by simp [frames], .inr ?_⟩
      show k < (frame r ++ frames (t.take 0)).length
      rw [List.length_append]; omega
theorem take_frames {l : List Bs} {j k : Nat} (h : (frames (l.take j)).length ≤ k) : ((frames l).take k).take (frames (l.take j)).length = frames (l.take j) := by
  have ha : frames l = frames (l.take j) ++ frames (l.drop j) := by
    have : ∀ a b : List Bs, frames (a ++ b) = frames a ++ frames b := by
      intro a b
      induction a with
      | nil => rfl
      | cons x t ih => show frame x ++ frames (t ++ b) = (frame x ++ frames t) ++ frames b; rw [ih, List.append_assoc]
    rw [← this, List.take_append_drop]
  rw [List.take_take, Nat.min_eq_left h]
  conv => lhs; rw [ha]
  rw [List.take_left' rfl]

/-- A log: its generation, its state if there is one, "log" if there is one (what it has, how much is synced). -/
structure Ab where
  g : Nat
  s : Option (List Bs)
  lg : Option (Option (List Bs) × Nat)
def Ab.snp (a : Ab) : Option Bs := a.s.map fun st => cnt a.g (some st)
def Ab.L (a : Ab) : Dk.St := raw a.snp (a.lg.map fun x => (cnt a.g x.1, x.2))
def Ab.con (a : Ab) : Option (List Bs) := a.lg.elim none (·.1)
def Ab.rc (a : Ab) : List Bs := a.con.getD []
def Ab.sy (a : Ab) : Nat := a.lg.elim 0 (·.2)
def Ab.st (a : Ab) : List Bs := a.s.getD []
structure Ab.Ok (a : Ab) : Prop where
  none_ : a.s = none → a.g = 0
  g : a.g ≤ 4611686018427387903
  st : Fr.Ok a.st
  rc : Fr.Ok a.rc
  syn : a.sy ≤ (cnt a.g a.con).length
def Ab.put (a : Ab) (b : Bs) : Ab := ⟨a.g, a.s, some (some (a.rc ++ [b]), a.sy)⟩
def Ab.sync (a : Ab) : Ab := ⟨a.g, a.s, a.lg.map fun x => (x.1, (cnt a.g x.1).length)⟩
def Ab.save (a : Ab) (st : List Bs) : Ab := ⟨a.g + 1, some st, a.lg.map fun _ => (none, 0)⟩
def ab0 : Ab := ⟨0, none, none⟩
theorem ab0_L : ab0.L = [] := rfl
theorem ab0_ok : ab0.Ok := ⟨fun _ => rfl, by decide, (fun r h => by cases h), (fun r h => by cases h), by decide⟩
section
variable {a : Ab} (h : a.Ok)
include h
theorem Ab.Ok.snap : rdf (bof snapN a.L) = ((a.g : Int), a.st, ((a.snp).getD []).length) := by
  have hg := h.g
  unfold Ab.L
  rw [raw_bofs]
  unfold Ab.snp Ab.st
  cases e : a.s with
  | none =>
    have := h.none_ e
    rw [this]
    exact rdf_emp
  | some st =>
    have hs : Fr.Ok st := by have := h.st; unfold Ab.st at this; rw [e] at this; exact this
    exact rdf_cnt (by omega) hs
theorem Ab.Ok.gen : genOf a.L = a.g := by unfold genOf; rw [h.snap]
theorem Ab.Ok.con_ok (l : List Bs) (e : a.con = some l) : Fr.Ok l := by
  have := h.rc
  unfold Ab.rc at this
  rw [e] at this
  exact this
omit h in
theorem Ab.emp : emptyOf a.rc.length a.L = a.con.isNone := by
  have hlog : bof logN a.L = cnt a.g a.con := by
    unfold Ab.L
    rw [raw_bofl]
    unfold Ab.con
    cases a.lg <;> rfl
  have hc : ∀ l, 0 < (cnt a.g (some l)).length := fun l => by rw [cnt_some, sealOf_len]; omega
  have hu : Se.syn snapN a.L + (cnt a.g a.con).length = used a.L := by
    unfold Ab.L
    rw [raw_used, raw_syn, Nat.add_comm]
    congr 1
    unfold Ab.con
    cases a.lg <;> rfl
  unfold emptyOf
  rw [hlog]
  cases e : a.con with
  | none =>
    rw [if_neg]
    · rfl
    · rintro ⟨h1, _⟩
      unfold Ab.rc at h1
      rw [e] at h1
      simp at h1
  | some l =>
    rw [e] at hu
    have := hc l
    by_cases hn : 0 < a.rc.length
    · rw [if_pos ⟨hn, by omega⟩]; rfl
    · rw [if_neg (fun h => hn h.1)]
      cases hq : cnt a.g (some l) with
      | nil => rw [hq] at this; simp at this
      | cons x t => rfl
omit h in
theorem Ab.put_no (room : Nat) {b : Bs} (hb : ¬ (1 ≤ b.length ∧ b.length ≤ 1000)) : pPut room a.L a.rc.length b = (1, a.L, a.rc.length) := by
  unfold pPut
  rw [if_neg hb]
/-- What a record takes. -/
def Ab.cost (a : Ab) (b : Bs) : Nat := (if a.con.isNone then (Pk.encI a.g).length + 6 else 0) + (b.length + 6)
theorem Ab.Ok.put_yes (room : Nat) {b : Bs} (hb : 1 ≤ b.length ∧ b.length ≤ 1000) :
    pPut room a.L a.rc.length b = if room - used a.L < a.cost b then (4, a.L, a.rc.length) else (0, (a.put b).L, (a.put b).rc.length) := by
  unfold pPut
  rw [if_pos hb, Ab.emp, h.gen]
  simp only
  have hx : ∀ x : Bs, sApp room a.L logN x = if room - used a.L < x.length then (4, a.L) else (0, raw a.snp (some (cnt a.g a.con ++ x, a.sy))) := fun x => by
    have e := raw_app a.snp (a.lg.map fun x => (cnt a.g x.1, x.2)) room x
    refine e.trans ?_
    show (if room - used a.L < x.length then _ else _) = _
    congr 3
    unfold Ab.con Ab.sy
    cases a.lg <;> rfl
  rw [hx]
  have e1 : (if a.con.isNone then sealOf a.g (frame b) else frame b).length = a.cost b := by
    unfold Ab.cost
    split
    · rw [sealOf_len, Fr.frame_len]
    · rw [Fr.frame_len]; omega
  have e2 : cnt a.g a.con ++ (if a.con.isNone then sealOf a.g (frame b) else frame b) = cnt a.g (some (a.rc ++ [b])) := by
    unfold Ab.rc
    cases e : a.con with
    | none =>
      show [] ++ sealOf a.g (frame b) = frames (Pk.encI a.g :: ([] ++ [b]))
      simp [sealOf, frames]
    | some l =>
      show frames (Pk.encI a.g :: l) ++ frame b = frames (Pk.encI a.g :: (l ++ [b]))
      rw [← Fr.frames_snoc]
      rfl
  rw [e1, e2]
  have e3 : (a.put b).rc.length = a.rc.length + 1 := by simp [Ab.put, Ab.rc, Ab.con]
  rw [e3]
  split
  · simp
  · simp only [if_true]
    rfl
theorem Ab.Ok.put {b : Bs} (hb : 1 ≤ b.length ∧ b.length ≤ 1000) : (a.put b).Ok := by
  refine ⟨h.none_, h.g, h.st, ?_, ?_⟩
  · intro r hr
    have : r ∈ a.rc ++ [b] := hr
    rcases List.mem_append.1 this with hr | hr
    · exact h.rc r hr
    · rw [List.mem_singleton.1 hr]; exact hb
  · show a.sy ≤ (cnt a.g (some (a.rc ++ [b]))).length
    have h1 := h.syn
    unfold Ab.rc
    cases e : a.con with
    | none =>
      rw [e] at h1
      have : a.sy ≤ 0 := h1
      omega
    | some l =>
      rw [e] at h1
      have : cnt a.g (some (l ++ [b])) = cnt a.g (some l) ++ frame b := Fr.frames_snoc (Pk.encI a.g :: l) b
      show a.sy ≤ (cnt a.g (some (l ++ [b]))).length
      rw [this, List.length_append]
      omega
omit h in
theorem Ab.sync_L : pSync a.L = a.sync.L := by
  unfold pSync Ab.L
  rw [raw_sync]
  unfold Ab.sync Ab.snp
  simp only [Option.map_map]
  rfl
theorem Ab.Ok.sync : a.sync.Ok := by
  have hc : a.sync.con = a.con := by unfold Ab.sync Ab.con; cases a.lg <;> rfl
  refine ⟨h.none_, h.g, h.st, ?_, ?_⟩
  · unfold Ab.rc; rw [hc]; exact h.rc
  · rw [hc]
    unfold Ab.sy Ab.con
    show (a.lg.map fun x => (x.1, (cnt a.g x.1).length)).elim 0 (·.2) ≤ _
    cases a.lg with
    | none => exact Nat.zero_le _
    | some x => exact Nat.le_refl _
omit h in
theorem Ab.save_no (room : Nat) {st : List Bs} (hb : ¬ Fr.Ok st) : pSave room a.L a.rc.length st = (1, a.L, a.rc.length) := by
  unfold pSave
  rw [if_neg (show ¬ ∀ r ∈ st, 1 ≤ r.length ∧ r.length ≤ 1000 from hb)]
theorem Ab.Ok.save_yes (room : Nat) {st : List Bs} (hb : Fr.Ok st) :
    pSave room a.L a.rc.length st = if room - used a.L < (cnt (a.g + 1) (some st)).length then (4, a.L, a.rc.length) else (0, (a.save st).L, (a.save st).rc.length) := by
  unfold pSave
  rw [if_pos (show ∀ r ∈ st, 1 ≤ r.length ∧ r.length ≤ 1000 from hb), h.gen]
  have e := raw_rep a.snp (a.lg.map fun x => (cnt a.g x.1, x.2)) room ((a.g : Int) + 1) (frames st)
  have e0 : pRep room a.L ((a.g : Int) + 1) (frames st) = if room - used a.L < (cnt (a.g + 1) (some st)).length then (4, a.L) else (0, raw (some (cnt (a.g + 1) (some st))) (a.lg.map fun x => (cnt a.g x.1, x.2))) := by
    rw [cnt_some]
    have : ((a.g + 1 : Nat) : Int) = (a.g : Int) + 1 := by omega
    rw [this]
    exact e
  rw [e0]
  split
  · simp
  · simp only [if_true]
    have e1 := raw_cut (some (cnt (a.g + 1) (some st))) (a.lg.map fun x => (cnt a.g x.1, x.2)) 0 (Nat.zero_le _)
    have e2 : (a.save st).rc.length = 0 := by unfold Ab.save Ab.rc Ab.con; cases a.lg <;> rfl
    rw [e2]
    have e3 : (sCut (raw (some (cnt (a.g + 1) (some st))) (a.lg.map fun x => (cnt a.g x.1, x.2))) logN 0).2 = (a.save st).L := by
      refine e1.trans ?_
      unfold Ab.L Ab.save Ab.snp
      cases a.lg <;> rfl
    rw [e3]
omit h in
theorem Ab.save_ok {st : List Bs} (hb : Fr.Ok st) (hg : a.g + 1 ≤ 4611686018427387903) : (a.save st).Ok := by
  have hc : (a.save st).con = none := by unfold Ab.save Ab.con; cases a.lg <;> rfl
  refine ⟨(fun e => by cases e), hg, hb, ?_, ?_⟩
  · unfold Ab.rc; rw [hc]; exact fun r hr => by cases hr
  · have : (a.save st).sy = 0 := by unfold Ab.save Ab.sy; cases a.lg <;> rfl
    rw [this]; exact Nat.zero_le _
/-- Open, of a disk with this state and a file "log" that reads so. -/
theorem Ab.Ok.open_of {x : Option (Bs × Nat)} {rc : List Bs} {e : Nat} {gl : Int} (hx : rdf (x.elim [] (·.1)) = (gl, rc, e)) :
    pOpen (raw a.snp x) = if gl = a.g then (raw a.snp (x.map fun y => (y.1.take e, e)), a.st, rc) else (raw a.snp (x.map fun _ => ([], 0)), a.st, []) := by
  have hs := h.snap
  unfold Ab.L at hs
  rw [raw_bofs] at hs
  have hle := rdf_le (x.elim [] (·.1))
  rw [hx] at hle
  have hle2 : e ≤ x.elim 0 fun y => y.1.length := by cases x <;> exact hle
  unfold pOpen
  simp only [raw_rem, raw_bofs, raw_bofl, hs, hx]
  split
  · rw [raw_cut _ _ _ hle2]
  · have := raw_cut a.snp x 0 (Nat.zero_le _)
    have e2 : (sCut (raw a.snp x) logN (0 : Nat)).2 = raw a.snp (x.map fun _ => ([], 0)) := by
      rw [this]; cases x <;> rfl
    simp only
    rw [e2]
theorem Ab.Ok.open_ : pOpen a.L = (a.sync.L, a.st, a.rc) := by
  have hg := h.g
  have hL : a.L = raw a.snp (a.lg.map fun x => (cnt a.g x.1, x.2)) := rfl
  rw [hL]
  cases e : a.lg with
  | none =>
    have := h.open_of (x := none) (rc := []) (e := 0) (gl := 0) rdf_emp
    simp only [Option.map]
    rw [this]
    have e1 : a.rc = [] := by unfold Ab.rc Ab.con; rw [e]; rfl
    have e2 : a.sync.L = raw a.snp none := by unfold Ab.L Ab.sync Ab.snp; rw [e]; rfl
    rw [e1, e2]
    split <;> rfl
  | some x =>
    obtain ⟨c, k⟩ := x
    have e2 : a.sync.L = raw a.snp (some (cnt a.g c, (cnt a.g c).length)) := by unfold Ab.L Ab.sync Ab.snp; rw [e]; rfl
    rw [e2]
    cases c with
    | none =>
      have := h.open_of (x := some ([], k)) (rc := []) (e := 0) (gl := 0) rdf_emp
      have e1 : a.rc = [] := by unfold Ab.rc Ab.con; rw [e]; rfl
      rw [e1]
      refine Eq.trans this ?_
      split <;> rfl
    | some l =>
      have hc : a.con = some l := by unfold Ab.con; rw [e]; rfl
      have := h.open_of (x := some (cnt a.g (some l), k)) (rdf_cnt (by omega) (h.con_ok l hc))
      have e1 : a.rc = l := by unfold Ab.rc; rw [hc]; rfl
      rw [e1]
      refine Eq.trans this ?_
      rw [if_pos rfl]
      simp
/-- Behind a crash: a beginning. -/
theorem Ab.Ok.crash_open (keep : Int) : ∃ c : Option (List Bs), pOpen (sCrash keep a.L) = ((⟨a.g, a.s, a.lg.map fun _ => (c, (cnt a.g c).length)⟩ : Ab).L, a.st, c.getD []) ∧
    (c = none ∨ ∃ j, j ≤ a.rc.length ∧ c = some (a.rc.take j)) ∧ (a.lg = none → c = none) ∧ (cnt a.g c).length ≤ a.sy + min (max keep 0).toNat ((cnt a.g a.con).length - a.sy) ∧
    (∀ j, j ≤ a.rc.length → a.con ≠ none → (cnt a.g (some (a.rc.take j))).length ≤ a.sy + min (max keep 0).toNat ((cnt a.g a.con).length - a.sy) → j ≤ (c.getD []).length) := by
  have hg := h.g
  have hL : a.L = raw a.snp (a.lg.map fun x => (cnt a.g x.1, x.2)) := rfl
  rw [hL, raw_crash]
  simp only [Option.map_map]
  cases e : a.lg with
  | none =>
    have := h.open_of (x := none) (rc := []) (e := 0) (gl := 0) rdf_emp
    refine ⟨none, ?_, .inl rfl, fun _ => rfl, Nat.zero_le _, fun j _ hc => ?_⟩
    · refine Eq.trans this ?_
      split <;> rfl
    · exact absurd (by unfold Ab.con; rw [e]; rfl) hc
  | some x =>
    obtain ⟨c, k⟩ := x
    have hk : a.sy = k := by unfold Ab.sy; rw [e]; rfl
    have hcc : a.con = c := by unfold Ab.con; rw [e]; rfl
    rw [hk, hcc]
    simp only [Option.map, Function.comp]
    obtain ⟨m, hm⟩ : ∃ m, m = k + min (max keep 0).toNat ((cnt a.g c).length - k) := ⟨_, rfl⟩
    rw [← hm]
    cases c with
    | none =>
      have := h.open_of (x := some ([], m)) (rc := []) (e := 0) (gl := 0) rdf_emp
      refine ⟨none, ?_, .inl rfl, fun _ => rfl, Nat.zero_le _, fun j _ hc => absurd rfl hc⟩
      have e3 : List.take m (cnt a.g none) = [] := by simp [cnt]
      rw [e3]
      refine Eq.trans this ?_
      split <;> rfl
    | some l =>
      have hrc : a.rc = l := by unfold Ab.rc; rw [hcc]; rfl
      rw [hrc]
      have hok := ok_cons (by omega : a.g ≤ 4611686018427387904) (h.con_ok l hcc)
      obtain ⟨j, hj1, hj2, hj3⟩ := cut_ex (Pk.encI a.g :: l) m
      have hgot := recs_eq (cut_got hok hj2 hj3)
      cases j with
      | zero =>
        have hr : rdf ((cnt a.g (some l)).take m) = (0, [], 0) := by
          unfold rdf
          have : recs ((cnt a.g (some l)).take m) = _ := hgot
          rw [this]; rfl
        have := h.open_of (x := some ((cnt a.g (some l)).take m, m)) hr
        refine ⟨none, ?_, .inl rfl, (fun e => by cases e), Nat.zero_le _, fun i hi _ hle => ?_⟩
        · refine Eq.trans this ?_
          simp only [Option.map, List.take_zero]
          split <;> rfl
        · exfalso
          rcases hj3 with hj3 | hj3
          · simp at hj3
          · have : (cnt a.g (some (l.take i))).length = (frames (Pk.encI a.g :: l.take i)).length := rfl
            have e4 : (frames (Pk.encI a.g :: l.take i)).length = (frame (Pk.encI a.g)).length + (frames (l.take i)).length := List.length_append ..
            have e5 : (frames ((Pk.encI a.g :: l).take (0 + 1))).length = (frame (Pk.encI a.g)).length := by
              show (frame (Pk.encI a.g) ++ frames (l.take 0)).length = _
              rw [List.length_append]; rfl
            omega
      | succ j =>
        have hr : rdf ((cnt a.g (some l)).take m) = ((a.g : Int), l.take j, (cnt a.g (some (l.take j))).length) := by
          unfold rdf
          have : recs ((cnt a.g (some l)).take m) = _ := hgot
          rw [this]
          simp only [List.take_succ_cons]
          rw [numOf_enc (by omega) (by omega)]
          rfl
        have := h.open_of (x := some ((cnt a.g (some l)).take m, m)) hr
        have hjl : j ≤ l.length := by simpa using hj1
        refine ⟨some (l.take j), ?_, .inr ⟨j, hjl, rfl⟩, (fun e => by cases e), hj2, fun i hi _ hle => ?_⟩
        · refine Eq.trans this ?_
          rw [if_pos rfl]
          have e3 : ((cnt a.g (some l)).take m).take (cnt a.g (some (l.take j))).length = cnt a.g (some (l.take j)) := take_frames (l := Pk.encI a.g :: l) (j := j + 1) hj2
          simp only [Option.map]
          rw [e3]
          rfl
        · simp only [Option.getD, List.length_take, Nat.min_eq_left hjl]
          rcases hj3 with hj3 | hj3
          · have : l.length ≤ j := by simpa using hj3
            omega
          · rcases Nat.lt_or_ge j i with hlt | hge
            · exfalso
              have mono : ∀ x y, x ≤ y → (frames (l.take x)).length ≤ (frames (l.take y)).length := by
                intro x y hxy
                have e : l.take x = (l.take y).take x := by rw [List.take_take, Nat.min_eq_left hxy]
                have hz : frames (l.take y) = frames ((l.take y).take x) ++ frames ((l.take y).drop x) := by
                  have : ∀ a b : List Bs, frames (a ++ b) = frames a ++ frames b := by
                    intro a b
                    induction a with
                    | nil => rfl
                    | cons x t ih => show frame x ++ frames (t ++ b) = (frame x ++ frames t) ++ frames b; rw [ih, List.append_assoc]
                  rw [← this, List.take_append_drop]
                rw [hz, List.length_append, ← e]
                omega
              have e4 : (cnt a.g (some (l.take i))).length = (frame (Pk.encI a.g)).length + (frames (l.take i)).length := List.length_append ..
              have e5 : (frames ((Pk.encI a.g :: l).take (j + 1 + 1))).length = (frame (Pk.encI a.g)).length + (frames (l.take (j + 1))).length := List.length_append ..
              have := mono (j + 1) i hlt
              omega
            · exact hge
end
end Se
end Go.Proofs.YtbolcapgocjgcaaDoor
