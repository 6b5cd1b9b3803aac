/- The calls of seal upon a log's own disk. -/
import Derived.Test.YtbolcapgocjgcaaDoorSeH
import Derived.Test.YtbolcapgocjgcaaDoorSeN
import Derived.Test.YtbolcapgocjgcaaDoorDkT
namespace Go.Proofs.YtbolcapgocjgcaaDoor
set_option maxRecDepth 100000
open Go.RowKit
open Go.Proofs.YtbolcapgocjgcaaDoor.Pk
namespace Se
open Dk (Bs Live LTo nm used sCrash)
open Fr (frames frame)

theorem Ab.len_L (a : Ab) : a.L.length ≤ 2 := raw_len _ _
theorem Ab.used_eq (a : Ab) : used a.L = (a.snp.getD []).length + (cnt a.g a.con).length := by
  unfold Ab.L
  rw [raw_used, Nat.add_comm]
  congr 1
  · cases a.snp <;> rfl
  · unfold Ab.con
    cases a.lg <;> rfl
theorem frames_ge (l : List Bs) : l.length ≤ (frames l).length := by
  induction l with
  | nil => exact Nat.le_refl _
  | cons r t ih =>
    show t.length + 1 ≤ (frame r ++ frames t).length
    rw [List.length_append, Fr.frame_len]
    omega
theorem Ab.rc_le (a : Ab) : a.rc.length ≤ used a.L := by
  rw [Ab.used_eq]
  unfold Ab.rc
  cases a.con with
  | none => exact Nat.zero_le _
  | some l =>
    have := frames_ge l
    rw [cnt_some, sealOf_len]
    simp only [Option.getD]
    omega
theorem cnt_le {g M : Nat} {l : List Bs} (hg : g ≤ 4611686018427387904) (h : ∀ r ∈ l, 1 ≤ r.length ∧ r.length ≤ M) : (cnt g (some l)).length ≤ 16 + l.length * (M + 6) := by
  have h1 := Fr.frames_len_le l h
  have h2 := enc_ok g hg
  rw [cnt_some, sealOf_len]
  omega
theorem cnt_len {g : Nat} {l : List Bs} : (cnt g (some l)).length = (Pk.encI g).length + 6 + (frames l).length := by rw [cnt_some, sealOf_len]
/-- All is synced: a crash takes nothing. -/
theorem crash_all {a : Ab} (keep : Int) (h : a.sy = (cnt a.g a.con).length) : sCrash keep a.L = a.L := by
  unfold Ab.L
  rw [raw_crash]
  unfold Ab.sy Ab.con at h
  cases e : a.lg with
  | none => rfl
  | some x =>
    rw [e] at h
    simp only [Option.elim] at h
    simp only [Option.map]
    rw [h]
    simp
theorem sync_sy (a : Ab) : a.sync.sy = (cnt a.sync.g a.sync.con).length := by
  unfold Ab.sync Ab.sy Ab.con
  cases a.lg <;> rfl
theorem sync_rc (a : Ab) : a.sync.rc = a.rc := by
  unfold Ab.sync Ab.rc Ab.con
  cases a.lg <;> rfl
theorem sync_con (a : Ab) : a.sync.con = a.con := by
  unfold Ab.sync Ab.con
  cases a.lg <;> rfl
theorem sync_idem (a : Ab) : a.sync.sync = a.sync := by
  unfold Ab.sync
  cases a.lg <;> rfl

section
variable {B w : World} {p room q : Nat} {a : Ab} {X : Nat → Prop}
theorem a_put (G : Lg B w p room a.L X q a.rc.length) (ok : a.Ok) (hB : Tab B) {T : Nat → Prop} (A : Option Addr) (m c : Nat) (b : Bs) (R : Rb w T A m b) (hT : ∀ g, T g → g < w.heap.size) (hm : m ≤ 9223372036854775807) (hb : 1 ≤ b.length ∧ b.length ≤ 1000) (hf : used a.L + a.cost b ≤ room) :
    Calls Tryd.prog 11 #[.pointer (some ⟨q, 0, none⟩), .slice A m c] w fun e w' => e = .returned (.int .i64 0) ∧ LgTo B w p room (a.put b).L X q (a.put b).rc.length w' := by
  have h1 := G.live.fits
  have h2 := a.rc_le
  have := put_any G hB A m c b R hT hm (by have := a.len_L; omega) (by omega)
  rw [ok.put_yes room hb, if_neg (by omega)] at this
  exact this
theorem a_full (G : Lg B w p room a.L X q a.rc.length) (ok : a.Ok) (hB : Tab B) {T : Nat → Prop} (A : Option Addr) (m c : Nat) (b : Bs) (R : Rb w T A m b) (hT : ∀ g, T g → g < w.heap.size) (hm : m ≤ 9223372036854775807) (hb : 1 ≤ b.length ∧ b.length ≤ 1000) (hf : room < used a.L + a.cost b) :
    Calls Tryd.prog 11 #[.pointer (some ⟨q, 0, none⟩), .slice A m c] w fun e w' => e = .returned (.int .i64 4) ∧ LgTo B w p room a.L X q a.rc.length w' := by
  have h1 := G.live.fits
  have h2 := a.rc_le
  have := put_any G hB A m c b R hT hm (by have := a.len_L; omega) (by omega)
  rw [ok.put_yes room hb, if_pos (by omega)] at this
  exact this
set_option maxHeartbeats 400000 in
theorem put_bad {w : World} {q p n : Nat} (h : LogAt w q p n) (A : Option Addr) (m c : Nat) (hm : m ≤ 9223372036854775807) (hb : ¬ (1 ≤ m ∧ m ≤ 1000)) :
    Calls Tryd.prog 11 #[.pointer (some ⟨q, 0, none⟩), .slice A m c] w fun e w' => e = .returned (.int .i64 1) ∧ w = w' := by
  have N := Lib.hid (none_no w q p n h)
  have P := Lib.hid (Fr.put_no w A m c hm (by omega))
  clear h hb
  go_enter Tryd.func11, Tryd.ntmps11
  go_wp2_with fail
  refine N.out.mono ?_
  rintro e w' ⟨rfl, rfl⟩
  go_wp2_with fail
  refine P.out.mono ?_
  rintro e w' ⟨rfl, rfl⟩
  go_wp2
  go_ret
  exact ⟨rfl, rfl⟩
theorem a_sync (G : Lg B w p room a.L X q a.rc.length) : Calls Tryd.prog 12 #[.pointer (some ⟨q, 0, none⟩)] w fun e w' => e = .returned (.int .i64 0) ∧ LgTo B w p room a.sync.L X q a.sync.rc.length w' := by
  have := sync_any G (by have := a.len_L; omega)
  rw [Ab.sync_L] at this
  rw [sync_rc]
  exact this
theorem a_save (G : Lg B w p room a.L X q a.rc.length) (ok : a.Ok) (hB : Tab B) (v : Value) (st : List Bs) (R : Fr.Lr w v st) (hst : st.length ≤ 100) (hb : Fr.Ok st) (hf : used a.L + (cnt (a.g + 1) (some st)).length ≤ room) :
    Calls Tryd.prog 13 #[.pointer (some ⟨q, 0, none⟩), v] w fun e w' => e = .returned (.int .i64 0) ∧ LgTo B w p room (a.save st).L X q (a.save st).rc.length w' := by
  have h1 := G.live.fits
  have hg := ok.g
  have := save_any G hB v st R hst (fun r hr => by have := (hb r hr).2; omega) (by have := a.len_L; omega) (by rw [ok.gen]; omega)
  rw [ok.save_yes room hb, if_neg (by omega)] at this
  exact this
theorem a_sfull (G : Lg B w p room a.L X q a.rc.length) (ok : a.Ok) (hB : Tab B) (v : Value) (st : List Bs) (R : Fr.Lr w v st) (hst : st.length ≤ 100) (hb : Fr.Ok st) (hf : room < used a.L + (cnt (a.g + 1) (some st)).length) :
    Calls Tryd.prog 13 #[.pointer (some ⟨q, 0, none⟩), v] w fun e w' => e = .returned (.int .i64 4) ∧ LgTo B w p room a.L X q a.rc.length w' := by
  have h1 := G.live.fits
  have hg := ok.g
  have := save_any G hB v st R hst (fun r hr => by have := (hb r hr).2; omega) (by have := a.len_L; omega) (by rw [ok.gen]; omega)
  rw [ok.save_yes room hb, if_pos (by omega)] at this
  exact this
theorem a_sbad (G : Lg B w p room a.L X q a.rc.length) (ok : a.Ok) (hB : Tab B) (v : Value) (st : List Bs) (R : Fr.Lr w v st) (hst : st.length ≤ 100) (hm : ∀ r ∈ st, r.length ≤ 9223372036854775807) (hb : ¬ Fr.Ok st) :
    Calls Tryd.prog 13 #[.pointer (some ⟨q, 0, none⟩), v] w fun e w' => e = .returned (.int .i64 1) ∧ LgTo B w p room a.L X q a.rc.length w' := by
  have hg := ok.g
  have := save_any G hB v st R hst hm (by have := a.len_L; omega) (by rw [ok.gen]; omega)
  rw [Ab.save_no room hb] at this
  exact this
theorem a_open (V : Live B w p room a.L X) (ok : a.Ok) (hB : Tab B) : Calls Tryd.prog 8 #[.pointer (some ⟨p, 0, none⟩)] w (OpenTo B w p room X (a.sync.L, a.st, a.rc)) := by
  have := open_any V hB (by have := a.len_L; omega)
  rw [ok.open_] at this
  exact this
/-- What a log behind Open is. -/
theorem open_lg {w' : World} {L : Dk.St} {st rc : List Bs} {e : Ending} (h : OpenTo B w p room X (L, st, rc) e w') :
    ∃ q A1 c1 A2 c2 X', e = .returned (.tuple #[.pointer (some ⟨q, 0, none⟩), .slice A1 st.length c1, .slice A2 rc.length c2, .int .i64 0]) ∧ Lg B w' p room L X' q rc.length ∧ w.heap.size ≤ q ∧ (∀ g, X g → X' g) ∧ Lt w' (fun g => X' g ∧ g ≠ q) (.slice A1 st.length c1) st ∧ Lt w' (fun g => X' g ∧ g ≠ q) (.slice A2 rc.length c2) rc ∧ (∀ g, X g → w'.heap[g]? = w.heap[g]?) ∧ w.heap.size ≤ w'.heap.size := by
  obtain ⟨q, v1, v2, X', h1, h2, h3, h4, h5, h6, h7, h8⟩ := h
  obtain ⟨A1, c1, e1⟩ := h5.form
  obtain ⟨A2, c2, e2⟩ := h6.form
  simp only at e1 e2 h2 h5 h6
  rw [e1] at h1 h5
  rw [e2] at h1 h6
  exact ⟨q, A1, c1, A2, c2, X', h1, h2, h3, h4, h5, h6, h7, h8⟩
end
end Se
end Go.Proofs.YtbolcapgocjgcaaDoor
