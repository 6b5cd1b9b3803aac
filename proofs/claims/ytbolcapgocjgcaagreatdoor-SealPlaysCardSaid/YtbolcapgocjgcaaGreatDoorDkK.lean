/- What the calls leave, said for a disk that a call itself made. -/
import Derived.Test.YtbolcapgocjgcaaGreatDoorDkJ
namespace Go.Proofs.YtbolcapgocjgcaaGreatDoor
set_option maxRecDepth 100000
open Go.RowKit
open Go.Proofs.YtbolcapgocjgcaaGreatDoor.Pk
namespace Dk

/-- The disk at p lies in blocks that the call begun in B made, and in none of X. -/
structure Live (B w : World) (p room : Nat) (L : St) (X : Nat → Prop) : Prop where
  dk : ∃ fp, Disk w p room L fp ∧ ∀ g, fp g → B.heap.size ≤ g ∧ ¬ X g
  be : Below B.heap.size B w
  xs : ∀ g, X g → g < w.heap.size
def LTo (B w : World) (p room : Nat) (L : St) (X : Nat → Prop) (w' : World) : Prop := Live B w' p room L X ∧ (∀ g, X g → w'.heap[g]? = w.heap[g]?) ∧ w.heap.size ≤ w'.heap.size

section
variable {B w w' : World} {p room : Nat} {L L' : St} {X X' : Nat → Prop} {fp : Nat → Prop}
theorem DTo.live (h : DTo w p room fp L' w') (be : Below B.heap.size B w) (hf : ∀ g, fp g → B.heap.size ≤ g ∧ ¬ X g) (xs : ∀ g, X g → g < w.heap.size) : LTo B w p room L' X w' :=
  ⟨⟨⟨_, h.1, fun g hg => by
      rcases hg with hg | ⟨hg, _⟩
      · exact hf g hg
      · exact ⟨Nat.le_trans be.size hg, fun e => by have := xs g e; omega⟩⟩, be.trans (h.2.below (fun g hg => (hf g hg).1) be.size), fun g hg => Nat.lt_of_lt_of_le (xs g hg) h.2.size⟩,
    fun g hg => h.2.block g (xs g hg) fun e => (hf g e).2 hg, h.2.size⟩
theorem Live.below (h : Live B w p room L X) (hb : Below w.heap.size w w') : Live B w' p room L X := by
  obtain ⟨fp, D, hf⟩ := h.dk
  exact ⟨⟨fp, D.below hb, hf⟩, h.be.trans (hb.mono h.be.size), fun g hg => Nat.lt_of_lt_of_le (h.xs g hg) hb.size⟩
theorem Live.lto (h : Live B w p room L X) (hb : Below w.heap.size w w') : LTo B w p room L X w' := ⟨h.below hb, fun g hg => hb.block g (h.xs g hg), hb.size⟩
theorem Live.more (h : Live B w p room L X) (hb : Below w.heap.size w w') : Live B w' p room L (fun g => X g ∨ (w.heap.size ≤ g ∧ g < w'.heap.size)) := by
  obtain ⟨fp, D, hf⟩ := h.dk
  refine ⟨⟨fp, D.below hb, fun g hg => ⟨(hf g hg).1, fun e => ?_⟩⟩, h.be.trans (hb.mono h.be.size), fun g hg => ?_⟩
  · rcases e with e | ⟨e, _⟩
    · exact (hf g hg).2 e
    · obtain ⟨mo, l, d, _⟩ := D
      have := d.size g hg
      omega
  · rcases hg with hg | ⟨_, hg⟩
    · exact Nat.lt_of_lt_of_le (h.xs g hg) hb.size
    · exact hg
theorem Live.less (h : Live B w p room L X) (hx : ∀ g, X' g → X g) : Live B w p room L X' := by
  obtain ⟨fp, D, hf⟩ := h.dk
  exact ⟨⟨fp, D, fun g hg => ⟨(hf g hg).1, fun e => (hf g hg).2 (hx g e)⟩⟩, h.be, fun g hg => h.xs g (hx g hg)⟩
theorem Live.old (h : Live B w p room L X) : Live B w p room L (fun g => X g ∨ g < B.heap.size) := by
  obtain ⟨fp, D, hf⟩ := h.dk
  refine ⟨⟨fp, D, fun g hg => ⟨(hf g hg).1, fun e => ?_⟩⟩, h.be, fun g hg => ?_⟩
  · rcases e with e | e
    · exact (hf g hg).2 e
    · have := (hf g hg).1; omega
  · rcases hg with hg | hg
    · exact h.xs g hg
    · exact Nat.lt_of_lt_of_le hg h.be.size
theorem Live.rise (h : Live B w p room L X) : Rise L := by
  obtain ⟨fp, ⟨mo, l, D, rfl⟩, _⟩ := h.dk
  exact (rise_vals abs).2 D.rise
theorem Live.fits (h : Live B w p room L X) : used L ≤ room ∧ room ≤ 1000000 := by
  obtain ⟨fp, ⟨mo, l, D, rfl⟩, _⟩ := h.dk
  exact ⟨by rw [used_abs]; exact D.fits, D.most⟩
theorem Live.head (h : Live B w p room L X) : ∀ q ∈ L, q.1.length ≤ 20 ∧ q.2.2 ≤ q.2.1.length := by
  obtain ⟨fp, ⟨mo, l, D, rfl⟩, _⟩ := h.dk
  intro q hq
  obtain ⟨r, hr, rfl⟩ := List.mem_map.1 hq
  exact (D.head r hr).2

theorem l_new (w : World) (room : Nat) (h : room ≤ 1000000) {B : World} (be : Below B.heap.size B w) :
    Calls Tryz.prog 4 #[.int .i64 room] w fun e w' => ∃ p, e = .returned (.tuple #[.pointer (some ⟨p, 0, none⟩), .int .i64 0]) ∧ Live B w' p room [] (fun _ => False) :=
  (new_yes w room h).mono fun e w' ⟨p, e1, e2, e3, e4⟩ => ⟨p, e1, ⟨⟨_, e3, fun g hg => ⟨by subst hg; exact Nat.le_trans be.size e2, fun e => e⟩⟩, be.trans (e4.mono be.size), fun g hg => hg.elim⟩⟩
theorem l_append (V : Live B w p room L X) (s : ByteArray) {T : Nat → Prop} (A : Option Addr) (m c : Nat) (bs : Bs) (R : Rb w T A m bs) (hT : ∀ g, T g → g < w.heap.size) (hm : m ≤ 1000000) (hl : L.length ≤ 1000000) :
    Calls Tryz.prog 36 #[.pointer (some ⟨p, 0, none⟩), .string s, .slice A m c] w fun e w' => e = .returned (.int .i64 (sApp room L (nm s) bs).1) ∧ LTo B w p room (sApp room L (nm s) bs).2 X w' := by
  obtain ⟨fp, D, hf⟩ := V.dk
  exact (append_any w p room L fp s A m c bs D R hT hm hl).mono fun e w' h => ⟨h.1, h.2.live V.be hf V.xs⟩
theorem l_sync (V : Live B w p room L X) (s : ByteArray) (hs : s.size ≤ maxLen) (hl : L.length ≤ 1000000) :
    Calls Tryz.prog 40 #[.pointer (some ⟨p, 0, none⟩), .string s] w fun e w' => e = .returned (.int .i64 (sSync L (nm s)).1) ∧ LTo B w p room (sSync L (nm s)).2 X w' := by
  obtain ⟨fp, D, hf⟩ := V.dk
  exact (sync_any w p room L fp s D hs hl).mono fun e w' h => ⟨h.1, h.2.live V.be hf V.xs⟩
theorem l_cut (V : Live B w p room L X) (s : ByteArray) (k : Int) (hs : s.size ≤ maxLen) (hl : L.length ≤ 1000000) :
    Calls Tryz.prog 26 #[.pointer (some ⟨p, 0, none⟩), .string s, .int .i64 k] w fun e w' => e = .returned (.int .i64 (sCut L (nm s) k).1) ∧ LTo B w p room (sCut L (nm s) k).2 X w' := by
  obtain ⟨fp, D, hf⟩ := V.dk
  exact (cut_any w p room L fp s k D hs hl).mono fun e w' h => ⟨h.1, h.2.live V.be hf V.xs⟩
theorem l_rename (V : Live B w p room L X) (s t : ByteArray) (hs : s.size ≤ maxLen) (hl : L.length ≤ 1000000) :
    Calls Tryz.prog 67 #[.pointer (some ⟨p, 0, none⟩), .string s, .string t] w fun e w' => e = .returned (.int .i64 (sRen L (nm s) (nm t)).1) ∧ LTo B w p room (sRen L (nm s) (nm t)).2 X w' := by
  obtain ⟨fp, D, hf⟩ := V.dk
  exact (rename_any w p room L fp s t D hs hl).mono fun e w' h => ⟨h.1, h.2.live V.be hf V.xs⟩
theorem l_remove (V : Live B w p room L X) (s : ByteArray) (hs : s.size ≤ maxLen) (hl : L.length ≤ 1000000) :
    Calls Tryz.prog 24 #[.pointer (some ⟨p, 0, none⟩), .string s] w fun e w' => e = .returned (.int .i64 (sRem L (nm s)).1) ∧ LTo B w p room (sRem L (nm s)).2 X w' := by
  obtain ⟨fp, D, hf⟩ := V.dk
  exact (remove_any w p room L fp s D hs hl).mono fun e w' h => ⟨h.1, h.2.live V.be hf V.xs⟩
theorem l_crash (V : Live B w p room L X) (keep : Int) (hl : L.length ≤ 1000000) (hk1 : -9223372036854775808 ≤ keep) (hk2 : keep ≤ 9223372036854775807) :
    Calls Tryz.prog 16 #[.pointer (some ⟨p, 0, none⟩), .int .i64 keep] w fun e w' => e = .returned (.tuple #[]) ∧ LTo B w p room (sCrash keep L) X w' := by
  obtain ⟨fp, D, hf⟩ := V.dk
  exact (crash_any w p room L fp keep D hl hk1 hk2).mono fun e w' h => ⟨h.1, h.2.live V.be hf V.xs⟩
theorem l_read (V : Live B w p room L X) (s : ByteArray) (hs : s.size ≤ maxLen) : Calls Tryz.prog 20 #[.pointer (some ⟨p, 0, none⟩), .string s] w (ReadTo w (look (nm s) L)) := by
  obtain ⟨fp, ⟨mo, l, D, rfl⟩, hf⟩ := V.dk
  rw [look_abs]
  exact read_dsk w p room mo l fp s D hs
theorem l_used (V : Live B w p room L X) : Calls Tryz.prog 60 #[.pointer (some ⟨p, 0, none⟩)] w fun e w' => e = .returned (.int .i64 (used L : Nat)) ∧ w = w' := by
  obtain ⟨fp, ⟨mo, l, D, rfl⟩, hf⟩ := V.dk
  rw [used_abs]
  exact used_dsk w p room mo l fp D
theorem d_used (D : Disk w p room L fp) : Calls Tryz.prog 60 #[.pointer (some ⟨p, 0, none⟩)] w fun e w' => e = .returned (.int .i64 (used L : Nat)) ∧ w = w' := by
  obtain ⟨mo, l, D, rfl⟩ := D
  rw [used_abs]
  exact used_dsk w p room mo l fp D
theorem l_synced (V : Live B w p room L X) (s : ByteArray) (hs : s.size ≤ maxLen) : Calls Tryz.prog 22 #[.pointer (some ⟨p, 0, none⟩), .string s] w fun e w' => e = .returned (.int .i64 ((look (nm s) L).elim 0 (·.2) : Nat)) ∧ Below w.heap.size w w' := by
  obtain ⟨fp, ⟨mo, l, D, rfl⟩, hf⟩ := V.dk
  rw [look_abs]
  have : ((look (nm s) l).map abs).elim 0 (·.2) = (look (nm s) l).elim 0 Fil.k := by cases look (nm s) l <;> rfl
  rw [this]
  exact synced_dsk w p room mo l fp s D hs
theorem l_names (V : Live B w p room L X) (hl : L.length ≤ 1000000) : Calls Tryz.prog 45 #[.pointer (some ⟨p, 0, none⟩)] w (NamesTo w (L.map (·.1))) := by
  obtain ⟨fp, ⟨mo, l, D, rfl⟩, hf⟩ := V.dk
  have := names_dsk w p room mo l fp D (by rw [len_vals] at hl; exact hl)
  simpa [vals, List.map_map, Function.comp_def] using this
end
end Dk
end Go.Proofs.YtbolcapgocjgcaaGreatDoor
