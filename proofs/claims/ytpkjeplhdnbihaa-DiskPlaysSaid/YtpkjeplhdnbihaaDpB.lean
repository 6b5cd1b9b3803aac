/- What each step does to a disk and the document's side by side. -/
import Derived.Test.YtpkjeplhdnbihaaDpA
namespace Go.Proofs.Ytpkjeplhdnbihaa
open Go.RowKit
open Go.Proofs.Ytpkjeplhdnbihaa.Pk
namespace Dk

def Mx (B : World) (p q room ob : Nat) (o : Stp) (Ld Lx : St) (w : World) : Prop := ∃ v, Mi B p q room ob o Ld Lx v w
/-- What is known of the files as a round begins. -/
structure Fit (room : Nat) (L : St) : Prop where
  rise : Rise L
  len : L.length ≤ 100
  used : used L ≤ room
  room : room ≤ 1000000
  head : ∀ q ∈ L, q.1.length ≤ 20 ∧ q.2.2 ≤ q.2.1.length
theorem Mi.fit {B w : World} {p q room ob : Nat} {o : Stp} {L : St} {v : Value} (h : Mi B p q room ob o L L v w) (hl : L.length ≤ 100) : Fit room L :=
  ⟨h.live.rise, hl, h.live.fits.1, h.live.fits.2, h.live.head⟩

section
variable {B w : World} {p q room ob : Nat} {o : Stp} {Ld Lx L : St}
theorem Mx.at_ (h : Mx B p q room ob o Ld Lx w) : w.cell? ⟨ob, 1, none⟩ = some (.int .i64 o.n) ∧ w.cell? ⟨ob, 2, none⟩ = some (.string o.name) ∧ w.cell? ⟨ob, 3, none⟩ = some (.string o.to) ∧ w.cell? ⟨ob, 4, none⟩ = some (.slice o.A o.m o.c) := by
  obtain ⟨v, h⟩ := h
  exact ⟨h.at1, h.at2, h.at3, h.at4⟩
theorem Mx.src (h : Mx B p q room ob o Ld Lx w) (hr : Rb B (fun g => g < B.heap.size) o.A o.m o.bs) : (convert 31 9 (.slice o.A o.m o.c)).run Try.prog w = .ok (.string (str o.bs)) w := by
  obtain ⟨v, h⟩ := h
  exact h.src hr
theorem d_app (F : Fit room L) (hr : Rb B (fun g => g < B.heap.size) o.A o.m o.bs) (hm : o.m ≤ 60) (h : Mx B p q room ob o L Lx w) :
    Calls Try.prog 11 #[.pointer (some ⟨p, 0, none⟩), .string o.name, .slice o.A o.m o.c] w fun e w' => e = .returned (.int .i64 (sApp room L (nm o.name) o.bs).1) ∧ Mx B p q room ob o (sApp room L (nm o.name) o.bs).2 Lx w' := by
  obtain ⟨v, h⟩ := h
  exact (l_append h.live o.name o.A o.m o.c o.bs (h.live.rb hr) (fun _ h => h) (by omega) (by have := F.len; omega)).mono fun e w' k => ⟨k.1, v, h.dd k.2⟩
theorem x_app (F : Fit room L) (hm : o.bs.length ≤ 60) (h : Mx B p q room ob o Ld L w) :
    Calls Try.prog 12 #[.pointer (some ⟨q, 0, none⟩), .string o.name, .string (str o.bs)] w fun e w' => e = .returned (.int .i64 (sApp room L (nm o.name) o.bs).1) ∧ Mx B p q room ob o Ld (sApp room L (nm o.name) o.bs).2 w' := by
  obtain ⟨v, h⟩ := h
  exact (rappend w q room L v o.name o.bs h.ref F.rise (by have := F.len; omega) F.used F.room (by omega)).mono fun e w' k => ⟨k.1, h.xx k.2⟩
theorem d_sync (F : Fit room L) (hs : o.name.size ≤ maxLen) (h : Mx B p q room ob o L Lx w) :
    Calls Try.prog 13 #[.pointer (some ⟨p, 0, none⟩), .string o.name] w fun e w' => e = .returned (.int .i64 (sSync L (nm o.name)).1) ∧ Mx B p q room ob o (sSync L (nm o.name)).2 Lx w' := by
  obtain ⟨v, h⟩ := h
  exact (l_sync h.live o.name hs (by have := F.len; omega)).mono fun e w' k => ⟨k.1, v, h.dd k.2⟩
theorem x_sync (F : Fit room L) (h : Mx B p q room ob o Ld L w) :
    Calls Try.prog 14 #[.pointer (some ⟨q, 0, none⟩), .string o.name] w fun e w' => e = .returned (.int .i64 (sSync L (nm o.name)).1) ∧ Mx B p q room ob o Ld (sSync L (nm o.name)).2 w' := by
  obtain ⟨v, h⟩ := h
  exact (rsync w q room L v o.name h.ref F.rise (by have := F.len; omega)).mono fun e w' k => ⟨k.1, h.xx k.2⟩
theorem d_cut (F : Fit room L) (hs : o.name.size ≤ maxLen) (h : Mx B p q room ob o L Lx w) :
    Calls Try.prog 15 #[.pointer (some ⟨p, 0, none⟩), .string o.name, .int .i64 o.n] w fun e w' => e = .returned (.int .i64 (sCut L (nm o.name) o.n).1) ∧ Mx B p q room ob o (sCut L (nm o.name) o.n).2 Lx w' := by
  obtain ⟨v, h⟩ := h
  exact (l_cut h.live o.name o.n hs (by have := F.len; omega)).mono fun e w' k => ⟨k.1, v, h.dd k.2⟩
theorem x_cut (F : Fit room L) (h : Mx B p q room ob o Ld L w) :
    Calls Try.prog 16 #[.pointer (some ⟨q, 0, none⟩), .string o.name, .int .i64 o.n] w fun e w' => e = .returned (.int .i64 (sCut L (nm o.name) o.n).1) ∧ Mx B p q room ob o Ld (sCut L (nm o.name) o.n).2 w' := by
  obtain ⟨v, h⟩ := h
  exact (rcut w q room L v o.name o.n h.ref F.rise (by have := F.len; omega)).mono fun e w' k => ⟨k.1, h.xx k.2⟩
theorem d_ren (F : Fit room L) (hs : o.name.size ≤ maxLen) (h : Mx B p q room ob o L Lx w) :
    Calls Try.prog 17 #[.pointer (some ⟨p, 0, none⟩), .string o.name, .string o.to] w fun e w' => e = .returned (.int .i64 (sRen L (nm o.name) (nm o.to)).1) ∧ Mx B p q room ob o (sRen L (nm o.name) (nm o.to)).2 Lx w' := by
  obtain ⟨v, h⟩ := h
  exact (l_rename h.live o.name o.to hs (by have := F.len; omega)).mono fun e w' k => ⟨k.1, v, h.dd k.2⟩
theorem x_ren (F : Fit room L) (h : Mx B p q room ob o Ld L w) :
    Calls Try.prog 18 #[.pointer (some ⟨q, 0, none⟩), .string o.name, .string o.to] w fun e w' => e = .returned (.int .i64 (sRen L (nm o.name) (nm o.to)).1) ∧ Mx B p q room ob o Ld (sRen L (nm o.name) (nm o.to)).2 w' := by
  obtain ⟨v, h⟩ := h
  exact (rrename w q room L v o.name o.to h.ref F.rise (by have := F.len; omega)).mono fun e w' k => ⟨k.1, h.xx k.2⟩
theorem d_rem (F : Fit room L) (hs : o.name.size ≤ maxLen) (h : Mx B p q room ob o L Lx w) :
    Calls Try.prog 19 #[.pointer (some ⟨p, 0, none⟩), .string o.name] w fun e w' => e = .returned (.int .i64 (sRem L (nm o.name)).1) ∧ Mx B p q room ob o (sRem L (nm o.name)).2 Lx w' := by
  obtain ⟨v, h⟩ := h
  exact (l_remove h.live o.name hs (by have := F.len; omega)).mono fun e w' k => ⟨k.1, v, h.dd k.2⟩
theorem x_rem (F : Fit room L) (h : Mx B p q room ob o Ld L w) :
    Calls Try.prog 20 #[.pointer (some ⟨q, 0, none⟩), .string o.name] w fun e w' => e = .returned (.int .i64 (sRem L (nm o.name)).1) ∧ Mx B p q room ob o Ld (sRem L (nm o.name)).2 w' := by
  obtain ⟨v, h⟩ := h
  exact (rremove w q room L v o.name h.ref F.rise (by have := F.len; omega)).mono fun e w' k => ⟨k.1, h.xx k.2⟩
theorem d_crash (F : Fit room L) (h1 : -9223372036854775808 ≤ o.n) (h2 : o.n ≤ 9223372036854775807) (h : Mx B p q room ob o L Lx w) :
    Calls Try.prog 21 #[.pointer (some ⟨p, 0, none⟩), .int .i64 o.n] w fun e w' => e = .returned (.tuple #[]) ∧ Mx B p q room ob o (sCrash o.n L) Lx w' := by
  obtain ⟨v, h⟩ := h
  exact (l_crash h.live o.n (by have := F.len; omega) h1 h2).mono fun e w' k => ⟨k.1, v, h.dd k.2⟩
theorem x_crash (F : Fit room L) (h1 : -9223372036854775808 ≤ o.n) (h2 : o.n ≤ 9223372036854775807) (h : Mx B p q room ob o Ld L w) :
    Calls Try.prog 22 #[.pointer (some ⟨q, 0, none⟩), .int .i64 o.n] w fun e w' => e = .returned (.tuple #[]) ∧ Mx B p q room ob o Ld (sCrash o.n L) w' := by
  obtain ⟨v, h⟩ := h
  exact (rcrash w q room L v o.n h.ref (by have := F.len; omega) (fun q hq => (F.head q hq).2) (Nat.le_trans F.used F.room) h1 h2).mono fun e w' k => ⟨k.1, h.xx k.2⟩
theorem m_same (F : Fit room L) (h : Mx B p q room ob o L L w) :
    Calls Try.prog 24 #[.pointer (some ⟨p, 0, none⟩), .pointer (some ⟨q, 0, none⟩)] w fun e w' => e = .returned (.bool true) ∧ Mx B p q room ob o L L w' := by
  obtain ⟨v, h⟩ := h
  exact (same_ok h.live h.ref (by have := F.len; omega)).mono fun e w' k => ⟨k.1, v, h.below k.2⟩
theorem d_read (hs : o.name.size ≤ maxLen) (h : Mx B p q room ob o L Lx w) :
    Calls Try.prog 25 #[.pointer (some ⟨p, 0, none⟩), .string o.name] w fun e w' => (∃ v, e = .returned (.tuple #[v, .int .i64 ((look (nm o.name) L).elim 5 fun _ => 0)])) ∧ Mx B p q room ob o L Lx w' := by
  obtain ⟨v, h⟩ := h
  refine (l_read h.live o.name hs).mono fun e w' k => ?_
  rcases k with ⟨h1, h2, h3⟩ | ⟨s, y, u, h1, h2, _, h3⟩
  · rw [h1]
    exact ⟨⟨_, h2⟩, v, h.below h3⟩
  · rw [h1]
    exact ⟨⟨_, h2⟩, v, h.below h3⟩
theorem x_read (F : Fit room L) (h : Mx B p q room ob o Ld L w) :
    Calls Try.prog 26 #[.pointer (some ⟨q, 0, none⟩), .string o.name] w fun e w' => (∃ v, e = .returned (.tuple #[v, .int .i64 ((look (nm o.name) L).elim 5 fun _ => 0)])) ∧ Mx B p q room ob o Ld L w' := by
  obtain ⟨v, h⟩ := h
  exact (rread w q room L v o.name h.ref F.rise (by have := F.len; omega)).mono fun e w' k => ⟨⟨_, k.1⟩, v, h.below k.2⟩
end
end Dk
end Go.Proofs.Ytpkjeplhdnbihaa
