/- Proved: a log and the document's do the same, and open the same behind any crash (SealPlays), for any room, any steps, the package's table being as the program's text lays it. -/
import Derived.Test.YtbolcapgocjgcaaGreatDoorSwX
import Derived.Test.YtbolcapgocjgcaaGreatDoorRfX
import Derived.Test.YtbolcapgocjgcaaGreatDoorFuX
import Derived.Test.YtbolcapgocjgcaaGreatDoorPtX
import Derived.BigQuiet
import Derived.Lib.QuietBelow
import Derived.Test.YtbolcapgocjgcaaGreatDoorDkP
import Derived.Deep.CutBlock
import Derived.Deep.CutRange
import Derived.Test.YtbolcapgocjgcaaGreatDoorCards
import Derived.Test.YtbolcapgocjgcaaGreatDoorTie
namespace Go.Proofs.YtbolcapgocjgcaaGreatDoor
set_option maxRecDepth 100000
open Go.RowKit
open Go.Proofs.YtbolcapgocjgcaaGreatDoor.Pk
namespace Se
open Dk (Bs Rf RTo Kp Rise used sApp sSync sCut sRen sRem sCrash nm)
open Fr (frames frame)

theorem raw_rise (s : Option Bs) (l : Option (Bs × Nat)) : Rise (raw s l) := by
  cases l <;> cases s <;> simp [raw, Rise, logN, snapN, bytesBefore]
theorem Ab.rise (a : Ab) : Rise a.L := raw_rise _ _

/-- Under way: the document's disk has the files L, the log's cells are cs. -/
def Rm (w0 : World) (lq xq room : Nat) (v0 : Value) (L : Dk.St) (cs : Array Value) (w : World) : Prop :=
  ∃ v, Rf w xq room L v ∧ w.heap[lq]? = some (.cells cs 53 (0, 0)) ∧ (∀ g, v.ownBlock = some g → v0.ownBlock = some g ∨ w0.heap.size ≤ g) ∧ Kp (fun g => g = xq ∨ g = lq ∨ v0.ownBlock = some g) w0 w
section
variable {w0 w w' : World} {lq xq room : Nat} {v0 : Value} {L L' : Dk.St} {cs : Array Value}
theorem Rm.start {v0 : Value} (R : Rf w xq room L v0) (h : w.heap[lq]? = some (.cells cs 53 (0, 0))) : Rm w lq xq room v0 L cs w :=
  ⟨v0, R, h, fun _ h => .inl h, .refl _ _⟩
theorem Rm.ne (h : Rm w0 lq xq room v0 L cs w) : lq ≠ xq := by
  rintro rfl
  obtain ⟨v, R, hc, _⟩ := h
  have := R.cells
  rw [hc] at this
  injection this with this
  injection this with _ e
  exact absurd e (by decide)
theorem Rm.disk (h : Rm w0 lq xq room v0 L cs w) {v : Value} (R : Rf w xq room L v) (hv : ∀ g, v.ownBlock = some g → v0.ownBlock = some g ∨ w0.heap.size ≤ g) (k : RTo w xq room L' v w') : Rm w0 lq xq room v0 L' cs w' := by
  have hne := h.ne
  obtain ⟨_, _, hc, _, hk⟩ := h
  obtain ⟨v', R', hv', hk'⟩ := k
  refine ⟨v', R', (hk'.block lq (lt_some hc) ?_).trans hc, fun g hg => ?_, ⟨hk'.os.trans hk.os, hk'.tape.trans hk.tape, hk'.output.trans hk.output, Nat.le_trans hk.size hk'.size, fun g hg hs => ?_⟩⟩
  · rintro (e | e)
    · exact hne e
    · obtain ⟨_, cur, he⟩ := Dk.row_block R.row e
      rw [hc] at he
      injection he with he
      injection he with _ e
      exact absurd e (by decide)
  · rcases hv' g hg with e | e
    · exact hv g e
    · exact .inr (Nat.le_trans hk.size e)
  · refine (hk'.block g (Nat.lt_of_lt_of_le hg hk.size) ?_).trans (hk.block g hg hs)
    rintro (e | e)
    · exact hs (.inl e)
    · rcases hv g e with e | e
      · exact hs (.inr (.inr e))
      · omega
theorem Rm.below (h : Rm w0 lq xq room v0 L cs w) (hb : Below w.heap.size w w') : Rm w0 lq xq room v0 L cs w' := by
  obtain ⟨v, R, hc, hv, hk⟩ := h
  exact ⟨v, R.below hb, (hb.block lq (lt_some hc)).trans hc, hv, ⟨hb.os.trans hk.os, hb.tape.trans hk.tape, hb.output.trans hk.output, Nat.le_trans hk.size hb.size, fun g hg hs => (hb.block g (Nat.lt_of_lt_of_le hg hk.size)).trans (hk.block g hg hs)⟩⟩
theorem Rm.set (h : Rm w0 lq xq room v0 L cs w) (i : Nat) (u : Value) : Rm w0 lq xq room v0 L (cs.setIfInBounds i u) (w.setCell ⟨lq, i, none⟩ u) := by
  have hne := h.ne
  obtain ⟨v, R, hc, hv, hk⟩ := h
  refine ⟨v, R.keep fun g hg => Below.heap_setCell _ _ _ _ ?_, Pk.one_set hc u, hv, ⟨hk.os, hk.tape, hk.output, by simpa [World.setCell] using hk.size, fun g hg hs => (Below.heap_setCell _ _ _ _ (fun e => hs (.inr (.inl e)))).trans (hk.block g hg hs)⟩⟩
  rintro rfl
  rcases hg with e | e
  · exact hne e
  · obtain ⟨_, cur, he⟩ := Dk.row_block R.row e
    rw [hc] at he
    injection he with he
    injection he with _ e
    exact absurd e (by decide)
theorem Rm.cell (h : Rm w0 lq xq room v0 L cs w) (i : Nat) (u : Value) (hu : cs[i]? = some u) : w.cell? ⟨lq, i, none⟩ = some u := by
  obtain ⟨v, R, hc, _⟩ := h
  have := Pk.one_at (i := i) hc
  rw [this]
  exact hu
theorem Rm.free (h : Rm w0 lq xq room v0 L cs w) (i : Nat) : w.frozen? ⟨lq, i, none⟩ = false := by
  obtain ⟨v, R, hc, _⟩ := h
  exact Pk.one_free hc
theorem Rm.app (h : Rm w0 lq xq room v0 L cs w) (hr : Rise L) (hl : L.length ≤ 900) (hu : used L ≤ room) (hm : room ≤ 1000000) (s : ByteArray) (bs : Bs) (hbs : bs.length ≤ 1000) :
    Calls Tryz.prog 39 #[.pointer (some ⟨xq, 0, none⟩), .string s, .string (str bs)] w fun e w' => e = .returned (.int .i64 (sApp room L (nm s) bs).1) ∧ Rm w0 lq xq room v0 (sApp room L (nm s) bs).2 cs w' := by
  obtain ⟨v, R, h2, h3, h4⟩ := h
  exact (Dk.rappend w xq room L v s bs R hr hl hu hm hbs).mono fun e w' k => ⟨k.1, Rm.disk ⟨v, R, h2, h3, h4⟩ R h3 k.2⟩
theorem Rm.sync (h : Rm w0 lq xq room v0 L cs w) (hr : Rise L) (hl : L.length ≤ 900) (s : ByteArray) :
    Calls Tryz.prog 41 #[.pointer (some ⟨xq, 0, none⟩), .string s] w fun e w' => e = .returned (.int .i64 (sSync L (nm s)).1) ∧ Rm w0 lq xq room v0 (sSync L (nm s)).2 cs w' := by
  obtain ⟨v, R, h2, h3, h4⟩ := h
  exact (Dk.rsync w xq room L v s R hr (by omega)).mono fun e w' k => ⟨k.1, Rm.disk ⟨v, R, h2, h3, h4⟩ R h3 k.2⟩
theorem Rm.cut (h : Rm w0 lq xq room v0 L cs w) (hr : Rise L) (hl : L.length ≤ 900) (s : ByteArray) (k : Int) :
    Calls Tryz.prog 30 #[.pointer (some ⟨xq, 0, none⟩), .string s, .int .i64 k] w fun e w' => e = .returned (.int .i64 (sCut L (nm s) k).1) ∧ Rm w0 lq xq room v0 (sCut L (nm s) k).2 cs w' := by
  obtain ⟨v, R, h2, h3, h4⟩ := h
  exact (Dk.rcut w xq room L v s k R hr (by omega)).mono fun e w' k => ⟨k.1, Rm.disk ⟨v, R, h2, h3, h4⟩ R h3 k.2⟩
theorem Rm.rem (h : Rm w0 lq xq room v0 L cs w) (hr : Rise L) (hl : L.length ≤ 900) (s : ByteArray) :
    Calls Tryz.prog 27 #[.pointer (some ⟨xq, 0, none⟩), .string s] w fun e w' => e = .returned (.int .i64 (sRem L (nm s)).1) ∧ Rm w0 lq xq room v0 (sRem L (nm s)).2 cs w' := by
  obtain ⟨v, R, h2, h3, h4⟩ := h
  exact (Dk.rremove w xq room L v s R hr (by omega)).mono fun e w' k => ⟨k.1, Rm.disk ⟨v, R, h2, h3, h4⟩ R h3 k.2⟩
theorem Rm.ren (h : Rm w0 lq xq room v0 L cs w) (hr : Rise L) (hl : L.length ≤ 900) (s t : ByteArray) :
    Calls Tryz.prog 44 #[.pointer (some ⟨xq, 0, none⟩), .string s, .string t] w fun e w' => e = .returned (.int .i64 (sRen L (nm s) (nm t)).1) ∧ Rm w0 lq xq room v0 (sRen L (nm s) (nm t)).2 cs w' := by
  obtain ⟨v, R, h2, h3, h4⟩ := h
  exact (Dk.rrename w xq room L v s t R hr (by omega)).mono fun e w' k => ⟨k.1, Rm.disk ⟨v, R, h2, h3, h4⟩ R h3 k.2⟩
theorem Rm.read (h : Rm w0 lq xq room v0 L cs w) (hr : Rise L) (hl : L.length ≤ 900) (s : ByteArray) :
    Calls Tryz.prog 21 #[.pointer (some ⟨xq, 0, none⟩), .string s] w fun e w' => e = .returned (.tuple #[.string (str ((Dk.look (nm s) L).elim [] (·.1))), .int .i64 ((Dk.look (nm s) L).elim 5 fun _ => 0)]) ∧ Below w.heap.size w w' := by
  obtain ⟨v, R, h2, h3, h4⟩ := h
  exact Dk.rread w xq room L v s R hr (by omega)
end
/-- The cells of the document's log. -/
def lcs (xq : Nat) (a : Ab) : Array Value := #[.pointer (some ⟨xq, 0, none⟩), .int .i64 (a.g : Nat), .int .i64 (a.rc.length : Nat), .bool a.con.isNone]
section
variable {w0 w : World} {lq xq room : Nat} {v0 : Value} {L : Dk.St} {a : Ab}
theorem Rm.k0 (h : Rm w0 lq xq room v0 L (lcs xq a) w) : w.cell? ⟨lq, 0, none⟩ = some (.pointer (some ⟨xq, 0, none⟩)) := h.cell 0 _ rfl
theorem Rm.k1 (h : Rm w0 lq xq room v0 L (lcs xq a) w) : w.cell? ⟨lq, 1, none⟩ = some (.int .i64 (a.g : Nat)) := h.cell 1 _ rfl
theorem Rm.k2 (h : Rm w0 lq xq room v0 L (lcs xq a) w) : w.cell? ⟨lq, 2, none⟩ = some (.int .i64 (a.rc.length : Nat)) := h.cell 2 _ rfl
theorem Rm.k3 (h : Rm w0 lq xq room v0 L (lcs xq a) w) : w.cell? ⟨lq, 3, none⟩ = some (.bool a.con.isNone) := h.cell 3 _ rfl
end
def RlTo (w : World) (lq xq room : Nat) (v0 : Value) (a : Ab) (w' : World) : Prop := Rm w lq xq room v0 a.L (lcs xq a) w'

set_option maxHeartbeats 800000 in
/-- A generation, of its frame. -/
theorem rgen (w : World) (g : Nat) (hg : g ≤ 4611686018427387904) : Calls Tryz.prog 29 #[.string (str (Pk.encI g))] w fun e w' => e = .returned (.int .i64 (g : Nat)) ∧ Below w.heap.size w w' := by
  have hl := (enc_ok g hg).2
  have hd := dec_encI (g : Int) (by omega) (by omega) []
  rw [List.append_nil] at hd
  have he : rInt 0 4611686018427387904 (some (Pk.encI g)) = ((g : Int), some []) := by
    rw [rInt_in hd (by rw [uz_zz]; omega) (by rw [uz_zz]; omega), uz_zz]
  obtain ⟨w1, hw1⟩ : ∃ z, z = w.alloc (.cells #[.string (str (Pk.encI g)), .bool false] 103 (0, 0)) := ⟨_, rfl⟩
  have b1 : Hid (Below w.heap.size w w1) := by rw [hw1]; exact (Below.refl _ _).alloc (Nat.le_refl _) _
  have hp : w1.heap[w.heap.size]? = some (.cells #[.string (str (Pk.encI g)), .bool false] 103 (0, 0)) := by rw [hw1]; exact heap_alloc_new _ _
  have RX : Rx w1 w.heap.size (some (Pk.encI g)) := ⟨_, false, hp, by omega, rfl⟩
  have X1 := xint w.heap.size w1 _ 0 4611686018427387904 RX
  rw [he] at X1
  simp only at X1
  replace X1 := Lib.hid X1
  have hr : rEnd (some []) = 0 := rfl
  generalize Pk.encI (g : Int) = bs at *
  clear RX hp hd he hl
  go_enter Tryz.func29, Tryz.ntmps29
  go_wp2_with fail
  rw [← hw1]
  refine X1.out.mono ?_
  rintro e w2 ⟨rfl, T2⟩
  have X2 := xend w.heap.size w2 _ T2.rx
  rw [hr] at X2
  have b2 : Hid (Below w.heap.size w w2) := b1.out.trans (grown_below T2.gr (Nat.le_refl _) b1.out.size)
  replace X2 := Lib.hid X2
  clear T2 X1
  go_wp2_with fail
  refine X2.out.mono ?_
  rintro e w3 ⟨rfl, rfl⟩
  go_wp2
  go_ret
  exact ⟨rfl, b2.out⟩

set_option maxHeartbeats 800000 in
theorem rl_sync {w : World} {lq xq room : Nat} {v0 : Value} {a : Ab} (h : Rm w lq xq room v0 a.L (lcs xq a) w) :
    Calls Tryz.prog 12 #[.pointer (some ⟨lq, 0, none⟩)] w fun e w' => e = .returned (.int .i64 0) ∧ RlTo w lq xq room v0 a.sync w' := by
  have c0 := h.k0
  have S := h.sync a.rise (by have := a.len_L; omega) ⟨#[108, 111, 103]⟩
  have e1 : (sSync a.L (nm ⟨#[108, 111, 103]⟩)).2 = a.sync.L := a.sync_L
  rw [e1] at S
  replace S := Lib.hid S
  have e2 : Hid (lcs xq a = lcs xq a.sync) := by unfold Hid lcs; rw [sync_rc, sync_con]; rfl
  clear h e1
  go_enter Tryz.func12, Tryz.ntmps12
  go_wp2_with fail
  refine S.out.mono ?_
  rintro e w1 ⟨rfl, T⟩
  rw [e2.out] at T
  replace T := Lib.hid T
  go_wp2
  go_ret
  exact ⟨rfl, T.out⟩
end Se
end Go.Proofs.YtbolcapgocjgcaaGreatDoor

namespace Go.Proofs.YtbolcapgocjgcaaGreatDoor
set_option maxRecDepth 100000
open Go.RowKit
open Go.Proofs.YtbolcapgocjgcaaGreatDoor.Pk
namespace Se
open Dk (Bs Rf RTo Kp Rise used sApp sSync sCut sRen sRem sCrash nm)
open Fr (frames frame)

/-- Put: what it answers, and the log behind it. -/
def Ab.dput (a : Ab) (room : Nat) (b : Bs) : Int × Ab := if 1 ≤ b.length ∧ b.length ≤ 1000 then if room - used a.L < a.cost b then (4, a) else (0, a.put b) else (1, a)
theorem Ab.put_rc (a : Ab) (b : Bs) : (a.put b).rc.length = a.rc.length + 1 := by simp [Ab.put, Ab.rc, Ab.con]
theorem Ab.Ok.dput_eq {a : Ab} (h : a.Ok) (room : Nat) (b : Bs) : pPut room a.L a.rc.length b = ((a.dput room b).1, (a.dput room b).2.L, (a.dput room b).2.rc.length) := by
  unfold Ab.dput
  by_cases hb : 1 ≤ b.length ∧ b.length ≤ 1000
  · rw [if_pos hb, h.put_yes room hb]
    split <;> rfl
  · rw [if_neg hb, Ab.put_no room hb]
theorem Ab.Ok.dput {a : Ab} (h : a.Ok) (room : Nat) (b : Bs) : (a.dput room b).2.Ok := by
  unfold Ab.dput
  split
  · rename_i hb
    split
    · exact h
    · exact h.put hb
  · exact h
theorem Ab.Ok.app_put {a : Ab} (h : a.Ok) (room : Nat) {b : Bs} (hb : 1 ≤ b.length ∧ b.length ≤ 1000) :
    sApp room a.L logN (if a.con.isNone then sealOf a.g (frame b) else frame b) = if room - used a.L < a.cost b then (4, a.L) else (0, (a.put b).L) := by
  have := h.put_yes room hb
  unfold pPut at this
  rw [if_pos hb, Ab.emp, h.gen] at this
  simp only at this
  have e1 := congrArg (fun x => x.1) this
  have e2 := congrArg (fun x => x.2.1) this
  simp only at e1 e2
  refine Prod.ext (e1.trans ?_) (e2.trans ?_)
  · split <;> rfl
  · split <;> rfl
theorem lcs_put (xq : Nat) (a : Ab) (b : Bs) : ((lcs xq a).setIfInBounds 3 (.bool false)).setIfInBounds 2 (.int .i64 ((a.rc.length : Int) + 1)) = lcs xq (a.put b) := by
  unfold lcs
  rw [a.put_rc b]
  simp [Ab.put, Ab.con]

set_option maxHeartbeats 3200000 in
theorem rl_put {w : World} {lq xq room : Nat} {v0 : Value} {a : Ab} (h : Rm w lq xq room v0 a.L (lcs xq a) w) (ok : a.Ok) (hu : used a.L ≤ room) (hm : room ≤ 1000000) (b : Bs) (hb : b.length ≤ 900) :
    Calls Tryz.prog 10 #[.pointer (some ⟨lq, 0, none⟩), .string (str b)] w fun e w' => e = .returned (.int .i64 (a.dput room b).1) ∧ RlTo w lq xq room v0 (a.dput room b).2 w' := by
  have HH := Lib.hid h
  have c0 := h.k0
  have c1 := h.k1
  have c3 := h.k3
  have hsz : (str b).size = b.length := str_size _
  have hlen := a.len_L
  have hrc := a.rc_le
  have hg := ok.g
  have hen := enc_ok a.g (by omega)
  by_cases hb1 : 1 ≤ b.length
  · have F := Lib.hid (Fr.rframe w b hb1 (by omega))
    have d1 : decide (((str b).size : Int) < 1) = false := decide_eq_false (by omega)
    have d2 : decide ((1000 : Int) < ((str b).size : Int)) = false := decide_eq_false (by omega)
    have A0 := ok.app_put room (b := b) ⟨hb1, by omega⟩
    have A : Hid (∀ (w4 : World) (bs : Bs), bs = (if a.con.isNone then sealOf a.g (frame b) else frame b) → Rm w lq xq room v0 a.L (lcs xq a) w4 → Calls Tryz.prog 39 #[.pointer (some ⟨xq, 0, none⟩), .string ⟨#[108, 111, 103]⟩, .string (str bs)] w4 fun e w' => (e = .returned (.int .i64 4) ∧ a.dput room b = (4, a) ∧ RlTo w lq xq room v0 a w') ∨ (e = .returned (.int .i64 0) ∧ a.dput room b = (0, a.put b) ∧ Rm w lq xq room v0 (a.put b).L (lcs xq a) w')) := fun w4 bs hbs H4 => by
      have hl2 : bs.length ≤ 1000 := by
        rw [hbs]
        split
        · rw [sealOf_len, Fr.frame_len]; omega
        · rw [Fr.frame_len]; omega
      refine (H4.app a.rise (by omega) hu hm ⟨#[108, 111, 103]⟩ bs hl2).mono ?_
      rintro e w' ⟨rfl, T⟩
      have hE : sApp room a.L (nm ⟨#[108, 111, 103]⟩) bs = _ := (congrArg (sApp room a.L logN) hbs).trans A0
      rw [hE] at T ⊢
      have hq : a.dput room b = if room - used a.L < a.cost b then (4, a) else (0, a.put b) := if_pos ⟨hb1, (by omega : b.length ≤ 1000)⟩
      by_cases hf : room - used a.L < a.cost b
      · rw [if_pos hf] at T ⊢ hq
        exact .inl ⟨rfl, hq, T⟩
      · rw [if_neg hf] at T ⊢ hq
        exact .inr ⟨rfl, hq, T⟩
    have ew : wrap64 ((a.rc.length : Int) + 1) = (a.rc.length : Int) + 1 := IntWalk.wrap64_in _ (by omega)
    have LP := Lib.hid (lcs_put xq a b)
    clear A0
    cases hc : a.con.isNone with
    | true =>
      rw [hc] at A c3
      simp only [if_true] at A
      generalize str b = S at *
      clear hsz
      go_enter Tryz.func10, Tryz.ntmps10
      go_wp2_with fail
      refine F.out.mono ?_
      rintro e w1 ⟨rfl, b1⟩
      have h1 := HH.out.below b1
      have k1 := h1.k1
      have k3 := h1.k3
      rw [hc] at k3
      have I := Lib.hid (refint w1 a.g (by omega) (by omega))
      have h1' := Lib.hid h1
      clear h1 b1 F
      go_wp2_with fail
      refine I.out.mono ?_
      rintro e w2 ⟨rfl, b2⟩
      have F2 := Lib.hid (Fr.rframe w2 (Pk.encI a.g) (by omega) (by omega))
      have h2' := Lib.hid (h1'.out.below b2)
      clear b2 I
      go_wp2_with fail
      refine F2.out.mono ?_
      rintro e w3 ⟨rfl, b3⟩
      have h3 := h2'.out.below b3
      have k0 := h3.k0
      have add := Fr.str_add (frame (Pk.encI a.g)) (frame b) (by rw [Fr.frame_len, Fr.frame_len]; omega)
      have C := Lib.hid (A.out w3 (frame (Pk.encI a.g) ++ frame b) rfl h3)
      clear h3 b3 F2
      go_wp2_with fail
      refine C.out.mono ?_
      rintro e w4 (⟨rfl, hd, T⟩ | ⟨rfl, hd, T⟩)
      · replace hd := Lib.hid hd
        replace T := Lib.hid T
        go_wp2
        go_ret
        rw [hd.out]
        exact ⟨rfl, T.out⟩
      · replace hd := Lib.hid hd
        have T3 := T.set 3 (.bool false)
        have q3 := T.k3
        have f3 := T.free 3
        have q2 : (w4.setCell ⟨lq, 3, none⟩ (.bool false)).cell? ⟨lq, 2, none⟩ = some (.int .i64 (a.rc.length : Nat)) := T3.cell 2 _ rfl
        have f2 := T3.free 2
        have T2 := T3.set 2 (.int .i64 ((a.rc.length : Int) + 1))
        rw [LP.out] at T2
        replace T2 := Lib.hid T2
        clear T3 T
        go_wp2
        go_ret
        rw [hd.out]
        exact ⟨rfl, T2.out⟩
    | false =>
      rw [hc] at A c3
      simp only [Bool.false_eq_true, if_false] at A
      generalize str b = S at *
      clear hsz
      go_enter Tryz.func10, Tryz.ntmps10
      go_wp2_with fail
      refine F.out.mono ?_
      rintro e w1 ⟨rfl, b1⟩
      have h3 := HH.out.below b1
      have k0 := h3.k0
      have k3 := h3.k3
      rw [hc] at k3
      have C := Lib.hid (A.out w1 (frame b) rfl h3)
      clear h3 b1 F
      go_wp2_with fail
      refine C.out.mono ?_
      rintro e w4 (⟨rfl, hd, T⟩ | ⟨rfl, hd, T⟩)
      · replace hd := Lib.hid hd
        replace T := Lib.hid T
        go_wp2
        go_ret
        rw [hd.out]
        exact ⟨rfl, T.out⟩
      · replace hd := Lib.hid hd
        have T3 := T.set 3 (.bool false)
        have q3 := T.k3
        have f3 := T.free 3
        have q2 : (w4.setCell ⟨lq, 3, none⟩ (.bool false)).cell? ⟨lq, 2, none⟩ = some (.int .i64 (a.rc.length : Nat)) := T3.cell 2 _ rfl
        have f2 := T3.free 2
        have T2 := T3.set 2 (.int .i64 ((a.rc.length : Int) + 1))
        rw [LP.out] at T2
        replace T2 := Lib.hid T2
        clear T3 T
        go_wp2
        go_ret
        rw [hd.out]
        exact ⟨rfl, T2.out⟩
  · have d1 : decide (((str b).size : Int) < 1) = true := decide_eq_true (by omega)
    have hd : a.dput room b = (1, a) := by unfold Ab.dput; rw [if_neg (by omega)]
    replace hd := Lib.hid hd
    go_enter Tryz.func10, Tryz.ntmps10
    go_wp2
    go_ret
    rw [hd.out]
    exact ⟨rfl, HH.out⟩
end Se
end Go.Proofs.YtbolcapgocjgcaaGreatDoor

namespace Go.Proofs.YtbolcapgocjgcaaGreatDoor
set_option maxRecDepth 100000
open Go.RowKit
open Go.Proofs.YtbolcapgocjgcaaGreatDoor.Pk
namespace Se
open Dk (Bs Rf RTo Kp Rise used sApp sSync sCut sRen sRem sCrash nm)
open Fr (frames frame)

/-- Save: what it answers, and the log behind it. -/
def Ab.dsave (a : Ab) (room : Nat) (st : List Bs) : Int × Ab := if ∀ r ∈ st, 1 ≤ r.length ∧ r.length ≤ 1000 then if room - used a.L < (cnt (a.g + 1) (some st)).length then (4, a) else (0, a.save st) else (1, a)
theorem Ab.save_rc (a : Ab) (st : List Bs) : (a.save st).rc = [] := by unfold Ab.save Ab.rc Ab.con; cases a.lg <;> rfl
theorem Ab.save_con (a : Ab) (st : List Bs) : (a.save st).con = none := by unfold Ab.save Ab.con; cases a.lg <;> rfl
theorem Ab.Ok.dsave_eq {a : Ab} (h : a.Ok) (room : Nat) (st : List Bs) : pSave room a.L a.rc.length st = ((a.dsave room st).1, (a.dsave room st).2.L, (a.dsave room st).2.rc.length) := by
  unfold Ab.dsave
  by_cases hb : ∀ r ∈ st, 1 ≤ r.length ∧ r.length ≤ 1000
  · rw [if_pos hb, h.save_yes room hb]
    split <;> rfl
  · rw [if_neg hb, Ab.save_no room hb]
theorem Ab.Ok.dsave {a : Ab} (h : a.Ok) (room : Nat) (st : List Bs) (hg : a.g + 1 ≤ 4611686018427387903) : (a.dsave room st).2.Ok := by
  unfold Ab.dsave
  split
  · rename_i hb
    split
    · exact h
    · exact Ab.save_ok hb hg
  · exact h
theorem lcs_save (xq : Nat) (a : Ab) (st : List Bs) : (((lcs xq a).setIfInBounds 1 (.int .i64 ((a.g : Int) + 1))).setIfInBounds 2 (.int .i64 0)).setIfInBounds 3 (.bool true) = lcs xq (a.save st) := by
  unfold lcs
  rw [a.save_rc st, a.save_con st]
  simp [Ab.save]

section
variable (s : Option Bs) (l : Option (Bs × Nat)) (z : Bs)
theorem nx_app (room : Nat) : sApp room (raw s l) nextN z = if room - used (raw s l) < z.length then (4, raw s l) else (0, Dk.put nextN (z, 0) (raw s l)) := by
  unfold sApp
  rw [if_neg (show ¬ Dk.good nextN = false by decide), raw_next]
  rfl
theorem nx_sync : (sSync (Dk.put nextN (z, 0) (raw s l)) nextN).2 = Dk.put nextN (z, z.length) (raw s l) := by
  unfold sSync
  rw [Dk.look_put_same]
  simp only [Option.elim]
  cases l <;> cases s <;> simp [raw, Dk.put, logN, snapN, nextN, bytesBefore]
theorem nx_ren : (sRen (Dk.put nextN (z, z.length) (raw s l)) nextN snapN).2 = raw (some z) l := by
  unfold sRen
  rw [Dk.look_put_same]
  simp only [Option.elim]
  rw [if_neg (show ¬ Dk.good snapN = false by decide)]
  simp only
  cases l <;> cases s <;> simp [raw, Dk.put, Dk.del, logN, snapN, nextN, bytesBefore]
end
/-- What Save leaves of the disk, once "next" is there. -/
def mid (a : Ab) (st : List Bs) : Dk.St := raw (some (cnt (a.g + 1) (some st))) (a.lg.map fun x => (cnt a.g x.1, x.2))
theorem mid_look (a : Ab) (st : List Bs) : Dk.look logN (mid a st) = a.lg.map fun x => (cnt a.g x.1, x.2) := raw_log _ _
theorem mid_cut (a : Ab) (st : List Bs) : (sCut (mid a st) logN 0).2 = (a.save st).L := by
  refine (raw_cut _ _ 0 (Nat.zero_le _)).trans ?_
  unfold Ab.L Ab.save Ab.snp
  cases a.lg <;> rfl
theorem mid_none (a : Ab) (st : List Bs) (h : a.lg = none) : mid a st = (a.save st).L := by
  unfold mid Ab.L Ab.save Ab.snp
  rw [h]
  rfl

def SvAt (w : World) (g : Nat) (st : List Bs) (v i : Value) (wr : World) : Prop := ∃ k : Nat, i = .int .i64 k ∧ k ≤ st.length ∧ v = .string (str (frames (Pk.encI ((g : Int) + 1) :: st.take k))) ∧ (∀ r ∈ st.take k, 1 ≤ r.length ∧ r.length ≤ 1000) ∧ Below w.heap.size w wr
set_option maxHeartbeats 6400000 in
theorem rl_save {w : World} {lq xq room : Nat} {v0 : Value} {a : Ab} (h : Rm w lq xq room v0 a.L (lcs xq a) w) (ok : a.Ok) (hu : used a.L ≤ room) (hm : room ≤ 1000000) (v : Value) (st : List Bs) (S : Fr.Sr w v st) (h6 : st.length ≤ 6) (h100 : ∀ r ∈ st, r.length ≤ 100) :
    Calls Tryz.prog 14 #[.pointer (some ⟨lq, 0, none⟩), v] w fun e w' => e = .returned (.int .i64 (a.dsave room st).1) ∧ RlTo w lq xq room v0 (a.dsave room st).2 w' := by
  have HH := Lib.hid h
  have c0 := h.k0
  have c1 := h.k1
  have hlen := a.len_L
  have hg := ok.g
  have hen := enc_ok (a.g + 1) (by omega)
  have eg : ((a.g + 1 : Nat) : Int) = (a.g : Int) + 1 := by omega
  rw [eg] at hen
  have I := Lib.hid (refint w ((a.g : Int) + 1) (by omega) (by omega))
  have ew : wrap64 ((a.g : Int) + 1) = (a.g : Int) + 1 := IntWalk.wrap64_in _ (by omega)
  obtain ⟨A, c, rfl, hS⟩ := S
  obtain ⟨n, hn⟩ : ∃ n, n = st.length := ⟨_, rfl⟩
  rw [← hn] at hS h6 ⊢
  replace hS := Lib.hid hS
  replace hn := Lib.hid hn
  have FB : Hid (∀ k, (frames (Pk.encI ((a.g : Int) + 1) :: st.take k)).length ≤ 16 + 6 * 106) := fun k => by
    have e1 : (frames (Pk.encI ((a.g : Int) + 1) :: st.take k)).length = (frame (Pk.encI ((a.g : Int) + 1))).length + (frames (st.take k)).length := List.length_append ..
    have e2 : ∀ l : List Bs, (∀ r ∈ l, r.length ≤ 100) → (frames l).length ≤ l.length * 106 := by
      intro l
      induction l with
      | nil => intro _; exact Nat.zero_le _
      | cons x t ih =>
        intro hx
        have := ih (fun r hr => hx r (List.mem_cons_of_mem _ hr))
        have := hx x (List.mem_cons_self ..)
        show (frame x ++ frames t).length ≤ _
        rw [List.length_append, Fr.frame_len, List.length_cons]
        omega
    have e3 := e2 (st.take k) (fun r hr => h100 r (List.mem_of_mem_take hr))
    have e4 : (st.take k).length ≤ 6 := by rw [List.length_take]; have := hn.out; omega
    rw [Fr.frame_len] at e1
    omega
  have eL : Hid (a.L = raw a.snp (a.lg.map fun x => (cnt a.g x.1, x.2))) := rfl
  go_enter Tryz.func14, Tryz.ntmps14
  go_wp2_with fail
  refine I.out.mono ?_
  rintro e w1 ⟨rfl, b1⟩
  have b1' : Hid (Below w.heap.size w w1) := b1
  have F := Lib.hid (Fr.rframe w1 (Pk.encI ((a.g : Int) + 1)) (by omega) (by omega))
  clear b1 I
  go_wp2_with fail
  refine F.out.mono ?_
  rintro e w2 ⟨rfl, b2⟩
  have st0 : Hid (SvAt w a.g st (.string (str (frame (Pk.encI ((a.g : Int) + 1))))) (.int .i64 0) w2) := ⟨0, rfl, Nat.zero_le _, by simp [frames], (fun r hr => by simp at hr), b1'.out.trans (b2.mono b1'.out.size)⟩
  clear b2 F b1'
  go_wp2_with fail
  go_loopw [5, 6] (fun v i wr => SvAt w a.g st v i wr) (fun _ i _ => n - (intOf i).toNat)
  case atStart => exact st0.out
  case round =>
    obtain ⟨k, rfl, hk, rfl, hrs, hb⟩ := hrel
    rw [← hn.out] at hk
    have hb' : Hid (Below w.heap.size w wr) := hb
    have hrs' := Lib.hid hrs
    clear hrs hb
    by_cases hlt : k < n
    · obtain ⟨r, hr⟩ : ∃ r, st[k]? = some r := ⟨_, List.getElem?_eq_getElem (by have := hn.out; omega)⟩
      obtain ⟨ad, rfl, hab, h2⟩ := hS.out (by have := hn.out; omega)
      have q1 : wr.cell? (ad.add k) = some (.string (str r)) := (World.cell?_of_block (by rw [adr_block]; exact hb'.out.block _ hab)).trans (h2 k r hr)
      have i1 : (k : Int) < (n : Int) := by omega
      have i2 : (n : Int) ≤ 6 := by omega
      have hr100 := h100 r (List.mem_of_getElem? hr)
      have hsz : (str r).size = r.length := str_size _
      by_cases hz : 1 ≤ r.length
      · have d1 : decide (((str r).size : Int) < 1) = false := decide_eq_false (by omega)
        have d2 : decide ((1000 : Int) < ((str r).size : Int)) = false := decide_eq_false (by omega)
        have F := Lib.hid (Fr.rframe wr r hz (by omega))
        have add := Fr.str_add (frames (Pk.encI ((a.g : Int) + 1) :: st.take k)) (frame r) (by rw [Fr.frame_len]; have := FB.out k; omega)
        have nx : Hid (∀ w', Below wr.heap.size wr w' → SvAt w a.g st (.string (str (frames (Pk.encI ((a.g : Int) + 1) :: st.take k) ++ frame r))) (.int .i64 ((k : Int) + 1)) w') := fun w' hbw => ⟨k + 1, by simp, by have := hn.out; omega, by rw [Fr.take_snoc hr, ← Fr.frames_snoc]; rfl, fun x hx => by
          rw [Fr.take_snoc hr] at hx
          rcases List.mem_append.1 hx with hx | hx
          · exact hrs'.out x hx
          · rw [List.mem_singleton.1 hx]; omega, hb'.out.trans (hbw.mono hb'.out.size)⟩
        generalize str r = S at *
        clear hr h2
        go_wp2_with fail
        refine F.out.mono ?_
        rintro e w3 ⟨rfl, b3⟩
        have nx' := Lib.hid (nx.out w3 b3)
        clear b3 F nx
        go_wp2
        exact ⟨nx'.out, by simp [intOf]; omega⟩
      · have d1 : decide (((str r).size : Int) < 1) = true := decide_eq_true (by omega)
        have hd : Hid (a.dsave room st = (1, a)) := by
          unfold Ab.dsave
          rw [Hid, if_neg (fun hx => hz (hx r (List.mem_of_getElem? hr)).1)]
        have HF := Lib.hid (HH.out.below (hb'.out.mono (Nat.le_refl _)))
        generalize str r = S at *
        clear hr h2
        go_wp2
        go_ret
        rw [hd.out]
        exact ⟨rfl, HF.out⟩
    · obtain rfl : k = n := by omega
      have et : st.take k = st := by rw [hn.out, List.take_length]
      rw [et] at hrs' ⊢
      have hW := HH.out.below hb'.out
      have k0 := hW.k0
      have hz := FB.out k
      rw [et] at hz
      have hzc : Hid (frames (Pk.encI ((a.g : Int) + 1) :: st) = cnt (a.g + 1) (some st)) := by show _ = frames (Pk.encI ((a.g + 1 : Nat) : Int) :: st); rw [eg]
      have AP := hW.app a.rise (by omega) hu hm ⟨#[110, 101, 120, 116]⟩ (frames (Pk.encI ((a.g : Int) + 1) :: st)) (by omega)
      have hE : sApp room a.L (nm ⟨#[110, 101, 120, 116]⟩) (frames (Pk.encI ((a.g : Int) + 1) :: st)) = _ := nx_app a.snp (a.lg.map fun x => (cnt a.g x.1, x.2)) (frames (Pk.encI ((a.g : Int) + 1) :: st)) room
      rw [hE] at AP
      generalize hZ : frames (Pk.encI ((a.g : Int) + 1) :: st) = z at *
      have hdd : a.dsave room st = if room - used a.L < z.length then (4, a) else (0, a.save st) := by
        unfold Ab.dsave
        rw [if_pos hrs'.out, ← hzc.out]
      clear hE hW
      by_cases hf : room - used a.L < z.length
      · rw [if_pos hf] at hdd
        have hd := Lib.hid hdd
        rw [← eL.out, if_pos hf] at AP
        replace AP := Lib.hid AP
        clear hdd
        go_wp2_with fail
        refine AP.out.mono ?_
        rintro e w3 ⟨rfl, T⟩
        have j0 := T.k0
        have RM := T.rem a.rise (by omega) ⟨#[110, 101, 120, 116]⟩
        have er : (sRem a.L (nm ⟨#[110, 101, 120, 116]⟩)).2 = a.L := raw_rem _ _
        rw [er] at RM
        replace RM := Lib.hid RM
        clear T AP er
        go_wp2_with fail
        refine RM.out.mono ?_
        rintro e w4 ⟨rfl, T4⟩
        replace T4 := Lib.hid T4
        go_wp2
        go_ret
        rw [hd.out]
        exact ⟨rfl, T4.out⟩
      · rw [if_neg hf] at hdd
        have hd := Lib.hid hdd
        rw [← eL.out, if_neg hf] at AP
        replace AP := Lib.hid AP
        clear hdd
        go_wp2_with fail
        refine AP.out.mono ?_
        rintro e w3 ⟨rfl, T⟩
        have j0 := T.k0
        have hl1 : (Dk.put nextN (z, 0) a.L).length ≤ 3 := Nat.le_trans (Dk.len_put_le _ _ _) (by omega)
        have hl2 : (Dk.put nextN (z, z.length) a.L).length ≤ 3 := Nat.le_trans (Dk.len_put_le _ _ _) (by omega)
        have SY := T.sync (Dk.rise_put a.rise _ _) (by omega) ⟨#[110, 101, 120, 116]⟩
        have es : (sSync (Dk.put nextN (z, 0) a.L) (nm ⟨#[110, 101, 120, 116]⟩)).2 = Dk.put nextN (z, z.length) a.L := nx_sync _ _ _
        rw [es] at SY
        replace SY := Lib.hid SY
        clear T AP es
        go_wp2_with fail
        refine SY.out.mono ?_
        rintro e w4 ⟨rfl, T⟩
        have j1 := T.k0
        have RN := T.ren (Dk.rise_put a.rise _ _) (by omega) ⟨#[110, 101, 120, 116]⟩ ⟨#[115, 110, 97, 112]⟩
        have en : (sRen (Dk.put nextN (z, z.length) a.L) (nm ⟨#[110, 101, 120, 116]⟩) (nm ⟨#[115, 110, 97, 112]⟩)).2 = mid a st := by rw [mid, ← hzc.out]; exact nx_ren _ _ _
        rw [en] at RN
        replace RN := Lib.hid RN
        clear T SY en
        go_wp2_with fail
        refine RN.out.mono ?_
        rintro e w5 ⟨rfl, T⟩
        have j2 := T.k0
        have rm : Rise (mid a st) := raw_rise _ _
        have lm : (mid a st).length ≤ 2 := raw_len _ _
        have RD := T.read rm (by omega) ⟨#[108, 111, 103]⟩
        have el : Dk.look (nm ⟨#[108, 111, 103]⟩) (mid a st) = _ := mid_look a st
        rw [el] at RD
        replace RD := Lib.hid RD
        have T' := Lib.hid T
        clear T RN el
        go_wp2_with fail
        refine RD.out.mono ?_
        rintro e w6 ⟨rfl, b6⟩
        have T6 := T'.out.below b6
        have LS := Lib.hid (lcs_save xq a st)
        cases hlg : a.lg with
        | none =>
          rw [mid_none a st hlg] at T6
          have s1 := T6.k1
          have f1 := T6.free 1
          have U1 := T6.set 1 (.int .i64 ((a.g : Int) + 1))
          have s2 : (w6.setCell ⟨lq, 1, none⟩ (.int .i64 ((a.g : Int) + 1))).cell? ⟨lq, 2, none⟩ = some (.int .i64 (a.rc.length : Nat)) := U1.cell 2 _ rfl
          have f2 := U1.free 2
          have U2 := U1.set 2 (.int .i64 0)
          have s3 : ((w6.setCell ⟨lq, 1, none⟩ (.int .i64 ((a.g : Int) + 1))).setCell ⟨lq, 2, none⟩ (.int .i64 0)).cell? ⟨lq, 3, none⟩ = some (.bool a.con.isNone) := U2.cell 3 _ rfl
          have f3 := U2.free 3
          have U3 := U2.set 3 (.bool true)
          rw [LS.out] at U3
          replace U3 := Lib.hid U3
          clear U1 U2 T6 T' b6 RD
          simp only [Option.map, Option.elim]
          go_wp2
          go_ret
          rw [hd.out]
          exact ⟨rfl, U3.out⟩
        | some x =>
          have j6 := T6.k0
          have CT := T6.cut rm (by omega) ⟨#[108, 111, 103]⟩ 0
          have ec : (sCut (mid a st) (nm ⟨#[108, 111, 103]⟩) 0).2 = _ := mid_cut a st
          rw [ec] at CT
          replace CT := Lib.hid CT
          clear T6 T' b6 RD ec
          simp only [Option.map, Option.elim]
          go_wp2_with fail
          refine CT.out.mono ?_
          rintro e w7 ⟨rfl, T6⟩
          have s1 := T6.k1
          have f1 := T6.free 1
          have U1 := T6.set 1 (.int .i64 ((a.g : Int) + 1))
          have s2 : (w7.setCell ⟨lq, 1, none⟩ (.int .i64 ((a.g : Int) + 1))).cell? ⟨lq, 2, none⟩ = some (.int .i64 (a.rc.length : Nat)) := U1.cell 2 _ rfl
          have f2 := U1.free 2
          have U2 := U1.set 2 (.int .i64 0)
          have s3 : ((w7.setCell ⟨lq, 1, none⟩ (.int .i64 ((a.g : Int) + 1))).setCell ⟨lq, 2, none⟩ (.int .i64 0)).cell? ⟨lq, 3, none⟩ = some (.bool a.con.isNone) := U2.cell 3 _ rfl
          have f3 := U2.free 3
          have U3 := U2.set 3 (.bool true)
          rw [LS.out] at U3
          replace U3 := Lib.hid U3
          clear U1 U2 T6 CT
          go_wp2
          go_ret
          rw [hd.out]
          exact ⟨rfl, U3.out⟩
end Se
end Go.Proofs.YtbolcapgocjgcaaGreatDoor

namespace Go.Proofs.YtbolcapgocjgcaaGreatDoor
set_option maxRecDepth 100000
open Go.RowKit
open Go.Proofs.YtbolcapgocjgcaaGreatDoor.Pk
namespace Se
open Dk (Bs Rf RTo Kp Rise used sApp sSync sCut sRen sRem sCrash nm)
open Fr (frames frame Got strs)
open Go.Sort (grow)

/-- Strings in a row of their own, or behind its first. -/
def Sro (w : World) (v : Value) (l : List Bs) : Prop := ∃ A c, v = .slice A l.length c ∧ (0 < l.length → ∃ ad cur, A = some ad ∧ w.heap[ad.block]? = some (.cells cur 9 (0, 0)) ∧ ∀ (i : Nat) r, l[i]? = some r → w.cell? (ad.add i) = some (.string (str r)))
theorem Sro.sr {w : World} {v : Value} {l : List Bs} (h : Sro w v l) : Fr.Sr w v l := by
  obtain ⟨A, c, e, h⟩ := h
  exact ⟨A, c, e, fun hn => by obtain ⟨ad, cur, e1, h1, h2⟩ := h hn; exact ⟨ad, e1, lt_some h1, h2⟩⟩
theorem Sro.keep {w w' : World} {v : Value} {l : List Bs} (h : Sro w v l) (hk : ∀ (g : Nat) (cur : Array Value), w.heap[g]? = some (Obj.cells cur 9 (0, 0)) → w'.heap[g]? = w.heap[g]?) : Sro w' v l := by
  obtain ⟨A, c, e, h⟩ := h
  refine ⟨A, c, e, fun hn => ?_⟩
  obtain ⟨ad, cur, e1, h1, h2⟩ := h hn
  have := hk _ _ h1
  exact ⟨ad, cur, e1, this.trans h1, fun i r hi => (World.cell?_of_block (by rw [adr_block]; exact this)).trans (h2 i r hi)⟩
theorem Sro.below {w w' : World} {v : Value} {l : List Bs} (h : Sro w v l) (hb : Below w.heap.size w w') : Sro w' v l := h.keep fun g _ hg => hb.block g (lt_some hg)
theorem sro_own {w : World} {base : Nat} {v : Value} {l : List Bs} (ho : w.ownsRow base 9 1 v l.length (strs l)) : Sro w v l := by
  obtain ⟨A, c, rfl⟩ := own_form ho
  refine ⟨A, c, rfl, fun hn => ?_⟩
  rcases ho.2 with ⟨_, h0⟩ | ⟨g, cap, cur, e, hb, hh, _⟩
  · omega
  · injection e with e1 _ e3
    subst e1
    exact ⟨_, cur, rfl, hh, fun i r hi => ho.cells (g := g) rfl i _ (Fr.strs_get hi)⟩
theorem sro_tail {w : World} {base : Nat} {v : Value} {r : Bs} {l : List Bs} (ho : w.ownsRow base 9 1 v (r :: l).length (strs (r :: l))) :
    ∃ gb c, v = .slice (some ⟨gb, 0, none⟩) (l.length + 1) c ∧ l.length + 1 ≤ c ∧ c ≤ 9223372036854775807 ∧ w.cell? ⟨gb, 0, none⟩ = some (.string (str r)) ∧ Sro w (.slice (some ⟨gb, off1 c, none⟩) l.length (c - 1)) l := by
  rcases ho.2 with ⟨_, h0⟩ | ⟨g, cap, cur, rfl, hb, hh, h1, h2, _⟩
  · simp at h0
  · unfold maxLen at h2
    simp only [List.length_cons] at h1
    refine ⟨g, cap, rfl, h1, h2, ?_, _, _, rfl, fun hn => ⟨_, cur, rfl, hh, fun i r' hi => ?_⟩⟩
    · have := ho.cells (g := g) rfl 0 _ (Fr.strs_get (l := r :: l) (i := 0) rfl)
      rwa [Addr.add_zero'] at this
    · have hc : off1 cap = 1 := by unfold off1; rw [if_neg (by omega)]
      have := ho.cells (g := g) rfl (i + 1) _ (Fr.strs_get (l := r :: l) (i := i + 1) hi)
      rw [hc, Addr.add_lit]
      rw [Addr.add_lit] at this
      rw [Nat.add_comm 1 i]
      simpa using this
theorem slice_1 (g n c : Nat) (h1 : n + 1 ≤ c) (h2 : c ≤ 9223372036854775807) (W : World) : (Instr.slice 36 (.slice (some ⟨g, 0, none⟩) (n + 1) c) (some (.int .i64 1)) none none).run Tryz.prog W = .ok (.slice (some ⟨g, off1 c, none⟩) n (c - 1)) W := by
  rw [run_slice_l W 36 (some ⟨g, 0, none⟩) (n + 1) c (by kernel_rfl) .i64 1 (by omega) (by omega)]
  have e : (sizeOf (Tryz.prog.elem 36)).run Tryz.prog W = .ok 1 W := by kernel_rfl
  rw [e]
  simp only [Result.andThen, sliced, off1]
  by_cases hc : c = 1
  · subst hc; obtain rfl : n = 0 := by omega
    rfl
  · have : ¬ (c = (1 : Int).toNat) := by simpa using hc
    rw [if_neg this, if_neg hc]
    simp [Addr.add]
section
variable {w0 w w' : World} {lq xq room : Nat} {v0 : Value} {L L' : Dk.St} {cs : Array Value}
theorem Rm.sro_set (h : Rm w0 lq xq room v0 L cs w) (i : Nat) (u : Value) {v : Value} {l : List Bs} (S : Sro w v l) : Sro (w.setCell ⟨lq, i, none⟩ u) v l := by
  obtain ⟨_, _, hc, _⟩ := h
  refine S.keep fun g cur hg => Below.heap_setCell _ _ _ _ ?_
  rintro rfl
  rw [hc] at hg
  injection hg with hg
  injection hg with _ e
  exact absurd e (by decide)
theorem Rm.cut2 (h : Rm w0 lq xq room v0 L cs w) (hr : Rise L) (hl : L.length ≤ 900) (s : ByteArray) (k : Int) :
    Calls Tryz.prog 30 #[.pointer (some ⟨xq, 0, none⟩), .string s, .int .i64 k] w fun e w' => e = .returned (.int .i64 (sCut L (nm s) k).1) ∧ Rm w0 lq xq room v0 (sCut L (nm s) k).2 cs w' ∧ ∀ v l, Sro w v l → Sro w' v l := by
  obtain ⟨v, R, h2, h3, h4⟩ := h
  refine (Dk.rcut w xq room L v s k R hr (by omega)).mono fun e w' k => ⟨k.1, Rm.disk ⟨v, R, h2, h3, h4⟩ R h3 k.2, fun v' l S => S.keep fun g cur hg => ?_⟩
  obtain ⟨_, _, _, hk⟩ := k.2
  refine hk.block g (lt_some hg) ?_
  rintro (rfl | e)
  · have := R.cells
    rw [this] at hg
    injection hg with hg
    injection hg with _ e
    exact absurd e (by decide)
  · obtain ⟨_, cur, he⟩ := Dk.row_block R.row e
    rw [he] at hg
    injection hg with hg
    injection hg with _ e
    exact absurd e (by decide)
end
/-- What Open leaves. -/
def OpTo (w : World) (xq room : Nat) (v : Value) (L' : Dk.St) (g : Nat) (st rc : List Bs) (em : Bool) (e : Ending) (w' : World) : Prop :=
  ∃ lq vs vc v', e = .returned (.tuple #[.pointer (some ⟨lq, 0, none⟩), vs, vc]) ∧ (Rf w' xq room L' v' ∧ w'.heap[lq]? = some (.cells #[.pointer (some ⟨xq, 0, none⟩), .int .i64 (g : Nat), .int .i64 (rc.length : Nat), .bool em] 53 (0, 0)) ∧ (∀ g, v'.ownBlock = some g → v.ownBlock = some g ∨ w.heap.size ≤ g) ∧ Kp (fun g => g = xq ∨ v.ownBlock = some g) w w') ∧ w.heap.size ≤ lq ∧ Fr.Sr w' vs st ∧ Fr.Sr w' vc rc
theorem op_mk {w w1 wA w' : World} {xq room : Nat} {v v1 : Value} {L' : Dk.St} {cs0 cs : Array Value} (hk1 : Kp (fun g => g = xq ∨ v.ownBlock = some g) w w1) (hv1 : ∀ g, v1.ownBlock = some g → v.ownBlock = some g ∨ w.heap.size ≤ g) (hA : wA = w1.alloc (.cells cs0 53)) (H : Rm wA w1.heap.size xq room v1 L' cs w') :
    ∃ v', (Rf w' xq room L' v' ∧ w'.heap[w1.heap.size]? = some (.cells cs 53 (0, 0)) ∧ (∀ g, v'.ownBlock = some g → v.ownBlock = some g ∨ w.heap.size ≤ g) ∧ Kp (fun g => g = xq ∨ v.ownBlock = some g) w w') ∧ w.heap.size ≤ w1.heap.size := by
  obtain ⟨v', R, hc, hv, hk⟩ := H
  have hs : wA.heap.size = w1.heap.size + 1 := by rw [hA]; simp
  have b1 : Below w1.heap.size w1 wA := by rw [hA]; exact Dk.below_alloc _ _
  have z1 := hk1.size
  refine ⟨v', ⟨R, hc, fun g hg => ?_, ⟨hk.os.trans (b1.os.trans hk1.os), hk.tape.trans (b1.tape.trans hk1.tape), hk.output.trans (b1.output.trans hk1.output), by have := hk.size; omega, fun g hg hn => ?_⟩⟩, z1⟩
  · rcases hv g hg with e | e
    · exact hv1 g e
    · exact .inr (by omega)
  · refine (hk.block g (by omega) ?_).trans ((b1.block g (by omega)).trans (hk1.block g hg hn))
    rintro (e | e | e)
    · exact hn (.inl e)
    · omega
    · rcases hv1 g e with e | e
      · exact hn (.inr e)
      · omega

theorem results_tmp3 {fn : Func} {t u v : Tmp} (h : fn.results = #[.tmp t, .tmp u, .tmp v]) (tmps : Array Value) (P : Program) (w : World) :
    (results fn tmps).run P w = .ok (.tuple #[tmps.getD t undef, tmps.getD u undef, tmps.getD v undef]) w := by
  simp [results, h]
theorem ropen_results : Tryz.f6.results = #[.tmp 2, .tmp 3, .tmp 4] := by kernel_rfl
set_option maxHeartbeats 6400000 in
theorem ropen {w : World} {xq room : Nat} {v : Value} {L : Dk.St} (R : Rf w xq room L v) (hr : Rise L) (hl : L.length ≤ 900) (hn : (sRem L nextN).2 = L) {g : Nat} (hg : g ≤ 4611686018427387904) {so co : Option (List Bs)} {sq cq : Nat} (hs0 : so = none → g = 0) (hs : Got (bof snapN L) (so.elim [] (Pk.encI g :: ·)) sq) (hc : Got (bof logN L) (co.elim [] (Pk.encI g :: ·)) cq) (h1 : (bof snapN L).length ≤ 1000000) (h2 : (bof logN L).length ≤ 1000000) :
    Calls Tryz.prog 6 #[.pointer (some ⟨xq, 0, none⟩)] w (OpTo w xq room v (sCut L logN cq).2 g (so.getD []) (co.getD []) co.isNone) := by
  have T1 := Dk.rremove w xq room L v ⟨#[110, 101, 120, 116]⟩ R hr (by omega)
  rw [show (sRem L (nm ⟨#[110, 101, 120, 116]⟩)).2 = L from hn] at T1
  replace T1 := Lib.hid T1
  have hs' := Lib.hid hs
  have hc' := Lib.hid hc
  have hs0' := Lib.hid hs0
  have RG := Lib.hid (fun w' => rgen w' g hg)
  clear R hn hs hc hs0
  go_enter Tryz.func6, Tryz.ntmps6
  go_wp2_with fail
  refine T1.out.mono ?_
  rintro e w1 ⟨rfl, v1, R1, hv1, hk1⟩
  obtain ⟨wA, hA⟩ : ∃ z, z = w1.alloc (.cells #[.pointer (some ⟨xq, 0, none⟩), .int .i64 0, .int .i64 0, .bool false] 53) := ⟨_, rfl⟩
  have HA : Rm wA w1.heap.size xq room v1 L #[.pointer (some ⟨xq, 0, none⟩), .int .i64 0, .int .i64 0, .bool false] wA := Rm.start (R1.below (by rw [hA]; exact Dk.below_alloc _ _)) (by rw [hA]; exact heap_alloc_new _ _)
  have MK : Hid (∀ (w' : World) (L' : Dk.St) (cs : Array Value), Rm wA w1.heap.size xq room v1 L' cs w' → ∃ v', (Rf w' xq room L' v' ∧ w'.heap[w1.heap.size]? = some (.cells cs 53 (0, 0)) ∧ (∀ g, v'.ownBlock = some g → v.ownBlock = some g ∨ w.heap.size ≤ g) ∧ Kp (fun g => g = xq ∨ v.ownBlock = some g) w w') ∧ w.heap.size ≤ w1.heap.size) := fun w' L' cs h => op_mk hk1 hv1 hA h
  have RD : Hid (Calls Tryz.prog 21 #[.pointer (some ⟨xq, 0, none⟩), .string ⟨#[115, 110, 97, 112]⟩] wA fun e w' => e = .returned (.tuple #[.string (str (bof snapN L)), .int .i64 ((Dk.look snapN L).elim 5 fun _ => 0)]) ∧ Below wA.heap.size wA w') := HA.read hr hl ⟨#[115, 110, 97, 112]⟩
  obtain ⟨es, hes⟩ : ∃ z, z = (Dk.look snapN L).elim (5 : Int) fun _ => 0 := ⟨_, rfl⟩
  rw [← hes] at RD
  clear hes
  replace HA := Lib.hid HA
  clear T1 R1 hv1 hk1
  obtain ⟨lq, hlq⟩ : ∃ z, z = w1.heap.size := ⟨_, rfl⟩
  go_upto_region 3 with (fail)
  rw [← hA]
  rw [← hlq] at HA MK ⊢
  replace hlq := Lib.hid hlq
  clear hA
  go_wp2_with fail
  refine RD.out.mono ?_
  rintro e w2 ⟨rfl, b2⟩
  have RR := Lib.hid (Fr.rread_any w2 (bof snapN L) h1)
  have H2 := Lib.hid (HA.out.below b2)
  clear b2 RD HA
  go_wp2_with fail
  refine RR.out.mono ?_
  rintro e w3 ⟨t8, l, q, rfl, hgot, ho, b3⟩
  obtain ⟨e1, e2⟩ := Fr.got_one hgot hs'.out
  replace e2 := e2.symm
  subst e2
  rw [e1] at ho
  have H3 := H2.out.below b3
  clear b3 H2 RR hgot e1 hs'
  cases so with
  | none =>
    simp only [Option.elim] at ho ⊢
    obtain ⟨A1, c1, rfl⟩ := own_form ho
    have S5 := sro_own ho
    simp only [List.length_nil] at S5 ho ⊢
    have H5 : Rm wA lq xq room v1 L #[.pointer (some ⟨xq, 0, none⟩), .int .i64 (g : Nat), .int .i64 0, .bool false] w3 := by rw [hs0'.out rfl]; exact H3
    clear ho H3
    have RD : Hid (Calls Tryz.prog 21 #[.pointer (some ⟨xq, 0, none⟩), .string ⟨#[108, 111, 103]⟩] w3 fun e w' => e = .returned (.tuple #[.string (str (bof logN L)), .int .i64 ((Dk.look logN L).elim 5 fun _ => 0)]) ∧ Below (World.heap w3).size w3 w') := H5.read hr hl ⟨#[108, 111, 103]⟩
    obtain ⟨es2, hes2⟩ : ∃ z, z = (Dk.look logN L).elim (5 : Int) fun _ => 0 := ⟨_, rfl⟩
    rw [← hes2] at RD
    replace hes2 := Lib.hid hes2
    replace H5 := Lib.hid H5
    go_wp2_with fail
    refine RD.out.mono ?_
    rintro e w6 ⟨rfl, b6⟩
    have RR := Lib.hid (Fr.rread_any w6 (bof logN L) h2)
    have H6 := Lib.hid (H5.out.below b6)
    have S6 := Lib.hid (S5.below b6)
    clear b6 RD H5 S5
    go_wp2_with fail
    refine RR.out.mono ?_
    rintro e w7 ⟨t11, l, q2, rfl, hgot, ho, b7⟩
    obtain ⟨e1, e2⟩ := Fr.got_one hgot hc'.out
    replace e2 := e2.symm
    subst e2
    rw [e1] at ho
    have H7 := H6.out.below b7
    have S7 := Lib.hid (S6.out.below b7)
    clear b7 H6 RR hgot e1 hc' S6
    cases co with
    | none =>
      simp only [Option.elim] at ho ⊢
      obtain ⟨A2, c2, rfl⟩ := own_form ho
      have S8 := Lib.hid (sro_own ho)
      simp only [List.length_nil] at S8 ho ⊢
      clear ho
      go_wp2_with fail
      go_quiet (fail)
      have b8 : Below w7.heap.size w7 (w7.drewN nq) := ⟨rfl, rfl, rfl, Nat.le_refl _, fun _ _ => rfl⟩
      obtain ⟨w8, hw8⟩ : ∃ z, z = w7.drewN nq := ⟨_, rfl⟩
      rw [← hw8] at b8 ⊢
      have H8 := H7.below b8
      have S9 := S7.out.below b8
      have S10 := S8.out.below b8
      clear hw8 b8 H7 S7 S8
      cases hlk : Dk.look logN L with
      | none =>
        have hes3 := hes2.out
        rw [hlk] at hes3
        simp only [Option.elim] at hes3
        subst hes3
        have ecut : Hid ((sCut L logN cq).2 = L) := by unfold Hid sCut; rw [hlk]; rfl
        have HB := H8
        have SB := S9
        have SC := S10
        have f3 := HB.free 3
        have k3 : World.cell? w8 ⟨lq, 3, none⟩ = some (.bool false) := HB.cell 3 _ rfl
        have SB1 := HB.sro_set 3 (.bool true) SB
        have SC1 := HB.sro_set 3 (.bool true) SC
        have HC := HB.set 3 (.bool true)
        have f2 := HC.free 2
        have k2 : World.cell? (World.setCell w8 ⟨lq, 3, none⟩ (.bool true)) ⟨lq, 2, none⟩ = some (.int .i64 0) := HC.cell 2 _ rfl
        have SB2 := Lib.hid (HC.sro_set 2 (.int .i64 0) SB1)
        have SC2 := Lib.hid (HC.sro_set 2 (.int .i64 0) SC1)
        have HD := Lib.hid (HC.set 2 (.int .i64 0))
        clear HB HC SB SC SB1 SC1
        go_wp2
        refine bodyPost_ret (results_tmp3 ropen_results _ _ _) rfl ?_
        obtain ⟨v', hm, hz⟩ := MK.out _ _ _ HD.out
        refine ⟨lq, _, _, v', rfl, ?_, hz, SB2.out.sr, SC2.out.sr⟩
        rw [ecut.out]
        exact hm
      | some x =>
        have hes3 := hes2.out
        rw [hlk] at hes3
        simp only [Option.elim] at hes3
        subst hes3
        have CT : Hid _ := Lib.hid (Rm.cut2 H8 hr hl ⟨#[108, 111, 103]⟩ (cq : Nat))
        go_wp2_with fail
        refine CT.out.mono ?_
        rintro e wc ⟨rfl, HB, SK⟩
        have SB := SK _ _ S9
        have SC := SK _ _ S10
        clear CT SK
        have f3 := HB.free 3
        have k3 : World.cell? wc ⟨lq, 3, none⟩ = some (.bool false) := HB.cell 3 _ rfl
        have SB1 := HB.sro_set 3 (.bool true) SB
        have SC1 := HB.sro_set 3 (.bool true) SC
        have HC := HB.set 3 (.bool true)
        have f2 := HC.free 2
        have k2 : World.cell? (World.setCell wc ⟨lq, 3, none⟩ (.bool true)) ⟨lq, 2, none⟩ = some (.int .i64 0) := HC.cell 2 _ rfl
        have SB2 := Lib.hid (HC.sro_set 2 (.int .i64 0) SB1)
        have SC2 := Lib.hid (HC.sro_set 2 (.int .i64 0) SC1)
        have HD := Lib.hid (HC.set 2 (.int .i64 0))
        clear HB HC SB SC SB1 SC1
        go_wp2
        refine bodyPost_ret (results_tmp3 ropen_results _ _ _) rfl ?_
        obtain ⟨v', hm, hz⟩ := MK.out _ _ _ HD.out
        refine ⟨lq, _, _, v', rfl, ?_, hz, SB2.out.sr, SC2.out.sr⟩
        exact hm
    | some rc =>
      simp only [Option.elim] at ho ⊢
      obtain ⟨hb, c2, rfl, hc1, hc2, y0, S80⟩ := sro_tail ho
      have S8 := Lib.hid S80
      obtain ⟨n2, hn2⟩ : ∃ z, z = rc.length := ⟨_, rfl⟩
      simp only [← hn2] at S8 hc1 ⊢
      replace hn2 := Lib.hid hn2
      have sl := slice_1 hb n2 c2 hc1 hc2
      have nez : ((n2 : Int) + 1 == 0) = false := by simpa using (show ¬ ((n2 : Int) + 1 = 0) by omega)
      have gtz : (0 : Int) < (n2 : Int) + 1 := by omega
      clear ho S80 hc2
      have Q1 := fun d os => Calls.regrown_of (RG.out (grow (redrawn w7 d) os))
      have y1 : w7.cell? ⟨lq, 1, none⟩ = some (.int .i64 (g : Nat)) := H7.cell 1 _ rfl
      replace H7 := Lib.hid H7
      have z0 := fun d os => cell_regrown y0 d os
      have z1 := fun d os => cell_regrown y1 d os
      go_wp2_with fail
      refine wp_region_quiet_below (by kernel_rfl) (by kernel_rfl) ?_
      repeat (go_big_quiet_step (with_reducible exact Q1 _ _))
      refine wpQuiet_nil ?_
      intro w8 hw'
      obtain ⟨⟨dq, osq⟩, hw''⟩ := hw'
      have b8 : Below w7.heap.size w7 w8 := by rw [hw'']; exact below_regrown w7 dq osq
      have H8 := H7.out.below b8
      have S9 := S7.out.below b8
      have S10 := S8.out.below b8
      clear hw'' b8 Q1 y0 y1 z0 z1 H7 S7 S8
      cases hlk : Dk.look logN L with
      | none =>
        have hes3 := hes2.out
        rw [hlk] at hes3
        simp only [Option.elim] at hes3
        subst hes3
        have ecut : Hid ((sCut L logN cq).2 = L) := by unfold Hid sCut; rw [hlk]; rfl
        have HB := H8
        have SB := S9
        have SC := S10
        have f3 := HB.free 3
        have k3 : World.cell? w8 ⟨lq, 3, none⟩ = some (.bool false) := HB.cell 3 _ rfl
        have SB1 := HB.sro_set 3 (.bool false) SB
        have SC1 := HB.sro_set 3 (.bool false) SC
        have HC := HB.set 3 (.bool false)
        have f2 := HC.free 2
        have k2 : World.cell? (World.setCell w8 ⟨lq, 3, none⟩ (.bool false)) ⟨lq, 2, none⟩ = some (.int .i64 0) := HC.cell 2 _ rfl
        have SB2 := Lib.hid (HC.sro_set 2 (.int .i64 (n2 : Nat)) SB1)
        have SC2 := Lib.hid (HC.sro_set 2 (.int .i64 (n2 : Nat)) SC1)
        have HD := Lib.hid (HC.set 2 (.int .i64 (n2 : Nat)))
        clear HB HC SB SC SB1 SC1
        go_wp2
        refine bodyPost_ret (results_tmp3 ropen_results _ _ _) rfl ?_
        obtain ⟨v', hm, hz⟩ := MK.out _ _ _ HD.out
        refine ⟨lq, _, _, v', rfl, ?_, hz, SB2.out.sr, SC2.out.sr⟩
        simp only [Option.getD, Option.isNone]
        rw [← hn2.out]
        rw [ecut.out]
        exact hm
      | some x =>
        have hes3 := hes2.out
        rw [hlk] at hes3
        simp only [Option.elim] at hes3
        subst hes3
        have CT : Hid _ := Lib.hid (Rm.cut2 H8 hr hl ⟨#[108, 111, 103]⟩ (cq : Nat))
        go_wp2_with fail
        refine CT.out.mono ?_
        rintro e wc ⟨rfl, HB, SK⟩
        have SB := SK _ _ S9
        have SC := SK _ _ S10
        clear CT SK
        have f3 := HB.free 3
        have k3 : World.cell? wc ⟨lq, 3, none⟩ = some (.bool false) := HB.cell 3 _ rfl
        have SB1 := HB.sro_set 3 (.bool false) SB
        have SC1 := HB.sro_set 3 (.bool false) SC
        have HC := HB.set 3 (.bool false)
        have f2 := HC.free 2
        have k2 : World.cell? (World.setCell wc ⟨lq, 3, none⟩ (.bool false)) ⟨lq, 2, none⟩ = some (.int .i64 0) := HC.cell 2 _ rfl
        have SB2 := Lib.hid (HC.sro_set 2 (.int .i64 (n2 : Nat)) SB1)
        have SC2 := Lib.hid (HC.sro_set 2 (.int .i64 (n2 : Nat)) SC1)
        have HD := Lib.hid (HC.set 2 (.int .i64 (n2 : Nat)))
        clear HB HC SB SC SB1 SC1
        go_wp2
        refine bodyPost_ret (results_tmp3 ropen_results _ _ _) rfl ?_
        obtain ⟨v', hm, hz⟩ := MK.out _ _ _ HD.out
        refine ⟨lq, _, _, v', rfl, ?_, hz, SB2.out.sr, SC2.out.sr⟩
        simp only [Option.getD, Option.isNone]
        rw [← hn2.out]
        exact hm
  | some st =>
    simp only [Option.elim] at ho ⊢
    obtain ⟨gb, c1, rfl, hc1, hc2, x0, S50⟩ := sro_tail ho
    obtain ⟨n1, hn1⟩ : ∃ z, z = st.length := ⟨_, rfl⟩
    simp only [← hn1] at S50 hc1 ⊢
    clear hn1
    have sl1 := slice_1 gb n1 c1 hc1 hc2
    have gtz1 : (0 : Int) < (n1 : Int) + 1 := by omega
    have RGw := Lib.hid (RG.out w3)
    replace H3 := Lib.hid H3
    clear hc2 ho
    go_wp2_with fail
    refine RGw.out.mono ?_
    rintro e w4 ⟨rfl, b4⟩
    have H4 := H3.out.below b4
    have s4 : w4.cell? ⟨lq, 1, none⟩ = some (.int .i64 0) := H4.cell 1 _ rfl
    have f4 := H4.free 1
    have S5 := H4.sro_set 1 (.int .i64 (g : Nat)) (S50.below b4)
    have H5 := H4.set 1 (.int .i64 (g : Nat))
    clear b4 S50 H3 H4 x0 RGw
    go_upto_region 8 with (fail)
    have RD : Hid (Calls Tryz.prog 21 #[.pointer (some ⟨xq, 0, none⟩), .string ⟨#[108, 111, 103]⟩] (w4.setCell ⟨lq, 1, none⟩ (.int .i64 (g : Nat))) fun e w' => e = .returned (.tuple #[.string (str (bof logN L)), .int .i64 ((Dk.look logN L).elim 5 fun _ => 0)]) ∧ Below (World.heap (w4.setCell ⟨lq, 1, none⟩ (.int .i64 (g : Nat)))).size (w4.setCell ⟨lq, 1, none⟩ (.int .i64 (g : Nat))) w') := H5.read hr hl ⟨#[108, 111, 103]⟩
    obtain ⟨es2, hes2⟩ : ∃ z, z = (Dk.look logN L).elim (5 : Int) fun _ => 0 := ⟨_, rfl⟩
    rw [← hes2] at RD
    replace hes2 := Lib.hid hes2
    replace H5 := Lib.hid H5
    go_wp2_with fail
    refine RD.out.mono ?_
    rintro e w6 ⟨rfl, b6⟩
    have RR := Lib.hid (Fr.rread_any w6 (bof logN L) h2)
    have H6 := Lib.hid (H5.out.below b6)
    have S6 := Lib.hid (S5.below b6)
    clear b6 RD H5 S5
    go_wp2_with fail
    refine RR.out.mono ?_
    rintro e w7 ⟨t11, l, q2, rfl, hgot, ho, b7⟩
    obtain ⟨e1, e2⟩ := Fr.got_one hgot hc'.out
    replace e2 := e2.symm
    subst e2
    rw [e1] at ho
    have H7 := H6.out.below b7
    have S7 := Lib.hid (S6.out.below b7)
    clear b7 H6 RR hgot e1 hc' S6
    cases co with
    | none =>
      simp only [Option.elim] at ho ⊢
      obtain ⟨A2, c2, rfl⟩ := own_form ho
      have S8 := Lib.hid (sro_own ho)
      simp only [List.length_nil] at S8 ho ⊢
      clear ho
      go_wp2_with fail
      go_quiet (fail)
      have b8 : Below w7.heap.size w7 (w7.drewN nq) := ⟨rfl, rfl, rfl, Nat.le_refl _, fun _ _ => rfl⟩
      obtain ⟨w8, hw8⟩ : ∃ z, z = w7.drewN nq := ⟨_, rfl⟩
      rw [← hw8] at b8 ⊢
      have H8 := H7.below b8
      have S9 := S7.out.below b8
      have S10 := S8.out.below b8
      clear hw8 b8 H7 S7 S8
      cases hlk : Dk.look logN L with
      | none =>
        have hes3 := hes2.out
        rw [hlk] at hes3
        simp only [Option.elim] at hes3
        subst hes3
        have ecut : Hid ((sCut L logN cq).2 = L) := by unfold Hid sCut; rw [hlk]; rfl
        have HB := H8
        have SB := S9
        have SC := S10
        have f3 := HB.free 3
        have k3 : World.cell? w8 ⟨lq, 3, none⟩ = some (.bool false) := HB.cell 3 _ rfl
        have SB1 := HB.sro_set 3 (.bool true) SB
        have SC1 := HB.sro_set 3 (.bool true) SC
        have HC := HB.set 3 (.bool true)
        have f2 := HC.free 2
        have k2 : World.cell? (World.setCell w8 ⟨lq, 3, none⟩ (.bool true)) ⟨lq, 2, none⟩ = some (.int .i64 0) := HC.cell 2 _ rfl
        have SB2 := Lib.hid (HC.sro_set 2 (.int .i64 0) SB1)
        have SC2 := Lib.hid (HC.sro_set 2 (.int .i64 0) SC1)
        have HD := Lib.hid (HC.set 2 (.int .i64 0))
        clear HB HC SB SC SB1 SC1
        go_wp2
        refine bodyPost_ret (results_tmp3 ropen_results _ _ _) rfl ?_
        obtain ⟨v', hm, hz⟩ := MK.out _ _ _ HD.out
        refine ⟨lq, _, _, v', rfl, ?_, hz, SB2.out.sr, SC2.out.sr⟩
        rw [ecut.out]
        exact hm
      | some x =>
        have hes3 := hes2.out
        rw [hlk] at hes3
        simp only [Option.elim] at hes3
        subst hes3
        have CT : Hid _ := Lib.hid (Rm.cut2 H8 hr hl ⟨#[108, 111, 103]⟩ (cq : Nat))
        go_wp2_with fail
        refine CT.out.mono ?_
        rintro e wc ⟨rfl, HB, SK⟩
        have SB := SK _ _ S9
        have SC := SK _ _ S10
        clear CT SK
        have f3 := HB.free 3
        have k3 : World.cell? wc ⟨lq, 3, none⟩ = some (.bool false) := HB.cell 3 _ rfl
        have SB1 := HB.sro_set 3 (.bool true) SB
        have SC1 := HB.sro_set 3 (.bool true) SC
        have HC := HB.set 3 (.bool true)
        have f2 := HC.free 2
        have k2 : World.cell? (World.setCell wc ⟨lq, 3, none⟩ (.bool true)) ⟨lq, 2, none⟩ = some (.int .i64 0) := HC.cell 2 _ rfl
        have SB2 := Lib.hid (HC.sro_set 2 (.int .i64 0) SB1)
        have SC2 := Lib.hid (HC.sro_set 2 (.int .i64 0) SC1)
        have HD := Lib.hid (HC.set 2 (.int .i64 0))
        clear HB HC SB SC SB1 SC1
        go_wp2
        refine bodyPost_ret (results_tmp3 ropen_results _ _ _) rfl ?_
        obtain ⟨v', hm, hz⟩ := MK.out _ _ _ HD.out
        refine ⟨lq, _, _, v', rfl, ?_, hz, SB2.out.sr, SC2.out.sr⟩
        exact hm
    | some rc =>
      simp only [Option.elim] at ho ⊢
      obtain ⟨hb, c2, rfl, hc1, hc2, y0, S80⟩ := sro_tail ho
      have S8 := Lib.hid S80
      obtain ⟨n2, hn2⟩ : ∃ z, z = rc.length := ⟨_, rfl⟩
      simp only [← hn2] at S8 hc1 ⊢
      replace hn2 := Lib.hid hn2
      have sl := slice_1 hb n2 c2 hc1 hc2
      have nez : ((n2 : Int) + 1 == 0) = false := by simpa using (show ¬ ((n2 : Int) + 1 = 0) by omega)
      have gtz : (0 : Int) < (n2 : Int) + 1 := by omega
      clear ho S80 hc2
      have Q1 := fun d os => Calls.regrown_of (RG.out (grow (redrawn w7 d) os))
      have y1 : w7.cell? ⟨lq, 1, none⟩ = some (.int .i64 (g : Nat)) := H7.cell 1 _ rfl
      replace H7 := Lib.hid H7
      have z0 := fun d os => cell_regrown y0 d os
      have z1 := fun d os => cell_regrown y1 d os
      go_wp2_with fail
      refine wp_region_quiet_below (by kernel_rfl) (by kernel_rfl) ?_
      repeat (go_big_quiet_step (with_reducible exact Q1 _ _))
      refine wpQuiet_nil ?_
      intro w8 hw'
      obtain ⟨⟨dq, osq⟩, hw''⟩ := hw'
      have b8 : Below w7.heap.size w7 w8 := by rw [hw'']; exact below_regrown w7 dq osq
      have H8 := H7.out.below b8
      have S9 := S7.out.below b8
      have S10 := S8.out.below b8
      clear hw'' b8 Q1 y0 y1 z0 z1 H7 S7 S8
      cases hlk : Dk.look logN L with
      | none =>
        have hes3 := hes2.out
        rw [hlk] at hes3
        simp only [Option.elim] at hes3
        subst hes3
        have ecut : Hid ((sCut L logN cq).2 = L) := by unfold Hid sCut; rw [hlk]; rfl
        have HB := H8
        have SB := S9
        have SC := S10
        have f3 := HB.free 3
        have k3 : World.cell? w8 ⟨lq, 3, none⟩ = some (.bool false) := HB.cell 3 _ rfl
        have SB1 := HB.sro_set 3 (.bool false) SB
        have SC1 := HB.sro_set 3 (.bool false) SC
        have HC := HB.set 3 (.bool false)
        have f2 := HC.free 2
        have k2 : World.cell? (World.setCell w8 ⟨lq, 3, none⟩ (.bool false)) ⟨lq, 2, none⟩ = some (.int .i64 0) := HC.cell 2 _ rfl
        have SB2 := Lib.hid (HC.sro_set 2 (.int .i64 (n2 : Nat)) SB1)
        have SC2 := Lib.hid (HC.sro_set 2 (.int .i64 (n2 : Nat)) SC1)
        have HD := Lib.hid (HC.set 2 (.int .i64 (n2 : Nat)))
        clear HB HC SB SC SB1 SC1
        go_wp2
        refine bodyPost_ret (results_tmp3 ropen_results _ _ _) rfl ?_
        obtain ⟨v', hm, hz⟩ := MK.out _ _ _ HD.out
        refine ⟨lq, _, _, v', rfl, ?_, hz, SB2.out.sr, SC2.out.sr⟩
        simp only [Option.getD, Option.isNone]
        rw [← hn2.out]
        rw [ecut.out]
        exact hm
      | some x =>
        have hes3 := hes2.out
        rw [hlk] at hes3
        simp only [Option.elim] at hes3
        subst hes3
        have CT : Hid _ := Lib.hid (Rm.cut2 H8 hr hl ⟨#[108, 111, 103]⟩ (cq : Nat))
        go_wp2_with fail
        refine CT.out.mono ?_
        rintro e wc ⟨rfl, HB, SK⟩
        have SB := SK _ _ S9
        have SC := SK _ _ S10
        clear CT SK
        have f3 := HB.free 3
        have k3 : World.cell? wc ⟨lq, 3, none⟩ = some (.bool false) := HB.cell 3 _ rfl
        have SB1 := HB.sro_set 3 (.bool false) SB
        have SC1 := HB.sro_set 3 (.bool false) SC
        have HC := HB.set 3 (.bool false)
        have f2 := HC.free 2
        have k2 : World.cell? (World.setCell wc ⟨lq, 3, none⟩ (.bool false)) ⟨lq, 2, none⟩ = some (.int .i64 0) := HC.cell 2 _ rfl
        have SB2 := Lib.hid (HC.sro_set 2 (.int .i64 (n2 : Nat)) SB1)
        have SC2 := Lib.hid (HC.sro_set 2 (.int .i64 (n2 : Nat)) SC1)
        have HD := Lib.hid (HC.set 2 (.int .i64 (n2 : Nat)))
        clear HB HC SB SC SB1 SC1
        go_wp2
        refine bodyPost_ret (results_tmp3 ropen_results _ _ _) rfl ?_
        obtain ⟨v', hm, hz⟩ := MK.out _ _ _ HD.out
        refine ⟨lq, _, _, v', rfl, ?_, hz, SB2.out.sr, SC2.out.sr⟩
        simp only [Option.getD, Option.isNone]
        rw [← hn2.out]
        exact hm
end Se
end Go.Proofs.YtbolcapgocjgcaaGreatDoor

namespace Go.Proofs.YtbolcapgocjgcaaGreatDoor
set_option maxRecDepth 100000
open Go.RowKit
open Go.Proofs.YtbolcapgocjgcaaGreatDoor.Pk
namespace Se
open Dk (Bs Rf RTo Kp Rise Live LTo used sApp sSync sCut sRen sRem sCrash nm)
open Fr (frames frame Got Goes strs)

theorem got_cnt {g : Nat} (hg : g ≤ 4611686018427387904) (c : Option (List Bs)) (hc : ∀ l, c = some l → Fr.Ok l) : Got (cnt g c) (c.elim [] (Pk.encI g :: ·)) (cnt g c).length := by
  cases c with
  | none => exact ⟨rfl, Fr.one_short (by simp [cnt])⟩
  | some l =>
    have e := Fr.got_frames (t := []) (ok_cons hg (hc l rfl)) (Fr.one_short (by simp))
    rw [List.append_nil] at e
    exact e
theorem bof_snap (a : Ab) (y : Option (Bs × Nat)) : bof snapN (raw a.snp y) = cnt a.g a.s := by
  rw [raw_bofs]
  unfold Ab.snp
  cases a.s <;> rfl
theorem Ab.Ok.got_snap {a : Ab} (h : a.Ok) (y : Option (Bs × Nat)) : Got (bof snapN (raw a.snp y)) (a.s.elim [] (Pk.encI a.g :: ·)) (cnt a.g a.s).length := by
  rw [bof_snap]
  have hg := h.g
  exact got_cnt (by omega) a.s (fun l e => by have := h.st; unfold Ab.st at this; rw [e] at this; exact this)
def Ab.fell (a : Ab) (c : Option (List Bs)) : Ab := ⟨a.g, a.s, a.lg.map fun _ => (c, (cnt a.g c).length)⟩
structure Fell (a : Ab) (y : Option (Bs × Nat)) (c : Option (List Bs)) (e : Nat) : Prop where
  got : Got (bof logN (raw a.snp y)) (c.elim [] (Pk.encI a.g :: ·)) e
  cut : (sCut (raw a.snp y) logN (e : Nat)).2 = (a.fell c).L
  opn : pOpen (raw a.snp y) = ((a.fell c).L, a.st, c.getD [])
  pre : c = none ∨ ∃ j, j ≤ a.rc.length ∧ c = some (a.rc.take j)
  non : a.lg = none → c = none
theorem Fell.con {a : Ab} {y : Option (Bs × Nat)} {c : Option (List Bs)} {e : Nat} (h : Fell a y c e) : (a.fell c).con = c := by
  unfold Ab.fell Ab.con
  cases hl : a.lg with
  | none => rw [h.non hl]; rfl
  | some x => rfl
theorem Fell.rc {a : Ab} {y : Option (Bs × Nat)} {c : Option (List Bs)} {e : Nat} (h : Fell a y c e) : (a.fell c).rc = c.getD [] := by unfold Ab.rc; rw [h.con]
theorem Fell.ok {a : Ab} {y : Option (Bs × Nat)} {c : Option (List Bs)} {e : Nat} (h : Fell a y c e) (ok : a.Ok) : (a.fell c).Ok := by
  refine ⟨ok.none_, ok.g, ok.st, ?_, ?_⟩
  · rw [h.rc]
    rcases h.pre with rfl | ⟨j, _, rfl⟩
    · intro r hr; cases hr
    · exact fun r hr => ok.rc r (List.mem_of_mem_take hr)
  · rw [h.con]
    unfold Ab.fell Ab.sy
    cases hl : a.lg with
    | none => exact Nat.zero_le _
    | some x => exact Nat.le_refl _
theorem fell0 : Fell ab0 none none 0 := ⟨by rw [raw_bofl]; exact ⟨rfl, Fr.one_short (by simp)⟩, rfl, by
  have := ab0_ok.open_
  exact this, .inl rfl, fun _ => rfl⟩
theorem Ab.Ok.crash_two {a : Ab} (h : a.Ok) (keep : Int) : ∃ y c e, sCrash keep a.L = raw a.snp y ∧ Fell a y c e ∧ (y.elim 0 fun x => x.1.length) ≤ (cnt a.g a.con).length := by
  have hg := h.g
  have hL : a.L = raw a.snp (a.lg.map fun x => (cnt a.g x.1, x.2)) := rfl
  rw [hL, raw_crash]
  simp only [Option.map_map]
  cases e : a.lg with
  | none =>
    have := h.open_of (x := none) (rc := []) (e := 0) (gl := 0) rdf_emp
    have e2 : (a.fell none).L = raw a.snp none := by unfold Ab.L Ab.fell Ab.snp; rw [e]; rfl
    refine ⟨none, none, 0, rfl, ⟨?_, ?_, ?_, .inl rfl, fun _ => rfl⟩, Nat.zero_le _⟩
    · rw [raw_bofl]; exact ⟨rfl, Fr.one_short (by simp)⟩
    · rw [e2]; exact raw_cut a.snp none 0 (Nat.zero_le _)
    · rw [e2]
      refine Eq.trans this ?_
      split <;> rfl
  | some x =>
    obtain ⟨c, k⟩ := x
    have hcc : a.con = c := by unfold Ab.con; rw [e]; rfl
    rw [hcc]
    simp only [Option.map, Function.comp]
    obtain ⟨m, hm⟩ : ∃ m, m = k + min (max keep 0).toNat ((cnt a.g c).length - k) := ⟨_, rfl⟩
    rw [← hm]
    have hf : ∀ c', (a.fell c').L = raw a.snp (some (cnt a.g c', (cnt a.g c').length)) := fun c' => by unfold Ab.L Ab.fell Ab.snp; rw [e]; rfl
    have hle : ((cnt a.g c).take m).length ≤ (cnt a.g c).length := by rw [List.length_take]; omega
    cases c with
    | none =>
      have := h.open_of (x := some ((cnt a.g none).take m, m)) (rc := []) (e := 0) (gl := 0) (by rw [show (cnt a.g none).take m = [] by simp [cnt]]; exact rdf_emp)
      refine ⟨some ((cnt a.g none).take m, m), none, 0, rfl, ⟨?_, ?_, ?_, .inl rfl, fun hx => by simp [e] at hx⟩, hle⟩
      · rw [raw_bofl]
        show Got ((cnt a.g none).take m) [] 0
        rw [show (cnt a.g none).take m = [] by simp [cnt]]
        exact ⟨rfl, Fr.one_short (by simp)⟩
      · rw [hf]
        exact raw_cut a.snp _ 0 (Nat.zero_le _)
      · rw [hf]
        refine Eq.trans this ?_
        split <;> rfl
    | some l =>
      have hrc : a.rc = l := by unfold Ab.rc; rw [hcc]; rfl
      have hok := ok_cons (by omega : a.g ≤ 4611686018427387904) (h.con_ok l hcc)
      obtain ⟨j, hj1, hj2, hj3⟩ := cut_ex (Pk.encI a.g :: l) m
      have hgot0 := cut_got hok hj2 hj3
      have hgot := recs_eq hgot0
      cases j with
      | zero =>
        have hr : rdf ((cnt a.g (some l)).take m) = (0, [], 0) := by
          unfold rdf
          have : recs ((cnt a.g (some l)).take m) = _ := hgot
          rw [this]; rfl
        have := h.open_of (x := some ((cnt a.g (some l)).take m, m)) hr
        refine ⟨some ((cnt a.g (some l)).take m, m), none, 0, rfl, ⟨?_, ?_, ?_, .inl rfl, fun hx => by simp [e] at hx⟩, hle⟩
        · rw [raw_bofl]
          exact hgot0
        · rw [hf]
          exact raw_cut a.snp _ 0 (Nat.zero_le _)
        · rw [hf]
          refine Eq.trans this ?_
          simp only [Option.map, List.take_zero]
          split <;> rfl
      | succ j =>
        have hr : rdf ((cnt a.g (some l)).take m) = ((a.g : Int), l.take j, (cnt a.g (some (l.take j))).length) := by
          unfold rdf
          have : recs ((cnt a.g (some l)).take m) = _ := hgot
          rw [this]
          simp only [List.take_succ_cons]
          rw [numOf_enc (by omega) (by omega)]
          rfl
        have := h.open_of (x := some ((cnt a.g (some l)).take m, m)) hr
        have hjl : j ≤ l.length := by simpa using hj1
        have e3 : ((cnt a.g (some l)).take m).take (cnt a.g (some (l.take j))).length = cnt a.g (some (l.take j)) := take_frames (l := Pk.encI a.g :: l) (j := j + 1) hj2
        refine ⟨some ((cnt a.g (some l)).take m, m), some (l.take j), (cnt a.g (some (l.take j))).length, rfl, ⟨?_, ?_, ?_, .inr ⟨j, by rw [hrc]; exact hjl, by rw [hrc]⟩, fun hx => by simp [e] at hx⟩, hle⟩
        · rw [raw_bofl]
          exact hgot0
        · rw [hf]
          refine (raw_cut a.snp _ _ ?_).trans ?_
          · show (cnt a.g (some (l.take j))).length ≤ ((cnt a.g (some l)).take m).length
            rw [← e3, List.length_take]
            exact Nat.min_le_right ..
          · simp only [Option.map]
            rw [e3]
        · rw [hf]
          refine Eq.trans this ?_
          rw [if_pos rfl]
          simp only [Option.map]
          rw [e3]
          rfl

section
variable {B w w' : World} {p room q n : Nat} {L : Dk.St} {X S : Nat → Prop}
theorem live_kp (h : Live B w p room L X) (hk : Kp S w w') (hS : ∀ g, S g → X g ∧ B.heap.size ≤ g) : Live B w' p room L (fun g => X g ∨ (w.heap.size ≤ g ∧ g < w'.heap.size)) := by
  obtain ⟨fp, D, hf⟩ := h.dk
  have hs : ∀ g, fp g → g < w.heap.size := by
    obtain ⟨mo, l, d, _⟩ := D
    exact d.size
  refine ⟨⟨fp, D.keep hk.size (fun g hq => hk.block g (hs g hq) (fun e => (hf g hq).2 (hS g e).1)), fun g hq => ⟨(hf g hq).1, fun e => ?_⟩⟩, h.be.trans (hk.below (fun g hg => (hS g hg).2) h.be.size), fun g hq => ?_⟩
  · rcases e with e | ⟨e, _⟩
    · exact (hf g hq).2 e
    · have := hs g hq; omega
  · rcases hq with hq | ⟨_, hq⟩
    · exact Nat.lt_of_lt_of_le (h.xs g hq) hk.size
    · exact hq
theorem Lg.kp (h : Lg B w p room L X q n) (hk : Kp S w w') (hS : ∀ g, S g → X g ∧ g ≠ q ∧ B.heap.size ≤ g) : Lg B w' p room L (fun g => X g ∨ (w.heap.size ≤ g ∧ g < w'.heap.size)) q n :=
  ⟨live_kp h.live hk (fun g e => ⟨(hS g e).1, (hS g e).2.2⟩), (hk.block q (lt_some h.at_) (fun e => (hS q e).2.1 rfl)).trans h.at_, .inl h.inx, h.base⟩
end

/-- A log, the document's, and a step that stands beside them. -/
structure Sz (B : World) (p r q lq xq ob : Nat) (o : Stp) (ad ax : Ab) (v : Value) (X : Nat → Prop) (w : World) : Prop where
  lg : Lg B w p r ad.L X q ad.rc.length
  rf : Rf w xq r ax.L v
  lc : w.heap[lq]? = some (.cells (lcs xq ax) 53 (0, 0))
  oc : w.heap[ob]? = some (.cells o.cells 41 (0, 0))
  xx : X xq ∧ xq ≠ q ∧ B.heap.size ≤ xq
  xl : X lq ∧ lq ≠ q ∧ B.heap.size ≤ lq
  xv : ∀ g, v.ownBlock = some g → X g ∧ g ≠ q ∧ B.heap.size ≤ g
  xo : X ob ∧ ob ≠ q
def Sy (B : World) (p r q lq xq ob : Nat) (o : Stp) (ad ax : Ab) (w : World) : Prop := ∃ v X, Sz B p r q lq xq ob o ad ax v X w
section
variable {B w w' : World} {p r q lq xq ob : Nat} {o : Stp} {ad ax ad' ax' : Ab} {v : Value} {X : Nat → Prop}
theorem Sz.dd (h : Sz B p r q lq xq ob o ad ax v X w) (k : LgTo B w p r ad'.L X q ad'.rc.length w') : Sz B p r q lq xq ob o ad' ax v X w' :=
  ⟨k.1, h.rf.keep fun g hg => hg.elim (fun e => by rw [e]; exact k.2.1 xq h.xx.1 h.xx.2.1) (fun e => k.2.1 g (h.xv g e).1 (h.xv g e).2.1), (k.2.1 lq h.xl.1 h.xl.2.1).trans h.lc, (k.2.1 ob h.xo.1 h.xo.2).trans h.oc, h.xx, h.xl, h.xv, h.xo⟩
theorem Sz.rm (h : Sz B p r q lq xq ob o ad ax v X w) : Rm w lq xq r v ax.L (lcs xq ax) w := Rm.start h.rf h.lc
theorem Sz.xr (h : Sz B p r q lq xq ob o ad ax v X w) (k : RlTo w lq xq r v ax' w') : Sy B p r q lq xq ob o ad ax' w' := by
  obtain ⟨v', R', hc', hv', hk⟩ := k
  have hs := h.lg.live.xs
  have hob : ¬ (ob = xq ∨ ob = lq ∨ v.ownBlock = some ob) := by
    have ho := h.oc
    rintro (rfl | rfl | e)
    · rw [h.rf.cells] at ho
      injection ho with ho
      injection ho with _ e
      exact absurd e (by decide)
    · rw [h.lc] at ho
      injection ho with ho
      injection ho with _ e
      exact absurd e (by decide)
    · obtain ⟨_, cur, he⟩ := Dk.row_block h.rf.row e
      rw [he] at ho
      injection ho with ho
      injection ho with _ e
      exact absurd e (by decide)
  have hq := lt_some h.lg.at_
  refine ⟨v', _, h.lg.kp hk (fun g hg => ?_), R', hc', (hk.block ob (lt_some h.oc) hob).trans h.oc, ⟨.inl h.xx.1, h.xx.2⟩, ⟨.inl h.xl.1, h.xl.2⟩, fun g hg => ?_, ⟨.inl h.xo.1, h.xo.2⟩⟩
  · rcases hg with e | e | e
    · rw [e]; exact h.xx
    · rw [e]; exact h.xl
    · exact h.xv g e
  · rcases hv' g hg with e | e
    · exact ⟨.inl (h.xv g e).1, (h.xv g e).2⟩
    · have hl : g < w'.heap.size := R'.lt g (.inr hg)
      have := h.lg.live.be.size
      exact ⟨.inr ⟨e, hl⟩, by omega, by omega⟩
theorem Sz.below (h : Sz B p r q lq xq ob o ad ax v X w) (hb : Below w.heap.size w w') : Sz B p r q lq xq ob o ad ax v X w' := h.dd (h.lg.lgto hb)
theorem Sy.below (h : Sy B p r q lq xq ob o ad ax w) (hb : Below w.heap.size w w') : Sy B p r q lq xq ob o ad ax w' := by
  obtain ⟨v, X, h⟩ := h
  exact ⟨v, X, h.below hb⟩
theorem Sy.at1 (h : Sy B p r q lq xq ob o ad ax w) : w.cell? ⟨ob, 1, none⟩ = some (.int .i64 o.n) := by obtain ⟨v, X, h⟩ := h; exact Pk.one_at (i := 1) h.oc
theorem Sy.at2 (h : Sy B p r q lq xq ob o ad ax w) : w.cell? ⟨ob, 2, none⟩ = some (.slice o.A o.m o.c) := by obtain ⟨v, X, h⟩ := h; exact Pk.one_at (i := 2) h.oc
theorem Sy.at3 (h : Sy B p r q lq xq ob o ad ax w) : w.cell? ⟨ob, 3, none⟩ = some (.slice o.Al o.nl o.cl) := by obtain ⟨v, X, h⟩ := h; exact Pk.one_at (i := 3) h.oc
theorem Sy.be (h : Sy B p r q lq xq ob o ad ax w) : Below B.heap.size B w := by obtain ⟨v, X, h⟩ := h; exact h.lg.live.be
theorem Sy.src (h : Sy B p r q lq xq ob o ad ax w) (hr : StpOk B B.heap.size o) : (convert 39 9 (.slice o.A o.m o.c)).run Tryz.prog w = .ok (.string (str o.bs)) w := by
  have R := hr.rb.keep (w' := w) (T' := fun g => g < B.heap.size) (fun g hg => h.be.block g hg) (fun _ h => h)
  exact str_run (c := o.c) (T := fun g => g < B.heap.size) ⟨R.len, R.at_⟩

theorem s_dput (ok : ad.Ok) (ht : Tab B) (hr : StpOk B B.heap.size o) (h : Sy B p r q lq xq ob o ad ax w) :
    Calls Tryz.prog 9 #[.pointer (some ⟨q, 0, none⟩), .slice o.A o.m o.c] w fun e w' => e = .returned (.int .i64 (ad.dput r o.bs).1) ∧ Sy B p r q lq xq ob o (ad.dput r o.bs).2 ax w' := by
  have hbe := h.be
  obtain ⟨v, X, h⟩ := h
  have h1 := h.lg.live.fits
  have h2 := ad.rc_le
  have := put_any h.lg ht o.A o.m o.c o.bs (hr.rb.keep (w' := w) (T' := fun g => g < B.heap.size) (fun g hg => hbe.block g hg) (fun _ h => h)) (fun g hg => Nat.lt_of_lt_of_le hg hbe.size) (by have := hr.mc; have := hr.cm; omega) (by have := ad.len_L; omega) (by omega)
  rw [ok.dput_eq] at this
  exact this.mono fun e w' k => ⟨k.1, v, X, h.dd k.2⟩
theorem s_xput (ok : ax.Ok) (hm : o.bs.length ≤ 900) (h : Sy B p r q lq xq ob o ad ax w) (hu : used ax.L ≤ r) (hr : r ≤ 1000000) :
    Calls Tryz.prog 10 #[.pointer (some ⟨lq, 0, none⟩), .string (str o.bs)] w fun e w' => e = .returned (.int .i64 (ax.dput r o.bs).1) ∧ Sy B p r q lq xq ob o ad (ax.dput r o.bs).2 w' := by
  obtain ⟨v, X, h⟩ := h
  exact (rl_put h.rm ok hu hr o.bs hm).mono fun e w' k => ⟨k.1, h.xr k.2⟩
theorem s_dsync (h : Sy B p r q lq xq ob o ad ax w) :
    Calls Tryz.prog 11 #[.pointer (some ⟨q, 0, none⟩)] w fun e w' => e = .returned (.int .i64 0) ∧ Sy B p r q lq xq ob o ad.sync ax w' := by
  obtain ⟨v, X, h⟩ := h
  exact (a_sync h.lg).mono fun e w' k => ⟨k.1, v, X, h.dd k.2⟩
theorem s_xsync (h : Sy B p r q lq xq ob o ad ax w) :
    Calls Tryz.prog 12 #[.pointer (some ⟨lq, 0, none⟩)] w fun e w' => e = .returned (.int .i64 0) ∧ Sy B p r q lq xq ob o ad ax.sync w' := by
  obtain ⟨v, X, h⟩ := h
  exact (rl_sync h.rm).mono fun e w' k => ⟨k.1, h.xr k.2⟩
theorem lr_txts {W : World} {B : Nat} {A : Option Addr} {n c : Nat} {l : List Bs} (h : Fr.Txts W B A n l) (hB : B ≤ W.heap.size) : Fr.Lr W (.slice A n c) l := by
  refine ⟨A, c, by rw [h.len], fun hn => ?_⟩
  obtain ⟨a, ha, hab, h2⟩ := h.at_ (by have := h.len; omega)
  refine ⟨a, ha, Nat.lt_of_lt_of_le hab hB, fun i r hi => ?_⟩
  obtain ⟨u, hu, Ai, ci, e, _, _, _, hR⟩ := h2 i r hi
  exact ⟨Ai, ci, by rw [hu, e], hR.keep (fun _ _ => rfl) (fun g hg => Nat.lt_of_lt_of_le hg hB)⟩
theorem s_lr (hr : StpOk B B.heap.size o) (h : Sy B p r q lq xq ob o ad ax w) : Fr.Lr w (.slice o.Al o.nl o.cl) o.l := lr_txts (hr.below h.be).tx h.be.size
theorem s_dsave (ok : ad.Ok) (hg : ad.g < 4611686018427387903) (ht : Tab B) (hr : StpOk B B.heap.size o) (hl : o.l.length ≤ 6 ∧ ∀ r ∈ o.l, r.length ≤ 100) (h : Sy B p r q lq xq ob o ad ax w) :
    Calls Tryz.prog 13 #[.pointer (some ⟨q, 0, none⟩), .slice o.Al o.nl o.cl] w fun e w' => e = .returned (.int .i64 (ad.dsave r o.l).1) ∧ Sy B p r q lq xq ob o (ad.dsave r o.l).2 ax w' := by
  have hlr := s_lr hr h
  obtain ⟨v, X, h⟩ := h
  have := save_any h.lg ht _ o.l hlr (by omega) (fun r hr => by have := hl.2 r hr; omega) (by have := ad.len_L; omega) (by rw [ok.gen]; omega)
  rw [ok.dsave_eq] at this
  exact this.mono fun e w' k => ⟨k.1, v, X, h.dd k.2⟩
theorem s_texts (hr : StpOk B B.heap.size o) (hl : o.l.length ≤ 6) (h : Sy B p r q lq xq ob o ad ax w) :
    Calls Tryz.prog 15 #[.slice o.Al o.nl o.cl] w fun e w' => ∃ u, e = .returned u ∧ Sro w' u o.l ∧ Sy B p r q lq xq ob o ad ax w' := by
  refine (textsof_any w _ o.l (s_lr hr h) (by omega)).mono ?_
  rintro e w' ⟨u, he, ho, hb⟩
  exact ⟨u, he, sro_own ho, h.below hb⟩
theorem s_xsave (ok : ax.Ok) (hl : o.l.length ≤ 6 ∧ ∀ r ∈ o.l, r.length ≤ 100) (u : Value) (S : Sro w u o.l) (h : Sy B p r q lq xq ob o ad ax w) (hu : used ax.L ≤ r) (hr : r ≤ 1000000) :
    Calls Tryz.prog 14 #[.pointer (some ⟨lq, 0, none⟩), u] w fun e w' => e = .returned (.int .i64 (ax.dsave r o.l).1) ∧ Sy B p r q lq xq ob o ad (ax.dsave r o.l).2 w' := by
  obtain ⟨v, X, h⟩ := h
  exact (rl_save h.rm ok hu hr u o.l S.sr hl.1 hl.2).mono fun e w' k => ⟨k.1, h.xr k.2⟩
end
end Se
end Go.Proofs.YtbolcapgocjgcaaGreatDoor

namespace Go.Proofs.YtbolcapgocjgcaaGreatDoor
set_option maxRecDepth 100000
open Go.RowKit
open Go.Proofs.YtbolcapgocjgcaaGreatDoor.Pk
namespace Se
open Dk (Bs Rf RTo Kp Rise Live LTo AtAt pos pos_le pos_before pos_found nm nm_toList bb_ne used sApp sSync sCut sRen sRem sCrash)
open Fr (frames frame Got Goes strs)

set_option maxHeartbeats 1600000 in
/-- Where a file stands. -/
theorem rlat (w : World) (q room : Nat) (L : Dk.St) (v : Value) (s : ByteArray) (R : Rf w q room L v) (hr : Rise L) (hl : L.length ≤ 1000000) {a : Bs × Nat} (hk : Dk.look (nm s) L = some a) :
    Calls Tryz.prog 23 #[.pointer (some ⟨q, 0, none⟩), .string s] w fun e w' => e = .returned (.int .i64 (pos (nm s) L : Nat)) ∧ w = w' := by
  have c1 : w.cell? ⟨q, 1, none⟩ = some v := Pk.one_at (i := 1) R.cells
  obtain ⟨A, c, rfl, hnc, hc, _⟩ := Dk.row_form R.row
  have RH := Lib.hid R
  have hf := pos_found hr hk
  obtain ⟨n, hn⟩ : ∃ n, n = L.length := ⟨_, rfl⟩
  rw [← hn] at c1 hl hnc
  have hpl : pos (nm s) L < n := by rw [hn]; exact (List.getElem?_eq_some_iff.1 hf).1
  obtain ⟨m, hm⟩ : ∃ m, m = pos (nm s) L := ⟨_, rfl⟩
  rw [← hm] at hpl hf ⊢
  replace hn := Lib.hid hn
  replace hm := Lib.hid hm
  replace hf := Lib.hid hf
  clear R hr hk
  go_enter Tryz.func23, Tryz.ntmps23
  go_wp2_with fail
  go_loopw [5] (fun i wr => AtAt (nm s) L i w wr) (fun i _ => n + 1 - (intOf i).toNat)
  case atStart => exact ⟨0, rfl, Nat.zero_le _, rfl⟩
  case round =>
    obtain ⟨k, rfl, hk, rfl⟩ := hrel
    have i3 : (n : Int) ≤ 1000000 := by omega
    have i4 : (0 : Int) ≤ (k : Int) := by omega
    have hlt : k < n := by have := hm.out; omega
    have i1 : (k : Int) < (n : Int) := by omega
    obtain ⟨p, hp⟩ : ∃ p, L[k]? = some p := ⟨_, List.getElem?_eq_getElem (by have := hn.out; omega)⟩
    obtain ⟨g, c', e0, _, _, e1, e2, e3, _⟩ := RH.out.file hp
    injection e0 with eA e4 e5
    subst eA; subst e5
    have ts : s.toList = nm s := nm_toList s
    have tp : (str p.1).toList = p.1 := Dk.str_toList _
    by_cases hkm : k < m
    · have hb : (p.1 == nm s) = false := by
        have := bb_ne (pos_before (by rw [← hm.out]; exact hkm) hp)
        simpa using this
      have nx : Hid (AtAt (nm s) L (.int .i64 ((k : Int) + 1)) wr wr) := ⟨k + 1, by simp, by rw [← hm.out]; exact hkm, rfl⟩
      generalize p.1 = x at *
      generalize nm s = y at *
      clear hp
      go_wp2
      exact ⟨nx.out, by simp [intOf]; omega⟩
    · obtain rfl : k = m := by have := hm.out; omega
      have hb : (p.1 == nm s) = true := by
        have := hf.out
        rw [hp] at this
        injection this with this
        rw [this]
        simp
      generalize p.1 = x at *
      generalize nm s = y at *
      clear hp
      go_wp2
      go_ret
      exact ⟨rfl, rfl⟩

/-- A log and the document's. -/
structure Sb (B : World) (p r q lq xq : Nat) (a : Ab) (v : Value) (X : Nat → Prop) (w : World) : Prop where
  lg : Lg B w p r a.L X q a.rc.length
  rf : Rf w xq r a.L v
  lc : w.heap[lq]? = some (.cells (lcs xq a) 53 (0, 0))
  xx : X xq ∧ xq ≠ q ∧ B.heap.size ≤ xq
  xl : X lq ∧ lq ≠ q ∧ B.heap.size ≤ lq
  xv : ∀ g, v.ownBlock = some g → X g ∧ g ≠ q ∧ B.heap.size ≤ g
section
variable {B w w' : World} {p r q lq xq ob : Nat} {o : Stp} {a ax : Ab} {v : Value} {X : Nat → Prop}
theorem Sb.enter (h : Sb B p r q lq xq a v X w) (o : Stp) : Sy B p r q lq xq w.heap.size o a a (w.alloc (.cells o.cells 41)) := by
  have hb := Dk.below_alloc w (.cells o.cells 41)
  have hq := lt_some h.lg.at_
  exact ⟨v, _, h.lg.more hb, h.rf.below hb, (hb.block _ (lt_some h.lc)).trans h.lc, heap_alloc_new _ _, ⟨.inl h.xx.1, h.xx.2⟩, ⟨.inl h.xl.1, h.xl.2⟩, fun g hg => ⟨.inl (h.xv g hg).1, (h.xv g hg).2⟩, ⟨.inr ⟨Nat.le_refl _, by simp⟩, by omega⟩⟩
theorem Sy.leave (h : Sy B p r q lq xq ob o a a w) : ∃ v X, Sb B p r q lq xq a v X w := by
  obtain ⟨v, X, h⟩ := h
  exact ⟨v, X, h.lg, h.rf, h.lc, h.xx, h.xl, h.xv⟩

theorem ropen_fell {y : Option (Bs × Nat)} {c : Option (List Bs)} {e0 : Nat} (F : Fell a y c e0) (ok : a.Ok) (R : Rf w xq r (raw a.snp y) v) (h1 : (a.snp.getD []).length ≤ 1000000) (h2 : (y.elim 0 fun x => x.1.length) ≤ 1000000) :
    Calls Tryz.prog 6 #[.pointer (some ⟨xq, 0, none⟩)] w (OpTo w xq r v (a.fell c).L a.g a.st (a.fell c).rc (a.fell c).con.isNone) := by
  have hg := ok.g
  have := ropen R (raw_rise _ _) (Nat.le_trans (raw_len _ _) (by omega)) (raw_rem _ _) (g := a.g) (by omega) (so := a.s) (fun e => ok.none_ e) (ok.got_snap y) F.got (by rw [raw_bofs]; exact h1) (by
    rw [raw_bofl]
    cases y <;> exact h2)
  rw [F.cut, ← F.rc] at this
  rw [F.con]
  exact this
theorem sb_open {st : List Bs} {e : Ending} (G : Lg B w p r a.L X q a.rc.length) (hx : X xq ∧ xq ≠ q ∧ B.heap.size ≤ xq) (hv : ∀ g, v.ownBlock = some g → X g ∧ g ≠ q ∧ B.heap.size ≤ g) (H : OpTo w xq r v a.L a.g st a.rc a.con.isNone e w') :
    ∃ lq vs vc, e = .returned (.tuple #[.pointer (some ⟨lq, 0, none⟩), vs, vc]) ∧ (∃ v' X', Sb B p r q lq xq a v' X' w') ∧ Fr.Sr w' vs st ∧ Fr.Sr w' vc a.rc ∧ Kp (fun g => g = xq ∨ v.ownBlock = some g) w w' := by
  obtain ⟨lq, vs, vc, v', rfl, ⟨R, hc, hv', hk⟩, hlq, S1, S2⟩ := H
  have hq := lt_some G.at_
  have hbe := G.live.be.size
  have hl := lt_some hc
  refine ⟨lq, vs, vc, rfl, ⟨v', _, G.kp hk (fun g hg => ?_), R, hc, ⟨.inl hx.1, hx.2⟩, ⟨.inr ⟨hlq, hl⟩, by omega, by omega⟩, fun g hg => ?_⟩, S1, S2, hk⟩
  · rcases hg with e | e
    · rw [e]; exact hx
    · exact hv g e
  · rcases hv' g hg with e | e
    · exact ⟨.inl (hv g e).1, (hv g e).2⟩
    · have hl : g < w'.heap.size := R.lt g (.inr hg)
      exact ⟨.inr ⟨e, hl⟩, by omega, by omega⟩

/-- Two disks, and a step that stands beside them. -/
structure Cz (B : World) (p r xq ob : Nat) (o : Stp) (Ld Lx : Dk.St) (v : Value) (X : Nat → Prop) (w : World) : Prop where
  live : Live B w p r Ld X
  rf : Rf w xq r Lx v
  oc : w.heap[ob]? = some (.cells o.cells 41 (0, 0))
  xx : X xq ∧ B.heap.size ≤ xq
  xv : ∀ g, v.ownBlock = some g → X g ∧ B.heap.size ≤ g
  xo : X ob
def Cy (B : World) (p r xq ob : Nat) (o : Stp) (Ld Lx : Dk.St) (w : World) : Prop := ∃ v X, Cz B p r xq ob o Ld Lx v X w
theorem Sy.two (h : Sy B p r q lq xq ob o a ax w) : Cy B p r xq ob o a.L ax.L w := by
  obtain ⟨v, X, h⟩ := h
  exact ⟨v, X, h.lg.live, h.rf, h.oc, ⟨h.xx.1, h.xx.2.2⟩, fun g hg => ⟨(h.xv g hg).1, (h.xv g hg).2.2⟩, h.xo.1⟩
variable {Ld Ld' Lx Lx' : Dk.St}
theorem Cz.dd (h : Cz B p r xq ob o Ld Lx v X w) (k : LTo B w p r Ld' X w') : Cz B p r xq ob o Ld' Lx v X w' :=
  ⟨k.1, h.rf.keep fun g hg => hg.elim (fun e => by rw [e]; exact k.2.1 xq h.xx.1) (fun e => k.2.1 g (h.xv g e).1), (k.2.1 ob h.xo).trans h.oc, h.xx, h.xv, h.xo⟩
theorem Cz.xr (h : Cz B p r xq ob o Ld Lx v X w) (k : RTo w xq r Lx' v w') : Cy B p r xq ob o Ld Lx' w' := by
  obtain ⟨v', R', hv', hk⟩ := k
  have hob : ¬ (ob = xq ∨ v.ownBlock = some ob) := by
    have ho := h.oc
    rintro (rfl | e)
    · rw [h.rf.cells] at ho
      injection ho with ho
      injection ho with _ e
      exact absurd e (by decide)
    · obtain ⟨_, cur, he⟩ := Dk.row_block h.rf.row e
      rw [he] at ho
      injection ho with ho
      injection ho with _ e
      exact absurd e (by decide)
  refine ⟨v', _, live_kp h.live hk (fun g hg => ?_), R', (hk.block ob (lt_some h.oc) hob).trans h.oc, ⟨.inl h.xx.1, h.xx.2⟩, fun g hg => ?_, .inl h.xo⟩
  · rcases hg with e | e
    · rw [e]; exact h.xx
    · exact h.xv g e
  · rcases hv' g hg with e | e
    · exact ⟨.inl (h.xv g e).1, (h.xv g e).2⟩
    · have hl : g < w'.heap.size := R'.lt g (.inr hg)
      have := h.live.be.size
      exact ⟨.inr ⟨e, hl⟩, by omega⟩
theorem c_dcrash (hl : Ld.length ≤ 900) (h1 : -9223372036854775808 ≤ o.n) (h2 : o.n ≤ 9223372036854775807) (h : Cy B p r xq ob o Ld Lx w) :
    Calls Tryz.prog 16 #[.pointer (some ⟨p, 0, none⟩), .int .i64 o.n] w fun e w' => e = .returned (.tuple #[]) ∧ Cy B p r xq ob o (sCrash o.n Ld) Lx w' ∧ w'.cell? ⟨ob, 1, none⟩ = some (.int .i64 o.n) := by
  obtain ⟨v, X, h⟩ := h
  exact (Dk.l_crash h.live o.n (by omega) h1 h2).mono fun e w' k => ⟨k.1, ⟨v, X, h.dd k.2⟩, Pk.one_at (i := 1) (h.dd k.2).oc⟩
theorem c_xcrash (hl : Lx.length ≤ 900) (hs : ∀ p ∈ Lx, p.2.2 ≤ p.2.1.length) (hu : used Lx ≤ 1000000) (h1 : -9223372036854775808 ≤ o.n) (h2 : o.n ≤ 9223372036854775807) (h : Cy B p r xq ob o Ld Lx w) :
    Calls Tryz.prog 17 #[.pointer (some ⟨xq, 0, none⟩), .int .i64 o.n] w fun e w' => e = .returned (.tuple #[]) ∧ Cy B p r xq ob o Ld (sCrash o.n Lx) w' := by
  obtain ⟨v, X, h⟩ := h
  exact (Dk.rcrash w xq r Lx v o.n h.rf hl hs hu h1 h2).mono fun e w' k => ⟨k.1, h.xr k.2⟩
/-- What the program's Open leaves, the document's disk beside it. -/
def OxTo (B _w : World) (p r xq : Nat) (a : Ab) (Lx : Dk.St) (st rc : List Bs) (e : Ending) (w' : World) : Prop :=
  ∃ q A1 c1 A2 c2 X v, e = .returned (.tuple #[.pointer (some ⟨q, 0, none⟩), .slice A1 st.length c1, .slice A2 rc.length c2, .int .i64 0]) ∧ Lg B w' p r a.L X q a.rc.length ∧ Rf w' xq r Lx v ∧ (X xq ∧ xq ≠ q ∧ B.heap.size ≤ xq) ∧ (∀ g, v.ownBlock = some g → X g ∧ g ≠ q ∧ B.heap.size ≤ g) ∧
    ∀ w'', Kp (fun g => g = xq ∨ v.ownBlock = some g) w' w'' → Fr.Lr w'' (.slice A1 st.length c1) st ∧ Fr.Lr w'' (.slice A2 rc.length c2) rc
theorem dopen {y : Option (Bs × Nat)} {c : Option (List Bs)} {e0 : Nat} (F : Fell a y c e0) (ht : Tab B) (live : Live B w p r (raw a.snp y) X) (rf : Rf w xq r Lx v) (xx : X xq ∧ B.heap.size ≤ xq) (xv : ∀ g, v.ownBlock = some g → X g ∧ B.heap.size ≤ g) :
    Calls Tryz.prog 5 #[.pointer (some ⟨p, 0, none⟩)] w (OxTo B w p r xq (a.fell c) Lx a.st (a.fell c).rc) := by
  have := open_any live ht (Nat.le_trans (raw_len _ _) (by omega))
  rw [F.opn, ← F.rc] at this
  refine this.mono fun e w' k => ?_
  obtain ⟨q, A1, c1, A2, c2, X', rfl, G, hq, hx, U1, U2, hk, _⟩ := open_lg k
  have hxl := live.xs
  refine ⟨q, A1, c1, A2, c2, X', v, rfl, G, rf.keep fun g hg => hg.elim (fun e => by rw [e]; exact hk xq xx.1) (fun e => hk g (xv g e).1), ⟨hx _ xx.1, ?_, xx.2⟩, fun g hg => ⟨hx g (xv g hg).1, ?_, (xv g hg).2⟩, fun w'' K => ?_⟩
  · have := hxl xq xx.1; omega
  · have := hxl g (xv g hg).1; omega
  · have hz : ∀ g, X' g ∧ g ≠ q ∧ w.heap.size ≤ g → w''.heap[g]? = w'.heap[g]? := fun g hg => K.block g (G.live.xs g hg.1) (by
      rintro (e | e)
      · have := hxl xq xx.1; omega
      · have := hxl g (xv g e).1; omega)
    have hz2 : ∀ g, X' g ∧ g ≠ q ∧ w.heap.size ≤ g → g < w''.heap.size := fun g hg => Nat.lt_of_lt_of_le (G.live.xs g hg.1) K.size
    exact ⟨(U1.keep (w' := w'') hz hz2).lr (fun _ h => h), (U2.keep (w' := w'') hz hz2).lr (fun _ h => h)⟩
theorem c_dopen {y : Option (Bs × Nat)} {c : Option (List Bs)} {e0 : Nat} (F : Fell a y c e0) (ht : Tab B) (h : Cy B p r xq ob o (raw a.snp y) Lx w) :
    Calls Tryz.prog 5 #[.pointer (some ⟨p, 0, none⟩)] w (OxTo B w p r xq (a.fell c) Lx a.st (a.fell c).rc) := by
  obtain ⟨v, X, h⟩ := h
  exact dopen F ht h.live h.rf h.xx h.xv

/-- A step's state as strings beside them. -/
def Syu (B : World) (p r q lq xq ob : Nat) (o : Stp) (ad ax : Ab) (u : Value) (w : World) : Prop :=
  ∃ v X, Sz B p r q lq xq ob o ad ax v X w ∧ ∃ A c, u = .slice A o.l.length c ∧ (0 < o.l.length → ∃ ad, A = some ad ∧ X ad.block ∧ ad.block ≠ q ∧ ∀ (i : Nat) r, o.l[i]? = some r → w.cell? (ad.add i) = some (.string (str r)))
variable {ad : Ab} {u : Value}
theorem Syu.sy (h : Syu B p r q lq xq ob o ad ax u w) : Sy B p r q lq xq ob o ad ax w := by obtain ⟨v, X, h, _⟩ := h; exact ⟨v, X, h⟩
theorem u_texts (hr : StpOk B B.heap.size o) (hl : o.l.length ≤ 6) (h : Sy B p r q lq xq ob o ad ax w) :
    Calls Tryz.prog 15 #[.slice o.Al o.nl o.cl] w fun e w' => ∃ u, e = .returned u ∧ Syu B p r q lq xq ob o ad ax u w' := by
  refine (textsof_any w _ o.l (s_lr hr h) (by omega)).mono ?_
  rintro e w' ⟨u, he, ho, hb⟩
  obtain ⟨v, X, h⟩ := h
  refine ⟨u, he, v, _, ⟨h.lg.more hb, h.rf.below hb, (hb.block _ (lt_some h.lc)).trans h.lc, (hb.block _ (lt_some h.oc)).trans h.oc, ⟨.inl h.xx.1, h.xx.2⟩, ⟨.inl h.xl.1, h.xl.2⟩, fun g hg => ⟨.inl (h.xv g hg).1, (h.xv g hg).2⟩, ⟨.inl h.xo.1, h.xo.2⟩⟩, ?_⟩
  have hq := lt_some h.lg.at_
  obtain ⟨A, c, rfl⟩ := own_form ho
  refine ⟨A, c, rfl, fun hn => ?_⟩
  rcases ho.2 with ⟨_, h0⟩ | ⟨g, cap, cur, e, hb, hh, _⟩
  · omega
  · injection e with e1 _ e3
    subst e1
    exact ⟨_, rfl, .inr ⟨hb, lt_some hh⟩, by simp only; omega, fun i r hi => ho.cells (g := g) rfl i _ (Fr.strs_get hi)⟩
theorem u_dsave (ok : ad.Ok) (hg : ad.g < 4611686018427387903) (ht : Tab B) (hr : StpOk B B.heap.size o) (hl : o.l.length ≤ 6 ∧ ∀ r ∈ o.l, r.length ≤ 100) (h : Syu B p r q lq xq ob o ad ax u w) :
    Calls Tryz.prog 13 #[.pointer (some ⟨q, 0, none⟩), .slice o.Al o.nl o.cl] w fun e w' => e = .returned (.int .i64 (ad.dsave r o.l).1) ∧ Syu B p r q lq xq ob o (ad.dsave r o.l).2 ax u w' := by
  have hlr := s_lr hr h.sy
  obtain ⟨v, X, h, A, c, he, hu⟩ := h
  have := save_any h.lg ht _ o.l hlr (by omega) (fun r hr => by have := hl.2 r hr; omega) (by have := ad.len_L; omega) (by rw [ok.gen]; omega)
  rw [ok.dsave_eq] at this
  refine this.mono fun e w' k => ⟨k.1, v, X, h.dd k.2, A, c, he, fun hn => ?_⟩
  obtain ⟨a1, e1, h1, h2, h3⟩ := hu hn
  exact ⟨a1, e1, h1, h2, fun i r hi => (World.cell?_of_block (by rw [adr_block]; exact k.2.2.1 _ h1 h2)).trans (h3 i r hi)⟩
theorem u_xsave (ok : ax.Ok) (hl : o.l.length ≤ 6 ∧ ∀ r ∈ o.l, r.length ≤ 100) (h : Syu B p r q lq xq ob o ad ax u w) (hu : used ax.L ≤ r) (hr : r ≤ 1000000) :
    Calls Tryz.prog 14 #[.pointer (some ⟨lq, 0, none⟩), u] w fun e w' => e = .returned (.int .i64 (ax.dsave r o.l).1) ∧ Sy B p r q lq xq ob o ad (ax.dsave r o.l).2 w' := by
  obtain ⟨v, X, h, A, c, he, hx⟩ := h
  have S : Fr.Sr w u o.l := ⟨A, c, he, fun hn => by
    obtain ⟨a1, e1, h1, h2, h3⟩ := hx hn
    exact ⟨a1, e1, h.lg.live.xs _ h1, h3⟩⟩
  exact (rl_save h.rm ok hu hr u o.l S hl.1 hl.2).mono fun e w' k => ⟨k.1, h.xr k.2⟩
end
end Se
end Go.Proofs.YtbolcapgocjgcaaGreatDoor

namespace Go.Proofs.YtbolcapgocjgcaaGreatDoor.sealPlays
set_option maxRecDepth 100000
open Go.ChangeShapes Go.WideShapes Go.ChangeAt Go.WideElems Go.RowKit
open Go.Proofs.YtbolcapgocjgcaaGreatDoor.Pk Go.Proofs.YtbolcapgocjgcaaGreatDoor.Se
open Go.Proofs.YtbolcapgocjgcaaGreatDoor.Dk (Bs Live LTo nm used sCrash sApp sSync rb_lit below_alloc)
open Go.Proofs.YtbolcapgocjgcaaGreatDoor.Fr (frames frame Txts view_texts)

open Go.Sort (grow)
open Go.Proofs.YtbolcapgocjgcaaGreatDoor.Dk (Rf Rise Kp str_regrown l_synced l_read)
theorem place (at_ : Int) : ∃ k : Nat, wrap64 ((IntKind.u64.wrap at_).tmod 3001) = (k : Int) ∧ k < 3001 := by
  have h1 := Int.emod_nonneg (IntKind.u64.wrap at_) (show (3001 : Int) ≠ 0 by omega)
  have h2 := Int.emod_lt_of_pos (IntKind.u64.wrap at_) (show (0 : Int) < 3001 by omega)
  refine ⟨((IntKind.u64.wrap at_) % 3001).toNat, ?_, by omega⟩
  have h0 : 0 ≤ IntKind.u64.wrap at_ := by rw [IntKind.wrap_u64]; omega
  rw [Int.tmod_eq_emod_of_nonneg h0]; unfold wrap64; omega
def SpAt (B : World) (p r xq n : Nat) (vp vq vi : Value) (wr : World) : Prop :=
  ∃ (k q lq : Nat) (a : Ab) (v : Value) (X : Nat → Prop), vi = .int .i64 (k : Nat) ∧ k ≤ n ∧ k ≤ 60 ∧ vp = .pointer (some ⟨q, 0, none⟩) ∧ vq = .pointer (some ⟨lq, 0, none⟩) ∧ a.Ok ∧ a.g ≤ k ∧ Sb B p r q lq xq a v X wr
/-- Behind a step. -/
def ScAt (B : World) (p r xq k : Nat) (vp vq va vb : Value) (wx : World) : Prop :=
  ∃ (q lq : Nat) (a : Ab) (er : Int), vp = .pointer (some ⟨q, 0, none⟩) ∧ vq = .pointer (some ⟨lq, 0, none⟩) ∧ va = .int .i64 er ∧ vb = .int .i64 er ∧ a.Ok ∧ a.g ≤ k + 1 ∧ ∃ v X, Sb B p r q lq xq a v X wx
/-- How far the names are. -/
theorem _root_.Go.Proofs.YtbolcapgocjgcaaGreatDoor.Se.Sb.below {B w w' : World} {p r q lq xq : Nat} {a : Ab} {v : Value} {X : Nat → Prop} (h : Sb B p r q lq xq a v X w) (hb : Below w.heap.size w w') : Sb B p r q lq xq a v X w' :=
  ⟨h.lg.below hb, h.rf.below hb, (hb.block _ (lt_some h.lc)).trans h.lc, h.xx, h.xl, h.xv⟩
def SnAt (wL : World) (i : Value) (wr : World) : Prop := ∃ k : Nat, i = .int .i64 (k : Nat) ∧ k ≤ 3 ∧ Below wL.heap.size wL wr
theorem Sy.drew {B w : World} {p r q lq xq ob : Nat} {o : Stp} {ad ax : Ab} (h : Sy B p r q lq xq ob o ad ax w) : Sy B p r q lq xq ob o ad ax w.drew := h.below ⟨rfl, rfl, rfl, Nat.le_refl _, fun _ _ => rfl⟩
theorem live_x {w w1 : World} {p r : Nat} (V : Live w w1 p r [] (fun _ => False)) : Live w (w1.alloc (.cells #[.int .i64 (r : Nat), .slice none 0 0] 30)) p r [] (fun g => g = w1.heap.size) := by
  have hb := below_alloc w1 (.cells #[.int .i64 (r : Nat), .slice none 0 0] 30)
  exact (V.more hb).less fun g hg => by subst hg; exact .inr ⟨Nat.le_refl _, by simp⟩
theorem rf_x (w1 : World) (r : Nat) : Rf (w1.alloc (.cells #[.int .i64 (r : Nat), .slice none 0 0] 30)) w1.heap.size r [] (.slice none 0 0) := ⟨heap_alloc_new _ _, ⟨rfl, .inl ⟨rfl, rfl⟩⟩⟩

set_option maxHeartbeats 12800000 in
theorem walk (rm : Int) (A0 : Option Addr) (n0 c0 : Nat) (l : List Stp) (w : World) (T0 : Stps w w.heap.size A0 n0 l) (ht : Tab w) (hc0 : n0 ≤ 9223372036854775807) :
    Calls Tryz.prog 3 #[.int .i64 rm, .slice A0 n0 c0] w fun e w' => e = .returned (.bool true) ∧ Below w.heap.size w w' := by
  obtain ⟨r, hk0, hr⟩ := place rm
  have N0 := Lib.hid (Dk.l_new w r (by omega) (Below.refl w.heap.size w))
  have TA : Hid (∀ w', Below w.heap.size w w' → Calls Tryz.prog 8 #[] w' fun e w'' => e = .returned (.bool true) ∧ Below w'.heap.size w' w'') := fun w' hb => Se.told_any w' (ht.below hb)
  have y0 := T0.len
  subst y0
  have P0 : Hid (∀ (k : Nat) (o : Stp), l[k]? = some o → StpOk w w.heap.size o ∧ ∃ ad, A0 = some ad ∧ ∀ w', Below w.heap.size w w' → StpAt w' ad k o) := fun k o hk => by
    have hlt : k < l.length := (List.getElem?_eq_some_iff.1 hk).1
    obtain ⟨ad, ha, hab, h2⟩ := T0.at_ (by omega)
    exact ⟨T0.ok o (List.mem_of_getElem? hk), ad, ha, fun w' hb => (h2 k o hk).same (hb.block _ hab)⟩
  replace hk0 := Lib.hid hk0
  replace ht := Lib.hid ht
  clear T0
  go_enter Tryz.func3, Tryz.ntmps3
  go_upto_region 2 with (fail)
  rw [hk0.out]
  clear hk0
  go_wp2_with fail
  refine N0.out.mono ?_
  rintro e w1 ⟨p, rfl, V1⟩
  have V2 := live_x V1
  have R2 := rf_x w1 r
  obtain ⟨w2, hw2⟩ : ∃ z, z = w1.alloc (.cells #[.int .i64 (r : Nat), .slice none 0 0] 30) := ⟨_, rfl⟩
  rw [← hw2] at V2 R2
  have hxb : w.heap.size ≤ w1.heap.size := V1.be.size
  obtain ⟨xq, hxq⟩ : ∃ z, z = w1.heap.size := ⟨_, rfl⟩
  go_upto_region 6 with (fail)
  rw [← hw2]
  rw [← hxq] at V2 R2 hxb ⊢
  clear hw2 hxq V1 N0
  have C1 : Hid (Calls Tryz.prog 5 #[.pointer (some ⟨p, 0, none⟩)] w2 (OxTo w w2 p r xq (ab0.fell none) [] ab0.st (ab0.fell none).rc)) := dopen fell0 ht.out V2 R2 ⟨rfl, hxb⟩ (fun g hg => by simp [Value.ownBlock] at hg)
  replace hxb := Lib.hid hxb
  clear V2 R2
  go_wp2_with fail
  refine C1.out.mono ?_
  rintro e w3 ⟨q, A1, c1, A2, c2, X, v, rfl, G, R3, hx, hv, _⟩
  have C2 := Lib.hid (ropen_fell fell0 ab0_ok (R3 : Rf w3 xq r (raw ab0.snp none) v) (Nat.zero_le _) (Nat.zero_le _))
  replace G := Lib.hid G
  replace hx := Lib.hid hx
  replace hv := Lib.hid hv
  clear C1 R3
  go_wp2_with fail
  refine C2.out.mono ?_
  intro e w4 H4
  obtain ⟨lq, vs, vc, rfl, ⟨v4, X4, S4⟩, _⟩ := sb_open G.out hx.out hv.out H4
  have st : Hid (SpAt w p r xq l.length (.pointer (some ⟨q, 0, none⟩)) (.pointer (some ⟨lq, 0, none⟩)) (.int .i64 0) w4) := ⟨0, q, lq, ab0.fell none, v4, X4, rfl, Nat.zero_le _, Nat.zero_le _, rfl, rfl, fell0.ok ab0_ok, Nat.le_refl _, S4⟩
  clear C2 H4 S4 G hx hv
  go_wp2_with fail
  go_loopw [9, 13, 16] (fun vp vq i wr => SpAt w p r xq l.length vp vq i wr) (fun _ _ i _ => 60 - (intOf i).toNat)
  case atStart => exact st.out
  case round =>
    obtain ⟨k, q, lq, a, v, X, rfl, hk, hk60, rfl, rfl, ok, hg, S⟩ := hrel
    clear st
    have b0 : Hid (Below w.heap.size w wr) := S.lg.live.be
    by_cases hlt : k < l.length ∧ k < 60
    · obtain ⟨hl, hl60⟩ := hlt
      obtain ⟨o, ho⟩ : ∃ r, l[k]? = some r := ⟨_, List.getElem?_eq_getElem hl⟩
      obtain ⟨hok, ad, rfl, hc⟩ := P0.out k o ho
      obtain ⟨e0, e1, e2, e3⟩ := hc wr b0.out
      obtain ⟨w3, hw3⟩ : ∃ z, z = wr.alloc (.cells #[.int .i64 o.kind, .int .i64 o.n, .slice o.A o.m o.c, .slice o.Al o.nl o.cl] 41) := ⟨_, rfl⟩
      have b3 : Below wr.heap.size wr w3 := by rw [hw3]; exact below_alloc wr _
      have Y3 : Sy w p r q lq xq wr.heap.size o a a w3 := by rw [hw3]; exact S.enter o
      have p3 : w3.heap[wr.heap.size]? = some (.cells #[.int .i64 o.kind, .int .i64 o.n, .slice o.A o.m o.c, .slice o.Al o.nl o.cl] 41 (0, 0)) := by rw [hw3]; exact heap_alloc_new _ _
      have FW := Lib.hid (few_any w3 o w.heap.size (hok.below (b0.out.trans (b3.mono b0.out.size))) (Nat.le_trans b0.out.size b3.size))
      replace p3 := Lib.hid p3
      replace b3 := Lib.hid b3
      replace Y3 := Lib.hid Y3
      replace hok := Lib.hid hok
      replace ok := Lib.hid ok
      replace hg := Lib.hid hg
      go_upto_region 14 with (fail)
      rw [← hw3]
      clear hw3 e0 e1 e2 e3 S hc ho
      have k0 : w3.cell? ⟨wr.heap.size, 0, none⟩ = some (.int .i64 o.kind) := Pk.one_at p3.out
      have k1 : w3.cell? ⟨wr.heap.size, 1, none⟩ = some (.int .i64 o.n) := Pk.one_at p3.out
      have k2 : w3.cell? ⟨wr.heap.size, 2, none⟩ = some (.slice o.A o.m o.c) := Pk.one_at p3.out
      have k3 : w3.cell? ⟨wr.heap.size, 3, none⟩ = some (.slice o.Al o.nl o.cl) := Pk.one_at p3.out
      obtain ⟨ob, hob⟩ : ∃ z, z = wr.heap.size := ⟨_, rfl⟩
      rw [← hob] at Y3 p3 k0 k1 k2 k3 ⊢
      have b03 : Hid (Below w.heap.size w w3) := b0.out.trans (b3.out.mono b0.out.size)
      clear hob b3 b0
      go_wp2_with fail
      refine FW.out.mono ?_
      rintro e w4 ⟨b, rfl, hb, b4⟩
      have Y4 := Lib.hid (Y3.out.below b4)
      have b04 : Hid (Below w.heap.size w w4) := b03.out.trans (b4.mono b03.out.size)
      have j0 : w4.cell? ⟨ob, 0, none⟩ = some (.int .i64 o.kind) := Pk.one_at ((b4.block _ (lt_some p3.out)).trans p3.out)
      clear FW p3 k0 k1 k2 k3 b4 Y3 b03
      cases b with
      | false =>
        have Ca := Lib.hid (TA.out w4 b04.out)
        clear hb
        go_wp2_with fail
        refine Ca.out.mono ?_
        rintro e wa ⟨rfl, ba⟩
        have be : Hid (Below w.heap.size w wa) := b04.out.trans (ba.mono b04.out.size)
        clear ba Ca
        go_wp2
        go_ret
        exact ⟨rfl, be.out⟩
      | true =>
        have hfew : Hid _ := Lib.hid (hb rfl)
        have hu : Hid (used a.L ≤ r ∧ r ≤ 1000000) := by obtain ⟨v, X, h⟩ := Y4.out; exact h.lg.live.fits
        have hm : Hid (o.bs.length ≤ 900) := by have h1 := hfew.out.1; have h2 := hok.out.rb.len; show _ ≤ _; omega
        have hll : Hid (o.l.length ≤ 6 ∧ ∀ r ∈ o.l, r.length ≤ 100) := ⟨by have h1 := hfew.out.2.1; have h2 := hok.out.tx.len; omega, hfew.out.2.2⟩
        have hg2 : Hid (a.g < 4611686018427387903) := by have := hg.out; show _ < _; omega
        clear hb hfew
        replace hk := Lib.hid hk
        replace hk60 := Lib.hid hk60
        replace hl := Lib.hid hl
        replace hl60 := Lib.hid hl60
        go_upto_block 2 with (fail)
        go_cut [9, 13, 18, 19, 20, 21, 22, 23, 24, 25, 26] from 90 to 159 (fun s9 s13 s18 s19 _ _ _ _ _ _ _ wx => ScAt w p r xq k s9 s13 s18 s19 wx)
        case first =>
          by_cases q0 : o.kind = 0
          · have d0 : (o.kind == 0) = true := by simpa using q0
            clear q0
            have QD : Hid (∀ ax w', Sy w p r q lq xq ob o a ax w' → Calls Tryz.prog 9 #[.pointer (some ⟨q, 0, none⟩), .slice o.A o.m o.c] w' fun e w'' => e = .returned (.int .i64 (a.dput r o.bs).1) ∧ Sy w p r q lq xq ob o (a.dput r o.bs).2 ax w'') := fun ax w' h => s_dput ok.out ht.out hok.out h
            have QX : Hid (∀ ad w', Sy w p r q lq xq ob o ad a w' → Calls Tryz.prog 10 #[.pointer (some ⟨lq, 0, none⟩), .string (str o.bs)] w' fun e w'' => e = .returned (.int .i64 (a.dput r o.bs).1) ∧ Sy w p r q lq xq ob o ad (a.dput r o.bs).2 w'') := fun ad w' h => s_xput ok.out hm.out h hu.out.1 hu.out.2
            have SA : Hid (∀ ad ax w', Sy w p r q lq xq ob o ad ax w' → w'.cell? ⟨ob, 2, none⟩ = some (.slice o.A o.m o.c) ∧ (convert 39 9 (.slice o.A o.m o.c)).run Tryz.prog w' = .ok (.string (str o.bs)) w') := fun ad ax w' h => ⟨h.at2, h.src hok.out⟩
            have m0 : Sy w p r q lq xq ob o a a w4.drew := Sy.drew Y4.out
            have s0 := SA.out _ _ _ m0
            have O5 := Lib.hid (ok.out.dput r o.bs)
            have g5 : Hid ((a.dput r o.bs).2.g ≤ k + 1) := by
              have := hg.out
              show _ ≤ _
              unfold Ab.dput
              split
              · split
                · show a.g ≤ _; omega
                · show a.g ≤ _; omega
              · show a.g ≤ _; omega
            generalize (a.dput r o.bs).1 = er at *
            generalize (a.dput r o.bs).2 = a' at *
            clear Y4 ok hu hm hll hg2 hok j0
            go_wp2_with fail
            go_region_held3 (fun w' => w'.cell? ⟨ob, 2, none⟩ = some (.slice o.A o.m o.c) ∧ (convert 39 9 (.slice o.A o.m o.c)).run Tryz.prog w' = .ok (.string (str o.bs)) w') (first | assumption | exact s0 | go_keep)
              ((first
                | (go_at_call 9; refine (QD.out _ _ (by assumption)).mono ?_; rintro e w6 ⟨rfl, hM⟩; have sr := SA.out _ _ _ hM)
                | (go_at_call 10; refine (QX.out _ _ (by assumption)).mono ?_; rintro e w6 ⟨rfl, hM⟩; have sr := SA.out _ _ _ hM)))
            all_goals
              go_wp2
              go_meet
              case rel =>
                refine ⟨q, lq, a', er, rfl, rfl, rfl, rfl, O5.out, g5.out, Sy.leave (ob := ob) (o := o) ?_⟩
                assumption
          · have d0 : (o.kind == 0) = false := by simpa using q0
            clear q0
            by_cases q1 : o.kind = 1
            · have d1 : (o.kind == 1) = true := by simpa using q1
              clear q1
              have C1 := Lib.hid (s_dsync Y4.out)
              have O5 := Lib.hid ok.out.sync
              have g5 : Hid (a.sync.g ≤ k + 1) := by have := hg.out; show a.g ≤ _; omega
              clear Y4 ok hu hm hll hg2 hok j0
              go_wp2_with fail
              refine C1.out.mono ?_
              rintro e w5 ⟨rfl, Y5⟩
              have C2 := Lib.hid (s_xsync Y5)
              clear Y5 C1
              go_wp2_with fail
              refine C2.out.mono ?_
              rintro e w6 ⟨rfl, Y6⟩
              replace Y6 := Lib.hid Y6
              clear C2
              go_wp2
              go_meet
              case rel => exact ⟨q, lq, a.sync, 0, rfl, rfl, rfl, rfl, O5.out, g5.out, Y6.out.leave⟩
            · have d1 : (o.kind == 1) = false := by simpa using q1
              clear q1
              by_cases q2 : o.kind = 2
              · have d2 : (o.kind == 2) = true := by simpa using q2
                clear q2
                have QD : Hid (∀ ax w', Sy w p r q lq xq ob o a ax w' → Calls Tryz.prog 13 #[.pointer (some ⟨q, 0, none⟩), .slice o.Al o.nl o.cl] w' fun e w'' => e = .returned (.int .i64 (a.dsave r o.l).1) ∧ Sy w p r q lq xq ob o (a.dsave r o.l).2 ax w'') := fun ax w' h => s_dsave ok.out hg2.out ht.out hok.out hll.out h
                have QDu : Hid (∀ ax u w', Syu w p r q lq xq ob o a ax u w' → Calls Tryz.prog 13 #[.pointer (some ⟨q, 0, none⟩), .slice o.Al o.nl o.cl] w' fun e w'' => e = .returned (.int .i64 (a.dsave r o.l).1) ∧ Syu w p r q lq xq ob o (a.dsave r o.l).2 ax u w'') := fun ax u w' h => u_dsave ok.out hg2.out ht.out hok.out hll.out h
                have QT : Hid (∀ ad ax w', Sy w p r q lq xq ob o ad ax w' → Calls Tryz.prog 15 #[.slice o.Al o.nl o.cl] w' fun e w'' => ∃ u, e = .returned u ∧ Syu w p r q lq xq ob o ad ax u w'') := fun ad ax w' h => u_texts hok.out hll.out.1 h
                have QX : Hid (∀ ad u w', Syu w p r q lq xq ob o ad a u w' → Calls Tryz.prog 14 #[.pointer (some ⟨lq, 0, none⟩), u] w' fun e w'' => e = .returned (.int .i64 (a.dsave r o.l).1) ∧ Sy w p r q lq xq ob o ad (a.dsave r o.l).2 w'') := fun ad u w' h => u_xsave ok.out hll.out h hu.out.1 hu.out.2
                have SA : Hid (∀ ad ax w', Sy w p r q lq xq ob o ad ax w' → w'.cell? ⟨ob, 3, none⟩ = some (.slice o.Al o.nl o.cl)) := fun ad ax w' h => h.at3
                have SAu : Hid (∀ ad ax u w', Syu w p r q lq xq ob o ad ax u w' → w'.cell? ⟨ob, 3, none⟩ = some (.slice o.Al o.nl o.cl)) := fun ad ax u w' h => h.sy.at3
                have m0 : Sy w p r q lq xq ob o a a w4.drew := Sy.drew Y4.out
                have s0 := SA.out _ _ _ m0
                have O5 := Lib.hid (ok.out.dsave r o.l (by have := hg2.out; omega))
                have g5 : Hid ((a.dsave r o.l).2.g ≤ k + 1) := by
                  have := hg.out
                  show _ ≤ _
                  unfold Ab.dsave
                  split
                  · split
                    · show a.g ≤ _; omega
                    · show a.g + 1 ≤ _; omega
                  · show a.g ≤ _; omega
                generalize (a.dsave r o.l).1 = er at *
                generalize (a.dsave r o.l).2 = a' at *
                clear Y4 ok hu hm hll hg2 hok j0
                go_wp2_with fail
                go_region_held3 (fun w' => w'.cell? ⟨ob, 3, none⟩ = some (.slice o.Al o.nl o.cl)) (first | assumption | exact s0 | go_keep)
                  ((first
                    | (go_at_call 15; refine (QT.out _ _ _ (by assumption)).mono ?_; rintro e w6 ⟨u, rfl, hM⟩; have sr := SAu.out _ _ _ _ hM)
                    | (go_at_call 13; refine (QDu.out _ _ _ (by assumption)).mono ?_; rintro e w6 ⟨rfl, hM⟩; have sr := SAu.out _ _ _ _ hM)
                    | (go_at_call 13; refine (QD.out _ _ (by assumption)).mono ?_; rintro e w6 ⟨rfl, hM⟩; have sr := SA.out _ _ _ hM)
                    | (go_at_call 14; refine (QX.out _ _ _ (by assumption)).mono ?_; rintro e w6 ⟨rfl, hM⟩; have sr := SA.out _ _ _ hM)))
                all_goals
                  go_wp2
                  go_meet
                  case rel =>
                    refine ⟨q, lq, a', er, rfl, rfl, rfl, rfl, O5.out, g5.out, Sy.leave (ob := ob) (o := o) ?_⟩
                    assumption
              · have d2 : (o.kind == 2) = false := by simpa using q2
                clear q2
                have j1 := Y4.out.at1
                have hs : Hid (∀ x ∈ a.L, x.2.2 ≤ x.2.1.length) := by obtain ⟨v, X, h⟩ := Y4.out; exact fun x hx => (h.lg.live.head x hx).2
                have C1 := Lib.hid (c_dcrash (by have := a.len_L; omega) hok.out.n1 hok.out.n2 Y4.out.two)
                obtain ⟨y, c, e0, hcr, F, hy⟩ := ok.out.crash_two o.n
                have O5 := Lib.hid (F.ok ok.out)
                have g5 : Hid ((a.fell c).g ≤ k + 1) := by have := hg.out; show a.g ≤ _; omega
                have hst : Hid (a.st.length ≤ 1000000 ∧ (a.fell c).rc.length ≤ 1000000 ∧ (a.snp.getD []).length ≤ 1000000 ∧ (y.elim 0 fun x => x.1.length) ≤ 1000000) := by
                  have h1 := hu.out
                  have h2 := a.used_eq
                  have h3 := a.rc_le
                  refine ⟨?_, ?_, by omega, by omega⟩
                  · unfold Ab.st
                    cases e : a.s with
                    | none => exact Nat.zero_le _
                    | some st =>
                      have : (a.snp.getD []) = cnt a.g (some st) := by unfold Ab.snp; rw [e]; rfl
                      rw [this, cnt_len] at h2
                      have := frames_ge st
                      show st.length ≤ _
                      omega
                  · rw [F.rc]
                    rcases F.pre with rfl | ⟨j, hj, rfl⟩
                    · exact Nat.zero_le _
                    · show (a.rc.take j).length ≤ _
                      rw [List.length_take]
                      omega
                clear Y4 hm hll hg2 j0
                go_wp2_with fail
                refine C1.out.mono ?_
                rintro e w5 ⟨rfl, Y5, j5⟩
                have C2 := c_xcrash (by have := a.len_L; omega) hs.out (by have := hu.out; omega) hok.out.n1 hok.out.n2 Y5
                rw [hcr] at C2
                replace C2 := Lib.hid C2
                replace F := Lib.hid F
                clear Y5 C1 hcr hy hs
                go_wp2_with fail
                refine C2.out.mono ?_
                rintro e w6 ⟨rfl, Y6⟩
                have C3 := Lib.hid (c_dopen F.out ht.out Y6)
                clear Y6 C2
                go_wp2_with fail
                refine C3.out.mono ?_
                rintro e w7 ⟨q2, E1, f1, E2, f2, X7, v7, rfl, G, R7, hx, hv, K7⟩
                have C4 := Lib.hid (ropen_fell F.out ok.out R7 hst.out.2.2.1 hst.out.2.2.2)
                replace G := Lib.hid G
                replace hx := Lib.hid hx
                replace hv := Lib.hid hv
                replace K7 := Lib.hid K7
                clear C3 R7
                go_wp2_with fail
                refine C4.out.mono ?_
                intro e w8 H8
                obtain ⟨lq2, vs, vc, rfl, ⟨v8, X8, S8⟩, T1, T2, kp⟩ := sb_open G.out hx.out hv.out H8
                obtain ⟨L1, L2⟩ := K7.out w8 kp
                have C5 := Lib.hid (Fr.texts_any w8 (.slice E1 a.st.length f1) vs a.st L1 T1 hst.out.1)
                replace L2 := Lib.hid L2
                replace T2 := Lib.hid T2
                replace S8 := Lib.hid S8
                clear C4 H8 G hx hv K7 kp L1 T1
                go_wp2_with fail
                refine C5.out.mono ?_
                rintro e w9 ⟨rfl, b9⟩
                have C6 := Lib.hid (Fr.texts_any w9 (.slice E2 (a.fell c).rc.length f2) vc (a.fell c).rc (L2.out.below b9) (T2.out.below b9) hst.out.2.1)
                have b9' := Lib.hid b9
                clear C5 b9 L2 T2
                go_wp2_with fail
                refine C6.out.mono ?_
                rintro e wa ⟨rfl, ba⟩
                have S9 := Lib.hid (Sb.below S8.out (b9'.out.trans (ba.mono b9'.out.size)))
                clear C6 ba b9' S8
                go_wp2
                go_meet
                case rel => exact ⟨q2, lq2, a.fell c, 0, rfl, rfl, rfl, rfl, O5.out, g5.out, _, _, S9.out⟩
        case rest =>
          obtain ⟨q5, lq5, a5, er, rfl, rfl, rfl, rfl, ok5, hg5, v5, X5, S5⟩ := hcut
          have b5 := S5.lg.live.be
          have Q1 := fun d os => Calls.regrown_of ((len_any _ _ _ _ (S5.lg.below (below_regrown _ d os)).at_).mono fun _ _ k => ⟨k.1, by rw [← k.2]; exact Below.refl _ _⟩)
          have y2 := Pk.one_at (i := 2) S5.lc
          replace y2 := y2.trans (show (lcs xq a5)[2]? = some (.int .i64 (a5.rc.length : Nat)) from rfl)
          have z2 := cell_regrown y2
          have hN : Hid (∀ d os, Sb w p r q5 lq5 xq a5 v5 X5 (grow (redrawn _ d) os)) := fun d os => S5.below (below_regrown _ d os)
          have ul := a5.rc_le
          have hu5 : Hid (used a5.L ≤ 1000000 ∧ ∀ x ∈ a5.L, x.1.length ≤ 20 ∧ x.2.2 ≤ x.2.1.length) := ⟨by have := S5.lg.live.fits; omega, fun x hx => S5.lg.live.head x hx⟩
          replace ok5 := Lib.hid ok5
          replace hg5 := Lib.hid hg5
          clear ul y2 b5 S5 Y4 ok hu hm hll hg2 hok j0
          generalize a5.rc.length = nrc at *
          go_wp2_with fail
          refine wp_region_quiet_below (by kernel_rfl) (by kernel_rfl) ?_
          repeat (go_big_quiet_step (with_reducible exact Q1 _ _))
          refine wpQuiet_nil ?_
          intro w7 hw'
          obtain ⟨⟨dq, osq⟩, hw7⟩ := hw'
          have S7 : Sb w p r q5 lq5 xq a5 v5 X5 w7 := by rw [hw7]; exact hN.out dq osq
          clear hw7 Q1 z2 hN
          obtain ⟨wL, hwL⟩ : ∃ z, z = w7.alloc (.cells #[.string ⟨#[115, 110, 97, 112]⟩, .string ⟨#[108, 111, 103]⟩, .string ⟨#[110, 101, 120, 116]⟩] 9) := ⟨_, rfl⟩
          have SL : Hid (Sb w p r q5 lq5 xq a5 v5 X5 wL) := by rw [hwL]; exact S7.below (below_alloc _ _)
          have hnb : wL.heap[w7.heap.size]? = some (.cells #[.string ⟨#[115, 110, 97, 112]⟩, .string ⟨#[108, 111, 103]⟩, .string ⟨#[110, 101, 120, 116]⟩] 9 (0, 0)) := by rw [hwL]; exact heap_alloc_new _ _
          replace hnb := Lib.hid hnb
          clear S7
          go_upto_block 3 with (fail)
          rw [← hwL]
          generalize w7.heap.size = nb at *
          clear hwL
          have st0 : Hid (SnAt wL (.int .i64 0) wL) := ⟨0, rfl, by omega, Below.refl _ _⟩
          go_wp2_with fail
          go_loopw [173] (fun i wr => SnAt wL i wr) (fun i _ => 3 - (intOf i).toNat)
          case atStart => exact st0.out
          case round =>
            obtain ⟨j, rfl, hj, hbr⟩ := hrel
            clear st0
            by_cases hlt : j < 3
            · obtain ⟨x, hx20, hcx⟩ : ∃ x : Bs, x.length ≤ 20 ∧ wL.cell? ⟨nb, j, none⟩ = some (.string (str x)) := by
                have : j = 0 ∨ j = 1 ∨ j = 2 := by omega
                rcases this with rfl | rfl | rfl
                · exact ⟨[115, 110, 97, 112], by decide, Pk.one_at (i := 0) hnb.out⟩
                · exact ⟨[108, 111, 103], by decide, Pk.one_at (i := 1) hnb.out⟩
                · exact ⟨[110, 101, 120, 116], by decide, Pk.one_at (i := 2) hnb.out⟩
              have hx1 : wr.cell? ⟨nb, j, none⟩ = some (.string (str x)) := (World.cell?_of_block (hbr.block nb (lt_some hnb.out))).trans hcx
              have hxs : (str x).size ≤ maxLen := by rw [str_size]; unfold maxLen; omega
              have Sr := SL.out.below hbr
              have RD := l_read Sr.lg.live (str x) hxs
              have hL2 := a5.len_L
              have XR : Hid (∀ wa, Below wr.heap.size wr wa → Calls Tryz.prog 21 #[.pointer (some ⟨xq, 0, none⟩), .string (str x)] wa fun e w' => e = .returned (.tuple #[.string (str ((Dk.look (nm (str x)) a5.L).elim [] (·.1))), .int .i64 ((Dk.look (nm (str x)) a5.L).elim 5 fun _ => 0)]) ∧ Below wa.heap.size wa w') := fun wa hb => Dk.rread wa xq r a5.L v5 (str x) (Sr.rf.below hb) a5.rise (by omega)
              have i1 : (j : Int) < 3 := by omega
              have i2 : (0 : Int) ≤ (j : Int) := by omega
              have nx0 : Hid (∀ wx, Below wr.heap.size wr wx → SnAt wL (.int .i64 ((j : Int) + 1)) wx) := fun wx hbx => ⟨j + 1, by simp, by omega, hbr.trans (hbx.mono hbr.size)⟩
              replace RD := Lib.hid RD
              replace Sr := Lib.hid Sr
              clear hcx hbr hx20
              go_wp2_with fail
              refine RD.out.mono ?_
              rintro e wa h
              rcases h with ⟨hl0, rfl, ba⟩ | ⟨s', y', vb, hl0, rfl, hob, ba⟩
              · have XD := XR.out wa ba
                rw [hl0] at XD
                simp only [Option.elim] at XD
                replace XD := Lib.hid XD
                have ba' := Lib.hid ba
                clear RD XR hl0 ba Sr
                go_wp2_with fail
                refine XD.out.mono ?_
                rintro e wb ⟨rfl, bb⟩
                have nx := Lib.hid (nx0.out wb (ba'.out.trans (bb.mono ba'.out.size)))
                have t0 := fun d os => str_run (w := grow (redrawn wb d) os) (T := fun _ => True) (c := 0) (A := none) (n := 0) (bs := []) ⟨rfl, fun h => by omega⟩
                have nx1 : Hid (∀ d os, SnAt wL (.int .i64 ((j : Int) + 1)) (grow (redrawn wb d) os)) := fun d os => nx0.out _ ((ba'.out.trans (bb.mono ba'.out.size)).trans ((below_regrown wb d os).mono (Nat.le_trans ba'.out.size bb.size)))
                clear bb nx nx0 XD ba'
                go_wp2_with fail
                refine wp_region_quiet_below (by kernel_rfl) (by kernel_rfl) ?_
                repeat (go_big_quiet_step (fail))
                refine wpQuiet_nil ?_
                intro w9 hw'
                obtain ⟨⟨dq2, osq2⟩, hw9⟩ := hw'
                have n9 : Hid (SnAt wL (.int .i64 ((j : Int) + 1)) w9) := by rw [hw9]; exact nx1.out dq2 osq2
                clear hw9 nx1 t0
                go_wp2
                exact ⟨n9.out, by simp [intOf]; omega⟩
              · have XD := XR.out wa ba
                rw [hl0] at XD
                simp only [Option.elim] at XD
                replace XD := Lib.hid XD
                obtain ⟨Ab_, cb, rfl⟩ := own_form hob
                have ba' := Lib.hid ba
                have Pb : Hid (Rb wa (fun g => g < wa.heap.size) Ab_ s'.length s') := Dk.rb_own hob
                clear RD XR hob ba
                go_wp2_with fail
                refine XD.out.mono ?_
                rintro e wb ⟨rfl, bb⟩
                have bab : Below wr.heap.size wr wb := ba'.out.trans (bb.mono ba'.out.size)
                have Sb_ := Sr.out.below bab
                have Pb2 : Rb wb (fun g => g < wb.heap.size) Ab_ s'.length s' := Dk.rb_below Pb.out bb
                have t1 := fun d os => str_regrown (c := cb) Pb2 d os
                have hfile := Dk.pos_found (n := nm (str x)) a5.rise hl0
                obtain ⟨gf, cf, rfl, hn1, hn2, f1, f2, f3, _⟩ := Sb_.rf.file hfile
                have hpos : Dk.pos (nm (str x)) a5.L < a5.L.length := (List.getElem?_eq_some_iff.1 hfile).1
                have y1 : wb.cell? ⟨xq, 1, none⟩ = some (.slice (some ⟨gf, 0, none⟩) a5.L.length cf) := Pk.one_at (i := 1) Sb_.rf.cells
                have Q2 := fun d os => Calls.regrown_of (l_synced (Sb_.lg.live.below (below_regrown wb d os)) (str x) hxs)
                rw [hl0] at Q2
                simp only [Option.elim] at Q2
                have Q3 := fun d os => Calls.regrown_of ((rlat _ xq r a5.L _ (str x) (Sb_.rf.below (below_regrown wb d os)) a5.rise (by omega) hl0).mono fun _ _ k => ⟨k.1, by rw [← k.2]; exact Below.refl _ _⟩)
                have hsy : y' ≤ s'.length := (hu5.out.2 _ (List.mem_of_getElem? hfile)).2
                have hul : s'.length ≤ 1000000 := by
                  have h1 := Dk.used_put (n := nm (str x)) (a := ([], 0)) a5.rise
                  rw [hl0] at h1
                  simp only [Option.elim, List.length_nil] at h1
                  have := hu5.out.1
                  omega
                have nx1 : Hid (∀ d os, SnAt wL (.int .i64 ((j : Int) + 1)) (grow (redrawn wb d) os)) := fun d os => nx0.out _ (bab.trans ((below_regrown wb d os).mono bab.size))
                obtain ⟨ps, hps⟩ : ∃ z, z = Dk.pos (nm (str x)) a5.L := ⟨_, rfl⟩
                rw [← hps] at f1 f2 f3 Q3 hpos
                obtain ⟨nf, hnf⟩ : ∃ z, z = a5.L.length := ⟨_, rfl⟩
                rw [← hnf] at y1 hn1 hpos hL2
                have sz : (str s').size = s'.length := str_size _
                have ez : ((str s').extract 0 y').size = y' := by rw [Dk.str_take, str_size, List.length_take]; omega
                have g1 : (ps : Int) < (nf : Int) := by omega
                have g2 : (nf : Int) ≤ 2 := by omega
                have g3 : (y' : Int) ≤ ((str s').size : Int) := by omega
                have g4 : ((str s').size : Int) ≤ 1000000 := by omega
                have zz0 := cell_regrown y1
                have zz2 := cell_regrown f2
                have zz3 := cell_regrown f3
                replace hps := Lib.hid hps
                replace hnf := Lib.hid hnf
                clear y1 f1 f2 f3 hfile bab Sb_ Pb2 Pb XD ba' bb hl0 nx0 hn1 hn2 hsy Sr hul
                generalize str s' = SS at *
                go_wp2_with fail
                refine wp_region_quiet_below (by kernel_rfl) (by kernel_rfl) ?_
                repeat (go_big_quiet_step (first | with_reducible exact Q2 _ _ | with_reducible exact Q3 _ _))
                refine wpQuiet_nil ?_
                intro w9 hw'
                obtain ⟨⟨dq2, osq2⟩, hw9⟩ := hw'
                have n9 : Hid (SnAt wL (.int .i64 ((j : Int) + 1)) w9) := by rw [hw9]; exact nx1.out dq2 osq2
                clear hw9 nx1 t1 Q2 Q3 zz0 zz2 zz3
                go_wp2
                exact ⟨n9.out, by simp [intOf]; omega⟩
            · obtain rfl : j = 3 := by omega
              have nx : Hid (SpAt w p r xq l.length (.pointer (some ⟨q5, 0, none⟩)) (.pointer (some ⟨lq5, 0, none⟩)) (.int .i64 ((k : Int) + 1)) wr) := ⟨k + 1, q5, lq5, a5, v5, X5, by simp, hl.out, hl60.out, rfl, rfl, ok5.out, hg5.out, SL.out.below hbr⟩
              have h60 := hl60.out
              clear hbr SL
              go_wp2
              exact ⟨nx.out, by simp [intOf]; omega⟩
    · have Ca := Lib.hid (TA.out wr b0.out)
      clear S
      by_cases h1 : k < l.length
      · have i1 : (k : Int) < (l.length : Int) := by omega
        have i2 : decide ((k : Int) < 60) = false := decide_eq_false (by omega)
        clear hlt
        go_wp2_with fail
        refine Ca.out.mono ?_
        rintro e wa ⟨rfl, ba⟩
        have be : Hid (Below w.heap.size w wa) := b0.out.trans (ba.mono b0.out.size)
        clear ba Ca
        go_wp2
        go_ret
        exact ⟨rfl, be.out⟩
      · have i1 : decide (k < l.length) = false := decide_eq_false h1
        clear hlt
        go_wp2_with fail
        refine Ca.out.mono ?_
        rintro e wa ⟨rfl, ba⟩
        have be : Hid (Below w.heap.size w wa) := b0.out.trans (ba.mono b0.out.size)
        clear ba Ca
        go_wp2
        go_ret
        exact ⟨rfl, be.out⟩

theorem walkd (a0 : Int) (_w0 : (Lit.int .i64 a0).wf = true) (v1 : Value) (A1 : Option Addr) (n1 c1 : Nat) (l1 : List Stp) (e1 : v1 = .slice A1 n1 c1) (lc1 : n1 ≤ c1) (uc1 : c1 ≤ 9223372036854775807) {W' : World} (w1 : Stps W' W'.heap.size A1 n1 l1) (W : World) (hW : W = W') (ht : Tab W) :
    Calls Tryz.prog 3 #[.int .i64 a0, v1] W fun e w' => e = .returned (.bool true) ∧ Below W.heap.size W w' := by
  subst hW
  subst e1
  exact walk a0 A1 n1 c1 l1 _ w1 ht (by omega)

/-! The row: every input, the listed variable as the condition has it. -/
set_option linter.unusedVariables false
set_option maxRecDepth 100000 in
theorem lifted (os : Os) (started : os.Started) (H : Type) (enc : TypeId × Value → H) :
    ReturnsInHanded {} Tryz.checked os 3 .any (fun w args => (Rows.sealPlaysSpec.pre enc Tryz.prog Tryz.f3 [] false w args ∧ laidMetH Tryz.prog laids w) ∧ sizedMet enc Tryz.prog Tryz.f3 (OpenSpec.ofChange Rows.sealPlaysSpec) false w args)
      (Rows.sealPlaysSpec.post enc Tryz.prog Tryz.f3 false true false false) := by
  refine returnsInHanded_of_change_and (C := Tryz.checked) (X := fun w _ => laidMetH Tryz.prog laids w) (fun _ _ _ hh h => h.of_heap hh) own started (by kernel_rfl) Tryz.func3
    (ChangeSpec.witness_shaped (enc := enc) (C := Tryz.checked) (os := os) (X := fun w _ => laidMetH Tryz.prog laids w) false (World.doorLaid Tryz.prog 400 os) #[.int .i64 0, .slice none 0 0] 8 rfl (World.shaped_of_RefB (by kernel_rfl) (by kernel_rfl)) (by kernel_rfl) (by kernel_rfl) (by kernel_rfl) (door_met os _)) ?_
  intro W base args ds gs before hval0 hW _ _ hL _
  have hval : ∀ (j : Nat) t v, Tryz.f3.params[j]? = some t → args[j]? = some v → Value.okWide Tryz.prog W .any base t v := hval0
  have hW' := hW
  obtain ⟨p, q, hA0, hV, rfl, hfz, hnd⟩ := hW
  have hA : DataW.TrodAll enc Tryz.prog W 0 (fun _ => true) true Tryz.f3.params.toList args.toList ds p := hA0
  rw [Tryz.params3] at hA hval
  obtain ⟨v0, vs0, d0, ds0, p0, q0, hargs, rfl, rfl, h0, r0⟩ := trodAll_cons hA
  obtain ⟨v1, vs1, d1, ds1, p1, q1, rfl, rfl, rfl, h1, r1⟩ := trodAll_cons r0
  obtain ⟨rfl, rfl, rfl⟩ := trodAll_nil r1
  obtain rfl : args = #[v0, v1] := by cases args; simp_all
  obtain ⟨rfl, rfl⟩ := trodVars_none hV
  obtain ⟨a0, rfl, rfl, rfl, w0⟩ := open_int Tryz.underlying3 (hval 0 3 v0 rfl rfl) h0
  obtain ⟨A1, n1, c1, a1, e1, lc1, uc1, w1⟩ := view_steps (hval 1 22 v1 rfl rfl) h1
  clear hA0 hval0
  simp only [List.append_nil] at hW'
  refine (walkd a0 w0 v1 A1 n1 c1 a1 e1 lc1 uc1 w1 W rfl (of_laid hL)).mono fun e W' ⟨he, hb⟩ => ?_
  subst he
  exact ⟨_, rfl, post_below (pa := [] ++ (p1 ++ [])) (pv := []) hW' (fun _ _ _ => (trodAll_cons_mk (shut_bool Tryz.underlying4 _) trodAll_mk0)) (fun sp hsp => (trodAll_cons_mk (shut_int Tryz.underlying3 w0) (trodAll_cons_mk (Trod_stays laidOut (by kernel_rfl) (of_decide_eq_true (by kernel_rfl)) h1 (fun x hx => hb.same (hW'.lt x (by simp [hx]))) (fun x hx => hsp x (by simp [hx]))) trodAll_mk0))) (fun _ _ => rfl) (by simp)
    hb (ok_one (by kernel_rfl) rfl (okWide_bool_mk Tryz.underlying4 _))⟩

theorem over : Rows.sealPlaysRow.holds Tryz.pinned (OpenSpec.ofChange Rows.sealPlaysSpec) :=
  OpenClaim.holds_of_wide 3 Tryz.f3 rfl rfl rfl rfl rfl rfl rfl ⟨rfl, rfl, rfl, rfl, rfl⟩ rfl rfl rfl rfl rfl (by kernel_rfl) Tryz.func3 (by kernel_rfl)
    (of_decide_eq_true (by kernel_rfl)) (by unfold Func.isWrapper; first | (rw [if_pos (by decide +kernel)]; kernel_rfl) | (rw [if_neg (by decide +kernel)]; exact ⟨rfl, rfl⟩))
    (fun os started H enc _ => lifted os started H enc)

/-- The tied card. -/
theorem proved : Rows.SealPlaysCardSaid :=
  Claim7.holds_tied_plain_at .later [] [.data] true _ false
    over (fun _ h => by cases h) (by kernel_rfl) (fun _ h => by cases h) sealPlays_row_tie rfl ⟨rfl, rfl⟩ (by kernel_rfl) rfl
    (fun f fn hf hfn => by
      obtain rfl : f = 3 := Option.some.inj ((show Tryz.prog.funcNamed "sojourn/sojournlaw6.SealPlays" = some 3 by kernel_rfl).symm.trans hf) |>.symm
      obtain rfl : fn = Tryz.f3 := (Option.some.inj (Tryz.func3.symm.trans hfn)).symm
      exact ⟨by kernel_rfl, fun j t ht => by
        rw [Tryz.params3] at ht
        have hm : t ∈ [3, 22] := by simpa using Array.mem_of_getElem? ht
        have hall : ([3, 22].all fun u => !Tryz.prog.wantsStandIn u) = true := by kernel_rfl
        exact (show Tryz.prog.wantsStandIn t = false by simpa using List.all_eq_true.1 hall t hm)⟩)
    (by kernel_rfl)
#print axioms proved

end Go.Proofs.YtbolcapgocjgcaaGreatDoor.sealPlays
