/- Read, walked. -/
import Derived.Test.YtbolcapgocjgcaaGreatDoorFrD
namespace Go.Proofs.YtbolcapgocjgcaaGreatDoor
set_option maxRecDepth 100000
open Go.RowKit
open Go.Proofs.YtbolcapgocjgcaaGreatDoor.Pk
namespace Fr

theorem cur_of {wr w2 : World} {pat p : Nat} {bs : List UInt8} {e : Ending} {base : Nat} (h : CloTo wr pat bs p e w2) (hB : base ≤ wr.heap.size) :
    ∃ vr vb, e = .returned (.tuple #[vr, vb]) ∧ Cur w2 pat base bs p vr vb ∧ wr.grownBy w2 (some pat) := by
  rcases h with ⟨h1, rfl, rfl⟩ | ⟨r, A, c, h1, rfl, h2, h3, h4, h5, h6⟩
  · exact ⟨_, _, rfl, .inl ⟨h1, rfl, rfl⟩, grown_refl _ _⟩
  · exact ⟨_, _, rfl, .inr ⟨r, A, c, h1, rfl, h2, h3, h4.keep (fun _ _ => rfl) (fun g hg => ⟨by omega, hg.2⟩), rfl, h5⟩, h6⟩

set_option maxHeartbeats 1600000 in
set_option maxRecDepth 100000 in
theorem read_any (w : World) {T : Nat → Prop} (A : Option Addr) (n c : Nat) (bs : List UInt8) (h : Rb w T A n bs) (hT : ∀ g, T g → g < w.heap.size) (ht : Tab w) (hnc : n ≤ c) (hc : c ≤ 9223372036854775807) (hn : n ≤ 1000000) :
    Calls Tryz.prog 52 #[.slice A n c] w (ReadTo w bs) := by
  have hl : Hid (bs.length = n) := h.len
  have Rk : Hid (∀ w', Below w.heap.size w w' → Rb w' (fun g => g < w.heap.size) A n bs) := fun w' hb => h.keep (fun g hg => hb.block g (hT g hg)) (fun g hg => hT g hg)
  have Tk : Hid (∀ w', Below w.heap.size w w' → Tab w') := fun w' hb => ht.below hb
  obtain ⟨w0, hw0⟩ : ∃ w0, w0 = (w.alloc (.cells #[.slice A n c] 39)).alloc (.cells #[.int .i64 0] 3) := ⟨_, rfl⟩
  have b0 : Hid (Below w.heap.size w w0) := by rw [hw0]; exact ((Below.refl _ _).alloc (Nat.le_refl _) _).alloc (by simp) _
  have z0 : Hid (w0.heap.size = w.heap.size + 2) := by rw [hw0]; simp [Hid]
  have p1 : Hid (w0.heap[w.heap.size]? = some (.cells #[.slice A n c] 39 (0, 0))) := by
    rw [hw0]; exact (heap_alloc_old _ _ (by simp)).trans (heap_alloc_new w _)
  have p2 : Hid (w0.heap[w.heap.size + 1]? = some (.cells #[.int .i64 0] 3 (0, 0))) := by
    have := heap_alloc_new (w.alloc (.cells #[.slice A n c] 39)) (.cells #[.int .i64 0] 3)
    have hz : (w.alloc (.cells #[.slice A n c] 39)).heap.size = w.heap.size + 1 := by simp
    rw [hz] at this
    rw [hw0]
    exact this
  have C : Hid (∀ (w' : World) (p : Nat), Below w.heap.size w w' → w.heap.size + 2 ≤ w'.heap.size → p ≤ n → w'.heap[w.heap.size]? = some (.cells #[.slice A n c] 39 (0, 0)) → w'.heap[w.heap.size + 1]? = some (.cells #[.int .i64 p] 3 (0, 0)) →
      Calls Tryz.prog 80 #[.pointer (some ⟨w.heap.size, 0, none⟩), .pointer (some ⟨w.heap.size + 1, 0, none⟩)] w' (CloTo w' (w.heap.size + 1) bs p)) :=
    fun w' p hb hz hp h1 h2 => clo_any w' w.heap.size (w.heap.size + 1) A n c p bs (Rk.out w' hb) (fun g hg => by omega) (Tk.out w' hb) hnc hc hp hn h1 h2
  clear h hT ht
  go_enter Tryz.func52, Tryz.ntmps52
  go_wp2_with (go_at_call 70; go_in)
  rw [← hw0]
  clear hw0
  refine (C.out w0 0 b0.out (by have := z0.out; omega) (Nat.zero_le _) p1.out p2.out).mono ?_
  rintro e w1 hq
  obtain ⟨vr, vb, rfl, cur, gr⟩ := cur_of (base := w.heap.size + 2) hq (by have := z0.out; omega)
  have st : Hid (ReadAt w A n c bs (.slice none 0 0) (.int .i64 0) vr vb w1) :=
    ⟨[], 0, rfl, rfl, Nat.zero_le _, Lst.nil _ _, b0.out.grown gr (by have := z0.out; omega) (fun k hk => by injection hk; omega), by have := z0.out; have := gr.size; omega, (gr.block _ (by have := z0.out; omega) (fun e => by injection e; omega)).trans p1.out, cur⟩
  clear hq cur gr b0 z0 p1 p2
  go_wp2_with fail
  go_loopw [4, 5, 7, 8] (fun vl ve vr vb wr => ReadAt w A n c bs vl ve vr vb wr) (fun _ ve _ _ _ => n + 1 - (intOf ve).toNat)
  case atStart => exact st.out
  case round =>
    obtain ⟨l, q, rfl, hgo, hqn, hL, hb, hz, hp, hcur⟩ := hrel
    replace hgo := Lib.hid hgo
    replace hL := Lib.hid hL
    replace hb := Lib.hid hb
    replace hp := Lib.hid hp
    rcases hcur with ⟨h1, rfl, rfl⟩ | ⟨r, A', c', h1, rfl, h2, h3, h4, rfl, h5⟩
    · have F : Hid (∃ v, u4 = v ∧ ReadTo w bs (.returned (.tuple #[v, .int .i64 (q : Nat)])) wr) := ⟨u4, rfl, u4, l, q, rfl, ⟨hgo.out, h1⟩, hL.out.mono (by omega), hb.out⟩
      clear h1
      go_wp2
      go_ret2
      obtain ⟨v, rfl, F⟩ := F.out
      exact F
    · have hlen := one_len h1
      rw [List.length_drop] at hlen
      have hlb : Hid (bs.length = n) := hl
      have hpb : q + (6 + r.length) ≤ n := by have := hlb.out; omega
      have hgl := goes_le hgo.out
      obtain ⟨p, hpq⟩ : ∃ p, p = q + (6 + r.length) := ⟨_, rfl⟩
      rw [← hpq] at h5 hpb ⊢
      have hg2 : Hid (Goes bs 0 (l ++ [r]) p) := by rw [hpq]; exact goes_snoc hgo.out h1
      have hlt : q < p := by omega
      have hE : Hid (El wr (w.heap.size + 2) r (.slice A' r.length c')) := ⟨A', c', rfl, h2, h3, h4⟩
      replace h5 := Lib.hid h5
      obtain ⟨m, hm⟩ : ∃ m, m = r.length := ⟨_, rfl⟩
      rw [← hm] at hE h2 ⊢
      obtain ⟨xs, hown, hel⟩ := hL.out
      replace hown := Lib.hid hown
      replace hel := Lib.hid hel
      have hll : l.length ≤ 1000000 := by omega
      obtain ⟨j, hj⟩ : ∃ j, j = l.length := ⟨_, rfl⟩
      rw [← hj] at hown hll
      have hp0 : 0 ≤ (p : Int) := by omega
      obtain ⟨i0, hi, hz0, hz1, hz2⟩ := info_parts sl_info
      replace hi := Lib.hid hi
      replace hz0 := Lib.hid hz0
      replace hz1 := Lib.hid hz1
      replace hz2 := Lib.hid hz2
      replace hj := Lib.hid hj
      clear h1 h4 hlen hgl hpq hlb hm
      go_wp2_with (at_builtin; go_loud (refine wpList_append_1 wr rfl (.tmp 23) (.tmp 25) 32 rfl (w.heap.size + 2) 39 i0 (.slice none 0 0) 24 Tryz.underlying32 hi.out hz0.out hz1.out hz2.out rfl _ j xs (.slice A' m c') rfl hown.out rfl rfl (by unfold maxLen; omega) (by omega) hz ?_); intro v6 w6 hown6 hg6; have o6 := Lib.hid hown6; have g6 := Lib.hid hg6; clear hown6 hg6)
      have z6 : Hid (w.heap.size + 2 ≤ w6.heap.size) := by have := g6.out.size; simp at this; show _ ≤ _; omega
      have k6 : Hid (∀ g, g < w.heap.size + 2 → w6.heap[g]? = wr.heap[g]?) := fun g hg => (g6.out.block g (by simp; omega) (fun e => by have := (hown.out.lt g e.symm).1; omega)).trans (heap_alloc_old wr _ (by omega))
      have b6 : Hid (Below w.heap.size w w6) := (hb.out.alloc (by omega) _).grown g6.out (by simp; omega) (fun k hk => by have := (hown.out.lt k hk).1; omega)
      have L6 : Hid (Lst w6 (w.heap.size + 2) v6 (l ++ [r])) := Lst.snoc (by rw [← hj.out]; exact hown.out) hel.out hE.out (by rw [← hj.out]; exact o6.out) g6.out
      have p6 : Hid (w6.heap[w.heap.size]? = some (.cells #[.slice A n c] 39 (0, 0))) := (k6.out _ (by omega)).trans hp.out
      have q6 : Hid (w6.heap[w.heap.size + 1]? = some (.cells #[.int .i64 p] 3 (0, 0))) := (k6.out _ (by omega)).trans h5.out
      clear g6 o6 hown hel hE hp h5 hL hb hj k6
      refine (C.out w6 p b6.out z6.out hpb p6.out q6.out).mono ?_
      rintro e w2 hq
      obtain ⟨vr2, vb2, rfl, cur, gr⟩ := cur_of (base := w.heap.size + 2) hq z6.out
      have st2 : Hid (ReadAt w A n c bs v6 (.int .i64 (p : Nat)) vr2 vb2 w2) :=
        ⟨l ++ [r], p, rfl, hg2.out, hpb, L6.out.grown gr q6.out (by decide) (by decide), b6.out.grown gr (by have := z6.out; omega) (fun k hk => by injection hk; omega), Nat.le_trans z6.out gr.size, (gr.block _ (by have := z6.out; omega) (fun e => by injection e; omega)).trans p6.out, cur⟩
      clear hq cur gr b6 z6 p6 q6 L6 hg2
      go_wp2
      exact ⟨st2.out, by simp [intOf]; omega⟩
end Fr
end Go.Proofs.YtbolcapgocjgcaaGreatDoor
