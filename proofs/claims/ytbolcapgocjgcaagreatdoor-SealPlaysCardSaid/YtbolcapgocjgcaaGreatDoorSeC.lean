/- sealed, frames: the bytes of a file, made. -/
import Derived.Test.YtbolcapgocjgcaaGreatDoorSeB
namespace Go.Proofs.YtbolcapgocjgcaaGreatDoor
set_option maxRecDepth 100000
open Go.RowKit
open Go.Proofs.YtbolcapgocjgcaaGreatDoor.Pk
namespace Se
open Dk (Bs Live LTo nm)
open Fr (frames)

/-- Bytes of the call's own that are answered. -/
def MadeTo (w : World) (bs : Bs) (e : Ending) (w' : World) : Prop :=
  ∃ v, e = .returned v ∧ w'.ownsRow w.heap.size 5 1 v bs.length (u8s bs) ∧ Below w.heap.size w w'

set_option maxHeartbeats 1600000 in
theorem sealed_any (w : World) {T : Nat → Prop} (g : Int) (A : Option Addr) (n c : Nat) (bs : Bs) (h : Rb w T A n bs) (hT : ∀ k, T k → k < w.heap.size) (ht : Tab w) (h1 : -9223372036854775808 ≤ g) (h2 : g ≤ 9223372036854775807) (hn : n ≤ 900000) :
    Calls Tryz.prog 34 #[.agg #[.int .i64 g, .slice A n c]] w (MadeTo w (sealOf g bs)) := by
  obtain ⟨w1, hw1⟩ : ∃ z, z = (w.alloc (.cells #[.int .i64 g, .slice A n c] 79)).alloc (.cells #[.pointer none, .int .i64 0] 112) := ⟨_, rfl⟩
  have b1 : Hid (Below w.heap.size w w1) := by rw [hw1]; exact ((Below.refl _ _).alloc (Nat.le_refl _) _).alloc (by simp) _
  have z1 : Hid (w1.heap.size = w.heap.size + 2) := by rw [hw1]; simp [Hid]
  have p1 : Hid (w1.heap[w.heap.size]? = some (.cells #[.int .i64 g, .slice A n c] 79 (0, 0))) := by
    rw [hw1]; exact (heap_alloc_old _ _ (by simp)).trans (heap_alloc_new w _)
  have k1 := Pk.Wr.new (w.alloc (.cells #[.int .i64 g, .slice A n c] 79))
  have hz : (w.alloc (.cells #[.int .i64 g, .slice A n c] 79)).heap.size = w.heap.size + 1 := by simp
  rw [hz, ← hw1] at k1
  have I := Lib.hid (wint_any (w.heap.size + 1) w1 [] k1 g h1 h2 (by simp))
  have Lg := Lib.hid (encI_len g h1 h2)
  have Ln := Lib.hid (enc_ne (zz g))
  obtain ⟨x, hx⟩ : ∃ z, z = Pk.encI g := ⟨_, rfl⟩
  have hS : sealOf g bs = Fr.frame x ++ bs := by rw [hx]; rfl
  have Ln2 : Hid (0 < x.length) := by rw [hx]; exact Ln.out
  rw [hS]
  rw [List.nil_append, ← hx] at I
  rw [← hx] at Lg
  have tb : Hid (∀ w', Below w.heap.size w w' → Tab w') := fun w' hb => ht.below hb
  have Rk : Hid (∀ w', Below w.heap.size w w' → Rb w' (fun _ => True) A n bs) := fun w' hb => h.keep (fun g hg => hb.block g (hT g hg)) (fun _ _ => trivial)
  have hl : Hid (bs.length = n) := h.len
  have F : Hid (∀ w4 v4, w4.ownsRow w.heap.size 5 1 v4 (x.length + 6 + n) (u8s (Fr.frame x ++ bs)) → Below w.heap.size w w4 → MadeTo w (Fr.frame x ++ bs) (.returned v4) w4) := fun w4 v4 ho hb => by
    refine ⟨v4, rfl, ?_, hb⟩
    have : (Fr.frame x ++ bs).length = x.length + 6 + n := by rw [List.length_append, Fr.frame_len, hl.out]
    rw [this]
    exact ho
  clear h hT ht k1 hz hS hx Ln
  go_enter Tryz.func34, Tryz.ntmps34
  go_upto_region 2 with (fail)
  rw [← hw1]
  clear hw1
  have c0 : w1.cell? ⟨w.heap.size, 0, none⟩ = some (.int .i64 g) := Pk.one_at p1.out
  go_wp2_with fail
  refine I.out.mono ?_
  rintro e w2 ⟨rfl, hw2⟩
  have b2 : Hid (Below w.heap.size w w2) := b1.out.trans (hw2.be.mono (by omega))
  have p2 : Hid (w2.heap[w.heap.size]? = some (.cells #[.int .i64 g, .slice A n c] 79 (0, 0))) := (hw2.be.block _ (by omega)).trans p1.out
  have Bc := Lib.hid (bytes_any (w.heap.size + 1) w2 x hw2.wr (by have := Lg.out; omega))
  have s2 : Hid (w.heap.size ≤ w2.heap.size) := b2.out.size
  clear I hw2 b1 p1 z1 c0
  go_wp2_with fail
  refine Bc.out.mono ?_
  rintro e w3 ⟨v3, rfl, ho3, hb3⟩
  obtain ⟨A3, c3, rfl⟩ := own_form ho3
  have b3 : Hid (Below w.heap.size w w3) := b2.out.trans (hb3.mono s2.out)
  have p3 : Hid (w3.heap[w.heap.size]? = some (.cells #[.int .i64 g, .slice A n c] 79 (0, 0))) := (hb3.block _ (lt_some p2.out)).trans p2.out
  have P := Lib.hid (Fr.put_yes w3 A3 x.length c3 x (Rb.of_own ho3) (fun k hk => hk.2.lt) (tb.out w3 b3.out) (by have := Ln2.out; omega) (by have := Lg.out; omega))
  have s3 : Hid (w.heap.size ≤ w3.heap.size) := b3.out.size
  clear Bc ho3 hb3 b2 p2 s2
  go_wp2_with fail
  refine P.out.mono ?_
  rintro e w4 ⟨v4, rfl, ho4, hb4⟩
  obtain ⟨A4, c4, rfl⟩ := own_form ho4
  have b4 : Hid (Below w.heap.size w w4) := b3.out.trans (hb4.mono s3.out)
  have p4 : w4.heap[w.heap.size]? = some (.cells #[.int .i64 g, .slice A n c] 79 (0, 0)) := (hb4.block _ (lt_some p3.out)).trans p3.out
  have c1 : w4.cell? ⟨w.heap.size, 1, none⟩ = some (.slice A n c) := Pk.one_at p4
  have O4 : Hid (w4.ownsRow w.heap.size 5 1 (.slice A4 (x.length + 6) c4) (x.length + 6) (u8s (Fr.frame x))) := Dk.own_mono ho4 s3.out
  have R4 : Hid _ := Rk.out w4 b4.out
  have z4 : w.heap.size ≤ w4.heap.size := b4.out.size
  have hnb : x.length + 6 + n ≤ 140737488355328 := by have := Lg.out; omega
  clear P ho4 hb4 b3 p3 s3 p4
  go_wp2_with (at_builtin; refine wpList_append_b _ rfl (.tmp 14) (.tmp 16) rfl w.heap.size _ (x.length + 6) _ rfl O4.out rfl R4.out hnb z4 ?_; intro v6 w6 hown6 hg6 _; have f6 : Hid _ := F.out w6 v6 hown6 (b4.out.grown hg6 z4 (fun i hi => (O4.out.lt i hi).1)); clear hown6 hg6)
  go_ret
  exact f6.out

/-- What frames answers. -/
def FramesTo (w : World) (l : List Bs) (e : Ending) (w' : World) : Prop :=
  ((∀ r ∈ l, 1 ≤ r.length ∧ r.length ≤ 1000) ∧ ∃ A n c, e = .returned (.tuple #[.slice A n c, .int .i64 0]) ∧ n = (frames l).length ∧ w'.ownsRow w.heap.size 5 1 (.slice A n c) n (u8s (frames l)) ∧ Below w.heap.size w w') ∨
  ((¬ ∀ r ∈ l, 1 ≤ r.length ∧ r.length ≤ 1000) ∧ e = .returned (.tuple #[.slice none 0 0, .int .i64 1]) ∧ Below w.heap.size w w')
def FrAt (w : World) (l : List Bs) (v i : Value) (wr : World) : Prop :=
  ∃ k : Nat, k ≤ l.length ∧ i = .int .i64 k ∧ (∀ r ∈ l.take k, 1 ≤ r.length ∧ r.length ≤ 1000) ∧ wr.ownsRow w.heap.size 5 1 v (frames (l.take k)).length (u8s (frames (l.take k))) ∧ Below w.heap.size w wr
set_option maxHeartbeats 1600000 in
theorem frames_any (w : World) (v : Value) (l : List Bs) (h : Fr.Lr w v l) (ht : Tab w) (hn : l.length ≤ 100) (hm : ∀ r ∈ l, r.length ≤ 9223372036854775807) :
    Calls Tryz.prog 42 #[v] w (FramesTo w l) := by
  obtain ⟨A, c, rfl, h⟩ := h
  have st : Hid (FrAt w l (.slice none 0 0) (.int .i64 0) w) := ⟨0, Nat.zero_le _, rfl, by simp, World.ownsRow_nil _ _ _ _, Below.refl _ _⟩
  have tb : Hid (∀ w', Below w.heap.size w w' → Tab w') := fun w' hb => ht.below hb
  have P : Hid (∀ k r, l[k]? = some r → ∃ ad Ai ci, A = some ad ∧ r.length ≤ 9223372036854775807 ∧ ∀ w', Below w.heap.size w w' → w'.cell? (ad.add k) = some (.slice Ai r.length ci) ∧ Rb w' (fun g => g < w.heap.size) Ai r.length r) := by
    intro k r hk
    have hlt : k < l.length := (List.getElem?_eq_some_iff.1 hk).1
    obtain ⟨ad, ha, hab, h2⟩ := h (by omega)
    obtain ⟨Ai, ci, q1, q2⟩ := h2 k r hk
    exact ⟨ad, Ai, ci, ha, hm r (List.mem_of_getElem? hk), fun w' hb => ⟨(World.cell?_of_block (by rw [adr_block]; exact hb.block _ hab)).trans q1, q2.keep (fun g hg => hb.block g hg) (fun _ hg => hg)⟩⟩
  obtain ⟨n, hnl⟩ : ∃ n, n = l.length := ⟨_, rfl⟩
  rw [← hnl] at hn ⊢
  replace hnl := Lib.hid hnl
  clear h ht hm
  go_enter Tryz.func42, Tryz.ntmps42
  go_wp2_with fail
  go_loopw [4, 11] (fun v i wr => FrAt w l v i wr) (fun _ i _ => n - (intOf i).toNat)
  case atStart => exact st.out
  case round =>
    obtain ⟨k, hk, rfl, hok, ho, hb⟩ := hrel
    rw [← hnl.out] at hk
    replace hok := Lib.hid hok
    replace ho := Lib.hid ho
    replace hb := Lib.hid hb
    by_cases hlt : k < n
    · obtain ⟨r, hr⟩ : ∃ r, l[k]? = some r := ⟨_, List.getElem?_eq_getElem (by have := hnl.out; omega)⟩
      obtain ⟨ad, Ai, ci, rfl, hrm, hP⟩ := P.out k r hr
      obtain ⟨hc, hR⟩ := hP wr hb.out
      have s0 : Hid (w.heap.size ≤ wr.heap.size) := hb.out.size
      by_cases hg : 1 ≤ r.length ∧ r.length ≤ 1000
      · have Q := Lib.hid (Fr.put_yes wr Ai r.length ci r hR (fun g hg => Nat.lt_of_lt_of_le hg s0.out) (tb.out wr hb.out) hg.1 hg.2)
        have nx : Hid (∀ w6 v6, w6.ownsRow w.heap.size 5 1 v6 ((frames (l.take k)).length + (r.length + 6)) (u8s (frames (l.take k) ++ Fr.frame r)) → Below w.heap.size w w6 → FrAt w l v6 (.int .i64 ((k : Int) + 1)) w6) := fun w6 v6 ho6 hb6 => by
          have e := Fr.frames_take hr
          refine ⟨k + 1, by have := hnl.out; omega, by simp, ?_, ?_, hb6⟩
          · exact Fr.all_snoc hok.out hr hg.1 hg.2
          · rw [e, List.length_append, Fr.frame_len]; exact ho6
        have hfl : (frames (l.take k)).length ≤ 100 * 1006 := by
          have h1 := Fr.frames_len_le (l.take k) hok.out
          have h2 : (l.take k).length ≤ 100 := by rw [List.length_take]; omega
          have h3 : (l.take k).length * (1000 + 6) ≤ 100 * 1006 := Nat.mul_le_mul_right _ h2
          omega
        obtain ⟨A0, c0, rfl⟩ := own_form ho.out
        generalize (frames (l.take k)).length = m at *
        have hg2 := hg.2
        clear hg hr hR
        go_wp2_with fail
        refine Q.out.mono ?_
        rintro e w2 ⟨v2, rfl, ho2, hb2⟩
        obtain ⟨A2, c2, rfl⟩ := own_form ho2
        have O2 : Hid (w2.ownsRow w.heap.size 5 1 (.slice A0 m c0) m (u8s (frames (l.take k)))) := Fr.own_below ho.out hb2
        have R2 : Hid _ := Rb.of_own ho2
        have z2 : w.heap.size ≤ w2.heap.size := by have := s0.out; have := hb2.size; omega
        have b2 : Hid (Below w.heap.size w w2) := hb.out.trans (hb2.mono s0.out)
        have hnb : m + (r.length + 6) ≤ 140737488355328 := by omega
        clear ho2 hb2 Q
        go_wp2_with (at_builtin; go_loud (refine wpList_append_b _ rfl (.tmp 23) (.tmp 24) rfl w.heap.size _ m _ rfl O2.out rfl R2.out hnb z2 ?_); intro v6 w6 hown6 hg6 _; have f6 : Hid _ := nx.out w6 v6 hown6 (b2.out.grown hg6 z2 (fun i hi => (O2.out.lt i hi).1)); clear hown6 hg6)
        go_roundw
        case rel => exact f6.out
        case measure => simp [intOf]; omega
      · have Q := Lib.hid (Fr.put_no wr Ai r.length ci hrm (by omega))
        have F : Hid (FramesTo w l (.returned (.tuple #[.slice none 0 0, .int .i64 1])) wr) := .inr ⟨fun hall => hg (hall r (List.mem_of_getElem? hr)), rfl, hb.out⟩
        clear hg hr hR
        go_wp2_with fail
        refine Q.out.mono ?_
        rintro e w' ⟨rfl, rfl⟩
        go_wp2
        go_ret2
        exact F.out
    · obtain rfl : k = n := by omega
      have e : l.take k = l := List.take_of_length_le (by have := hnl.out; omega)
      rw [e] at hok ho
      obtain ⟨A0, c0, rfl⟩ := own_form ho.out
      have F : Hid (FramesTo w l (.returned (.tuple #[.slice A0 (frames l).length c0, .int .i64 0])) wr) := .inl ⟨hok.out, A0, _, c0, rfl, rfl, ho.out, hb.out⟩
      generalize (frames l).length = m at *
      clear e
      go_wp2
      go_ret2
      exact F.out
end Se
end Go.Proofs.YtbolcapgocjgcaaGreatDoor
