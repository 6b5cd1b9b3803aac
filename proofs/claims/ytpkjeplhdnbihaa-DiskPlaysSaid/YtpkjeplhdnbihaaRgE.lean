/- The document's Rename. -/
import Derived.Test.YtpkjeplhdnbihaaRgD
namespace Go.Proofs.Ytpkjeplhdnbihaa
open Go.RowKit
open Go.WideAt (bytes_total)
open Go.Proofs.Ytpkjeplhdnbihaa.Pk
namespace Dk

section
variable {α : Type} {n : Bs}
theorem put_del_ : ∀ {L : List (Bs × α)} {a b : α}, Rise L → look n L = some b → put n a (del n L) = put n a L
  | q :: r, a, b, h, e => by
    obtain ⟨h1, h2⟩ := List.pairwise_cons.1 h
    unfold look at e
    split at e
    · rename_i hq
      have e1 : del n (q :: r) = del n r := by simp [del, hq]
      have e2 : del n r = r := by
        unfold del
        rw [List.filter_eq_self]
        intro p hp
        have := bb_ne (h1 p hp)
        rw [hq] at this
        simp [this.symm]
      have e3 : put n a (q :: r) = (n, a) :: r := by
        conv => lhs; unfold put
        rw [if_pos hq]
      rw [e1, e2, e3]
      cases r with
      | nil => rfl
      | cons p r' =>
        have hp := h1 p (by simp)
        rw [hq] at hp
        unfold put
        rw [if_neg (bb_ne hp).symm, if_pos hp]
    · rename_i hq
      have hb := h1 _ (look_mem e)
      have e1 : del n (q :: r) = q :: del n r := by simp [del, hq]
      rw [e1]
      unfold put
      rw [if_neg hq, if_neg hq, if_neg (by rw [bb_asym hb]; simp), if_neg (by rw [bb_asym hb]; simp), put_del_ h2 e]
theorem put_same {L : List (Bs × α)} {a : α} (h : Rise L) (e : look n L = some a) : put n a L = L := by
  rw [put_some_ h e]
  have hp := pos_found h e
  obtain ⟨hl, he⟩ := List.getElem?_eq_some_iff.1 hp
  rw [← he]
  exact List.set_getElem_self hl
end
theorem Kp.step {S S' : Nat → Prop} {w w1 w2 : World} (h : Kp S w w1) (k : Kp S' w1 w2) (hs : ∀ g, S' g → S g ∨ w.heap.size ≤ g) : Kp S w w2 :=
  ⟨k.os.trans h.os, k.tape.trans h.tape, k.output.trans h.output, Nat.le_trans h.size k.size, fun g hg hn =>
    (k.block g (Nat.lt_of_lt_of_le hg h.size) (fun e => by
      rcases hs g e with e | e
      · exact hn e
      · omega)).trans (h.block g hg hn)⟩
/-- The files are in a new row. -/
theorem RTo.fresh {w W w3 : World} {q room : Nat} {L2 P : St} {v v3 v4 : Value} (hk : Kp (fun g => g = q ∨ v.ownBlock = some g) w W) (R : Rf W q room L2 v4) (be : Below W.heap.size W w3) (o : w3.ownsRow W.heap.size 65 3 v3 P.length (flat P)) : RTo w q room P v (w3.setCell ⟨q, 1, none⟩ v3) := by
  have hq := lt_some R.cells
  have hne : ∀ y, v3.ownBlock = some y → W.heap.size ≤ y := fun y hy => (row_block o hy).1
  refine ⟨v3, ⟨Pk.one_set (i := 1) (R.below be).cells v3, own3_mono (row_same o fun y hy => Below.heap_setCell _ _ _ _ (by have := hne y hy; show y ≠ q; omega)) (Nat.zero_le _)⟩, fun y hy => .inr (Nat.le_trans hk.size (hne y hy)), ?_⟩
  exact (hk.step (Kp.of_below (S := fun _ => False) be) (fun g e => e.elim)).step (Kp.of_grown (grown_set w3 q _ _) (S := fun g => g = q) (fun x hx => by injection hx with hx; exact hx.symm)) (fun g e => .inl (.inl e))
theorem sRem_snd (L : St) (m : Bs) : (sRem L m).2 = del m L := by
  unfold sRem
  cases h : look m L with
  | none => exact (del_none_ h).symm
  | some a => rfl
theorem sRen_eq {L : St} {n m : Bs} {a : Bs × Nat} (h : Rise L) (_e : look n L = some a) : put m a (del n L) = (del m (del n L)).take (pos m (del m (del n L))) ++ (m, a) :: (del m (del n L)).drop (pos m (del m (del n L))) := by
  have h1 := rise_del h n
  rw [← put_none_ (rise_del h1 m) (look_del_same m _)]
  cases h2 : look m (del n L) with
  | none => rw [del_none_ h2]
  | some b => exact (put_del_ h1 h2).symm
theorem sRen_self {L : St} {n : Bs} {a : Bs × Nat} (h : Rise L) (e : look n L = some a) : put n a (del n L) = L := (put_del_ h e).trans (put_same h e)

set_option maxHeartbeats 1600000 in
set_option maxRecDepth 20000 in
theorem rrename (w : World) (q room : Nat) (L : St) (v : Value) (s t : ByteArray) (R : Rf w q room L v) (hr : Rise L) (hl : L.length ≤ 900) :
    Calls Try.prog 18 #[.pointer (some ⟨q, 0, none⟩), .string s, .string t] w fun e w' => e = .returned (.int .i64 (sRen L (nm s) (nm t)).1) ∧ RTo w q room (sRen L (nm s) (nm t)).2 v w' := by
  have AT := rat w q room L v s R hr (by omega)
  unfold RatTo at AT
  unfold sRen
  have G : Hid (∀ W, Calls Try.prog 32 #[.string t] W fun e w' => e = .returned (.bool (good (nm t))) ∧ W = w') := fun W => rgood W t
  cases hk : look (nm s) L with
  | none =>
    rw [hk] at AT
    replace AT := Lib.hid AT
    simp only [Option.elim]
    have RH := Lib.hid R
    clear hk hr R G
    go_enter Try.func18, Try.ntmps18
    go_wp2_with fail
    refine AT.out.mono ?_
    rintro e w1 ⟨rfl, hb⟩
    simp only [Option.isSome]
    replace hb := Lib.hid hb
    clear AT
    go_wp2
    go_ret
    exact ⟨rfl, RTo.of_below RH.out hb.out⟩
  | some a =>
    rw [hk] at AT
    have hp := pos_found hr hk
    obtain ⟨i, hi⟩ : ∃ i, i = pos (nm s) L := ⟨_, rfl⟩
    rw [← hi] at hp AT
    simp only [Option.elim]
    replace AT := Lib.hid AT
    cases hg : good (nm t) with
    | false =>
      rw [if_pos rfl]
      rw [hg] at G
      have RH := Lib.hid R
      clear hk hr R hp hi hg
      go_enter Try.func18, Try.ntmps18
      go_wp2_with fail
      refine AT.out.mono ?_
      rintro e w1 ⟨rfl, hb⟩
      simp only [Option.isSome]
      replace hb := Lib.hid hb
      clear AT
      go_wp2_with fail
      refine (G.out _).mono ?_
      rintro e w2 ⟨rfl, rfl⟩
      clear G
      go_wp2
      go_ret
      exact ⟨rfl, RTo.of_below RH.out hb.out⟩
    | true =>
      rw [if_neg (by simp)]
      rw [hg] at G
      have RH := Lib.hid R
      have ts : s.toList = nm s := nm_toList s
      have tt : t.toList = nm t := nm_toList t
      by_cases hst : nm s = nm t
      · have hq : (nm s == nm t) = true := by simp [hst]
        have hself := sRen_self hr hk
        rw [hst] at hself
        rw [hst, hself]
        clear hk hr R hp hi hg hst hself
        generalize nm s = x at *
        generalize nm t = y at *
        go_enter Try.func18, Try.ntmps18
        go_wp2_with fail
        refine AT.out.mono ?_
        rintro e w1 ⟨rfl, hb⟩
        simp only [Option.isSome]
        replace hb := Lib.hid hb
        clear AT
        go_wp2_with fail
        refine (G.out _).mono ?_
        rintro e w2 ⟨rfl, rfl⟩
        clear G
        go_wp2
        go_ret
        exact ⟨rfl, RTo.of_below RH.out hb.out⟩
      · have hq : (nm s == nm t) = false := by simpa using hst
        obtain ⟨g, c, rfl, h1, h2, _⟩ := R.file hp
        have hil : i < L.length := (List.getElem?_eq_some_iff.1 hp).1
        have CC : Hid (∀ w1 : World, Below w.heap.size w w1 → w1.cell? ⟨q, 1, none⟩ = some (.slice (some ⟨g, 0, none⟩) L.length c) ∧ w1.cell? ⟨g, i * 3, none⟩ = some (.string (str (nm s))) ∧ w1.cell? ⟨g, i * 3 + 1, none⟩ = some (.string (str a.1)) ∧ w1.cell? ⟨g, i * 3 + 2, none⟩ = some (.int .i64 (a.2 : Nat))) := fun w1 hb => by
          obtain ⟨g', c', e0, _, _, e1, e2, e3, _⟩ := (R.below hb).file hp
          injection e0 with eA _ _
          injection eA with eA
          injection eA with eA _
          subst eA
          exact ⟨one_at (i := 1) (R.below hb).cells, e1, e2, e3⟩
        have PO : Hid (∀ w', RTo w q room ((del (nm t) (del (nm s) L)).take (pos (nm t) (del (nm t) (del (nm s) L))) ++ (nm t, a) :: (del (nm t) (del (nm s) L)).drop (pos (nm t) (del (nm t) (del (nm s) L)))) (.slice (some ⟨g, 0, none⟩) L.length c) w' → RTo w q room (Dk.put (nm t) a (del (nm s) L)) (.slice (some ⟨g, 0, none⟩) L.length c) w') := fun w' h => by rw [sRen_eq hr hk]; exact h
        obtain ⟨n, hn⟩ : ∃ n, n = L.length := ⟨_, rfl⟩
        rw [← hn] at CC hil h1
        have i1 : (i : Int) < (n : Int) := by omega
        have i2 : (0 : Int) ≤ (i : Int) := by omega
        have i3 : (n : Int) ≤ 1000000 := by omega
        generalize hL2 : del (nm t) (del (nm s) L) = L2 at *
        clear hp hi hg hst
        replace hn := Lib.hid hn
        go_enter Try.func18, Try.ntmps18
        go_wp2_with fail
        refine AT.out.mono ?_
        rintro e w1 ⟨rfl, hb⟩
        simp only [Option.isSome]
        obtain ⟨c1, c2, c3, c4⟩ := CC.out w1 hb
        replace hb := Lib.hid hb
        clear AT CC
        go_wp2_with fail
        refine (G.out _).mono ?_
        rintro e w2 ⟨rfl, rfl⟩
        clear G
        go_wp2_with fail
        have hq1 : q < w1.heap.size := lt_some (RH.out.below hb.out).cells
        have hvg : g < w1.heap.size := (RH.out.below hb.out).lt g (.inr rfl)
        have hb2 : Hid (Below w.heap.size w (w1.alloc (.cells #[.string (str (nm s)), .string (str a.1), .int .i64 (a.2 : Nat)] 65))) := hb.out.alloc hb.out.size _
        have hB1 : Hid ((w1.alloc (.cells #[.string (str (nm s)), .string (str a.1), .int .i64 (a.2 : Nat)] 65)).heap[w1.heap.size]? = some (.cells #[.string (str (nm s)), .string (str a.1), .int .i64 (a.2 : Nat)] 65 (0, 0))) := heap_alloc_new _ _
        have hz1 : Hid ((w1.alloc (.cells #[.string (str (nm s)), .string (str a.1), .int .i64 (a.2 : Nat)] 65)).heap.size = w1.heap.size + 1) := by unfold Hid; simp
        generalize hW1 : w1.alloc (.cells #[.string (str (nm s)), .string (str a.1), .int .i64 (a.2 : Nat)] 65) = W1 at *
        refine (rremove W1 q room L _ s (RH.out.below hb2.out) hr (by omega)).mono ?_
        rintro e w3 ⟨rfl, v3, R3, hv3, K3⟩
        have hB3 : Hid (w3.heap[w1.heap.size]? = some (.cells #[.string (str (nm s)), .string (str a.1), .int .i64 (a.2 : Nat)] 65 (0, 0))) := (K3.block _ (by have := hz1.out; omega) (by
          rintro (e | e)
          · omega
          · have e : g = w1.heap.size := by simpa [Value.ownBlock] using e
            omega)).trans hB1.out
        rw [sRem_snd] at R3
        replace R3 := Lib.hid R3
        replace K3 := Lib.hid K3
        replace hv3 := Lib.hid hv3
        go_wp2_with fail
        refine (rremove w3 q room _ v3 t R3.out (rise_del hr _) (by have := len_del_le (nm s) L; omega)).mono ?_
        rintro e w4 ⟨rfl, v4, R4, hv4, K4⟩
        rw [sRem_snd, hL2] at R4
        have hv3' : ∀ x, v3.ownBlock = some x → x ≠ w1.heap.size ∧ ((Value.slice (some ⟨g, 0, none⟩) L.length c).ownBlock = some x ∨ w.heap.size ≤ x) := fun x hx => by
          have h1 := hz1.out
          have h2 := hb.out.size
          rcases hv3.out x hx with e | e
          · refine ⟨?_, .inl e⟩
            have e : g = x := by simpa [Value.ownBlock] using e
            omega
          · exact ⟨by omega, .inr (by omega)⟩
        have hB4 : w4.heap[w1.heap.size]? = some (.cells #[.string (str (nm s)), .string (str a.1), .int .i64 (a.2 : Nat)] 65 (0, 0)) := (K4.block _ (lt_some hB3.out) (by
          rintro (e | e)
          · omega
          · exact (hv3' _ e).1 rfl)).trans hB3.out
        have hv4' : ∀ x, v4.ownBlock = some x → x ≠ w1.heap.size := fun x hx => by
          rcases hv4 x hx with e | e
          · exact (hv3' x e).1
          · have := lt_some hB3.out
            omega
        have k4 : Kp (fun x => x = q ∨ (Value.slice (some ⟨g, 0, none⟩) L.length c).ownBlock = some x) w w4 :=
          ((Kp.of_below hb2.out).trans' K3.out).step K4 (fun x hx => by
            rcases hx with e | e
            · exact .inl (.inl e)
            · rcases (hv3' x e).2 with e | e
              · exact .inl (.inr e)
              · exact .inr e)
        have m1 : w4.cell? ⟨w1.heap.size, 0, none⟩ = some (.string (str (nm s))) := one_at (i := 0) hB4
        have m2 : w4.frozen? ⟨w1.heap.size, 0, none⟩ = false := one_free hB4
        have hB5 : Hid ((w4.setCell ⟨w1.heap.size, 0, none⟩ (.string t)).heap[w1.heap.size]? = some (.cells #[.string (str (nm t)), .string (str a.1), .int .i64 (a.2 : Nat)] 65 (0, 0))) := by
          have e : str (nm t) = t := by simp [nm, str]
          have := Pk.one_set (i := 0) hB4 (.string t)
          rw [e]
          exact this
        have R5 : Hid (Rf (w4.setCell ⟨w1.heap.size, 0, none⟩ (.string t)) q room L2 v4) := R4.keep (fun x hx => Below.heap_setCell _ _ _ _ (by
          rcases hx with rfl | hx
          · show x ≠ w1.heap.size; omega
          · exact hv4' x hx))
        have k5 : Hid (Kp (fun x => x = q ∨ (Value.slice (some ⟨g, 0, none⟩) L.length c).ownBlock = some x) w (w4.setCell ⟨w1.heap.size, 0, none⟩ (.string t))) := k4.step (Kp.of_grown (grown_set w4 w1.heap.size _ _) (S := fun x => x = w1.heap.size) (fun x hx => by injection hx with hx; exact hx.symm)) (fun x hx => .inr (by have := hb.out.size; omega))
        clear hv4' hv3' hv4 K4 R4 k4 hB4 K3 R3 hv3 hB3
        have l2 : L2.length ≤ 900 := by
          have h1 := len_del_le (nm s) L
          have h2 := len_del_le (nm t) (del (nm s) L)
          rw [← hL2]
          omega
        have rise2 : Rise L2 := by rw [← hL2]; exact rise_del (rise_del hr _) _
        go_wp2_with fail
        refine (rat _ q room L2 v4 t R5.out rise2 (by omega)).mono ?_
        rintro e w6 ⟨rfl, hb6⟩
        have R6 : Hid (Rf w6 q room L2 v4) := R5.out.below hb6
        have hB6 : Hid (w6.heap[w1.heap.size]? = some (.cells #[.string (str (nm t)), .string (str a.1), .int .i64 (a.2 : Nat)] 65 (0, 0))) := (hb6.block _ (lt_some hB5.out)).trans hB5.out
        have k6 : Hid (Kp (fun x => x = q ∨ (Value.slice (some ⟨g, 0, none⟩) L.length c).ownBlock = some x) w w6) := k5.out.trans' (Kp.of_below hb6)
        have hpl : pos (nm t) L2 ≤ L2.length := pos_le L2
        obtain ⟨A4, c4', rfl, _⟩ := row_form R6.out.row
        obtain ⟨j, hj⟩ : ∃ j, j = pos (nm t) L2 := ⟨_, rfl⟩
        rw [← hj] at hpl PO ⊢
        have hpl' : Hid (j ≤ L2.length) := hpl
        replace l2 := Lib.hid l2
        clear hb6 k5 hB5 R5 rise2 m1 m2 hj hpl hz1 hB1 hb2 RH R hk hr hL2
        go_wp2
        refine rren13 _ _ _ _ _ _ _ _ _ _ _ _ _ _ _ _ _ _ _ _ _ _ _ _ _ _ _ _ _ _ _ _ _ _ _ _ _ _ _ _ _ _ _ _ _ _ _ _ _ _ _ _ _ _ _ _ _ _ _ _ _ _ _ _ _ w6 q room L2.length c4' j w1.heap.size a.2 A4 L2 (nm t) a.1 R6.out hB6.out rfl hpl'.out l2.out _ (fun _ _ d _ _ h => by cases d <;> exact h) (fun y47 y48 y49 y50 y51 y52 y53 y54 y55 y56 y57 y58 y59 y60 y61 y62 y63 y64 y65 y66 y67 W3 A3 c3 hb3 o3 => ?_)
        have o4 : W3.ownsRow w6.heap.size 65 3 (.slice A3 (L2.length + 1) c3) (L2.take j ++ (nm t, a) :: L2.drop j).length (flat (L2.take j ++ (nm t, a) :: L2.drop j)) := by
          have e : (L2.take j ++ (nm t, a) :: L2.drop j).length = L2.length + 1 := by
            have := hpl'.out
            rw [List.length_append, List.length_cons, List.length_take, List.length_drop]
            omega
          rw [e]
          exact o3
        have E := Lib.hid (PO.out _ (RTo.fresh k6.out R6.out hb3 o4))
        clear o3 o4 hb3
        go_wp2
        go_ret
        exact ⟨rfl, E.out⟩
end Dk
end Go.Proofs.Ytpkjeplhdnbihaa
