/- read: what a file of a log has. -/
import Derived.Test.YtbolcapgocjgcaaGreatDoorSeA
namespace Go.Proofs.YtbolcapgocjgcaaGreatDoor
set_option maxRecDepth 100000
open Go.RowKit
open Go.Proofs.YtbolcapgocjgcaaGreatDoor.Pk
namespace Se
open Dk (Bs Live LTo nm)

section
variable {B w : World} {p room : Nat} {L : Dk.St} {X : Nat → Prop}
theorem _root_.Go.Proofs.YtbolcapgocjgcaaGreatDoor.Dk.Live.tab (V : Live B w p room L X) (h : Tab B) : Tab w := h.below V.be
theorem bof_len (V : Live B w p room L X) (n : Bs) : (bof n L).length ≤ 1000000 := by
  have h := V.fits
  unfold bof
  cases e : Dk.look n L with
  | none => exact Nat.zero_le _
  | some a =>
    have := Dk.le_sum (fun a : Bs × Nat => a.1.length) (Dk.look_mem e)
    have h1 : a.1.length ≤ Dk.used L := this
    show a.1.length ≤ 1000000
    omega
/-- What the disk's Read answers, in one form. -/
def BrTo (w : World) (n : Bs) (L : Dk.St) (e : Ending) (w' : World) : Prop :=
  ∃ A c, e = .returned (.tuple #[.slice A (bof n L).length c, .int .i64 (if (Dk.look n L).isSome then 0 else 5)]) ∧ (A = none → c = 0) ∧ (bof n L).length ≤ c ∧ c ≤ 9223372036854775807 ∧ Rb w' (fun g => w.heap.size ≤ g ∧ g < w'.heap.size) A (bof n L).length (bof n L) ∧ Below w.heap.size w w'
theorem bread (V : Live B w p room L X) (s : ByteArray) (hs : s.size ≤ maxLen) : Calls Tryz.prog 20 #[.pointer (some ⟨p, 0, none⟩), .string s] w (BrTo w (nm s) L) := by
  refine (Dk.l_read V s hs).mono ?_
  rintro e w' (⟨h, rfl, hb⟩ | ⟨bs, k, v, h, rfl, ho, hb⟩)
  · refine ⟨none, 0, ?_, fun _ => rfl, ?_, by omega, ?_, hb⟩
    · simp [bof, h]
    · simp [bof, h]
    · simp only [bof, h, Option.elim, List.length_nil]; exact Rb.none_
  · obtain ⟨A, c, rfl⟩ := own_form ho
    have hc := own_cap ho
    have e1 : bof (nm s) L = bs := by simp [bof, h]
    have R := Rb.of_own ho
    unfold maxLen at hc
    refine ⟨A, c, ?_, ?_, ?_, by omega, ?_, hb⟩
    · rw [e1, h]; rfl
    · rintro rfl
      rcases ho.2 with ⟨e, _⟩ | ⟨g, cap, cur, e, _⟩
      · injection e
      · injection e with e; cases e
    · rw [e1]; exact hc.1
    · rw [e1]; exact R.keep (fun _ _ => rfl) (fun g hg => ⟨hg.1, hg.2.lt⟩)
end
/-- What read answers. -/
def RdfTo (w : World) (x : Int × List Bs × Nat) (e : Ending) (w' : World) : Prop :=
  ∃ v, e = .returned (.tuple #[.agg #[.int .i64 x.1, v], .int .i64 (x.2.2 : Nat)]) ∧ Lt w' (fun g => w.heap.size ≤ g ∧ g < w'.heap.size) v x.2.1 ∧ Below w.heap.size w w'
theorem read_results : Tryz.f25.results = #[.cell 4 66, .tmp 5] := by kernel_rfl
theorem st_info : (Tryz.prog.info? 66).map (·.size) = some 2 := by kernel_rfl
theorem step_store_row {P : Program} {ops : Array Oper} {o : Oper} {a : Act} {w : World} {K : Act → World → Prop} {Q : Exit → Act → World → Prop} {E : Prop} (hgd : o.guard = none) (ty : TypeId) (x y : Operand) (ho : o.op = .store ty x y)
    (g : Nat) (cells : Array Value) (hx : a.eval x = .pointer (some ⟨g, 0, none⟩)) (hy : a.eval y = .agg cells)
    (t : TypeId) (old : Array Value) (hg : w.heap[g]? = some (.cells old t (0, 0))) (hi : (P.info? ty).map (·.size) = some cells.size)
    (hold : old.size = cells.size) (h1 : cells.all (·.oneCell') = true)
    (h : K (a.put o.dst undef) (w.setRow g cells)) : if Region.wanted o (yielded ops a.tmps) = true then Oper.wp P o a w K Q else E := by
  have hw : Region.wanted o (yielded ops a.tmps) = true := by simp [Region.wanted, hgd]
  rw [if_pos hw]
  exact wp_store_row ty x y ho g cells hx hy t old hg hi hold h1 h
theorem setRow_below {w : World} {g B : Nat} (cs : Array Value) (hg : B ≤ g) : Below B w (w.setRow g cs) := ⟨rfl, rfl, rfl, by simp [World.setRow], fun k hk => setRow_other w g k cs (by omega)⟩
theorem setRow_size (w : World) (g : Nat) (cs : Array Value) : (w.setRow g cs).heap.size = w.heap.size := by simp [World.setRow]
theorem rdf_nil {b : Bs} {q : Nat} (h : Fr.Got b [] q) : rdf b = (0, [], 0) := by unfold rdf; rw [recs_eq h]
theorem rdf_cons {b : Bs} {r : Bs} {l : List Bs} {q : Nat} (h : Fr.Got b (r :: l) q) : rdf b = (numOf r, l, q) := by unfold rdf; rw [recs_eq h]

set_option maxHeartbeats 1600000 in
theorem read_any {B w : World} {p room : Nat} {L : Dk.St} {X : Nat → Prop} (V : Live B w p room L X) (ht : Tab w) (s : ByteArray) (hs : s.size ≤ maxLen) :
    Calls Tryz.prog 25 #[.pointer (some ⟨p, 0, none⟩), .string s] w (RdfTo w (rdf (bof (nm s) L))) := by
  have b0 : Below w.heap.size w (w.alloc (.cells #[.int .i64 0, .slice none 0 0] 66)) := (Below.refl _ _).alloc (Nat.le_refl _) _
  have RD := bread (V.below b0) s hs
  have hn := bof_len V (nm s)
  have ht0 := ht.below b0
  unfold BrTo at RD
  obtain ⟨bs, hbs⟩ : ∃ z, z = bof (nm s) L := ⟨_, rfl⟩
  rw [← hbs] at RD hn ⊢
  obtain ⟨er, her⟩ : ∃ z : Int, z = if (Dk.look (nm s) L).isSome then 0 else 5 := ⟨_, rfl⟩
  rw [← her] at RD
  have p0 : Hid ((w.alloc (.cells #[.int .i64 0, .slice none 0 0] 66)).heap[w.heap.size]? = some (.cells #[.int .i64 0, .slice none 0 0] 66 (0, 0))) := heap_alloc_new _ _
  have z0 : Hid ((w.alloc (.cells #[.int .i64 0, .slice none 0 0] 66)).heap.size = w.heap.size + 1) := by simp [Hid]
  obtain ⟨x, hx⟩ : ∃ z, z = rdf bs := ⟨_, rfl⟩
  rw [← hx]
  replace hx := Lib.hid hx
  replace RD := Lib.hid RD
  replace b0 := Lib.hid b0
  replace ht0 := Lib.hid ht0
  replace hn := Lib.hid hn
  clear V ht hbs her
  go_enter Tryz.func25, Tryz.ntmps25
  go_wp2_with fail
  refine RD.out.mono ?_
  rintro e w2 ⟨A, c, rfl, hA, h1, h2, R, hb2⟩
  generalize w.alloc (.cells #[.int .i64 0, .slice none 0 0] 66) = w0 at *
  have F := Lib.hid (Fr.read_any w2 A bs.length c bs R (fun g hg => hg.2) (ht0.out.below hb2) h1 h2 hn.out)
  have b2 : Hid (Below w.heap.size w w2) := b0.out.trans (hb2.mono b0.out.size)
  have p2 : Hid (w2.heap[w.heap.size]? = some (.cells #[.int .i64 0, .slice none 0 0] 66 (0, 0))) := (hb2.block _ (by have := z0.out; omega)).trans p0.out
  have z2 : Hid (w.heap.size + 1 ≤ w2.heap.size) := by have := z0.out; have := hb2.size; show _ ≤ _; omega
  clear RD hb2 R h1 h2 hA b0 p0 z0
  go_wp2_with fail
  refine F.out.mono ?_
  rintro e w3 ⟨v, l, q, rfl, hgot, hL, hb3⟩
  have b3 : Hid (Below w.heap.size w w3) := b2.out.trans (hb3.mono (by have := z2.out; omega))
  have p3 : Hid (w3.heap[w.heap.size]? = some (.cells #[.int .i64 0, .slice none 0 0] 66 (0, 0))) := (hb3.block _ (by have := z2.out; omega)).trans p2.out
  have z3 : Hid (w.heap.size + 1 ≤ w3.heap.size) := by have := z2.out; have := hb3.size; show _ ≤ _; omega
  have hz2 := z2.out
  clear F hb3 b2 p2
  cases l with
  | nil =>
    have hv : ∃ A' c', v = .slice A' 0 c' := by
      obtain ⟨xs, ho, _⟩ := hL
      exact own_form ho
    obtain ⟨A', c', rfl⟩ := hv
    obtain rfl := hx.out.trans (rdf_nil hgot)
    have q3 : Hid ((w3.setRow w.heap.size #[.int .i64 0, .slice none 0 0]).heap[w.heap.size]? = some (.cells #[.int .i64 0, .slice none 0 0] 66 (0, 0))) := setRow_heap _ _ _ _ _ _ p3.out
    have b4 : Hid (Below w.heap.size w (w3.setRow w.heap.size #[.int .i64 0, .slice none 0 0])) := b3.out.trans (setRow_below _ (Nat.le_refl _))
    clear hgot hL b3 hx
    go_wp2_with (refine wpList_store_row rfl 66 (.tmp 4) (.tmp 24) rfl w.heap.size #[.int .i64 0, .slice none 0 0] rfl rfl 66 #[.int .i64 0, .slice none 0 0] p3.out st_info rfl (by simp [Value.oneCell']) ?_)
    refine bodyPost_ret (Dk.res_row read_results _ _ w.heap.size 66 #[.int .i64 0, .slice none 0 0] (0, 0) _ rfl q3.out Tryz.underlying66 rfl st_info) rfl ?_
    exact ⟨_, rfl, Lt.nil _ _, b4.out⟩
  | cons r l =>
    obtain rfl := hx.out.trans (rdf_cons hgot)
    have hrl := (recs_ok bs) r (by rw [recs_eq hgot]; exact List.mem_cons_self ..)
    obtain ⟨g, c', n, rfl⟩ : ∃ g c' n, v = .slice (some ⟨g, 0, none⟩) n c' := by
      obtain ⟨xs, ho, _⟩ := hL
      obtain ⟨g, c', e, _⟩ := Fr.own_some ho (by simp)
      exact ⟨g, c', _, e⟩
    obtain ⟨hT, hnl, hnc, hc2, hg1, hg2, A0, c0, hc0, hr1, hr2, R0⟩ := Lt.tail hL
    have N := Lib.hid (number_any w3.drew A0 r.length c0 r (R0.keep (w' := w3.drew) (fun _ _ => rfl) (fun _ h => h)) (fun k hk => hk.2) (by omega) (fun e => by
      obtain ⟨ad, h, _⟩ := R0.at_ (by omega)
      rw [e] at h
      cases h))
    have i1 : (1 : Int) ≤ (n : Int) := by omega
    have i0 : 0 < n := by omega
    have sl : ∀ W : World, (Instr.slice 32 (.slice (some ⟨g, 0, none⟩) n c') (some (.int .i64 1)) none none).run Tryz.prog W = .ok (.slice (some ⟨g, off1 c', none⟩) (n - 1) (c' - 1)) W := fun W => by
      rw [run_slice_l W 32 (some ⟨g, 0, none⟩) n c' (by kernel_rfl) .i64 1 (by omega) (by omega)]
      have e : (sizeOf (Tryz.prog.elem 32)).run Tryz.prog W = .ok 1 W := by kernel_rfl
      rw [e]
      simp only [Result.andThen, sliced, off1]
      by_cases hc : c' = 1
      · subst hc; rfl
      · have : ¬ (c' = (1 : Int).toNat) := by simpa using hc
        rw [if_neg this, if_neg hc]
        simp [Addr.add]
    have hne : ((n : Int) == 0) = false := by simpa using (show ¬ n = 0 by omega)
    obtain ⟨ad, had⟩ : ∃ u, u = (⟨g, off1 c', none⟩ : Addr) := ⟨_, rfl⟩
    obtain ⟨n1, hn1⟩ : ∃ u, u = n - 1 := ⟨_, rfl⟩
    obtain ⟨c1, hc1⟩ : ∃ u, u = c' - 1 := ⟨_, rfl⟩
    rw [← had, ← hn1, ← hc1] at hT sl
    have K : Hid (∀ w6 w7, Below w3.heap.size w3 w6 → w7 = (w6.setCell ⟨w.heap.size, 0, none⟩ (.int .i64 (numOf r))).setCell ⟨w.heap.size, 1, none⟩ (.slice (some ad) n1 c1) → (w6.cell? ⟨w.heap.size, 0, none⟩ = some (.int .i64 0) ∧ w6.frozen? ⟨w.heap.size, 0, none⟩ = false ∧
        (w6.setCell ⟨w.heap.size, 0, none⟩ (.int .i64 (numOf r))).cell? ⟨w.heap.size, 1, none⟩ = some (.slice none 0 0) ∧ (w6.setCell ⟨w.heap.size, 0, none⟩ (.int .i64 (numOf r))).frozen? ⟨w.heap.size, 1, none⟩ = false) ∧
        w7.heap[w.heap.size]? = some (.cells #[.int .i64 (numOf r), .slice (some ad) n1 c1] 66 (0, 0)) ∧
        RdfTo w (numOf r, l, q) (.returned (.tuple #[.agg #[.int .i64 (numOf r), .slice (some ad) n1 c1], .int .i64 (q : Nat)])) w7) := fun w6 w7 b6 e7 => by
      subst e7
      have h6 := (b6.block _ (by have := z3.out; omega)).trans p3.out
      have h7 := Pk.one_set (i := 0) h6 (.int .i64 (numOf r))
      have b7 : Below w.heap.size w6 ((w6.setCell ⟨w.heap.size, 0, none⟩ (.int .i64 (numOf r))).setCell ⟨w.heap.size, 1, none⟩ (.slice (some ad) n1 c1)) :=
        grown_below (grown_trans (grown_set _ _ _ _) (grown_set _ _ _ _)) (Nat.le_refl _) (by have := b6.size; have := z3.out; omega)
      refine ⟨⟨Pk.one_at h6, Pk.one_free h6, Pk.one_at h7, Pk.one_free h7⟩, Pk.one_set h7 _, _, rfl, hT.keep (fun k hk => ?_) (fun k hk => ⟨?_, ?_⟩), (b3.out.trans (b6.mono (by have := z3.out; omega))).trans b7⟩
      · refine (Below.heap_setCell _ _ _ _ ?_).trans ((Below.heap_setCell _ _ _ _ ?_).trans (b6.block k hk.2)) <;> (have := hk.1; simp only; omega)
      · have := hk.1; omega
      · have := b7.size; have := b6.size; have := hk.2; omega
    clear had hn1 hc1
    generalize numOf r = m at *
    clear hgot hL hT hrl hr1 hr2 R0 b3 hnl hx
    go_upto_region 5 with (fail)
    go_region_law (first
      | (go_simp; go_at_call 53; refine N.out.mono ?_; rintro e w6 ⟨rfl, b6⟩; obtain ⟨⟨f1, f2, f3, f4⟩, f5, f6⟩ := K.out w6 _ ⟨b6.os, b6.tape, b6.output, b6.size, b6.block⟩ rfl; clear b6))
    replace f5 := Lib.hid f5
    replace f6 := Lib.hid f6
    clear K N f1 f2 f3 f4
    go_wp2
    refine bodyPost_ret (Dk.res_row read_results _ _ w.heap.size 66 #[.int .i64 m, .slice (some ad) n1 c1] (0, 0) _ rfl f5.out Tryz.underlying66 rfl st_info) rfl ?_
    exact f6.out
end Se
end Go.Proofs.YtbolcapgocjgcaaGreatDoor
