/- Open. -/
import Derived.Test.YtbolcapgocjgcaaGreatDoorSeG
namespace Go.Proofs.YtbolcapgocjgcaaGreatDoor
set_option maxRecDepth 100000
open Go.RowKit
open Go.Proofs.YtbolcapgocjgcaaGreatDoor.Pk
namespace Se
open Dk (Bs Live LTo nm used sCut sRem)

/-- What Open answers. -/
def OpenTo (B w : World) (p room : Nat) (X : Nat → Prop) (x : Dk.St × List Bs × List Bs) (e : Ending) (w' : World) : Prop :=
  ∃ q v1 v2 X', e = .returned (.tuple #[.pointer (some ⟨q, 0, none⟩), v1, v2, .int .i64 0]) ∧ Lg B w' p room x.1 X' q x.2.2.length ∧ w.heap.size ≤ q ∧ (∀ g, X g → X' g) ∧ Lt w' (fun g => X' g ∧ g ≠ q ∧ w.heap.size ≤ g) v1 x.2.1 ∧ Lt w' (fun g => X' g ∧ g ≠ q ∧ w.heap.size ≤ g) v2 x.2.2 ∧ (∀ g, X g → w'.heap[g]? = w.heap[g]?) ∧ w.heap.size ≤ w'.heap.size
theorem openTo_mk {B w w6 w7 : World} {p room : Nat} {L2 : Dk.St} {X X1 : Nat → Prop} {v1 v2 : Value} {st rc : List Bs} {n : Nat} (h6 : Live B w6 p room L2 X1) (hn : n = rc.length) (he : w7 = w6.alloc (.cells #[.pointer (some ⟨p, 0, none⟩), .int .i64 n] 71)) (hx : ∀ g, X g → X1 g) (hk : ∀ g, X g → w6.heap[g]? = w.heap[g]?) (hz : w.heap.size ≤ w6.heap.size)
    (hv1 : Lt w6 (fun g => X1 g ∧ w.heap.size ≤ g) v1 st) (hv2 : Lt w6 (fun g => X1 g ∧ w.heap.size ≤ g) v2 rc) : OpenTo B w p room X (L2, st, rc) (.returned (.tuple #[.pointer (some ⟨w6.heap.size, 0, none⟩), v1, v2, .int .i64 0])) w7 := by
  subst he
  have b7 : Below w6.heap.size w6 (w6.alloc (.cells #[.pointer (some ⟨p, 0, none⟩), .int .i64 n] 71)) := (Below.refl _ _).alloc (Nat.le_refl _) _
  refine ⟨w6.heap.size, v1, v2, fun g => X1 g ∨ (w6.heap.size ≤ g ∧ g < (w6.alloc (.cells #[.pointer (some ⟨p, 0, none⟩), .int .i64 n] 71)).heap.size), rfl, ⟨h6.more b7, ?_, .inr ⟨Nat.le_refl _, by simp⟩, h6.be.size⟩, hz, fun g hg => .inl (hx g hg), ?_, ?_, ?_, Nat.le_trans hz b7.size⟩
  · subst hn; exact heap_alloc_new _ _
  · exact hv1.keep (fun g hg => b7.block g (h6.xs g hg.1)) (fun g hg => ⟨.inl hg.1, by have := h6.xs g hg.1; omega, hg.2⟩)
  · exact hv2.keep (fun g hg => b7.block g (h6.xs g hg.1)) (fun g hg => ⟨.inl hg.1, by have := h6.xs g hg.1; omega, hg.2⟩)
  · exact fun g hg => (b7.block g (h6.xs g (hx g hg))).trans (hk g hg)

theorem results_tmp4 {fn : Func} {t u v x : Tmp} (h : fn.results = #[.tmp t, .tmp u, .tmp v, .tmp x]) (tmps : Array Value) (P : Program) (w : World) :
    (results fn tmps).run P w = .ok (.tuple #[tmps.getD t undef, tmps.getD u undef, tmps.getD v undef, tmps.getD x undef]) w := by
  simp [results, h]
theorem open_results : Tryz.f5.results = #[.tmp 2, .tmp 3, .tmp 4, .tmp 5] := by kernel_rfl
set_option maxHeartbeats 3200000 in
theorem open_none (w : World) : Calls Tryz.prog 5 #[.pointer none] w fun e w' => e = .returned (.tuple #[.pointer none, .slice none 0 0, .slice none 0 0, .int .i64 1]) ∧ w = w' := by
  go_enter Tryz.func5, Tryz.ntmps5
  go_wp2
  refine bodyPost_ret (results_tmp4 open_results _ _ _) rfl ?_
  exact ⟨rfl, rfl⟩

set_option maxHeartbeats 3200000 in
theorem open_any {B w : World} {p room : Nat} {L : Dk.St} {X : Nat → Prop} (V : Live B w p room L X) (hB : Tab B) (hl : L.length ≤ 900) :
    Calls Tryz.prog 5 #[.pointer (some ⟨p, 0, none⟩)] w (OpenTo B w p room X (pOpen L)) := by
  have C := Dk.l_remove V ⟨#[110, 101, 120, 116]⟩ (by decide) (by omega)
  rw [show nm ⟨#[110, 101, 120, 116]⟩ = nextN from rfl] at C
  have hp0 : pOpen L = ((sCut (sRem L nextN).2 logN ((if (rdf (bof logN (sRem L nextN).2)).1 = (rdf (bof snapN (sRem L nextN).2)).1 then (rdf (bof logN (sRem L nextN).2)).2 else ([], 0) : List Bs × Nat).2 : Nat)).2, (rdf (bof snapN (sRem L nextN).2)).2.1, (if (rdf (bof logN (sRem L nextN).2)).1 = (rdf (bof snapN (sRem L nextN).2)).1 then (rdf (bof logN (sRem L nextN).2)).2 else ([], 0) : List Bs × Nat).1) := rfl
  have hl1 := Nat.le_trans (len_rem (L := L) (n := nextN)) hl
  obtain ⟨e1, he1⟩ : ∃ z, z = (sRem L nextN).1 := ⟨_, rfl⟩
  obtain ⟨L1, hL1⟩ : ∃ z, z = (sRem L nextN).2 := ⟨_, rfl⟩
  rw [← he1, ← hL1] at C
  rw [← hL1] at hp0 hl1
  obtain ⟨pw, hpw⟩ : ∃ z, z = pOpen L := ⟨_, rfl⟩
  rw [← hpw] at hp0 ⊢
  have xs : Hid (∀ g, X g → g < w.heap.size) := V.xs
  replace C := Lib.hid C
  replace hp0 := Lib.hid hp0
  clear he1 hL1 hpw V
  go_enter Tryz.func5, Tryz.ntmps5
  go_wp2_with fail
  refine C.out.mono ?_
  rintro e w1 ⟨rfl, h1⟩
  have R1 := read_any h1.1 (h1.1.tab hB) ⟨#[115, 110, 97, 112]⟩ (by decide)
  rw [show nm ⟨#[115, 110, 97, 112]⟩ = snapN from rfl] at R1
  obtain ⟨⟨gs, ss, es⟩, hs⟩ : ∃ z, z = rdf (bof snapN L1) := ⟨_, rfl⟩
  have hp1 := hp0.out
  rw [← hs] at R1 hp1
  replace hp1 := Lib.hid hp1
  replace R1 := Lib.hid R1
  replace h1 := Lib.hid h1
  clear C hs hp0
  go_wp2_with fail
  refine R1.out.mono ?_
  rintro e w2 ⟨v1, rfl, hv1, hb2⟩
  obtain ⟨A1, c1, rfl⟩ := hv1.form
  obtain ⟨n1, hn1⟩ : ∃ z, z = ss.length := ⟨_, rfl⟩
  simp only at hv1 ⊢
  rw [← hn1] at hv1 ⊢
  obtain ⟨w3, hw3⟩ : ∃ z, z = w2.alloc (.cells #[.int .i64 gs, .slice A1 n1 c1] 66) := ⟨_, rfl⟩
  have b3 : Hid (Below w1.heap.size w1 w3) := by rw [hw3]; exact hb2.alloc hb2.size _
  have hs3 : Hid (w3.heap[w2.heap.size]? = some (.cells #[.int .i64 gs, .slice A1 n1 c1] 66 (0, 0))) := by rw [hw3]; exact heap_alloc_new _ _
  have hz3 : Hid (w1.heap.size ≤ w2.heap.size ∧ w2.heap.size < w3.heap.size) := by rw [hw3]; exact ⟨hb2.size, by simp⟩
  have hv3 : Hid (Lt w3 (fun g => w1.heap.size ≤ g ∧ g < w3.heap.size) (.slice A1 n1 c1) ss) := by
    refine hv1.keep (fun g hg => ?_) (fun g hg => ⟨hg.1, Nat.lt_trans hg.2 hz3.out.2⟩)
    rw [hw3]; exact heap_alloc_old _ _ hg.2
  have V3 := h1.out.1.below b3.out
  have R2 := read_any V3 (V3.tab hB) ⟨#[108, 111, 103]⟩ (by decide)
  rw [show nm ⟨#[108, 111, 103]⟩ = logN from rfl] at R2
  obtain ⟨⟨gl, ll, el⟩, hlg⟩ : ∃ z, z = rdf (bof logN L1) := ⟨_, rfl⟩
  have hp2 := hp1.out
  rw [← hlg] at R2 hp2
  replace hp2 := Lib.hid hp2
  replace R2 := Lib.hid R2
  clear R1 hb2 hv1 hp1 hn1 V3 hlg
  go_upto_region 5 with (fail)
  rw [← hw3]
  clear hw3
  go_wp2_with fail
  refine R2.out.mono ?_
  rintro e w4 ⟨v2, rfl, hv2, hb4⟩
  obtain ⟨A2, c2, rfl⟩ := hv2.form
  obtain ⟨n2, hn2⟩ : ∃ z, z = ll.length := ⟨_, rfl⟩
  simp only at hv2 hp2 ⊢
  rw [← hn2] at hv2 ⊢
  replace hn2 := Lib.hid hn2
  have b4 : Hid (Below w1.heap.size w1 w4) := b3.out.trans (hb4.mono b3.out.size)
  have hs4 : Hid (w4.heap[w2.heap.size]? = some (.cells #[.int .i64 gs, .slice A1 n1 c1] 66 (0, 0))) := (hb4.block _ hz3.out.2).trans hs3.out
  have hz4 : Hid (w1.heap.size ≤ w2.heap.size ∧ w2.heap.size < w4.heap.size ∧ w1.heap.size ≤ w3.heap.size ∧ w3.heap.size ≤ w4.heap.size) := ⟨hz3.out.1, Nat.lt_of_lt_of_le hz3.out.2 hb4.size, b3.out.size, hb4.size⟩
  have hv4 : Hid (Lt w4 (fun g => w1.heap.size ≤ g ∧ g < w4.heap.size) (.slice A1 n1 c1) ss) := hv3.out.keep (fun g hg => hb4.block g hg.2) (fun g hg => ⟨hg.1, Nat.lt_of_lt_of_le hg.2 hb4.size⟩)
  have hw2 : Hid (Lt w4 (fun g => w1.heap.size ≤ g ∧ g < w4.heap.size) (.slice A2 n2 c2) ll) := hv2.keep (fun _ _ => rfl) (fun g hg => ⟨Nat.le_trans b3.out.size hg.1, hg.2⟩)
  have d0 : (w4.alloc (.cells #[.int .i64 gl, .slice A2 n2 c2] 66)).cell? ⟨w2.heap.size, 0, none⟩ = some (.int .i64 gs) := Pk.one_at ((heap_alloc_old _ _ hz4.out.2.1).trans hs4.out)
  clear R2 hb4 hv2 hv3 hs3 b3 hz3
  by_cases hg : gl = gs
  · subst hg
    have hp3 : Hid (pw = ((sCut L1 logN (el : Nat)).2, ss, ll)) := by have := hp2.out; unfold Hid; simpa using this
    clear hp2
    obtain ⟨w5, hw5⟩ : ∃ z, z = w4.alloc (.cells #[.int .i64 gl, .slice A2 n2 c2] 66) := ⟨_, rfl⟩
    have b5 : Hid (Below w1.heap.size w1 w5) := by rw [hw5]; exact b4.out.alloc b4.out.size _
    have hs5 : Hid (w5.heap[w2.heap.size]? = some (.cells #[.int .i64 gl, .slice A1 n1 c1] 66 (0, 0))) := by rw [hw5]; exact (heap_alloc_old _ _ hz4.out.2.1).trans hs4.out
    have ht5 : Hid (w5.heap[w4.heap.size]? = some (.cells #[.int .i64 gl, .slice A2 n2 c2] 66 (0, 0))) := by rw [hw5]; exact heap_alloc_new _ _
    have hz5 : Hid (w4.heap.size < w5.heap.size) := by rw [hw5]; simp [Hid]
    have hv5 : Hid (Lt w5 (fun g => w1.heap.size ≤ g ∧ g < w5.heap.size) (.slice A1 n1 c1) ss) := hv4.out.keep (fun g hg => by rw [hw5]; exact heap_alloc_old _ _ hg.2) (fun g hg => ⟨hg.1, Nat.lt_trans hg.2 hz5.out⟩)
    have hu5 : Hid (Lt w5 (fun g => w1.heap.size ≤ g ∧ g < w5.heap.size) (.slice A2 n2 c2) ll) := hw2.out.keep (fun g hg => by rw [hw5]; exact heap_alloc_old _ _ hg.2) (fun g hg => ⟨hg.1, Nat.lt_trans hg.2 hz5.out⟩)
    have V5 := h1.out.1.more b5.out
    obtain ⟨X1, hX1⟩ : ∃ z, z = fun g => X g ∨ (w1.heap.size ≤ g ∧ g < w5.heap.size) := ⟨_, rfl⟩
    rw [← hX1] at V5
    have xin : Hid (∀ g, X g → X1 g) := fun g hg => by rw [hX1]; exact .inl hg
    have xnew : Hid (∀ g, w1.heap.size ≤ g → g < w5.heap.size → X1 g) := fun g hg hg2 => by rw [hX1]; exact .inr ⟨hg, hg2⟩
    have C := Dk.l_cut V5 ⟨#[108, 111, 103]⟩ ((el : Nat)) (by decide) (by omega)
    rw [show nm ⟨#[108, 111, 103]⟩ = logN from rfl] at C
    obtain ⟨e5, he5⟩ : ∃ z, z = (sCut L1 logN ((el : Nat))).1 := ⟨_, rfl⟩
    obtain ⟨L2, hL2⟩ : ∃ z, z = (sCut L1 logN ((el : Nat))).2 := ⟨_, rfl⟩
    have hp4 := hp3.out
    rw [← he5, ← hL2] at C
    rw [← hL2] at hp4
    replace hp4 := Lib.hid hp4
    replace C := Lib.hid C
    have F : Hid (∀ w6, LTo B w5 p room L2 X1 w6 → (w6.cell? ⟨w2.heap.size, 0, none⟩ = some (.int .i64 gl) ∧ w6.cell? ⟨w2.heap.size, 1, none⟩ = some (.slice A1 n1 c1) ∧ w6.cell? ⟨w4.heap.size, 0, none⟩ = some (.int .i64 gl) ∧ w6.cell? ⟨w4.heap.size, 1, none⟩ = some (.slice A2 n2 c2) ∧ (∀ o : Obj, (w6.alloc o).cell? ⟨w2.heap.size, 1, none⟩ = some (.slice A1 n1 c1)) ∧ ∀ o : Obj, (w6.alloc o).cell? ⟨w4.heap.size, 1, none⟩ = some (.slice A2 n2 c2)) ∧
        ∀ w7, w7 = w6.drew.alloc (.cells #[.pointer (some ⟨p, 0, none⟩), .int .i64 n2] 71) → OpenTo B w p room X pw (.returned (.tuple #[.pointer (some ⟨w6.heap.size, 0, none⟩), .slice A1 n1 c1, .slice A2 n2 c2, .int .i64 0])) w7) := fun w6 h6 => by
      have q1 := (h6.2.1 _ (xnew.out w2.heap.size hz4.out.1 (Nat.lt_trans hz4.out.2.1 hz5.out))).trans hs5.out
      have q2 := (h6.2.1 _ (xnew.out w4.heap.size (by have := hz4.out; omega) hz5.out)).trans ht5.out
      refine ⟨⟨Pk.one_at q1, Pk.one_at q1, Pk.one_at q2, Pk.one_at q2, fun o => Pk.one_at ((heap_alloc_old _ _ (lt_some q1)).trans q1), fun o => Pk.one_at ((heap_alloc_old _ _ (lt_some q2)).trans q2)⟩, fun w7 e7 => ?_⟩
      rw [hp4.out]
      have h7 : Live B w6.drew p room L2 X1 := h6.1.below (w' := w6.drew) ⟨rfl, rfl, rfl, Nat.le_refl _, fun _ _ => rfl⟩
      refine openTo_mk (w6 := w6.drew) h7 hn2.out e7 xin.out (fun g hg => ?_) ?_ ?_ ?_
      · exact ((h6.2.1 g (xin.out g hg)).trans (b5.out.block g (h1.out.1.xs g hg))).trans (h1.out.2.1 g hg)
      · have a1 := h1.out.2.2
        have a2 := b5.out.size
        have a3 := h6.2.2
        show w.heap.size ≤ w6.heap.size
        omega
      · exact hv5.out.keep (fun g hg => h6.2.1 g (xnew.out g hg.1 hg.2)) (fun g hg => ⟨xnew.out g hg.1 hg.2, Nat.le_trans h1.out.2.2 hg.1⟩)
      · exact hu5.out.keep (fun g hg => h6.2.1 g (xnew.out g hg.1 hg.2)) (fun g hg => ⟨xnew.out g hg.1 hg.2, Nat.le_trans h1.out.2.2 hg.1⟩)
    clear hX1 V5 he5 hL2 hp3 hp4 b4 hs4 hv4 hw2 hv5 hu5 xin xnew b5 hs5 ht5 h1 xs hl hl1 hB
    go_upto_region 8 with (fail)
    rw [← hw5]
    clear hw5 d0
    go_wp2_with fail
    refine C.out.mono ?_
    rintro e w6 ⟨rfl, h6⟩
    obtain ⟨⟨k0, k1, k2, k3, k4, k5⟩, F6⟩ := F.out w6 h6
    replace F6 := Lib.hid F6
    clear F h6 C hz4 hz5
    go_upto_region 9 with (fail)
    go_region
    all_goals
      go_wp2
      refine bodyPost_ret (results_tmp4 open_results _ _ _) rfl ?_
      exact F6.out _ rfl
  · have hp3 : Hid (pw = ((sCut L1 logN (0 : Int)).2, ss, [])) := by
      have := hp2.out
      rw [if_neg hg] at this
      exact this
    have dg : (gl == gs) = false := by simpa using hg
    clear hp2
    obtain ⟨w5, hw5⟩ : ∃ z, z = w4.alloc (.cells #[.int .i64 0, .slice none 0 0] 66) := ⟨_, rfl⟩
    have b5 : Hid (Below w1.heap.size w1 w5) := by rw [hw5]; exact b4.out.alloc b4.out.size _
    have hs5 : Hid (w5.heap[w2.heap.size]? = some (.cells #[.int .i64 gs, .slice A1 n1 c1] 66 (0, 0))) := by rw [hw5]; exact (heap_alloc_old _ _ hz4.out.2.1).trans hs4.out
    have ht5 : Hid (w5.heap[w4.heap.size]? = some (.cells #[.int .i64 0, .slice none 0 0] 66 (0, 0))) := by rw [hw5]; exact heap_alloc_new _ _
    have hz5 : Hid (w4.heap.size < w5.heap.size) := by rw [hw5]; simp [Hid]
    have hv5 : Hid (Lt w5 (fun g => w1.heap.size ≤ g ∧ g < w5.heap.size) (.slice A1 n1 c1) ss) := hv4.out.keep (fun g hg => by rw [hw5]; exact heap_alloc_old _ _ hg.2) (fun g hg => ⟨hg.1, Nat.lt_trans hg.2 hz5.out⟩)
    have hu5 : Hid (Lt w5 (fun g => w1.heap.size ≤ g ∧ g < w5.heap.size) (.slice none 0 0) []) := Lt.nil _ _
    have V5 := h1.out.1.more b5.out
    obtain ⟨X1, hX1⟩ : ∃ z, z = fun g => X g ∨ (w1.heap.size ≤ g ∧ g < w5.heap.size) := ⟨_, rfl⟩
    rw [← hX1] at V5
    have xin : Hid (∀ g, X g → X1 g) := fun g hg => by rw [hX1]; exact .inl hg
    have xnew : Hid (∀ g, w1.heap.size ≤ g → g < w5.heap.size → X1 g) := fun g hg hg2 => by rw [hX1]; exact .inr ⟨hg, hg2⟩
    have C := Dk.l_cut V5 ⟨#[108, 111, 103]⟩ ((0 : Int)) (by decide) (by omega)
    rw [show nm ⟨#[108, 111, 103]⟩ = logN from rfl] at C
    obtain ⟨e5, he5⟩ : ∃ z, z = (sCut L1 logN ((0 : Int))).1 := ⟨_, rfl⟩
    obtain ⟨L2, hL2⟩ : ∃ z, z = (sCut L1 logN ((0 : Int))).2 := ⟨_, rfl⟩
    have hp4 := hp3.out
    rw [← he5, ← hL2] at C
    rw [← hL2] at hp4
    replace hp4 := Lib.hid hp4
    replace C := Lib.hid C
    have F : Hid (∀ w6, LTo B w5 p room L2 X1 w6 → (w6.cell? ⟨w2.heap.size, 0, none⟩ = some (.int .i64 gs) ∧ w6.cell? ⟨w2.heap.size, 1, none⟩ = some (.slice A1 n1 c1) ∧ w6.cell? ⟨w4.heap.size, 0, none⟩ = some (.int .i64 0) ∧ w6.cell? ⟨w4.heap.size, 1, none⟩ = some (.slice none 0 0) ∧ (∀ o : Obj, (w6.alloc o).cell? ⟨w2.heap.size, 1, none⟩ = some (.slice A1 n1 c1)) ∧ ∀ o : Obj, (w6.alloc o).cell? ⟨w4.heap.size, 1, none⟩ = some (.slice none 0 0)) ∧
        ∀ w7, w7 = w6.drew.alloc (.cells #[.pointer (some ⟨p, 0, none⟩), .int .i64 (0 : Nat)] 71) → OpenTo B w p room X pw (.returned (.tuple #[.pointer (some ⟨w6.heap.size, 0, none⟩), .slice A1 n1 c1, .slice none 0 0, .int .i64 0])) w7) := fun w6 h6 => by
      have q1 := (h6.2.1 _ (xnew.out w2.heap.size hz4.out.1 (Nat.lt_trans hz4.out.2.1 hz5.out))).trans hs5.out
      have q2 := (h6.2.1 _ (xnew.out w4.heap.size (by have := hz4.out; omega) hz5.out)).trans ht5.out
      refine ⟨⟨Pk.one_at q1, Pk.one_at q1, Pk.one_at q2, Pk.one_at q2, fun o => Pk.one_at ((heap_alloc_old _ _ (lt_some q1)).trans q1), fun o => Pk.one_at ((heap_alloc_old _ _ (lt_some q2)).trans q2)⟩, fun w7 e7 => ?_⟩
      rw [hp4.out]
      have h7 : Live B w6.drew p room L2 X1 := h6.1.below (w' := w6.drew) ⟨rfl, rfl, rfl, Nat.le_refl _, fun _ _ => rfl⟩
      refine openTo_mk (w6 := w6.drew) h7 rfl e7 xin.out (fun g hg => ?_) ?_ ?_ ?_
      · exact ((h6.2.1 g (xin.out g hg)).trans (b5.out.block g (h1.out.1.xs g hg))).trans (h1.out.2.1 g hg)
      · have a1 := h1.out.2.2
        have a2 := b5.out.size
        have a3 := h6.2.2
        show w.heap.size ≤ w6.heap.size
        omega
      · exact hv5.out.keep (fun g hg => h6.2.1 g (xnew.out g hg.1 hg.2)) (fun g hg => ⟨xnew.out g hg.1 hg.2, Nat.le_trans h1.out.2.2 hg.1⟩)
      · exact hu5.out.keep (fun g hg => h6.2.1 g (xnew.out g hg.1 hg.2)) (fun g hg => ⟨xnew.out g hg.1 hg.2, Nat.le_trans h1.out.2.2 hg.1⟩)
    clear hX1 V5 he5 hL2 hp3 hp4 b4 hs4 hv4 hw2 hv5 hu5 xin xnew b5 hs5 ht5 h1 xs hl hl1 hB
    go_upto_region 8 with (fail)
    rw [← hw5]
    clear hw5 d0
    go_wp2_with fail
    refine C.out.mono ?_
    rintro e w6 ⟨rfl, h6⟩
    obtain ⟨⟨k0, k1, k2, k3, k4, k5⟩, F6⟩ := F.out w6 h6
    replace F6 := Lib.hid F6
    clear F h6 C hz4 hz5
    go_upto_region 9 with (fail)
    go_region
    all_goals
      go_wp2
      refine bodyPost_ret (results_tmp4 open_results _ _ _) rfl ?_
      exact F6.out _ rfl
end Se
end Go.Proofs.YtbolcapgocjgcaaGreatDoor
