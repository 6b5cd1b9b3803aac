/- The document's wheel: Turn. -/
import Derived.Test.YtnfakkinaockiaaDwA
import Derived.LoopTactic
namespace Go.Proofs.Ytnfakkinaockiaa
set_option maxRecDepth 100000
open Go.RowKit
open Go.Proofs.Ytnfakkinaockiaa.Pk (one_at one_free one_set lt_some grown_set)
namespace Wh

theorem nums_snoc (l : List Int) (z : Int) : nums (l ++ [z]) = nums l ++ [.int .i64 z] := by simp [nums]
/-- What Turn has between two rounds. -/
def DtAt (w : World) (d : Nat) (now : Int) (A : Option Addr) (S : List Tm) (v5 : Value) (wr : World) : Prop :=
  ∃ done S' A' c' m, S = done ++ S' ∧ (∀ t ∈ done, t.2 ≤ now) ∧ m = done.length ∧ RowI wr w.heap.size v5 m (nums (done.map (·.1))) ∧ Dw wr d now S' A' c' ∧ Kq (fun g => g = d) w wr ∧ ∀ g, rbk A' S'.length g → rbk A S.length g
/-- What Turn answers. -/
def DturnTo (w : World) (d : Nat) (now : Int) (A : Option Addr) (S : List Tm) (e : Ending) (w' : World) : Prop :=
  ∃ v, e = .returned v ∧ RowI w' w.heap.size v (offs now S).length (nums ((offs now S).map (·.1))) ∧ DwTo w d A S.length now (left now S) w'
theorem dt_end {w wr : World} {d c' m : Nat} {now : Int} {A A' : Option Addr} {S done S' : List Tm} {v5 : Value} (eS : S = done ++ S') (hd : ∀ t ∈ done, t.2 ≤ now) (hs : ∀ s, S'.head? = some s → ¬ s.2 ≤ now) (hm : m = done.length) (R : RowI wr w.heap.size v5 m (nums (done.map (·.1)))) (D : Dw wr d now S' A' c') (K : Kq (fun g => g = d) w wr) (hr : ∀ g, rbk A' S'.length g → rbk A S.length g) : DturnTo w d now A S (.returned v5) wr := by
  obtain ⟨e1, e2⟩ := turn_split eS hd hs
  exact ⟨v5, rfl, by rw [e1, ← hm]; exact R, A', c', by rw [e2]; exact D, K, fun g hg => .inl (hr g (by rw [e2] at hg; exact hg))⟩
theorem dt_next {w wr w6 : World} {d c' m : Nat} {now : Int} {A A' : Option Addr} {S done r : List Tm} {s : Tm} {v5 v6 : Value} (hA : ∀ g, rbk A S.length g → g < w.heap.size) (eS : S = done ++ s :: r) (hd : ∀ t ∈ done, t.2 ≤ now) (hs : s.2 ≤ now) (hm : m = done.length) (R : RowI wr w.heap.size v5 m (nums (done.map (·.1)))) (D : Dw wr d now (s :: r) A' c') (K : Kq (fun g => g = d) w wr) (hr : ∀ g, rbk A' (s :: r).length g → rbk A S.length g)
    (R6 : RowI w6 w.heap.size v6 (m + 1) (nums (done.map (·.1)) ++ [.int .i64 s.1])) (g6 : (wr.alloc (.cells #[.int .i64 s.1] 3)).grownBy w6 v5.ownBlock) {B : Option Addr} (hBn : B = none → A' = none ∧ c' = 0) (hB : ∀ g o, A' = some ⟨g, o, none⟩ → (1 < (s :: r).length → B = some ⟨g, o + 1 * 2, none⟩) ∧ ∃ o', B = some ⟨g, o', none⟩) :
    w6.cell? ⟨d, 1, none⟩ = some (.slice A' (s :: r).length c') ∧ w6.frozen? ⟨d, 1, none⟩ = false ∧ DtAt w d now A S v6 (w6.setCell ⟨d, 1, none⟩ (.slice B r.length (c' - 1))) := by
  have hown : ∀ g, v5.ownBlock = some g → w.heap.size ≤ g ∧ g ≠ d := fun g hg => by
    obtain ⟨h1, cur, h2⟩ := ri_block R hg
    refine ⟨h1, fun e => ?_⟩
    have := D.cells
    rw [← e, h2] at this
    injection this with this
    injection this with _ e
    exact absurd e (by decide)
  have ga : ∀ g, g < wr.heap.size → v5.ownBlock ≠ some g → w6.heap[g]? = wr.heap[g]? := fun g hg hne => (g6.block g (by simp; omega) (fun e => hne e.symm)).trans (heap_alloc_old _ _ hg)
  have z6 : wr.heap.size + 1 ≤ w6.heap.size := by have := g6.size; simpa using this
  have D6 : Dw w6 d now (s :: r) A' c' := D.keep fun g hg => ga g (D.lt g hg) fun e => by
    rcases hg with rfl | hg
    · exact (hown _ e).2 rfl
    · have h1 := hA g (hr g hg)
      have h2 := (hown g e).1
      omega
  have K6 : Kq (fun g => g = d) w w6 := K.trans (S' := fun g => w.heap.size ≤ g) ⟨g6.os, g6.tape, g6.output, by omega, fun g hg hn => ga g hg (fun e => hn (hown g e).1)⟩ fun g hg => .inr hg
  have gs := grown_set w6 d 1 (.slice B r.length (c' - 1))
  have hc := one_set (i := 1) D6.cells (.slice B r.length (c' - 1))
  obtain ⟨g, o, rfl, _⟩ := D6.row.at_ (by simp)
  obtain ⟨h1, o', hB2⟩ := hB g o rfl
  have hcap := D6.cap
  have hmax := D6.max
  simp only [List.length_cons] at hcap
  have hgd : g ≠ d := fun e => D6.ne (by rw [← e]; exact ⟨by simp, o, rfl⟩)
  refine ⟨one_at (i := 1) D6.cells, one_free D6.cells, done ++ [s], r, B, c' - 1, m + 1, by rw [eS]; simp, fun t ht => ?_, by rw [hm]; simp, ?_, ⟨hc, ?_, by omega, by omega, .inr ⟨g, o', hB2⟩, fun h => ?_⟩, K6.trans' (.of_grown gs fun g hg => by injection hg with hg; exact hg.symm), fun x hx => ?_⟩
  · rcases List.mem_append.1 ht with ht | ht
    · exact hd t ht
    · rw [List.mem_singleton] at ht
      rw [ht]
      exact hs
  · rw [List.map_append, List.map_cons, List.map_nil, nums_snoc]
    refine ri_same R6 fun x hx => gs.block x (lt_some (ri_block R6 hx).2.choose_spec) fun e => ?_
    injection e with e
    obtain ⟨_, cur, h2⟩ := ri_block R6 hx
    have := D6.cells
    rw [← e, h2] at this
    injection this with this
    injection this with _ e
    exact absurd e (by decide)
  · refine ⟨rfl, fun h0 => ?_⟩
    have T := D6.row.tail
    obtain ⟨g2, o2, e2, h2⟩ := T.at_ h0
    injection e2 with e2
    injection e2 with e3 e4
    subst e3; subst e4
    refine ⟨g, o + 2, h1 (by simp; omega), fun j u hu => ?_⟩
    rw [← h2 j u hu]
    exact World.cell?_of_block (gs.block g (lt_of_cell (h2 j u hu)) (fun e => hgd (by injection e)))
  · obtain ⟨_, o2, e⟩ := h
    rw [hB2] at e
    injection e with e
    injection e with e
    exact hgd e
  · obtain ⟨h0, o2, e⟩ := hx
    rw [hB2] at e
    injection e with e
    injection e with e
    exact hr x ⟨by simp, o, by rw [e]⟩
set_option maxHeartbeats 1600000 in
theorem dturn_no (w : World) (d c : Nat) (n0 now : Int) (S : List Tm) (A : Option Addr) (D : Dw w d n0 S A c) (hn : now < n0 ∨ 1099511627776 < now) :
    Calls Try.prog 17 #[.pointer (some ⟨d, 0, none⟩), .int .i64 now] w fun e w' => e = .returned (.slice none 0 0) ∧ w = w' := by
  have c0 : w.cell? ⟨d, 0, none⟩ = some (.int .i64 n0) := one_at (i := 0) D.cells
  by_cases h1 : now < n0
  · have d1 : decide (now < n0) = true := decide_eq_true h1
    clear h1 hn D
    go_enter Try.func17, Try.ntmps17
    go_wp2
    go_ret
    exact ⟨rfl, rfl⟩
  · have d1 : decide (now < n0) = false := decide_eq_false h1
    have d2 : decide (1099511627776 < now) = true := decide_eq_true (by omega)
    clear h1 hn D
    go_enter Try.func17, Try.ntmps17
    go_wp2
    go_ret
    exact ⟨rfl, rfl⟩
theorem Dw.time {w : World} {d c : Nat} {n0 : Int} {S : List Tm} {A : Option Addr} (D : Dw w d n0 S A c) (now : Int) : Dw (w.setCell ⟨d, 0, none⟩ (.int .i64 now)) d now S A c ∧ Kq (fun g => g = d) w (w.setCell ⟨d, 0, none⟩ (.int .i64 now)) := by
  have gs := grown_set w d 0 (.int .i64 now)
  exact ⟨⟨one_set (i := 0) D.cells (.int .i64 now), D.row.keep fun g hg => gs.block g (D.row.lt g hg) (fun e => D.ne (by injection e with e; rw [← e]; exact hg)), D.cap, D.max, D.frm, D.ne⟩, .of_grown gs fun g hg => by injection hg with hg; exact hg.symm⟩
set_option maxHeartbeats 6400000 in
theorem dturn_yes (w : World) (d c : Nat) (n0 now : Int) (S : List Tm) (A : Option Addr) (D : Dw w d n0 S A c) (hn : n0 ≤ now) (ht : now ≤ 1099511627776) (few : S.length ≤ 100000) :
    Calls Try.prog 17 #[.pointer (some ⟨d, 0, none⟩), .int .i64 now] w (DturnTo w d now A S) := by
  have c0 : w.cell? ⟨d, 0, none⟩ = some (.int .i64 n0) := one_at (i := 0) D.cells
  have f0 : w.frozen? ⟨d, 0, none⟩ = false := one_free D.cells
  obtain ⟨D1, K1⟩ := D.time now
  have hA : Hid (∀ g, rbk A S.length g → g < w.heap.size) := D.row.lt
  have d1 : decide (now < n0) = false := decide_eq_false (by omega)
  have d2 : decide (1099511627776 < now) = false := decide_eq_false (by omega)
  have st : Hid (DtAt w d now A S (.slice none 0 0) (w.setCell ⟨d, 0, none⟩ (.int .i64 now))) := ⟨[], S, A, c, 0, rfl, fun t ht => (nomatch ht), rfl, World.ownsRow_nil _ _ _ _, D1, K1, fun _ h => h⟩
  obtain ⟨i0, hi, hz0, hz1, hz2⟩ := info_parts int_info
  replace hi := Lib.hid hi
  replace hz0 := Lib.hid hz0
  replace hz1 := Lib.hid hz1
  replace hz2 := Lib.hid hz2
  replace few := Lib.hid few
  clear D D1 K1 hn ht
  go_enter Try.func17, Try.ntmps17
  go_wp2_with fail
  generalize w.setCell ⟨d, 0, none⟩ (.int .i64 now) = w1 at *
  clear c0 f0 d1 d2
  go_loopw [5] (fun v5 wr => DtAt w d now A S v5 wr) (fun v5 _ => S.length + 1 - lenOf v5)
  case atStart => exact st.out
  case round =>
    clear st
    obtain ⟨done, S', A', c', m, eS, hd, hm, R, D, K, hr⟩ := hrel
    have E : Hid ((∀ s, S'.head? = some s → ¬ s.2 ≤ now) → ∃ v, u5 = v ∧ DturnTo w d now A S (.returned v) wr) := fun hs => ⟨u5, rfl, dt_end eS hd hs hm R D K hr⟩
    obtain ⟨Ao, cc, rfl, hc1, hc2, _⟩ := ri_form R
    have c1 : wr.cell? ⟨d, 1, none⟩ = some (.slice A' S'.length c') := one_at (i := 1) D.cells
    cases S' with
    | nil =>
      have E2 : Hid (DturnTo w d now A S (.returned (.slice Ao m cc)) wr) := by
        obtain ⟨v, rfl, E⟩ := E.out (fun s hs => by cases hs)
        exact E
      simp only [List.length_nil] at c1
      clear E hd R D K hr eS hm
      go_wp2
      go_ret
      exact E2.out
    | cons s r =>
      obtain ⟨g, o, rfl, e1, e2⟩ := D.row.tm (k := 0) (by simp)
      rw [Nat.zero_mul, Nat.add_zero] at e1 e2
      have eg : gt (s :: r) 0 = s := rfl
      rw [eg] at e1 e2
      obtain ⟨B, hsl, hBn, hB⟩ := D.from_ (i := 1) (by simp)
      by_cases hle : s.2 ≤ now
      · have q1 : decide (s.2 ≤ now) = true := decide_eq_true hle
        have hmS : Hid (m + 1 ≤ S.length) := by show _ ≤ _; rw [eS, hm]; simp
        have hn1 : Hid (m ≤ 100000) := by have h1 := hmS.out; have h2 := few.out; show _ ≤ _; omega
        have NX : Hid (∀ v6 w6, RowI w6 w.heap.size v6 (m + 1) (nums (done.map (·.1)) ++ [.int .i64 s.1]) → (wr.alloc (.cells #[.int .i64 s.1] 3)).grownBy w6 (Value.slice Ao m cc).ownBlock → _) := fun v6 w6 R6 g6 => dt_next hA.out eS hd hle hm R D K hr R6 g6 hBn hB
        have hsz : Hid (w.heap.size ≤ wr.heap.size) := K.size
        replace R := Lib.hid R
        obtain ⟨n1, hn2⟩ : ∃ z, z = (s :: r).length := ⟨_, rfl⟩
        have hn3 : n1 - 1 = r.length := by rw [hn2]; simp
        rw [← hn2] at c1 hsl NX
        rw [hn3] at hsl
        have i1 : (0 : Int) < (n1 : Int) := by rw [hn2]; simp
        have i9 : (n1 : Int) ≤ 9223372036854775807 := by have := D.cap; have := D.max; rw [hn2]; omega
        rw [show ((1 : Nat) : Int) = 1 from rfl] at hsl
        obtain ⟨dn, hdn⟩ : ∃ z, z = nums (done.map (·.1)) := ⟨_, rfl⟩
        rw [← hdn] at NX R
        generalize r.length = nr at *
        clear E hd D K hr eS hm hle hBn hB eg hn2 hn3 hdn
        go_upto_region 7 with (at_builtin; go_loud (refine wpList_app1 wr rfl (.tmp 38) (.tmp 46) 22 rfl w.heap.size 3 i0 (.int .i64 0) 8 Try.underlying22 hi.out hz0.out hz1.out hz2.out rfl _ m dn (.int .i64 s.1) rfl R.out rfl rfl (by have := hn1.out; unfold maxLen; omega) (by have := hn1.out; omega) hsz.out ?_); intro v6 w6 hown6 hg6; have o6 := Lib.hid hown6; have g6 := Lib.hid hg6; clear hown6 hg6)
        obtain ⟨a1, a2, nx⟩ := NX.out v6 w6 o6.out g6.out
        replace nx := Lib.hid nx
        obtain ⟨A6, c6, rfl, hc61, hc62, _⟩ := ri_form o6.out
        clear NX R o6 g6 c1 e1 e2 hc61 hc62
        go_wp2
        exact ⟨nx.out, by have := hmS.out; simp [lenOf]; omega⟩
      · have q1 : decide (s.2 ≤ now) = false := decide_eq_false hle
        have E2 : Hid (DturnTo w d now A S (.returned (.slice Ao m cc)) wr) := by
          obtain ⟨v, rfl, E⟩ := E.out (fun s' hs => by injection hs with hs; rw [← hs]; exact hle)
          exact E
        obtain ⟨n1, hn2⟩ : ∃ z, z = (s :: r).length := ⟨_, rfl⟩
        rw [← hn2] at c1
        have i1 : (0 : Int) < (n1 : Int) := by rw [hn2]; simp
        clear E hd R D K hr eS hm hle hBn hB hsl eg hn2
        go_wp2
        go_ret
        exact E2.out
end Wh
end Go.Proofs.Ytnfakkinaockiaa
