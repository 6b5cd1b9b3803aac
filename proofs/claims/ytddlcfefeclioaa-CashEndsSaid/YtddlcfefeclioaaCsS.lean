/- The program's Share: Min, Max, mayShare, handOut. -/
import Derived.Test.YtddlcfefeclioaaCsW
import Derived.Test.YtddlcfefeclioaaCsL
import Derived.Lib.MinMax
import Derived.Laws.OwnMore
import Derived.Carry
namespace Go.Proofs.Ytddlcfefeclioaa
open Go.RowKit
namespace Cs

def i64s (zs : List Int) : List Value := zs.map fun z => .int .i64 z
theorem i64s_len (zs : List Int) : (i64s zs).length = zs.length := by simp [i64s]
theorem i64s_get {zs : List Int} {i : Nat} {z : Int} (h : zs[i]? = some z) : (i64s zs)[i]? = some (.int .i64 z) := by simp [i64s, h]
theorem i64s_set (zs : List Int) (k : Nat) (z : Int) : (i64s zs).set k (.int .i64 z) = i64s (zs.set k z) := by simp [i64s, List.map_set]
theorem i64s_app (a b : List Int) : i64s (a ++ b) = i64s a ++ i64s b := by simp [i64s]
theorem i64s_one (a : List Int) : ∀ u ∈ i64s a, u.oneCell' = true := by intro u hu; simp [i64s] at hu; obtain ⟨c, _, rfl⟩ := hu; rfl

/-- The least, the greatest: it is one of them, and none is below, above. -/
def MinTo (zs : List Int) (w : World) (e : Ending) (w' : World) : Prop := ∃ m, e = .returned (.int .i64 m) ∧ m ∈ zs ∧ (∀ z ∈ zs, m ≤ z) ∧ w = w'
def MaxTo (zs : List Int) (w : World) (e : Ending) (w' : World) : Prop := ∃ m, e = .returned (.int .i64 m) ∧ m ∈ zs ∧ (∀ z ∈ zs, z ≤ m) ∧ w = w'
def MinAt (zs : List Int) (m i : Value) : Prop := ∃ (k : Nat) (v : Int), i = .int .i64 k ∧ k ≤ zs.length ∧ 0 < k ∧ m = .int .i64 v ∧ v ∈ zs.take k ∧ ∀ z ∈ zs.take k, v ≤ z
def MaxAt (zs : List Int) (m i : Value) : Prop := ∃ (k : Nat) (v : Int), i = .int .i64 k ∧ k ≤ zs.length ∧ 0 < k ∧ m = .int .i64 v ∧ v ∈ zs.take k ∧ ∀ z ∈ zs.take k, z ≤ v
theorem mem_snoc {zs : List Int} {k : Nat} {z x : Int} (h : zs[k]? = some z) : x ∈ zs.take (k + 1) ↔ x ∈ zs.take k ∨ x = z := by rw [take_snoc h]; simp
theorem min_next {zs : List Int} {k : Nat} {z v : Int} (h : zs[k]? = some z) (h1 : v ∈ zs.take k) (h2 : ∀ x ∈ zs.take k, v ≤ x) : MinAt zs (.int .i64 (min v z)) (.int .i64 ((k : Int) + 1)) := by
  refine ⟨k + 1, min v z, rfl, (List.getElem?_eq_some_iff.1 h).1, by omega, rfl, ?_, fun x hx => ?_⟩
  · rw [mem_snoc h]
    rcases Int.le_total v z with e | e
    · rw [Int.min_eq_left e]; exact .inl h1
    · rw [Int.min_eq_right e]; exact .inr rfl
  · rcases (mem_snoc h).1 hx with h3 | rfl
    · have := h2 x h3; omega
    · omega
theorem max_next {zs : List Int} {k : Nat} {z v : Int} (h : zs[k]? = some z) (h1 : v ∈ zs.take k) (h2 : ∀ x ∈ zs.take k, x ≤ v) : MaxAt zs (.int .i64 (max v z)) (.int .i64 ((k : Int) + 1)) := by
  refine ⟨k + 1, max v z, rfl, (List.getElem?_eq_some_iff.1 h).1, by omega, rfl, ?_, fun x hx => ?_⟩
  · rw [mem_snoc h]
    rcases Int.le_total v z with e | e
    · rw [Int.max_eq_right e]; exact .inr rfl
    · rw [Int.max_eq_left e]; exact .inl h1
  · rcases (mem_snoc h).1 hx with h3 | rfl
    · have := h2 x h3; omega
    · omega

set_option maxHeartbeats 1600000 in
theorem min_any (ad : Addr) (n c : Nat) (zs : List Int) (w : World) (R : Ri w w.heap.size (some ad) n zs) (h0 : 0 < n) (hn : n ≤ 9223372036854775807) :
    Calls Try.prog 28 #[.slice (some ad) n c] w (MinTo zs w) := by
  have hl := Lib.hid R.len
  obtain ⟨ad', e, hB, hc⟩ := R.at_ h0
  injection e with e
  subst e
  obtain ⟨z0, hz0⟩ : ∃ z, zs[0]? = some z := ⟨_, List.getElem?_eq_getElem (by have := hl.out; omega)⟩
  have q0 := hc 0 z0 hz0
  rw [show ad.add 0 = ad from rfl] at q0
  have st : Hid (MinAt zs (.int .i64 z0) (.int .i64 1)) := by
    have e1 : zs.take 1 = [z0] := by have := take_snoc hz0; simpa using this
    exact ⟨1, z0, rfl, by have := hl.out; omega, by omega, rfl, by rw [e1]; simp, fun z hz => by rw [e1] at hz; simp at hz; omega⟩
  replace hc := Lib.hid hc
  replace hz0 := Lib.hid hz0
  clear R
  go_enter Try.func28, Try.ntmps28
  go_wp2
  go_loop [3, 4] (fun m i => MinAt zs m i) (fun _ i => n - (intOf i).toNat)
  case atStart => exact st.out
  case round =>
    obtain ⟨k, v, rfl, hk, hk0, rfl, h1, h2⟩ := hrel
    have hkn : k ≤ n := by have := hl.out; omega
    clear hk q0
    replace h1 := Lib.hid h1
    replace h2 := Lib.hid h2
    by_cases hlt : k < n
    · obtain ⟨z, hz⟩ : ∃ z, zs[k]? = some z := ⟨_, List.getElem?_eq_getElem (by have := hl.out; omega)⟩
      have q1 := hc.out k z hz
      have nx := Lib.hid (min_next hz h1.out h2.out)
      replace hz := Lib.hid hz
      go_wp2
      go_round
      case rel => exact nx.out
      case measure => simp [intOf]; omega
    · have hkn2 : k = n := by omega
      have Q : Hid (MinTo zs w (.returned (.int .i64 v)) w) := by
        have e1 : zs.take k = zs := List.take_of_length_le (by have := hl.out; omega)
        exact ⟨v, rfl, by rw [← e1]; exact h1.out, by have := h2.out; rw [e1] at this; exact this, rfl⟩
      clear hkn2
      go_wp2
      go_ret
      exact Q.out
set_option maxHeartbeats 1600000 in
theorem max_any (ad : Addr) (n c : Nat) (zs : List Int) (w : World) (R : Ri w w.heap.size (some ad) n zs) (h0 : 0 < n) (hn : n ≤ 9223372036854775807) :
    Calls Try.prog 29 #[.slice (some ad) n c] w (MaxTo zs w) := by
  have hl := Lib.hid R.len
  obtain ⟨ad', e, hB, hc⟩ := R.at_ h0
  injection e with e
  subst e
  obtain ⟨z0, hz0⟩ : ∃ z, zs[0]? = some z := ⟨_, List.getElem?_eq_getElem (by have := hl.out; omega)⟩
  have q0 := hc 0 z0 hz0
  rw [show ad.add 0 = ad from rfl] at q0
  have st : Hid (MaxAt zs (.int .i64 z0) (.int .i64 1)) := by
    have e1 : zs.take 1 = [z0] := by have := take_snoc hz0; simpa using this
    exact ⟨1, z0, rfl, by have := hl.out; omega, by omega, rfl, by rw [e1]; simp, fun z hz => by rw [e1] at hz; simp at hz; omega⟩
  replace hc := Lib.hid hc
  replace hz0 := Lib.hid hz0
  clear R
  go_enter Try.func29, Try.ntmps29
  go_wp2
  go_loop [3, 4] (fun m i => MaxAt zs m i) (fun _ i => n - (intOf i).toNat)
  case atStart => exact st.out
  case round =>
    obtain ⟨k, v, rfl, hk, hk0, rfl, h1, h2⟩ := hrel
    have hkn : k ≤ n := by have := hl.out; omega
    clear hk q0
    replace h1 := Lib.hid h1
    replace h2 := Lib.hid h2
    by_cases hlt : k < n
    · obtain ⟨z, hz⟩ : ∃ z, zs[k]? = some z := ⟨_, List.getElem?_eq_getElem (by have := hl.out; omega)⟩
      have q1 := hc.out k z hz
      have nx := Lib.hid (max_next hz h1.out h2.out)
      replace hz := Lib.hid hz
      go_wp2
      go_round
      case rel => exact nx.out
      case measure => simp [intOf]; omega
    · have hkn2 : k = n := by omega
      have Q : Hid (MaxTo zs w (.returned (.int .i64 v)) w) := by
        have e1 : zs.take k = zs := List.take_of_length_le (by have := hl.out; omega)
        exact ⟨v, rfl, by rw [← e1]; exact h1.out, by have := h2.out; rw [e1] at this; exact this, rfl⟩
      clear hkn2
      go_wp2
      go_ret
      exact Q.out

theorem ri_bound {w : World} {B n : Nat} {A : Option Addr} {zs : List Int} (h : Ri w B A n zs) (h0 : 0 < n) : ∃ ad, A = some ad := by
  obtain ⟨ad, e, _⟩ := h.at_ h0; exact ⟨ad, e⟩
set_option maxHeartbeats 1600000 in
theorem may_any (all : Int) (A : Option Addr) (n c : Nat) (zs : List Int) (w : World) (R : Ri w w.heap.size A n zs) (hn : n ≤ 9223372036854775807) (b : Bool) (hb : May all zs ↔ b = true) :
    Calls Try.prog 25 #[.int .i64 all, .slice A n c] w fun e w' => e = .returned (.bool b) ∧ w = w' := by
  have hl := Lib.hid R.len
  have no : Hid (¬ May all zs → Ending.returned (.bool false) = Ending.returned (.bool b)) := fun h => by
    have : b = false := by cases b with
      | false => rfl
      | true => exact absurd (hb.2 rfl) h
    rw [this]
  have yes : Hid (May all zs → Ending.returned (.bool true) = Ending.returned (.bool b)) := fun h => by rw [hb.1 h]
  clear hb
  by_cases h1 : all < 0
  · replace no := Lib.hid (no.out fun h => by have := h.a0; omega)
    clear R yes
    go_enter Try.func25, Try.ntmps25
    go_wp2
    go_ret
    exact ⟨no.out, rfl⟩
  by_cases h2 : 1099511627776 < all
  · replace no := Lib.hid (no.out fun h => by have := h.a1; omega)
    clear R yes
    go_enter Try.func25, Try.ntmps25
    go_wp2
    go_ret
    exact ⟨no.out, rfl⟩
  by_cases h3 : n < 1
  · replace no := Lib.hid (no.out fun h => by have := h.n0; have := hl.out; omega)
    clear R yes
    go_enter Try.func25, Try.ntmps25
    go_wp2
    go_ret
    exact ⟨no.out, rfl⟩
  by_cases h4 : 100 < n
  · replace no := Lib.hid (no.out fun h => by have := h.n1; have := hl.out; omega)
    clear R yes
    go_enter Try.func25, Try.ntmps25
    go_wp2
    go_ret
    exact ⟨no.out, rfl⟩
  obtain ⟨ad, rfl⟩ := ri_bound R (by omega)
  have C1 := Lib.hid (min_any ad n c zs w R (by omega) hn)
  have C2 := Lib.hid (max_any ad n c zs w R (by omega) hn)
  clear R
  go_enter Try.func25, Try.ntmps25
  go_wp2_with fail
  refine C1.out.mono ?_
  rintro e w' ⟨m1, rfl, p1, p2, rfl⟩
  replace p1 := Lib.hid p1
  replace p2 := Lib.hid p2
  go_wp2_with fail
  refine C2.out.mono ?_
  rintro e w' ⟨m2, rfl, p3, p4, rfl⟩
  replace p3 := Lib.hid p3
  replace p4 := Lib.hid p4
  clear C1 C2
  by_cases h5 : m1 < 0
  · replace no := Lib.hid (no.out fun h => by have := h.pp m1 p1.out; omega)
    clear yes
    go_wp2
    go_ret
    exact ⟨no.out, rfl⟩
  by_cases h6 : m2 ≤ 0
  · replace no := Lib.hid (no.out fun h => by obtain ⟨p, q1, q2⟩ := h.one; have := p4.out p q1; omega)
    clear yes
    go_wp2
    go_ret
    exact ⟨no.out, rfl⟩
  by_cases h7 : 1000 < m2
  · replace no := Lib.hid (no.out fun h => by have := h.pp m2 p3.out; omega)
    have hd : decide (m2 ≤ 1000) = false := by simpa using h7
    clear yes
    go_wp2
    go_ret
    exact ⟨no.out, rfl⟩
  replace yes := Lib.hid (yes.out ⟨by omega, by omega, by have := hl.out; omega, by have := hl.out; omega, fun p hp => ⟨by have := p2.out p hp; omega, by have := p4.out p hp; omega⟩, ⟨m2, p3.out, by omega⟩⟩)
  clear no
  go_wp2
  go_ret
  exact ⟨yes.out, rfl⟩

/-- What is left is handed out over a row of the caller's own. -/
def HoAt (w : World) (base g n c : Nat) (L : Int) (ps : List Int) (f : Nat → Int) (l i : Value) (wr : World) : Prop :=
  ∃ k : Nat, i = .int .i64 k ∧ k ≤ n ∧ l = .int .i64 (lf L ps k) ∧ wr.ownsRow base 2 1 (.slice (some ⟨g, 0, none⟩) n c) n (i64s (lst n (upto L ps f k))) ∧ w.grownBy wr (some g)
def HoTo (w : World) (base g n c : Nat) (L : Int) (ps : List Int) (f : Nat → Int) (e : Ending) (w' : World) : Prop :=
  e = .returned (.tuple #[]) ∧ w'.ownsRow base 2 1 (.slice (some ⟨g, 0, none⟩) n c) n (i64s (lst n (upto L ps f n))) ∧ w.grownBy w' (some g)
theorem grown_set (w : World) (p i : Nat) (u : Value) : w.grownBy (w.setCell ⟨p, i, none⟩ u) (some p) :=
  ⟨rfl, rfl, rfl, by simp [World.setCell], fun k _ hk => Below.heap_setCell _ _ _ _ (fun e => hk (by rw [e]))⟩
theorem grown_trans {a b c : World} {g : Option Nat} (h : a.grownBy b g) (k : b.grownBy c g) : a.grownBy c g :=
  ⟨k.os.trans h.os, k.tape.trans h.tape, k.output.trans h.output, Nat.le_trans h.size k.size, fun i hi hg => (k.block i (Nat.lt_of_lt_of_le hi h.size) hg).trans (h.block i hi hg)⟩
theorem grown_refl (w : World) (g : Option Nat) : w.grownBy w g := ⟨rfl, rfl, rfl, Nat.le_refl _, fun _ _ _ => rfl⟩
theorem grown_below {a b : World} {p B : Nat} (h : a.grownBy b (some p)) (hp : B ≤ p) (hB : B ≤ a.heap.size) : Below B a b :=
  ⟨h.os, h.tape, h.output, h.size, fun i hi => h.block i (by omega) (fun e => by injection e; omega)⟩
theorem Ri.grown {w w' : World} {B n g : Nat} {A : Option Addr} {zs : List Int} (h : Ri w B A n zs) (hg : w.grownBy w' (some g)) (hB : B ≤ g) (hw : B ≤ w.heap.size) : Ri w' B A n zs := h.below (grown_below hg hB hw)
theorem own_cell {w : World} {base g n c : Nat} {zs : List Int} {k : Nat} {z : Int} (h : w.ownsRow base 2 1 (.slice (some ⟨g, 0, none⟩) n c) n (i64s zs)) (hk : k < n) (hz : zs[k]? = some z) : w.cell? ⟨g, k, none⟩ = some (.int .i64 z) := by
  rw [h.cellAt k (by omega), i64s_get hz]

set_option maxHeartbeats 3200000 in
set_option maxRecDepth 100000 in
theorem hand_any (L : Int) (ad : Addr) (n cp base g c : Nat) (ps : List Int) (f : Nat → Int) (w : World) (R : Ri w base (some ad) n ps) (O : w.ownsRow base 2 1 (.slice (some ⟨g, 0, none⟩) n c) n (i64s (lst n f))) (hB : base ≤ g) (hw : base ≤ w.heap.size)
    (hn : n ≤ 9223372036854775807) (hL : 0 ≤ L) (hL2 : L ≤ 1099511627776) (hf : ∀ i, i < n → 0 ≤ f i ∧ f i ≤ 1099511627776000) :
    Calls Try.prog 26 #[.int .i64 L, .slice (some ad) n cp, .slice (some ⟨g, 0, none⟩) n c] w (HoTo w base g n c L ps f) := by
  have hl := Lib.hid R.len
  replace R := Lib.hid R
  replace hf := Lib.hid hf
  have st : Hid (HoAt w base g n c L ps f (.int .i64 L) (.int .i64 0) w) := ⟨0, rfl, Nat.zero_le _, by rw [lf_zero hL], by rw [upto_zero]; exact O, grown_refl _ _⟩
  clear O
  go_enter Try.func26, Try.ntmps26
  go_wp2_with fail
  go_loopw [0, 10] (fun l i wr => HoAt w base g n c L ps f l i wr) (fun _ i _ => n - (intOf i).toNat)
  case atStart => exact st.out
  case round =>
    obtain ⟨k, rfl, hk, rfl, ho, hg⟩ := hrel
    replace ho := Lib.hid ho
    replace hg := Lib.hid hg
    by_cases hlt : k < n
    · have hz := get_at0 (ps := ps) (show k < ps.length by have := hl.out; omega)
      have R1 := R.out.grown hg.out hB hw
      obtain ⟨ad', e, _, hc⟩ := R1.at_ (by omega)
      injection e with e
      subst e
      have q0 := hc k _ hz
      have pI := R.out.in_ _ (List.mem_of_getElem? hz)
      clear hc R1 hz
      have h1 := upto_none (L := L) (ps := ps) (f := f) (k := k) (n := n)
      have h2 := fun a b => upto_take (L := L) (ps := ps) (f := f) (k := k) (n := n) hlt a b
      have h3 := lf_take (L := L) (ps := ps) (k := k)
      have h4 := lf_none (L := L) (ps := ps) (k := k)
      have h5 := lf_nn (L := L) (ps := ps) (k := k)
      have stay : Hid (¬ (0 < lf L ps k ∧ 0 < at0 ps k) → HoAt w base g n c L ps f (.int .i64 (lf L ps k)) (.int .i64 ((k : Int) + 1)) wr) := fun h => ⟨k + 1, rfl, hlt, by rw [h4 h], by rw [h1 h]; exact ho.out, hg.out⟩
      have take : Hid (0 < lf L ps k → 0 < at0 ps k → HoAt w base g n c L ps f (.int .i64 (lf L ps k - 1)) (.int .i64 ((k : Int) + 1)) (wr.setCell ⟨g, k, none⟩ (.int .i64 (f k + 1)))) := fun a b => by
        refine ⟨k + 1, rfl, hlt, by rw [h3 b a], ?_, grown_trans hg.out (grown_set _ _ _ _)⟩
        rw [← h2 b a, ← i64s_set]
        exact (ho.out.stored k _).1
      have q1 : wr.cell? ⟨g, k, none⟩ = some (.int .i64 (f k)) := own_cell ho.out hlt (by rw [lst_get hlt, upto_at])
      have q2 : wr.frozen? ⟨g, k, none⟩ = false := ho.out.frozenAt k
      have f1 := hf.out k hlt
      clear h1 h2 h3 h4
      obtain ⟨lk, hlk⟩ : ∃ x, x = lf L ps k := ⟨_, rfl⟩
      obtain ⟨pk, hpk⟩ : ∃ x, x = at0 ps k := ⟨_, rfl⟩
      obtain ⟨fk, hfk⟩ : ∃ x, x = f k := ⟨_, rfl⟩
      rw [← hlk] at stay take h5 ⊢
      rw [← hpk] at stay take q0 pI
      rw [← hfk] at take q1 f1
      clear hlk hpk hfk
      have hlk2 : lk ≤ 1099511627776 := by omega
      have hlk0 := h5.1
      clear h5
      by_cases p1 : 0 < lk
      · by_cases p2 : 0 < pk
        · replace take := Lib.hid (take.out p1 p2)
          clear stay
          go_wp2
          go_roundw
          case rel => exact take.out
          case measure => simp [intOf]; omega
        · replace stay := Lib.hid (stay.out (by omega))
          clear take
          go_wp2
          go_roundw
          case rel => exact stay.out
          case measure => simp [intOf]; omega
      · replace stay := Lib.hid (stay.out (by omega))
        clear take
        go_wp2
        go_roundw
        case rel => exact stay.out
        case measure => simp [intOf]; omega
    · obtain rfl : k = n := by omega
      have Q : Hid (HoTo w base g k c L ps f (.returned (.tuple #[])) wr) := ⟨rfl, ho.out, hg.out⟩
      go_wp2
      go_end0
      exact Q.out
end Cs
end Go.Proofs.Ytddlcfefeclioaa
