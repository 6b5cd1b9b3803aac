/- Words on memory for numbers; Mul; the document's own Add, Sub, Mul; both Totals. -/
import Derived.Test.YtddlcfefeclioaaCsA
import Derived.Deep.Draws
import Derived.RegionTactic
import Derived.OwnWalk
import Derived.LoopTactic
namespace Go.Proofs.Ytddlcfefeclioaa
open Go.RowKit
namespace Cs

theorem adr_block (a : Addr) (n : Nat) : (a.add n).block = a.block := by unfold Addr.add; split <;> rfl
/-- The slice value '.slice A n c' reads as the numbers zs; what it lies in is a block below B. -/
structure Ri (w : World) (B : Nat) (A : Option Addr) (n : Nat) (zs : List Int) : Prop where
  len : zs.length = n
  at_ : 0 < n → ∃ ad, A = some ad ∧ ad.block < B ∧ ∀ j z, zs[j]? = some z → w.cell? (ad.add j) = some (.int .i64 z)
  in_ : ∀ z ∈ zs, I z
variable {w w' : World} {B : Nat} {A : Option Addr} {n : Nat} {zs : List Int}
theorem Ri.below (h : Ri w B A n zs) (hb : Below B w w') : Ri w' B A n zs :=
  ⟨h.len, fun h0 => by
    obtain ⟨ad, e, hB, hc⟩ := h.at_ h0
    refine ⟨ad, e, hB, fun j z hj => ?_⟩
    rw [← hc j z hj]
    exact World.cell?_of_block (by rw [adr_block]; exact hb.block _ hB), h.in_⟩
theorem Ri.mono (h : Ri w B A n zs) {B' : Nat} (hB : B ≤ B') : Ri w B' A n zs :=
  ⟨h.len, fun h0 => by
    obtain ⟨ad, e, hb, hc⟩ := h.at_ h0
    exact ⟨ad, e, by omega, hc⟩, h.in_⟩
theorem lt_some {g : Nat} {o : Obj} (h : w.heap[g]? = some o) : g < w.heap.size := by
  rcases Nat.lt_or_ge g w.heap.size with hlt | hge
  · exact hlt
  · rw [Array.getElem?_eq_none hge] at h; cases h

theorem and_sel (a b : Int) : bits .and .u64 (sgu a) (u64 b) = sel a b := by
  obtain ⟨h1, h2⟩ := u64_U b
  unfold sel sgu
  obtain ⟨n, hn⟩ := Int.eq_ofNat_of_zero_le h1
  rw [hn] at h2 ⊢
  split
  · have h := bits_and_u64_nat 18446744073709551615 n (by omega) (by omega)
    rw [Nat.and_comm, show (18446744073709551615 : Nat) = 2 ^ 64 - 1 from rfl, Nat.and_two_pow_sub_one_eq_mod] at h
    refine h.trans ?_
    rw [Nat.mod_eq_of_lt (by omega)]
  · have h := bits_and_u64_nat 0 n (by omega) (by omega)
    rw [Nat.zero_and] at h
    exact h

set_option maxHeartbeats 1000000 in
theorem mul_any (a b : Int) (ha : I a) (hb : I b) (w : World) : Calls Try.prog 14 #[.int .i64 a, .int .i64 b] w (NumTo (a * b) w) := by
  have P := mul_parts a b ha hb
  have n0 := u64_U a
  have n1 := u64_U b
  have ea := wrap_u a
  have eb := wrap_u b
  have l1 := and_sel a b
  have l2 := and_sel b a
  have s1 := sel_U a b
  have s2 := sel_U b a
  obtain ⟨ua, hua⟩ : ∃ z, z = u64 a := ⟨_, rfl⟩
  obtain ⟨ub, hub⟩ : ∃ z, z = u64 b := ⟨_, rfl⟩
  rw [← hua] at P n0 ea l2
  rw [← hub] at P n1 eb l1
  have A1 := Lib.hid (fun w => mul64_int ua ub n0 n1 w)
  have hpb : U (ua * ub / 18446744073709551616) := by
    unfold U at n0 n1 ⊢
    have h0 : 0 ≤ ua * ub := Int.mul_nonneg n0.1 n1.1
    have h1 : ua * ub ≤ 18446744073709551615 * 18446744073709551615 := Int.mul_le_mul (by omega) (by omega) n1.1 (by omega)
    omega
  obtain ⟨hi, hhi⟩ : ∃ z, z = ua * ub / 18446744073709551616 := ⟨_, rfl⟩
  obtain ⟨lo, hlo⟩ : ∃ z, z = ua * ub % 18446744073709551616 := ⟨_, rfl⟩
  rw [← hhi, ← hlo] at A1 P
  rw [← hhi] at hpb
  obtain ⟨p1, p2⟩ := P
  have S1 := Lib.hid (fun w => signs_any a ha w)
  have S2 := Lib.hid (fun w => signs_any b hb w)
  obtain ⟨sa, hsa⟩ : ∃ z, z = sgu a := ⟨_, rfl⟩
  obtain ⟨sb, hsb⟩ : ∃ z, z = sgu b := ⟨_, rfl⟩
  rw [← hsa] at S1 l1
  rw [← hsb] at S2 l2
  obtain ⟨x1, hx1⟩ : ∃ z, z = sel a b := ⟨_, rfl⟩
  obtain ⟨x2, hx2⟩ : ∃ z, z = sel b a := ⟨_, rfl⟩
  rw [← hx1, ← hx2] at p1
  rw [← hx1] at l1 s1
  rw [← hx2] at l2 s2
  have N := Lib.hid (fun w => number_any (u64 (u64 (hi - x1) - x2)) lo (a * b) (mul_bound a b ha hb) (by rw [← p1]; unfold u64; omega) p2 w)
  have q1 := wrap_u (hi - x1)
  have q2 := wrap_u (u64 (hi - x1) - x2)
  obtain ⟨z1, hz1⟩ : ∃ z, z = u64 (hi - x1) := ⟨_, rfl⟩
  rw [← hz1] at q1 q2 N
  obtain ⟨z2, hz2⟩ : ∃ z, z = u64 (z1 - x2) := ⟨_, rfl⟩
  rw [← hz2] at q2 N
  obtain ⟨p, hp⟩ : ∃ z, z = a * b := ⟨_, rfl⟩
  rw [← hp] at N ⊢
  clear hz1 hz2 hsa hsb hua hub hlo hhi p1 p2 n0 n1 ha hb hp s1 s2 hx1 hx2 hpb
  go_enter Try.func14, Try.ntmps14
  go_wp2_with fail
  refine (A1.out _).mono ?_
  rintro e w' ⟨rfl, rfl⟩
  go_wp2_with fail
  refine (S1.out _).mono ?_
  rintro e w' ⟨rfl, rfl⟩
  go_wp2_with fail
  refine (S2.out _).mono ?_
  rintro e w' ⟨rfl, rfl⟩
  go_wp2_with fail
  refine (N.out _).mono ?_
  rintro e w' ⟨rfl, hb⟩
  go_wp2
  go_ret2
  exact ⟨rfl, hb⟩

/-! The document's own. -/
def NumSame (x : Int) (w : World) (e : Ending) (w' : World) : Prop := e = .returned (.tuple #[.int .i64 (okv x), .int .i64 (oke x)]) ∧ w = w'
theorem same_in {x v : Int} {w : World} (h : I x) (hv : v = x) : NumSame x w (.returned (.tuple #[.int .i64 v, .int .i64 0])) w := by
  subst hv; exact ⟨by rw [okv_in h, oke_in h], rfl⟩
theorem same_out {x : Int} {w : World} (h : ¬ I x) : NumSame x w (.returned (.tuple #[.int .i64 0, .int .i64 3])) w := ⟨by rw [okv_out h, oke_out h], rfl⟩
theorem wrap_s (x : Int) : wrap64 x = s64 x := by unfold wrap64 s64; rfl

set_option maxHeartbeats 1000000 in
theorem radd_any (a b : Int) (ha : I a) (hb : I b) (w : World) : Calls Try.prog 11 #[.int .i64 a, .int .i64 b] w (NumSame (a + b) w) := by
  have ec := wrap_s (a + b)
  obtain ⟨c, hc⟩ : ∃ c, c = s64 (a + b) := ⟨_, rfl⟩
  rw [← hc] at ec
  unfold s64 at hc
  by_cases hI : I (a + b)
  · have Q := Lib.hid (fun w => same_in (w := w) hI (show c = a + b by unfold I at hI; omega))
    unfold I at ha hb hI
    by_cases h0 : 0 ≤ b
    · have t1 : a ≤ c := by omega
      clear hc ha hb hI
      go_enter Try.func11, Try.ntmps11
      go_wp2
      go_ret2
      exact Q.out _
    · have t1 : c ≤ a := by omega
      clear hc ha hb hI
      go_enter Try.func11, Try.ntmps11
      go_wp2
      go_ret2
      exact Q.out _
  · have Q := Lib.hid (fun w => same_out (w := w) hI)
    unfold I at ha hb hI
    by_cases h0 : 0 ≤ b
    · have t1 : c < a := by omega
      clear hc ha hb hI
      go_enter Try.func11, Try.ntmps11
      go_wp2
      go_ret2
      exact Q.out _
    · have t1 : a < c := by omega
      clear hc ha hb hI
      go_enter Try.func11, Try.ntmps11
      go_wp2
      go_ret2
      exact Q.out _
set_option maxHeartbeats 1000000 in
theorem rsub_any (a b : Int) (ha : I a) (hb : I b) (w : World) : Calls Try.prog 13 #[.int .i64 a, .int .i64 b] w (NumSame (a - b) w) := by
  have ec := wrap_s (a - b)
  obtain ⟨c, hc⟩ : ∃ c, c = s64 (a - b) := ⟨_, rfl⟩
  rw [← hc] at ec
  unfold s64 at hc
  by_cases hI : I (a - b)
  · have Q := Lib.hid (fun w => same_in (w := w) hI (show c = a - b by unfold I at hI; omega))
    unfold I at ha hb hI
    by_cases h0 : 0 ≤ b
    · have t1 : c ≤ a := by omega
      clear hc ha hb hI
      go_enter Try.func13, Try.ntmps13
      go_wp2
      go_ret2
      exact Q.out _
    · have t1 : a ≤ c := by omega
      clear hc ha hb hI
      go_enter Try.func13, Try.ntmps13
      go_wp2
      go_ret2
      exact Q.out _
  · have Q := Lib.hid (fun w => same_out (w := w) hI)
    unfold I at ha hb hI
    by_cases h0 : 0 ≤ b
    · have t1 : a < c := by omega
      clear hc ha hb hI
      go_enter Try.func13, Try.ntmps13
      go_wp2
      go_ret2
      exact Q.out _
    · have t1 : c < a := by omega
      clear hc ha hb hI
      go_enter Try.func13, Try.ntmps13
      go_wp2
      go_ret2
      exact Q.out _

set_option maxHeartbeats 1000000 in
theorem rmul_any (a b : Int) (ha : I a) (hb : I b) (w : World) : Calls Try.prog 15 #[.int .i64 a, .int .i64 b] w (NumSame (a * b) w) := by
  have ec := wrap_s (a * b)
  by_cases ha0 : a = 0
  · have Q := Lib.hid (fun w => same_in (x := a * b) (v := 0) (w := w) (by rw [ha0, Int.zero_mul]; unfold I; omega) (by rw [ha0, Int.zero_mul]))
    subst ha0
    clear ec ha hb
    generalize 0 * b = p at Q ⊢
    go_enter Try.func15, Try.ntmps15
    go_wp2
    go_ret2
    exact Q.out _
  have za : (a == 0) = false := by simpa using ha0
  by_cases hb0 : b = 0
  · have Q := Lib.hid (fun w => same_in (x := a * b) (v := 0) (w := w) (by rw [hb0, Int.mul_zero]; unfold I; omega) (by rw [hb0, Int.mul_zero]))
    subst hb0
    clear ec ha hb
    generalize a * 0 = p at Q ⊢
    replace ha0 := Lib.hid ha0
    go_enter Try.func15, Try.ntmps15
    go_wp2
    go_ret2
    exact Q.out _
  have zb : (b == 0) = false := by simpa using hb0
  by_cases h1 : a = -1 ∧ b = -9223372036854775808
  · obtain ⟨rfl, rfl⟩ := h1
    have Q := Lib.hid (fun w => same_out (x := -1 * -9223372036854775808) (w := w) (by decide))
    clear ec ha hb za zb ha0 hb0
    generalize (-1 : Int) * -9223372036854775808 = p at Q ⊢
    go_enter Try.func15, Try.ntmps15
    go_wp2
    go_ret2
    exact Q.out _
  by_cases h2 : b = -1 ∧ a = -9223372036854775808
  · obtain ⟨rfl, rfl⟩ := h2
    have Q := Lib.hid (fun w => same_out (x := -9223372036854775808 * -1) (w := w) (by decide))
    clear ec ha hb za zb ha0 hb0 h1
    generalize (-9223372036854775808 : Int) * -1 = p at Q ⊢
    go_enter Try.func15, Try.ntmps15
    go_wp2
    go_ret2
    exact Q.out _
  have F := ref_mul a b ha hb hb0 h1 h2
  have es := s64_I (a * b)
  have ev : I (a * b) → s64 (a * b) = a * b := fun h => by unfold s64; unfold I at h; omega
  obtain ⟨c, hc⟩ : ∃ c, c = s64 (a * b) := ⟨_, rfl⟩
  rw [← hc] at F ec es ev
  have eq := wrap_s (c.tdiv b)
  obtain ⟨q, hq⟩ : ∃ q, q = s64 (c.tdiv b) := ⟨_, rfl⟩
  rw [← hq] at F eq
  have ep := ec
  obtain ⟨p, hp⟩ : ∃ p, p = a * b := ⟨_, rfl⟩
  rw [← hp] at F ev ⊢
  clear hq hc hp ep
  have g1 : (a == -1) = true → (b == -9223372036854775808) = false := fun e => by
    have e : a = -1 := by simpa using e
    have : b ≠ -9223372036854775808 := fun e2 => h1 ⟨e, e2⟩
    simpa using this
  have g2 : (b == -1) = true → (a == -9223372036854775808) = false := fun e => by
    have e : b = -1 := by simpa using e
    have : a ≠ -9223372036854775808 := fun e2 => h2 ⟨e, e2⟩
    simpa using this
  clear h1 h2 ha0 ha hb
  by_cases hI : I p
  · have hqa := F.2 hI
    have Q := Lib.hid (fun w => same_in (w := w) hI (ev hI))
    have e3 : (q == a) = true := by simpa using hqa
    clear F ev hqa hI
    rcases hu : (a == -1) with _ | _
    · rcases hv : (b == -1) with _ | _
      · clear g1 g2
        go_enter Try.func15, Try.ntmps15
        go_wp2
        go_ret2
        first | exact Q.out _ | (have Z := Q.out w; rw [← ec] at Z; exact Z)
      · have g2 := g2 hv
        clear g1
        go_enter Try.func15, Try.ntmps15
        go_wp2
        go_ret2
        first | exact Q.out _ | (have Z := Q.out w; rw [← ec] at Z; exact Z)
    · have g1 := g1 hu
      rcases hv : (b == -1) with _ | _
      · clear g2
        go_enter Try.func15, Try.ntmps15
        go_wp2
        go_ret2
        first | exact Q.out _ | (have Z := Q.out w; rw [← ec] at Z; exact Z)
      · have g2 := g2 hv
        go_enter Try.func15, Try.ntmps15
        go_wp2
        go_ret2
        first | exact Q.out _ | (have Z := Q.out w; rw [← ec] at Z; exact Z)
  · have hqa : ¬ q = a := fun e => hI (F.1 e)
    have Q := Lib.hid (fun w => same_out (w := w) hI)
    have e3 : (q == a) = false := by simpa using hqa
    clear F ev hqa hI
    rcases hu : (a == -1) with _ | _
    · rcases hv : (b == -1) with _ | _
      · clear g1 g2
        go_enter Try.func15, Try.ntmps15
        go_wp2
        go_ret2
        first | exact Q.out _ | (have Z := Q.out w; rw [← ec] at Z; exact Z)
      · have g2 := g2 hv
        clear g1
        go_enter Try.func15, Try.ntmps15
        go_wp2
        go_ret2
        first | exact Q.out _ | (have Z := Q.out w; rw [← ec] at Z; exact Z)
    · have g1 := g1 hu
      rcases hv : (b == -1) with _ | _
      · clear g2
        go_enter Try.func15, Try.ntmps15
        go_wp2
        go_ret2
        first | exact Q.out _ | (have Z := Q.out w; rw [← ec] at Z; exact Z)
      · have g2 := g2 hv
        go_enter Try.func15, Try.ntmps15
        go_wp2
        go_ret2
        first | exact Q.out _ | (have Z := Q.out w; rw [← ec] at Z; exact Z)

/-! Both Totals. -/
def TotTo (zs : List Int) (w : World) (e : Ending) (w' : World) : Prop := e = .returned (.tuple #[.int .i64 (totv zs), .int .i64 (tote zs)]) ∧ Below w.heap.size w w'
theorem tot_in {t : Int} {w w' : World} (h : totO zs = some t) (hb : Below w.heap.size w w') : TotTo zs w (.returned (.tuple #[.int .i64 t, .int .i64 0])) w' := ⟨by rw [totv_of h, tote_of h], hb⟩
theorem tot_out {w w' : World} (h : totO zs = none) (hb : Below w.heap.size w w') : TotTo zs w (.returned (.tuple #[.int .i64 0, .int .i64 3])) w' := ⟨by rw [totv_none h, tote_none h], hb⟩
def TotAt (w : World) (zs : List Int) (t i : Value) (wr : World) : Prop := ∃ (k : Nat) (s : Int), i = .int .i64 k ∧ k ≤ zs.length ∧ t = .int .i64 s ∧ totO (zs.take k) = some s ∧ Below w.heap.size w wr

set_option maxHeartbeats 1600000 in
theorem total_any (A : Option Addr) (n c : Nat) (zs : List Int) (w : World) (R : Ri w w.heap.size A n zs) (hn : n ≤ 9223372036854775807) :
    Calls Try.prog 16 #[.slice A n c] w (TotTo zs w) := by
  have hl := Lib.hid R.len
  have st : Hid (TotAt w zs (.int .i64 0) (.int .i64 0) w) := ⟨0, 0, rfl, Nat.zero_le _, rfl, rfl, Below.refl _ _⟩
  by_cases h0 : n = 0
  · subst h0
    obtain rfl := List.eq_nil_of_length_eq_zero hl.out
    clear R st
    have Q : Hid (TotTo [] w (.returned (.tuple #[.int .i64 0, .int .i64 0])) w) := tot_in rfl (Below.refl _ _)
    go_enter Try.func16, Try.ntmps16
    go_wp2_with fail
    go_loop [4, 11] (fun t i => t = .int .i64 0 ∧ i = .int .i64 0) (fun _ _ => 0)
    case atStart => exact ⟨rfl, rfl⟩
    case round =>
      obtain ⟨rfl, rfl⟩ := hrel
      go_wp2
      go_ret2
      exact Q.out
  obtain ⟨ad, rfl, hB, hc⟩ := R.at_ (by omega)
  replace hc := Lib.hid hc
  have hin := Lib.hid R.in_
  replace h0 := Lib.hid h0
  clear R
  go_enter Try.func16, Try.ntmps16
  go_wp2_with fail
  go_loopw [4, 11] (fun t i wr => TotAt w zs t i wr) (fun _ i _ => n - (intOf i).toNat)
  case atStart => exact st.out
  case round =>
    obtain ⟨k, s, rfl, hk, rfl, hs, hb⟩ := hrel
    have hkn : k ≤ n := by have := hl.out; omega
    clear hk
    replace hs := Lib.hid hs
    replace hb := Lib.hid hb
    by_cases hlt : k < n
    · obtain ⟨z, hz⟩ : ∃ z, zs[k]? = some z := ⟨_, List.getElem?_eq_getElem (by have := hl.out; omega)⟩
      have q0 : wr.cell? (ad.add k) = some (.int .i64 z) := by
        rw [← hc.out k z hz]; exact World.cell?_of_block (by rw [adr_block]; exact hb.out.block _ hB)
      have zI := hin.out z (List.mem_of_getElem? hz)
      have C := Lib.hid (add_any s z (totO_I hs.out) zI wr)
      replace hz := Lib.hid hz
      clear zI
      go_wp2_with fail
      refine C.out.mono ?_
      rintro e w2 ⟨rfl, hb2⟩
      have be2 : Hid (Below w.heap.size w w2) := hb.out.trans (hb2.mono hb.out.size)
      clear hb2 C
      by_cases hI : I (s + z)
      · rw [okv_in hI, oke_in hI]
        have nx : Hid (TotAt w zs (.int .i64 (s + z)) (.int .i64 ((k : Int) + 1)) w2) := ⟨k + 1, s + z, rfl, (List.getElem?_eq_some_iff.1 hz.out).1, rfl, tot_next hz.out hs.out hI, be2.out⟩
        clear hI
        obtain ⟨t, ht⟩ : ∃ t, t = s + z := ⟨_, rfl⟩
        rw [← ht] at nx ⊢
        clear ht
        go_wp2
        go_roundw
        case rel => exact nx.out
        case measure => simp [intOf]; omega
      · rw [okv_out hI, oke_out hI]
        have Q : Hid (TotTo zs w (.returned (.tuple #[.int .i64 0, .int .i64 3])) w2) := tot_out (tot_stop hz.out hs.out hI) be2.out
        clear hI
        go_wp2
        go_ret2
        exact Q.out
    · have Q : Hid (TotTo zs w (.returned (.tuple #[.int .i64 s, .int .i64 0])) wr) := tot_in (by rw [← hs.out, List.take_of_length_le (by have := hl.out; omega)]) hb.out
      go_wp2
      go_ret2
      exact Q.out
set_option maxHeartbeats 1600000 in
theorem rtotal_any (A : Option Addr) (n c : Nat) (zs : List Int) (w : World) (R : Ri w w.heap.size A n zs) (hn : n ≤ 9223372036854775807) :
    Calls Try.prog 17 #[.slice A n c] w (TotTo zs w) := by
  have hl := Lib.hid R.len
  have st : Hid (TotAt w zs (.int .i64 0) (.int .i64 0) w) := ⟨0, 0, rfl, Nat.zero_le _, rfl, rfl, Below.refl _ _⟩
  by_cases h0 : n = 0
  · subst h0
    obtain rfl := List.eq_nil_of_length_eq_zero hl.out
    clear R st
    have Q : Hid (TotTo [] w (.returned (.tuple #[.int .i64 0, .int .i64 0])) w) := tot_in rfl (Below.refl _ _)
    go_enter Try.func17, Try.ntmps17
    go_wp2_with fail
    go_loop [4, 5] (fun t i => t = .int .i64 0 ∧ i = .int .i64 0) (fun _ _ => 0)
    case atStart => exact ⟨rfl, rfl⟩
    case round =>
      obtain ⟨rfl, rfl⟩ := hrel
      go_wp2
      go_ret2
      exact Q.out
  obtain ⟨ad, rfl, hB, hc⟩ := R.at_ (by omega)
  replace hc := Lib.hid hc
  have hin := Lib.hid R.in_
  replace h0 := Lib.hid h0
  clear R
  go_enter Try.func17, Try.ntmps17
  go_wp2_with fail
  go_loopw [4, 5] (fun t i wr => TotAt w zs t i wr) (fun _ i _ => n - (intOf i).toNat)
  case atStart => exact st.out
  case round =>
    obtain ⟨k, s, rfl, hk, rfl, hs, hb⟩ := hrel
    have hkn : k ≤ n := by have := hl.out; omega
    clear hk
    replace hs := Lib.hid hs
    replace hb := Lib.hid hb
    by_cases hlt : k < n
    · obtain ⟨z, hz⟩ : ∃ z, zs[k]? = some z := ⟨_, List.getElem?_eq_getElem (by have := hl.out; omega)⟩
      have q0 : wr.cell? (ad.add k) = some (.int .i64 z) := by
        rw [← hc.out k z hz]; exact World.cell?_of_block (by rw [adr_block]; exact hb.out.block _ hB)
      have zI := hin.out z (List.mem_of_getElem? hz)
      have C := Lib.hid (radd_any s z (totO_I hs.out) zI wr)
      replace hz := Lib.hid hz
      clear zI
      go_wp2_with fail
      refine C.out.mono ?_
      rintro e wr ⟨rfl, rfl⟩
      have be2 : Hid (Below w.heap.size w wr) := hb.out
      clear C
      by_cases hI : I (s + z)
      · rw [okv_in hI, oke_in hI]
        have nx : Hid (TotAt w zs (.int .i64 (s + z)) (.int .i64 ((k : Int) + 1)) wr) := ⟨k + 1, s + z, rfl, (List.getElem?_eq_some_iff.1 hz.out).1, rfl, tot_next hz.out hs.out hI, be2.out⟩
        clear hI
        obtain ⟨t, ht⟩ : ∃ t, t = s + z := ⟨_, rfl⟩
        rw [← ht] at nx ⊢
        clear ht
        go_wp2
        go_roundw
        case rel => exact nx.out
        case measure => simp [intOf]; omega
      · rw [okv_out hI, oke_out hI]
        have Q : Hid (TotTo zs w (.returned (.tuple #[.int .i64 0, .int .i64 3])) wr) := tot_out (tot_stop hz.out hs.out hI) be2.out
        clear hI
        go_wp2
        go_ret2
        exact Q.out
    · have Q : Hid (TotTo zs w (.returned (.tuple #[.int .i64 s, .int .i64 0])) wr) := tot_in (by rw [← hs.out, List.take_of_length_le (by have := hl.out; omega)]) hb.out
      go_wp2
      go_ret2
      exact Q.out
end Cs
end Go.Proofs.Ytddlcfefeclioaa
